/-
  The contract of slices' swapRange at entries: two parts of a row, exchanged. Conditions: each law's own.
-/
import Derived.Test.YtpcmminokhmkjaaDoorSa
import Derived.Sort.WalkB2
import Derived.Sort.WalkB12
import Derived.Deep.LoopGhost
namespace Go.Proofs.YtpcmminokhmkjaaDoor.St
open Go.Shelf Go.RowKit Go.Lib Go.Sort
abbrev SW (w0 : World) (blk off : Nat) (dk : Array TE) (W : World) : Prop := SWK encT 5 w0 blk off dk W
abbrev RW (w0 : World) (blk off : Nat) (d0 : Array TE) : Prop := RowK encT 5 w0 blk off d0
/-- what an exchange of two parts leaves -/
def swpF (d : Array TE) (a b n k : Nat) : TE := if a ≤ k ∧ k < a + n then d[k + (b - a)]! else if b ≤ k ∧ k < b + n then d[k - (b - a)]! else d[k]!
theorem swpF_next {d dk : Array TE} {a b x : Nat} (hab : a + x + 1 ≤ b) (hb : b + x + 1 ≤ dk.size) (h : ∀ k, dk[k]! = swpF d a b x k) : ∀ k, (swp dk (a + x) (b + x))[k]! = swpF d a b (x + 1) k := by
  intro k
  rw [swp_get dk (by omega) (by omega)]
  unfold swpF at h ⊢
  by_cases c1 : k = b + x
  · subst c1
    rw [if_pos rfl, h, if_neg (by omega), if_neg (by omega), if_neg (by omega), if_pos (by omega)]
    congr 1
    omega
  · rw [if_neg c1]
    by_cases c2 : k = a + x
    · subst c2
      rw [if_pos rfl, h, if_neg (by omega), if_neg (by omega), if_pos (by omega)]
      congr 1
      omega
    · rw [if_neg c2, h]
      by_cases c3 : a ≤ k ∧ k < a + x
      · rw [if_pos c3, if_pos (by omega)]
      · by_cases c4 : b ≤ k ∧ k < b + x
        · rw [if_neg c3, if_pos c4, if_neg (by omega), if_pos (by omega)]
        · rw [if_neg c3, if_neg c4, if_neg (by omega), if_neg (by omega)]
set_option maxHeartbeats 4000000 in
set_option maxRecDepth 1000000 in
theorem swapRange_k (k : Nat) (zE : ∀ w, (Go.sizeOf 31).run Tryd.prog w = .ok k w) (g : Nat) (cb : Array Value) (blk off cap a b n : Nat) (d0 d : Array TE) (w0 w : World) (R : RowK encT k w0 blk off d0) (hs : d0.size = d.size) (S : SWK encT k w0 blk off d w) (hab : a + n ≤ b) (hb : b + n ≤ d.size) (hsz : d.size < 4611686018427387904) :
    Calls Tryd.prog 65 #[.slice (some ⟨blk, off, none⟩) d.size cap, .int .i64 a, .int .i64 b, .int .i64 n, .func (.func g) #[] cb] w fun e w' => e = .returned (.tuple #[]) ∧ ∃ d', SWK encT k w0 blk off d' w' ∧ PermIn a (b + n) d d' ∧ ∀ i, d'[i]! = swpF d a b n i := by
  have S0 : Aside (SWK encT k w0 blk off d w) := S
  clear S
  have mixed : Tryd.prog.follows Departure.mixedOrders = true := by kernel_rfl
  go_enter Tryd.func65, Tryd.ntmps65
  go_wp2
  go_loopg [10] n (fun kx s10 wr => ∃ (x : Nat) (dk : Array TE), s10 = .int .i64 x ∧ x ≤ n ∧ n - x ≤ kx ∧ dk.size = d.size ∧ Aside (SWK encT k w0 blk off dk wr) ∧ Aside (PermIn a (b + n) d dk) ∧ Aside (∀ i, dk[i]! = swpF d a b x i))
  case atStart => exact ⟨0, d, rfl, by omega, by omega, rfl, S0, permIn_refl _ _ _, fun k => by unfold swpF; rw [if_neg (by omega), if_neg (by omega)]⟩
  case round =>
    clear S0
    obtain ⟨x, dk, rfl, hx, hkx, hds, S1, P1, V1⟩ := hrel
    by_cases hlt : x < n
    · have hltz : (x : Int) < (n : Int) := by omega
      go_wp2_with fail
      have ea44 : ((a : Int) + (x : Int)).toNat = a + x := by omega
      have pa44 : (0 : Int) ≤ (a : Int) + (x : Int) := by omega
      have ba44 : (a : Int) + (x : Int) < (d.size : Int) := by omega
      have ra44 : IntKind.i64.wrap ((a : Int) + (x : Int)) = (a : Int) + (x : Int) := by rw [IntKind.wrap_i64]; omega
      have ec44 : ((b : Int) + (x : Int)).toNat = b + x := by omega
      have pc44 : (0 : Int) ≤ (b : Int) + (x : Int) := by omega
      have bc44 : (b : Int) + (x : Int) < (d.size : Int) := by omega
      have rc44 : IntKind.i64.wrap ((b : Int) + (x : Int)) = (b : Int) + (x : Int) := by rw [IntKind.wrap_i64]; omega
      have S2 : Aside (SWK encT k w0 blk off (swp dk (a + x) (b + x)) ((wr.drew.setCells blk (off + (a + x) * k) (encT dk[b + x]!)).setCells blk (off + (b + x) * k) (encT dk[a + x]!))) := S1.out.swapped R (a + x) (b + x) (by omega) (by omega)
      have l44a := S1.out.ld1 R (by omega) Tryd.prog (a + x) (by omega)
      have l44b := S1.out.ld1 R (by omega) Tryd.prog (b + x) (by omega)
      have s44a := S1.out.st1 R (by omega) Tryd.prog (a + x) (by omega) dk[b + x]!
      have s44b := S1.out.st2 R (by omega) Tryd.prog (a + x) (b + x) (by omega) (by omega) dk[b + x]! dk[a + x]!
      have n44a : (encT dk[a + x]!).length = k := R.hk _
      have n44b : (encT dk[b + x]!).length = k := R.hk _
      have P2 : Aside (PermIn a (b + n) d (swp dk (a + x) (b + x))) := permIn_trans _ _ _ _ _ P1.out (swp_permIn dk a (b + n) (a + x) (b + x) (by omega) (by omega) (by omega) (by omega) (by omega))
      have V2 : Aside (∀ i, (swp dk (a + x) (b + x))[i]! = swpF d a b (x + 1) i) := swpF_next (by omega) (by omega) V1.out
      generalize encT dk[a + x]! = cI44 at S2 l44a s44b n44a
      generalize encT dk[b + x]! = cJ44 at S2 l44b s44a s44b n44b
      clear S1 P1 V1
      go_wp2_with fail
      go_big_region_o
      clear l44a l44b s44a s44b
      generalize (wr.drew.setCells blk (off + (a + x) * k) cJ44).setCells blk (off + (b + x) * k) cI44 = w2 at S2 ⊢
      go_wp2
      go_roundg (n - (x + 1))
      case measure => omega
      case rel => exact ⟨x + 1, swp dk (a + x) (b + x), by go_num, by omega, Nat.le_refl _, by rw [size_swp]; exact hds, S2, P2, V2⟩
    · obtain rfl : x = n := by omega
      go_wp2
      go_end0
      exact ⟨rfl, dk, S1.out, P1.out, V1.out⟩
theorem swapRange_any (g : Nat) (cb : Array Value) (blk off cap a b n : Nat) (d0 d : Array TE) (w0 w : World) (R : RW w0 blk off d0) (hs : d0.size = d.size) (S : SW w0 blk off d w) (hab : a + n ≤ b) (hb : b + n ≤ d.size) (hsz : d.size < 4611686018427387904) :
    Calls Tryd.prog 65 #[.slice (some ⟨blk, off, none⟩) d.size cap, .int .i64 a, .int .i64 b, .int .i64 n, .func (.func g) #[] cb] w fun e w' => e = .returned (.tuple #[]) ∧ ∃ d', SW w0 blk off d' w' ∧ PermIn a (b + n) d d' ∧ ∀ i, d'[i]! = swpF d a b n i :=
  swapRange_k 5 Tryd.sizeOf31 g cb blk off cap a b n d0 d w0 w R hs S hab hb hsz
end Go.Proofs.YtpcmminokhmkjaaDoor.St
