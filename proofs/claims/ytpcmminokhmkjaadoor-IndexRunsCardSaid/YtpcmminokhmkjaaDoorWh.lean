/-
  A digest on its way, as memory holds it; the contracts of sha's and the document's Check and New, and of both Sames. Condition: the tables of sha stand in memory.
-/
import Derived.Test.YtpcmminokhmkjaaDoorWf
import Derived.Test.YtpcmminokhmkjaaDoorWa
namespace Go.Proofs.YtpcmminokhmkjaaDoor.Sh
open Go.RowKit Go.Lib

/-- the value v reads as the digest s -/
structure ShaV (w : World) (v : Value) (s : Sha) (ha : Option Addr) (hc : Nat) (ba : Option Addr) (bc : Nat) : Prop where
  val : v = .agg #[.slice ha s.H.length hc, .slice ba s.B.length bc, .int .u64 (s.N : Int)]
  wrd : Wrd w ha s.H
  hnil : ha = none → hc = 0
  hcap : s.H.length ≤ hc
  hmax : hc ≤ 9223372036854775807
  byt : Byt w ba s.B
  bnil : ba = none → bc = 0
  bcap : s.B.length ≤ bc
  bmax : bc ≤ 9223372036854775807
  num : s.N < 18446744073709551616
theorem ShaV.below {w w' : World} {v : Value} {s : Sha} {ha : Option Addr} {hc : Nat} {ba : Option Addr} {bc : Nat} (h : ShaV w v s ha hc ba bc) (hb : Below w.heap.size w w') : ShaV w' v s ha hc ba bc :=
  { h with wrd := h.wrd.below hb, byt := h.byt.below hb }

theorem u64_wrap (x : Int) : IntKind.u64.wrap x = x % 18446744073709551616 := by simp [IntKind.wrap, IntKind.bits, IntKind.signed]
set_option maxHeartbeats 1000000 in
set_option maxRecDepth 100000 in
theorem refcheck_num (n m N hc bc : Nat) (ha ba : Option Addr) (w : World) (hm : m ≤ 9223372036854775807) (hN : N < 18446744073709551616) :
    Calls Tryd.prog 55 #[.agg #[.slice ha n hc, .slice ba m bc, .int .u64 (N : Int)]] w fun e w' => e = .returned (.bool (decide (n = 8) && decide (m = N % 64))) ∧ Below w.heap.size w w' := by
  have e1 : IntKind.u64.wrap (m : Int) = (m : Int) := by rw [u64_wrap]; omega
  have hb : Hid (∀ o, Below w.heap.size w (w.alloc o)) := fun o => (Below.refl _ w).alloc (Nat.le_refl _) o
  by_cases h1 : n = 8
  · have d1 : ((n : Int) == 8) = true := by simp; omega
    have d0 : Hid (decide (n = 8) = true) := by show _ = _; simp [h1]
    rw [d0.out]
    by_cases h3 : m < 64
    · by_cases h2 : m = N % 64
      · have d2 : ((m : Int) == (N : Int) % 64) = true := by simp; omega
        have d3 : Hid (decide (m = N % 64) = true) := by show _ = _; simp [h2]
        rw [d3.out]
        have d4 : decide ((m : Int) < 64) = true := by simp; omega
        clear h1 h2 h3
        go_enter Tryd.func55, Tryd.ntmps55
        go_wp2_with fail
        go_ret
        exact ⟨rfl, hb.out _⟩
      · have d2 : ((m : Int) == (N : Int) % 64) = false := by simp; omega
        have d3 : Hid (decide (m = N % 64) = false) := by show _ = _; simp [h2]
        rw [d3.out]
        have d4 : decide ((m : Int) < 64) = true := by simp; omega
        clear h1 h2 h3
        go_enter Tryd.func55, Tryd.ntmps55
        go_wp2_with fail
        go_ret
        exact ⟨rfl, hb.out _⟩
    · have d3 : Hid (decide (m = N % 64) = false) := by show _ = _; simp; omega
      rw [d3.out]
      have d4 : decide ((m : Int) < 64) = false := by simp; omega
      clear h1 h3
      go_enter Tryd.func55, Tryd.ntmps55
      go_wp2_with fail
      go_ret
      exact ⟨rfl, hb.out _⟩
  · have d1 : ((n : Int) == 8) = false := by simp; omega
    have d0 : Hid (decide (n = 8) = false) := by show _ = _; simp [h1]
    rw [d0.out]
    clear h1
    go_enter Tryd.func55, Tryd.ntmps55
    go_wp2_with fail
    go_ret
    exact ⟨rfl, hb.out _⟩
theorem refcheck_any (v : Value) (s : Sha) (ha : Option Addr) (hc : Nat) (ba : Option Addr) (bc : Nat) (w : World) (h : ShaV w v s ha hc ba bc) :
    Calls Tryd.prog 55 #[v] w fun e w' => e = .returned (.bool (chk s)) ∧ Below w.heap.size w w' := by
  rw [h.val]
  exact refcheck_num _ _ _ _ _ _ _ w (Nat.le_trans h.bcap h.bmax) h.num
end Go.Proofs.YtpcmminokhmkjaaDoor.Sh
