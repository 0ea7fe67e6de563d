/-
  The document's own page of layer 9: put: a sector that is written goes into the image. Conditions: each law's own.
-/
import Derived.Test.YtohmdcbfffgheaaXj
import Derived.BigRegion
namespace Go.Proofs.Ytohmdcbfffgheaa.Dk
open Go.RowKit Go.Lib Go.Maps
theorem overl_len : ∀ (vs cs : List Value) (o : Nat), (overl cs o vs).length = cs.length
  | [], _, _ => rfl
  | v :: r, cs, o => by rw [overl, overl_len r]; simp
theorem overl_snoc : ∀ (vs cs : List Value) (o : Nat) (v : Value), overl cs o (vs ++ [v]) = (overl cs o vs).set (o + vs.length) v
  | [], cs, o, v => by simp [overl]
  | x :: r, cs, o, v => by
    rw [List.cons_append, overl, overl, overl_snoc r, List.length_cons]
    congr 1
    omega
theorem take_snoc {l : List UInt8} {j : Nat} (hj : j < l.length) : bs (l.take (j + 1)) = bs (l.take j) ++ [.int .u8 (l[j]).toNat] := by
  rw [List.take_succ_eq_append_getElem hj, bs_app]
  rfl
theorem fr_drew (w : World) (N : List Nat) : Fr w w.drew N := ⟨rfl, rfl, rfl, Nat.le_refl _, fun _ _ _ => rfl⟩
set_option maxHeartbeats 4000000 in
set_option maxRecDepth 100000 in
/-- a sector that is written goes into the image -/
theorem put_has {w : World} {g gi bb rb : Nat} {M cap N : Nat} {low : Int} {dead armed : Bool} {left nw : Int} {cs bl rl : List Value} {b o : Nat} {l : List UInt8} {n c : Nat}
    (h : Rv w g (.slice (some ⟨gi, 0, none⟩) M cap) (.slice (some ⟨bb, 0, none⟩) N N) (.slice (some ⟨rb, 0, none⟩) N N) low dead armed left nw)
    (hi : Blk w gi cs 5) (hb : Blk w bb bl 4) (hr : Blk w rb rl 29) (i : Nat) (hiN : i < N) (hN : N ≤ 4096) (hM : M = 256 * N) (hcs : M ≤ cs.length)
    (hbi : bl[i]? = some (.bool true)) (hri : rl[i]? = some (.slice (some ⟨b, o, none⟩) n c)) (hl : l.length = n) (hn : n ≤ 256) (hbyt : Byt w (some ⟨b, o, none⟩) l)
    (h1 : g ≠ gi) (h2 : bb ≠ gi) (h3 : rb ≠ gi) (h4 : b ≠ gi) :
    Calls Try.prog 44 #[.pointer (some ⟨g, 0, none⟩), .int .i64 (i : Int)] w fun e w' => e = .returned (.tuple #[]) ∧ Fr w w' [gi] ∧ Blk w' gi (overl cs (256 * i) (bs l)) 5 := by
  have HH := Lib.hid h
  have HI := Lib.hid hi
  have HB := Lib.hid hb
  have HR := Lib.hid hr
  have HY := Lib.hid hbyt
  have HL := Lib.hid hl
  have HBI := Lib.hid hbi
  have HRI := Lib.hid hri
  have HCS := Lib.hid hcs
  have K1 := Lib.hid h1
  have K2 := Lib.hid h2
  have K3 := Lib.hid h3
  have K4 := Lib.hid h4
  have u1 : (0 : Int) ≤ (i : Int) := by omega
  have u2 : (i : Int) < (N : Int) := by omega
  have u5 : (i : Int) < 4096 := by omega
  have HM := Lib.hid hM
  clear h hi hb hr hbyt hl hbi hri hcs h1 h2 h3 h4 hM
  go_enter Try.func44, Try.ntmps44
  go_wp2_with fail
  go_loopw [4] (fun vi wr => ∃ j : Nat, j ≤ n ∧ vi = .int .i64 j ∧ Hid (Fr w wr [gi]) ∧ Hid (Blk wr gi (overl cs (256 * i) (bs (l.take j))) 5)) (fun vi _ => n - (RowKit.intOf vi).toNat)
  case atStart => exact ⟨0, by omega, rfl, Fr.refl _ _, HI.out⟩
  case round =>
    obtain ⟨j, hj, rfl, hF, hG⟩ := hrel
    have c0 : wr.cell? ⟨g, 0, none⟩ = some (.slice (some ⟨gi, 0, none⟩) M cap) := Blk.cell (hF.out.blk HH.out (by simpa using K1.out)) 0
    have c2 : wr.cell? ⟨g, 2, none⟩ = some (.slice (some ⟨bb, 0, none⟩) N N) := Blk.cell (hF.out.blk HH.out (by simpa using K1.out)) 2
    have c3 : wr.cell? ⟨g, 3, none⟩ = some (.slice (some ⟨rb, 0, none⟩) N N) := Blk.cell (hF.out.blk HH.out (by simpa using K1.out)) 3
    have d2 : wr.cell? ⟨bb, i, none⟩ = some (.bool true) := (Blk.cell (hF.out.blk HB.out (by simpa using K2.out)) i).trans HBI.out
    have d3 : wr.cell? ⟨rb, i, none⟩ = some (.slice (some ⟨b, o, none⟩) n c) := (Blk.cell (hF.out.blk HR.out (by simpa using K3.out)) i).trans HRI.out
    by_cases hjn : j < n
    · have hjl : j < l.length := by have := HL.out; omega
      have d4 : wr.cell? ⟨b, o + j, none⟩ = some (.int .u8 (l[j]).toNat) := by
        obtain ⟨b2, o2, e1, e2, e3⟩ := HY.out (fun h0 => by rw [h0] at hjl; simp at hjl)
        injection e1 with e1
        injection e1 with e4 e5
        subst e4 e5
        exact (hF.out.cell (a := ⟨b, o + j, none⟩) e2 (by simpa using K4.out)).trans (e3 j hjl)
      obtain ⟨A, hA⟩ : ∃ A : Nat, A = 256 * i + j := ⟨_, rfl⟩
      have hAM : A < M := by have := HM.out; omega
      have hlen : (overl cs (256 * i) (bs (l.take j))).length = cs.length := overl_len _ _ _
      obtain ⟨old, hold⟩ : ∃ v, wr.cell? ⟨gi, A, none⟩ = some v := ⟨_, (Blk.cell hG.out A).trans (List.getElem?_eq_getElem (by rw [hlen]; have := HCS.out; omega))⟩
      have hfr := Blk.frozen hG.out A
      have q1 : (0 : Int) ≤ (j : Int) := by omega
      have q2 : (j : Int) < (n : Int) := by omega
      have m1 : IntKind.i64.wrap ((i : Int) * 256) = (i : Int) * 256 := IntWalk.i64_in _ (by omega)
      have m2 : IntKind.i64.wrap ((i : Int) * 256 + (j : Int)) = (A : Int) := by rw [IntWalk.i64_in _ (by omega)]; omega
      have q3 : (0 : Int) ≤ (A : Int) := by omega
      have q4 : (A : Int) < (M : Int) := by omega
      have G2 : Hid (Blk ((wr.setCell ⟨gi, A, none⟩ (.int .u8 (l[j]).toNat)).drew) gi (overl cs (256 * i) (bs (l.take (j + 1)))) 5) := by
        show Blk _ _ _ _
        rw [take_snoc hjl, overl_snoc, bs_len, List.length_take, Nat.min_eq_left (by omega), ← hA]
        exact (hG.out.set A _).drew
      have F2 : Hid (Fr w ((wr.setCell ⟨gi, A, none⟩ (.int .u8 (l[j]).toNat)).drew) [gi]) := hF.out.trans ((fr_grown (gb_set wr gi A _) (by simp)).trans (fr_drew _ [gi]))
      generalize l[j].toNat = x at *
      clear hlen hG hF hA hAM
      go_wp2_with fail
      go_region
      generalize (wr.setCell ⟨gi, A, none⟩ (.int .u8 x)).drew = wd at *
      go_wp2_with fail
      go_roundw
      case rel => exact ⟨j + 1, by omega, by go_num, F2, G2⟩
      case measure => simp [RowKit.intOf]; omega
    · obtain rfl : j = n := by omega
      have hE : Hid (Blk wr gi (overl cs (256 * i) (bs l)) 5) := by
        have := hG.out
        rw [List.take_of_length_le (by rw [HL.out]; exact Nat.le_refl _)] at this
        exact this
      go_wp2_with fail
      go_end0
      exact ⟨rfl, hF.out, hE.out⟩
set_option maxHeartbeats 4000000 in
set_option maxRecDepth 100000 in
/-- a sector that is not written leaves the image -/
theorem put_not {w : World} {g bb rb : Nat} {im : Value} {N : Nat} {low : Int} {dead armed : Bool} {left nw : Int} {bl rl : List Value} {ao : Option Addr} {n c : Nat}
    (h : Rv w g im (.slice (some ⟨bb, 0, none⟩) N N) (.slice (some ⟨rb, 0, none⟩) N N) low dead armed left nw)
    (hb : Blk w bb bl 4) (hr : Blk w rb rl 29) (i : Nat) (hiN : i < N)
    (hbi : bl[i]? = some (.bool false)) (hri : rl[i]? = some (.slice ao n c)) (hn : n ≤ 256) :
    Calls Try.prog 44 #[.pointer (some ⟨g, 0, none⟩), .int .i64 (i : Int)] w fun e w' => e = .returned (.tuple #[]) ∧ w' = w := by
  have c2 : w.cell? ⟨g, 2, none⟩ = some (.slice (some ⟨bb, 0, none⟩) N N) := Blk.cell h 2
  have c3 : w.cell? ⟨g, 3, none⟩ = some (.slice (some ⟨rb, 0, none⟩) N N) := Blk.cell h 3
  have d2 : w.cell? ⟨bb, i, none⟩ = some (.bool false) := (Blk.cell hb i).trans hbi
  have d3 : w.cell? ⟨rb, i, none⟩ = some (.slice ao n c) := (Blk.cell hr i).trans hri
  have u1 : (0 : Int) ≤ (i : Int) := by omega
  have u2 : (i : Int) < (N : Int) := by omega
  clear h hb hr hbi hri
  go_enter Try.func44, Try.ntmps44
  go_wp2_with fail
  go_loopw [4] (fun vi wr => vi = .int .i64 0 ∧ wr = w) (fun _ _ => 0)
  case atStart => exact ⟨rfl, rfl⟩
  case round =>
    obtain ⟨rfl, rfl⟩ := hrel
    by_cases hjn : 0 < n
    · have q2 : (0 : Int) < (n : Int) := by omega
      go_wp2_with fail
      go_end0
      exact ⟨rfl, rfl⟩
    · have q2 : n = 0 := by omega
      subst q2
      go_wp2_with fail
      go_end0
      exact ⟨rfl, rfl⟩
end Go.Proofs.Ytohmdcbfffgheaa.Dk
