/-
  The contract of disk's Crash. Conditions: each law's own.
-/
import Derived.Test.YtohmdcbfffgheaaWg
namespace Go.Proofs.Ytohmdcbfffgheaa.Dk
open Go.RowKit Go.Lib Go.Maps
/-- sectors and cache once these sectors are settled -/
def settled (S : List (List UInt8)) (D : DataW Unit) (ks : List Int) : List (List UInt8) × DataW Unit := ks.foldl (fun p i => (settleS p.2 p.1 i, settleD p.2 i)) (S, D)
theorem settled_len : ∀ (ks : List Int) (S : List (List UInt8)) (D : DataW Unit), (settled S D ks).1.length = S.length
  | [], _, _ => rfl
  | i :: ks, S, D => (settled_len ks (settleS D S i) (settleD D i)).trans (settleS_len D S i)
theorem settled_in : ∀ (ks : List Int) (S : List (List UInt8)) (D : DataW Unit) {n : Nat} (_ : InD D n), InD (settled S D ks).2 n
  | [], _, _, _, h => h
  | i :: ks, S, D, _, h => settled_in ks (settleS D S i) (settleD D i) (h.settle i)
theorem settled_take (S : List (List UInt8)) (D : DataW Unit) (ks : List Int) (j : Nat) (hj : j < ks.length) :
    settled S D (ks.take (j + 1)) = (settleS (settled S D (ks.take j)).2 (settled S D (ks.take j)).1 ks[j], settleD (settled S D (ks.take j)).2 ks[j]) := by
  rw [List.take_succ_eq_append_getElem hj]
  unfold settled
  rw [List.foldl_append]
  rfl
theorem Fr.cell {w w' : World} {N : List Nat} (h : Fr w w' N) {a : Addr} (hp : a.block < w.heap.size) (hn : a.block ∉ N) : w'.cell? a = w.cell? a := by
  simp only [World.cell?]
  rw [h.block a.block hp hn]
/-- a row of ints, away from a device -/
def Keep (w : World) (ao : Option Addr) (N : List Nat) (ks : List Int) : Prop := ks ≠ [] → ∃ b o, ao = some ⟨b, o, none⟩ ∧ b < w.heap.size ∧ b ∉ N ∧ ∀ j (hj : j < ks.length), w.cell? ⟨b, o + j, none⟩ = some (.int .i64 ks[j])
variable {w : World} {g sa mb : Nat} {S : List (List UInt8)} {low : Int} {k : Nat} {D : DataW Unit} {pw : Bool} {left nw : Int}
set_option maxRecDepth 100000 in
theorem crash_nil (ao : Option Addr) (n c : Nat) (w : World) : Calls Try.prog 24 #[.pointer none, .slice ao n c] w fun e w' => e = .returned (.tuple #[]) ∧ w' = w := by
  go_enter Try.func24, Try.ntmps24
  go_wp2_with fail
  refine (made_nil w).mono ?_
  rintro e w1 ⟨rfl, rfl⟩
  go_wp2_with fail
  exact bodyPost_ret (results_none rfl _ _ _) rfl ⟨rfl, rfl⟩
set_option maxHeartbeats 4000000 in
set_option maxRecDepth 100000 in
theorem crash_any (h : DevS w g sa mb S low k D pw left nw) (hI : InD D S.length) (h0 : S.length ≠ 0) (hn : S.length ≤ 4096) (ao : Option Addr) (ks : List Int) (c : Nat) (hk : Keep w ao [sa, mb] ks) (hr : ∀ x ∈ ks, -9223372036854775808 ≤ x ∧ x ≤ 9223372036854775807) (hm : ks.length ≤ 1000000) :
    Calls Try.prog 24 #[.pointer (some ⟨g, 0, none⟩), .slice ao ks.length c] w fun e w' => e = .returned (.tuple #[]) ∧ Fr w w' [g, sa, mb] ∧ DevS w' g sa mb (settled S D ks).1 low 0 (.map []) false (-1) nw := by
  have HM := Lib.hid (made_any h.dv)
  have t1 : decide (0 < S.length) = true := by simp; omega
  rw [t1] at HM
  have HH := Lib.hid h
  have HI := Lib.hid hI
  have HK := Lib.hid hk
  have HR := Lib.hid hr
  have HN := Lib.hid hn
  have F0 := Lib.hid (Fr.refl w [sa, mb])
  clear h hI hk hr hn h0 t1
  go_enter Try.func24, Try.ntmps24
  go_wp2_with fail
  refine HM.out.mono ?_
  rintro e w1 ⟨rfl, rfl⟩
  clear HM
  go_wp2_with fail
  go_loopw [11] (fun vi wr => ∃ j : Nat, j ≤ ks.length ∧ vi = .int .i64 (j : Nat) ∧ Hid (Fr w1 wr [sa, mb]) ∧ Hid (DevS wr g sa mb (settled S D (ks.take j)).1 low k (settled S D (ks.take j)).2 pw left nw)) (fun vi _ => ks.length - (RowKit.intOf vi).toNat)
  case atStart => exact ⟨0, by omega, rfl, F0, HH⟩
  case round =>
    obtain ⟨j, hj, rfl, hF, hD⟩ := hrel
    by_cases hjn : j < ks.length
    · obtain ⟨kb, ko, rfl, hkb, hkn, hc⟩ := HK.out (by intro h0; rw [h0] at hjn; simp at hjn)
      have c1 : wr.cell? ⟨kb, ko + j, none⟩ = some (.int .i64 ks[j]) := (hF.out.cell hkb hkn).trans (hc j hjn)
      have hx := HR.out ks[j] (List.getElem_mem hjn)
      have C1 := Lib.hid (settle_any hD.out (by rw [settled_len]; exact settled_in _ _ _ HI.out) (by rw [settled_len]; exact HN.out) ks[j] hx.1 hx.2)
      have hst := Lib.hid (settled_take S D ks j hjn)
      generalize ks[j] = x at *
      have q1 : (0 : Int) ≤ (j : Int) := by omega
      clear hc hkb hkn hx
      go_wp2_with fail
      refine C1.out.mono ?_
      rintro e w2 ⟨rfl, hf2, hd2⟩
      have HF2 := Lib.hid (hF.out.trans hf2)
      have HD2 : Hid (DevS w2 g sa mb (settled S D (ks.take (j + 1))).1 low k (settled S D (ks.take (j + 1))).2 pw left nw) := by rw [hst.out]; exact hd2
      clear hf2 hd2
      go_wp2_with fail
      go_roundw
      case rel => exact ⟨j + 1, by omega, by go_num, HF2, HD2⟩
      case measure => simp [RowKit.intOf]; omega
    · obtain rfl : j = ks.length := by omega
      rw [List.take_length] at hD
      obtain ⟨_, _, c2, _, _, _⟩ := hD.out.dv.cells
      have HD := Lib.hid hD.out.dv
      have HS := Lib.hid hD.out.sec
      have HL := Lib.hid hD.out.len
      have HMA := Lib.hid hD.out.map
      have AP := Lib.hid hD.out.apart
      go_wp2_with (refine wpList_clear_own _ rfl _ 59 rfl 66 Try.underlying59 secR mb k (settled S D ks).2 rfl HMA.out ?_; intro w4 hown hmt; have hd4 := blk_row HD.out hmt.grown (fun e => by injection e with e; exact AP.out.1 e); have c3 := Blk.cell hd4 3; have c4 := Blk.cell hd4 4; have f3 := Blk.frozen hd4 3; have f4 := Blk.frozen hd4 4; have HD4 := Lib.hid hd4; have HW4 := Lib.hid hown; have HT4 := Lib.hid hmt; clear hd4 hown hmt)
      go_end0
      have hmt := HT4.out.grown
      have gg := gb_trans (gb_set w4 g 3 (.bool false)) (gb_set (w4.setCell ⟨g, 3, none⟩ (.bool false)) g 4 (.int .i64 (-1)))
      have hfr : Fr w1 wr [g, sa, mb] := ⟨hF.out.os, hF.out.tape, hF.out.output, hF.out.size, fun i hi hne => hF.out.block i hi (fun e => hne (by simp at e ⊢; exact .inr e))⟩
      refine ⟨rfl, (hfr.trans (fr_grown hmt (by simp))).trans (fr_grown gg (by simp)), dv_two HD4.out false (-1), ?_, HL.out, HW4.out.kept gg (fun e => by injection e with e; exact AP.out.1 e.symm)⟩
      have h1 := blk_row HS.out hmt (fun e => by injection e with e; exact AP.out.2.2 e)
      exact blk_row h1 gg (fun e => by injection e with e; exact AP.out.2.1 e)
end Go.Proofs.Ytohmdcbfffgheaa.Dk
