/-
  The contract of disk's Flush. Conditions: each law's own.
-/
import Derived.Test.YtohmdcbfffgheaaWj
import Derived.Maps.RangeWalk
namespace Go.Proofs.Ytohmdcbfffgheaa.Dk
open Go.RowKit Go.Lib Go.Maps
variable {w : World} {g sa mb : Nat} {S : List (List UInt8)} {low : Int} {k : Nat} {D : DataW Unit} {pw : Bool} {left wr : Int}
set_option maxHeartbeats 4000000 in
set_option maxRecDepth 100000 in
theorem settle_rng (h : DevS w g sa mb S low k D pw left wr) {r cnt : Nat} {lf : Lit → Bool} (hrg : w.ranges Try.prog 3 secR mb r k D lf cnt) (hrs : r ≠ sa) (i : Nat) (hi : i < S.length) (hn : S.length ≤ 4096) (l : List UInt8) (hl : l.length = 256) (hh : Maps.has D (.int .i64 (i : Int)) = true) (ha : D.atKey (.int .i64 (i : Int)) (.lit (.string zeros)) = .lit (.string l)) :
    Calls Try.prog 43 #[.pointer (some ⟨g, 0, none⟩), .int .i64 (i : Int)] w fun e w' => e = .returned (.tuple #[]) ∧ Fr w w' [sa, mb] ∧ DevS w' g sa mb (S.set i l) low k (D.del (.int .i64 (i : Int))) pw left wr ∧ ∃ cnt', w'.ranges Try.prog 3 secR mb r k (D.del (.int .i64 (i : Int))) (fun z => lf z && !z.sameKey (.int .i64 (i : Int))) cnt' ∧ cnt' ≤ cnt := by
  obtain ⟨c0, _, c2, _, _, _⟩ := h.dv.cells
  have HM := Lib.hid h.map
  have HKY := Lib.hid (keyI (i : Int) (by omega) (by omega))
  have HA := Lib.hid ha
  have HH := Lib.hid h
  have HLL := Lib.hid hl
  have HII := Lib.hid hi
  have K1 := Lib.hid (secV_one l)
  have HIS : Hid ((Try.prog.info? 66).map (·.size) = some (bs l).toArray.size) := by show _ = _; rw [info66, List.size_toArray, bs_len, hl]
  have HIL : (Try.prog.info? 66).map (·.size) = some (bs l).length := by rw [info66, bs_len, hl]
  have HU := Try.underlying66
  have HO : Hid ((Array.replicate 256 (Value.int .u8 0)).size = (bs l).toArray.size) := by show _ = _; rw [Array.size_replicate, List.size_toArray, bs_len, hl]
  have q1 : (0 : Int) ≤ (i : Int) := by omega
  have q2 : (i : Int) < (S.length : Int) := by omega
  have B1 : Below w.heap.size w (w.alloc (.cells (bs l).toArray 66)) := (Below.refl w.heap.size w).alloc (Nat.le_refl _) _
  have c0' : (w.alloc (.cells (bs l).toArray 66)).cell? ⟨g, 0, none⟩ = some (.slice (some ⟨sa, 0, none⟩) S.length S.length) := (B1.cell (p := ⟨g, 0, none⟩) (Blk.lt h.dv)).trans c0
  have c2' : (w.alloc (.cells (bs l).toArray 66)).cell? ⟨g, 2, none⟩ = some (.map (some mb)) := (B1.cell (p := ⟨g, 2, none⟩) (Blk.lt h.dv)).trans c2
  have HF0 := Lib.hid (fr_below B1 [sa, mb])
  have HRG := Lib.hid (hrg.alloc (.cells (bs l).toArray 66))
  clear hrg
  have NB := Lib.hid (Blk.new w (bs l) 66 w.heap.size rfl)
  have HD2 := Lib.hid (h.kept (fr_below B1 []) (by simp) (by simp) (by simp))
  have hsz := Lib.hid (show sa ≠ w.heap.size from Nat.ne_of_lt h.sec.lt)
  clear h hi hl ha B1
  go_enter Try.func43, Try.ntmps43
  go_wp2_with (first
    | (at_lookup; refine wpList_lookup_own_ok _ rfl _ _ 59 rfl 3 66 lawI Try.underlying59 secR (zero66 _) (.lit (.string zeros)) [] (secR_of zeros) mb k D rfl HM.out _ _ rfl HKY.out ?_; intro v ps hv; rw [HA.out] at hv; obtain ⟨rfl, _⟩ := secR_inv hv; rw [hh]; clear hv)
    | ((with_reducible refine wpList_store_row rfl 66 (.tmp 4) (.tmp 13) rfl w.heap.size (bs l).toArray rfl rfl 66 _ (heap_alloc_new w _) HIS.out ?ho K1.out ?_); (case ho => exact HO.out); rw [World.setRow_alloc_new]))
  clear c0 c2 HM
  generalize w.alloc (.cells (bs l).toArray 66) = W at *
  generalize w.heap.size = nb at *
  have hr1 : W.rangeAt nb 0 (bs l) := fun j v hj => by rw [NB.out.cell, Nat.zero_add]; exact hj
  have HR1 := Lib.hid hr1
  have HC0 := Lib.hid c0'
  have HC2 := Lib.hid c2'
  have hgs : g ≠ sa := fun e => HD2.out.apart.2.1 e.symm
  have ht1 : W.there sa (i * 256) (bs l).toArray.size := fun j hj => by
    have hj2 : j < 256 := by rw [List.size_toArray, bs_len, HLL.out] at hj; exact hj
    refine ⟨?_, HD2.out.sec.frozen _⟩
    rw [HD2.out.sec.cell, List.getElem?_eq_getElem (by rw [flat_len _ HD2.out.len]; have := HII.out; omega)]
    rfl
  have hst : (Instr.storeAt 66 (.pointer (some ⟨sa, i * 256, none⟩)) (.agg (bs l).toArray)).run Try.prog W.drew = .ok () (W.drew.setCells sa (i * 256) (bs l)) := run_storeAt_mid W.drew sa (i * 256) 66 _ ht1 HIS.out K1.out
  have HD3 : Hid (DevS (W.drew.setCells sa (i * 256) (bs l)) g sa mb (S.set i l) low k D pw left wr) := by
    have hf : Fr W.drew (W.drew.setCells sa (i * 256) (bs l)) [sa] := fr_grown (gb_sets sa (bs l) (i * 256) W.drew) (by simp)
    have hd := HD2.out
    refine ⟨?_, ?_, set_len hd.len HLL.out, ?_⟩
    · rw [List.length_set]
      exact Fr.blk (w := W.drew) hf hd.dv (by simpa using hgs)
    · have h2 := Blk.sets (bs l) (S.flatMap bs) (i * 256) W.drew hd.sec
      rw [flat_set hd.len HII.out HLL.out] at h2
      exact h2
    · exact hd.map.drew.kept (gb_sets sa (bs l) (i * 256) W.drew) (fun e => by injection e with e; exact hd.apart.2.2 e.symm)
  have hone : ∀ v, v ∈ bs l → v.oneCell' = true := bs_one l
  have hth2 : W.drew.there sa (i * 256) (bs l).length := by rw [List.size_toArray] at ht1; exact ht1
  clear ht1
  go_region_held3 (fun w' => w'.cell? ⟨g, 0, none⟩ = some (.slice (some ⟨sa, 0, none⟩) S.length S.length) ∧ w'.rangeAt nb 0 (bs l))
    (first | go_keep | exact ⟨HC0.out, HR1.out⟩ | exact ⟨(HD3.out.dv.cells.1).trans (by rw [List.length_set]), Go.World.rangeAt_setCells_apart (w := W.drew) HR1.out sa (i * 256) (bs l) (.inl (fun e => hsz.out e.symm))⟩)
    (fail)
  have HG2 := Lib.hid (gb_sets sa (bs l) (i * 256) W.drew)
  have HR0 : W.drew.ranges Try.prog 3 secR mb r k D lf cnt := HRG.out
  have HR3 := Lib.hid (HR0.kept HG2.out (fun e => by injection e with e; exact HD2.out.apart.2.2 e.symm) (fun e => by injection e with e; exact hrs e))
  clear HR0 HRG
  clear hth2 hst hone hr1
  clear c0' c2'
  generalize W.drew.setCells sa (i * 256) (bs l) = W2 at *
  obtain ⟨_, _, d2, _, _, _⟩ := HD3.out.dv.cells
  go_wp2_with (at_delete; refine wpList_delete_ranges _ rfl _ _ 59 3 rfl 66 lawI Try.underlying59 secR mb r k D lf cnt rfl HR3.out _ _ rfl HKY.out ?_; intro w4 cnt4 hown hle hmt)
  go_end0
  have hg4 := hmt.grown
  have hd := HD3.out
  have ap := hd.apart
  refine ⟨rfl, (HF0.out.trans (b := W) ⟨HG2.out.os, HG2.out.tape, HG2.out.output, HG2.out.size, fun n hn hne => HG2.out.block n hn (fun e => by injection e with e; exact hne (by simp [e]))⟩).trans (fr_grown hg4 (by simp)), ⟨?_, ?_, hd.len, hown.owns⟩, cnt4, hown, hle⟩
  · exact blk_row hd.dv hg4 (fun e => by injection e with e; exact ap.1 e)
  · exact blk_row hd.sec hg4 (fun e => by injection e with e; exact ap.2.2 e)
end Go.Proofs.Ytohmdcbfffgheaa.Dk
