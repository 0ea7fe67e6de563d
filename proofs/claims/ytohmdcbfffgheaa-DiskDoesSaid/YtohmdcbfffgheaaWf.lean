/-
  The contract of disk's settle. Conditions: each law's own.
-/
import Derived.Test.YtohmdcbfffgheaaWe
namespace Go.Proofs.Ytohmdcbfffgheaa.Dk
open Go.RowKit Go.Lib Go.Maps
/-- a row of cells with others put over it -/
def overl : List Value → Nat → List Value → List Value
  | cs, _, [] => cs
  | cs, o, v :: r => overl (cs.set o v) (o + 1) r
theorem overl_mid : ∀ (vs p a r : List Value) (_ : a.length = vs.length), overl (p ++ (a ++ r)) p.length vs = p ++ (vs ++ r)
  | [], p, a, r, h => by
    have : a = [] := List.eq_nil_of_length_eq_zero (by simpa using h)
    rw [this]
    rfl
  | v :: vs, p, [], r, h => by simp at h
  | v :: vs, p, x :: a, r, h => by
    have h2 := overl_mid vs (p ++ [v]) a r (by simpa using h)
    have e : (p ++ (x :: a ++ r)).set p.length v = (p ++ [v]) ++ (a ++ r) := by simp
    show overl ((p ++ (x :: a ++ r)).set p.length v) (p.length + 1) vs = _
    rw [e]
    have e2 : (p ++ [v]).length = p.length + 1 := by simp
    rw [e2] at h2
    rw [h2]
    simp
theorem Blk.sets {g : Nat} {t : TypeId} : ∀ (vs cs : List Value) (o : Nat) (w : World), Blk w g cs t → Blk (w.setCells g o vs) g (overl cs o vs) t
  | [], _, _, _, h => h
  | v :: r, cs, o, _, h => Blk.sets r (cs.set o v) (o + 1) _ (h.set o v)
theorem gb_sets (g : Nat) : ∀ (vs : List Value) (o : Nat) (w : World), w.grownBy (w.setCells g o vs) (some g)
  | [], _, _ => ⟨rfl, rfl, rfl, Nat.le_refl _, fun _ _ _ => rfl⟩
  | v :: r, o, w => gb_trans (gb_set w g o v) (gb_sets g r (o + 1) _)
theorem flat_set {S : List (List UInt8)} (h : ∀ s ∈ S, s.length = 256) {i : Nat} (hi : i < S.length) {l : List UInt8} (hl : l.length = 256) : overl (S.flatMap bs) (i * 256) (bs l) = (S.set i l).flatMap bs := by
  have h1 : S = S.take i ++ (S[i] :: S.drop (i + 1)) := by rw [List.getElem_cons_drop, List.take_append_drop]
  have h2 : S.set i l = S.take i ++ (l :: S.drop (i + 1)) := List.set_eq_take_append_cons_drop ▸ by rw [if_pos hi]
  have h3 : ((S.take i).flatMap bs).length = i * 256 := by
    rw [flat_len _ (fun s hs => h s (List.mem_of_mem_take hs)), List.length_take, Nat.min_eq_left (Nat.le_of_lt hi)]
  rw [h2]
  conv => lhs; rw [h1]
  rw [List.flatMap_append, List.flatMap_append, List.flatMap_cons, List.flatMap_cons, ← h3]
  exact overl_mid (bs l) _ (bs S[i]) _ (by rw [bs_len, bs_len, hl, h _ (List.getElem_mem hi)])
theorem set_len {S : List (List UInt8)} (h : ∀ s ∈ S, s.length = 256) {i : Nat} {l : List UInt8} (hl : l.length = 256) : ∀ s ∈ S.set i l, s.length = 256 := fun s hs => by
  rcases List.mem_or_eq_of_mem_set hs with h1 | h1
  · exact h s h1
  · rw [h1, hl]
variable {w : World} {g sa mb : Nat} {S : List (List UInt8)} {low : Int} {k : Nat} {D : DataW Unit} {pw : Bool} {left wr : Int}
theorem DevS.apart (h : DevS w g sa mb S low k D pw left wr) : g ≠ mb ∧ sa ≠ g ∧ sa ≠ mb := by
  have h1 := h.dv
  have h2 := h.sec
  obtain ⟨es, cl, h3, _⟩ := h.map
  unfold Dv Blk at h1
  unfold Blk at h2
  refine ⟨fun e => ?_, fun e => ?_, fun e => ?_⟩
  · subst e
    rw [h1] at h3
    cases h3
  · subst e
    rw [h1] at h2
    injection h2 with h2
    injection h2 with _ h3
    cases h3
  · subst e
    rw [h2] at h3
    cases h3
theorem DevS.kept (h : DevS w g sa mb S low k D pw left wr) {w' : World} {N : List Nat} (hf : Fr w w' N) (h1 : g ∉ N) (h2 : sa ∉ N) (h3 : mb ∉ N) : DevS w' g sa mb S low k D pw left wr :=
  ⟨Fr.blk hf h.dv h1, hf.blk h.sec h2, h.len, by
    obtain ⟨es, cl, hb, F⟩ := h.map
    exact ⟨es, cl, (hf.block mb (Array.getElem?_eq_some_iff.1 hb).1 h3).trans hb, F⟩⟩
set_option maxHeartbeats 4000000 in
set_option maxRecDepth 100000 in
theorem settle_no (h : DevS w g sa mb S low k D pw left wr) (i : Int) (h0 : -9223372036854775808 ≤ i) (h1 : i ≤ 9223372036854775807) (hh : Maps.has D (.int .i64 i) = false) (ha : D.atKey (.int .i64 i) (.lit (.string zeros)) = .lit (.string zeros)) :
    Calls Try.prog 43 #[.pointer (some ⟨g, 0, none⟩), .int .i64 i] w fun e w' => e = .returned (.tuple #[]) ∧ Below w.heap.size w w' := by
  obtain ⟨_, _, c2, _, _, _⟩ := h.dv.cells
  have HM := Lib.hid h.map
  have HKY := Lib.hid (keyI i h0 h1)
  have HA := Lib.hid ha
  have K0 := Lib.hid (secV_one zeros)
  have hz : zeros.length = 256 := by simp [zeros]
  have HIZ : Hid ((Try.prog.info? 66).map (·.size) = some (bs zeros).toArray.size) := by show _ = _; rw [info66, List.size_toArray, bs_len, hz]
  have HO : Hid ((Array.replicate 256 (Value.int .u8 0)).size = (bs zeros).toArray.size) := by show _ = _; rw [Array.size_replicate, List.size_toArray, bs_len, hz]
  clear h hz ha h0 h1
  go_enter Try.func43, Try.ntmps43
  go_wp2_with (first
    | (at_lookup; refine wpList_lookup_own_ok _ rfl _ _ 59 rfl 3 66 lawI Try.underlying59 secR (zero66 _) (.lit (.string zeros)) [] (secR_of zeros) mb k D rfl HM.out _ _ rfl HKY.out ?_; intro v ps hv; rw [HA.out] at hv; obtain ⟨rfl, _⟩ := secR_inv hv; rw [hh]; clear hv)
    | ((with_reducible refine wpList_store_row rfl 66 (.tmp 4) (.tmp 13) rfl w.heap.size (bs zeros).toArray rfl rfl 66 _ (heap_alloc_new w _) HIZ.out ?ho K0.out ?_); (case ho => exact HO.out); rw [World.setRow_alloc_new]))
  go_end0
  exact ⟨rfl, (Below.refl _ w).alloc (Nat.le_refl _) _⟩
set_option maxHeartbeats 4000000 in
set_option maxRecDepth 100000 in
theorem settle_has (h : DevS w g sa mb S low k D pw left wr) (i : Nat) (hi : i < S.length) (hn : S.length ≤ 4096) (l : List UInt8) (hl : l.length = 256) (hh : Maps.has D (.int .i64 (i : Int)) = true) (ha : D.atKey (.int .i64 (i : Int)) (.lit (.string zeros)) = .lit (.string l)) :
    Calls Try.prog 43 #[.pointer (some ⟨g, 0, none⟩), .int .i64 (i : Int)] w fun e w' => e = .returned (.tuple #[]) ∧ Fr w w' [sa, mb] ∧ DevS w' g sa mb (S.set i l) low k (D.del (.int .i64 (i : Int))) pw left wr := by
  obtain ⟨c0, _, c2, _, _, _⟩ := h.dv.cells
  have HM := Lib.hid h.map
  have HKY := Lib.hid (keyI (i : Int) (by omega) (by omega))
  have HA := Lib.hid ha
  have HH := Lib.hid h
  have HLL := Lib.hid hl
  have HII := Lib.hid hi
  have K1 := Lib.hid (secV_one l)
  have HIS : Hid ((Try.prog.info? 66).map (·.size) = some (bs l).toArray.size) := by show _ = _; rw [info66, List.size_toArray, bs_len, hl]
  have HIL : (Try.prog.info? 66).map (·.size) = some (bs l).length := by rw [info66, bs_len, hl]
  have HU := Try.underlying66
  have HO : Hid ((Array.replicate 256 (Value.int .u8 0)).size = (bs l).toArray.size) := by show _ = _; rw [Array.size_replicate, List.size_toArray, bs_len, hl]
  have q1 : (0 : Int) ≤ (i : Int) := by omega
  have q2 : (i : Int) < (S.length : Int) := by omega
  have B1 : Below w.heap.size w (w.alloc (.cells (bs l).toArray 66)) := (Below.refl w.heap.size w).alloc (Nat.le_refl _) _
  have c0' : (w.alloc (.cells (bs l).toArray 66)).cell? ⟨g, 0, none⟩ = some (.slice (some ⟨sa, 0, none⟩) S.length S.length) := (B1.cell (p := ⟨g, 0, none⟩) (Blk.lt h.dv)).trans c0
  have c2' : (w.alloc (.cells (bs l).toArray 66)).cell? ⟨g, 2, none⟩ = some (.map (some mb)) := (B1.cell (p := ⟨g, 2, none⟩) (Blk.lt h.dv)).trans c2
  have HF0 := Lib.hid (fr_below B1 [sa, mb])
  have NB := Lib.hid (Blk.new w (bs l) 66 w.heap.size rfl)
  have HD2 := Lib.hid (h.kept (fr_below B1 []) (by simp) (by simp) (by simp))
  have hsz := Lib.hid (show sa ≠ w.heap.size from Nat.ne_of_lt h.sec.lt)
  clear h hi hl ha B1
  go_enter Try.func43, Try.ntmps43
  go_wp2_with (first
    | (at_lookup; refine wpList_lookup_own_ok _ rfl _ _ 59 rfl 3 66 lawI Try.underlying59 secR (zero66 _) (.lit (.string zeros)) [] (secR_of zeros) mb k D rfl HM.out _ _ rfl HKY.out ?_; intro v ps hv; rw [HA.out] at hv; obtain ⟨rfl, _⟩ := secR_inv hv; rw [hh]; clear hv)
    | ((with_reducible refine wpList_store_row rfl 66 (.tmp 4) (.tmp 13) rfl w.heap.size (bs l).toArray rfl rfl 66 _ (heap_alloc_new w _) HIS.out ?ho K1.out ?_); (case ho => exact HO.out); rw [World.setRow_alloc_new]))
  clear c0 c2 HM
  generalize w.alloc (.cells (bs l).toArray 66) = W at *
  generalize w.heap.size = nb at *
  have hr1 : W.rangeAt nb 0 (bs l) := fun j v hj => by rw [NB.out.cell, Nat.zero_add]; exact hj
  have HR1 := Lib.hid hr1
  have HC0 := Lib.hid c0'
  have HC2 := Lib.hid c2'
  have hgs : g ≠ sa := fun e => HD2.out.apart.2.1 e.symm
  have ht1 : W.there sa (i * 256) (bs l).toArray.size := fun j hj => by
    have hj2 : j < 256 := by rw [List.size_toArray, bs_len, HLL.out] at hj; exact hj
    refine ⟨?_, HD2.out.sec.frozen _⟩
    rw [HD2.out.sec.cell, List.getElem?_eq_getElem (by rw [flat_len _ HD2.out.len]; have := HII.out; omega)]
    rfl
  have hst : (Instr.storeAt 66 (.pointer (some ⟨sa, i * 256, none⟩)) (.agg (bs l).toArray)).run Try.prog W.drew = .ok () (W.drew.setCells sa (i * 256) (bs l)) := run_storeAt_mid W.drew sa (i * 256) 66 _ ht1 HIS.out K1.out
  have HD3 : Hid (DevS (W.drew.setCells sa (i * 256) (bs l)) g sa mb (S.set i l) low k D pw left wr) := by
    have hf : Fr W.drew (W.drew.setCells sa (i * 256) (bs l)) [sa] := fr_grown (gb_sets sa (bs l) (i * 256) W.drew) (by simp)
    have hd := HD2.out
    refine ⟨?_, ?_, set_len hd.len HLL.out, ?_⟩
    · rw [List.length_set]
      exact Fr.blk (w := W.drew) hf hd.dv (by simpa using hgs)
    · have h2 := Blk.sets (bs l) (S.flatMap bs) (i * 256) W.drew hd.sec
      rw [flat_set hd.len HII.out HLL.out] at h2
      exact h2
    · exact hd.map.drew.kept (gb_sets sa (bs l) (i * 256) W.drew) (fun e => by injection e with e; exact hd.apart.2.2 e.symm)
  have hone : ∀ v, v ∈ bs l → v.oneCell' = true := bs_one l
  have hth2 : W.drew.there sa (i * 256) (bs l).length := by rw [List.size_toArray] at ht1; exact ht1
  clear ht1
  go_region_held3 (fun w' => w'.cell? ⟨g, 0, none⟩ = some (.slice (some ⟨sa, 0, none⟩) S.length S.length) ∧ w'.rangeAt nb 0 (bs l))
    (first | go_keep | exact ⟨HC0.out, HR1.out⟩ | exact ⟨(HD3.out.dv.cells.1).trans (by rw [List.length_set]), Go.World.rangeAt_setCells_apart (w := W.drew) HR1.out sa (i * 256) (bs l) (.inl (fun e => hsz.out e.symm))⟩)
    (fail)
  have HG2 := Lib.hid (gb_sets sa (bs l) (i * 256) W.drew)
  clear hth2 hst hone hr1
  clear c0' c2'
  generalize W.drew.setCells sa (i * 256) (bs l) = W2 at *
  obtain ⟨_, _, d2, _, _, _⟩ := HD3.out.dv.cells
  go_wp2_with (at_delete; refine wpList_delete_own _ rfl _ _ 59 3 rfl 66 lawI Try.underlying59 secR mb k D rfl HD3.out.map _ _ rfl HKY.out ?_; intro w4 hown hmt)
  go_end0
  have hg4 := hmt.grown
  have hd := HD3.out
  have ap := hd.apart
  refine ⟨rfl, (HF0.out.trans (b := W) ⟨HG2.out.os, HG2.out.tape, HG2.out.output, HG2.out.size, fun n hn hne => HG2.out.block n hn (fun e => by injection e with e; exact hne (by simp [e]))⟩).trans (fr_grown hg4 (by simp)), ?_, ?_, hd.len, hown⟩
  · exact blk_row hd.dv hg4 (fun e => by injection e with e; exact ap.1 e)
  · exact blk_row hd.sec hg4 (fun e => by injection e with e; exact ap.2.2 e)
end Go.Proofs.Ytohmdcbfffgheaa.Dk
