/-
  The contract of disk's Read. Conditions: each law's own.
-/
import Derived.Test.YtohmdcbfffgheaaWc
import Derived.Laws.Tables
import Derived.Laws.ResultCell
import Derived.Deep.WholeRow
namespace Go.Proofs.Ytohmdcbfffgheaa.Dk
open Go.RowKit Go.Lib Go.Maps
theorem info66 : (Try.prog.info? 66).map (·.size) = some 256 := by kernel_rfl
theorem secV_one (l : List UInt8) : ((bs l).toArray).all (·.oneCell') = true := all_oneCell_toArray (bs_one l)
/-- what the cache has of a sector, or what is in it -/
def secAt (D : DataW Unit) (S : List (List UInt8)) (i : Nat) : Option (List UInt8) := if Maps.has D (.int .i64 (i : Int)) = true then (match D.atKey (.int .i64 (i : Int)) (.lit (.string zeros)) with | .lit (.string l) => some l | _ => none) else S[i]?
set_option maxHeartbeats 4000000 in
set_option maxRecDepth 100000 in
theorem read_no {w : World} {g sa mb : Nat} {S : List (List UInt8)} {low : Int} {k : Nat} {D : DataW Unit} {pw : Bool} {left wr : Int} (h : DevS w g sa mb S low k D pw left wr) (i : Int) (z : Int) (hz : foundE S.length pw i = z) (h0 : z ≠ 0) :
    Calls Try.prog 20 #[.pointer (some ⟨g, 0, none⟩), .int .i64 i] w fun e w' => e = .returned (.tuple #[.slice none 0 0, .int .i64 z]) ∧ w' = w := by
  have HF := Lib.hid (found_any i h.dv)
  rw [hz] at HF
  have t1 : (z != 0) = true := by simpa using h0
  clear h hz h0
  go_enter Try.func20, Try.ntmps20
  go_wp2_with fail
  refine HF.out.mono ?_
  rintro e w1 ⟨rfl, rfl⟩
  go_wp2_with fail
  go_ret2
  exact ⟨rfl, rfl⟩
/-- a sector's bytes, in new memory -/
def GetsSec (w : World) (l : List UInt8) (e : Ending) (w' : World) : Prop := Below w.heap.size w w' ∧ ∃ b, e = .returned (.tuple #[.slice (some ⟨b, 0, none⟩) 256 256, .int .i64 0]) ∧ w.heap.size ≤ b ∧ Blk w' b (bs l) 66
set_option maxHeartbeats 4000000 in
set_option maxRecDepth 100000 in
theorem read_has {w : World} {g sa mb : Nat} {S : List (List UInt8)} {low : Int} {k : Nat} {D : DataW Unit} {pw : Bool} {left wr : Int} (h : DevS w g sa mb S low k D pw left wr) (i : Nat) (hn : S.length ≤ 4096) (hf : foundE S.length pw (i : Int) = 0) (hi : i < S.length)
    (l : List UInt8) (hl : l.length = 256) (hh : Maps.has D (.int .i64 (i : Int)) = true) (ha : D.atKey (.int .i64 (i : Int)) (.lit (.string zeros)) = .lit (.string l)) :
    Calls Try.prog 20 #[.pointer (some ⟨g, 0, none⟩), .int .i64 (i : Int)] w fun e w' => GetsSec w l e w' := by
  have HF := Lib.hid (found_any (i : Int) h.dv)
  rw [hf] at HF
  obtain ⟨_, _, c2, _, _, _⟩ := h.dv.cells
  have HM := Lib.hid h.map
  have HKY := Lib.hid (keyI (i : Int) (by omega) (by omega))
  have HL := Lib.hid hl
  have HA := Lib.hid ha
  have B0 := Lib.hid (Below.refl w.heap.size w)
  have K0 := Lib.hid (secV_one l)
  have HIS : Hid ((Try.prog.info? 66).map (·.size) = some (bs l).toArray.size) := by show _ = _; rw [info66, List.size_toArray, bs_len, hl]
  have HO : Hid ((Array.replicate 256 (Value.int .u8 0)).size = (bs l).toArray.size) := by show _ = _; rw [Array.size_replicate, List.size_toArray, bs_len, hl]
  clear h hf hi hn hl ha
  go_enter Try.func20, Try.ntmps20
  go_wp2_with fail
  refine HF.out.mono ?_
  rintro e w1 ⟨rfl, rfl⟩
  clear HF
  go_wp2_with (first
    | (at_lookup; refine wpList_lookup_own_ok _ rfl _ _ 59 rfl 3 66 lawI Try.underlying59 secR (zero66 _) (.lit (.string zeros)) [] (secR_of zeros) mb k D rfl HM.out _ _ rfl HKY.out ?_; intro v ps hv; rw [HA.out] at hv; obtain ⟨rfl, _⟩ := secR_inv hv; rw [hh]; clear hv)
    | ((with_reducible refine wpList_store_row rfl 66 (.tmp 7) (.tmp 22) rfl w1.heap.size (bs l).toArray rfl rfl 66 _ (heap_alloc_new w1 _) HIS.out ?ho K0.out ?_); (case ho => exact HO.out)))
  rw [World.setRow_alloc_new]
  go_ret2
  exact ⟨(Below.refl _ w1).alloc (Nat.le_refl _) _, w1.heap.size, rfl, Nat.le_refl _, Blk.new w1 (bs l) 66 _ rfl⟩
set_option maxHeartbeats 4000000 in
set_option maxRecDepth 100000 in
theorem read_raw {w : World} {g sa mb : Nat} {S : List (List UInt8)} {low : Int} {k : Nat} {D : DataW Unit} {pw : Bool} {left wr : Int} (h : DevS w g sa mb S low k D pw left wr) (i : Nat) (hn : S.length ≤ 4096) (hf : foundE S.length pw (i : Int) = 0) (hi : i < S.length)
    (l : List UInt8) (hs : S[i]? = some l) (hh : Maps.has D (.int .i64 (i : Int)) = false) (ha : D.atKey (.int .i64 (i : Int)) (.lit (.string zeros)) = .lit (.string zeros)) :
    Calls Try.prog 20 #[.pointer (some ⟨g, 0, none⟩), .int .i64 (i : Int)] w (GetsSec w l) := by
  have hl := h.len l (List.mem_of_getElem? hs)
  have HF := Lib.hid (found_any (i : Int) h.dv)
  rw [hf] at HF
  obtain ⟨c0, _, c2, _, _, _⟩ := h.dv.cells
  have HM := Lib.hid h.map
  have HKY := Lib.hid (keyI (i : Int) (by omega) (by omega))
  have HR := Lib.hid (h.range hs)
  have HA := Lib.hid ha
  have K0 := Lib.hid (secV_one zeros)
  have K1 := Lib.hid (secV_one l)
  have hz : zeros.length = 256 := by simp [zeros]
  have HIZ : Hid ((Try.prog.info? 66).map (·.size) = some (bs zeros).toArray.size) := by show _ = _; rw [info66, List.size_toArray, bs_len, hz]
  have HIS : Hid ((Try.prog.info? 66).map (·.size) = some (bs l).toArray.size) := by show _ = _; rw [info66, List.size_toArray, bs_len, hl]
  have HIL : Hid ((Try.prog.info? 66).map (·.size) = some (bs l).length) := by show _ = _; rw [info66, bs_len, hl]
  have HO : Hid ((Array.replicate 256 (Value.int .u8 0)).size = (bs zeros).toArray.size) := by show _ = _; rw [Array.size_replicate, List.size_toArray, bs_len, hz]
  have HO2 : Hid ((bs zeros).toArray.size = (bs l).toArray.size) := by show _ = _; rw [List.size_toArray, List.size_toArray, bs_len, bs_len, hz, hl]
  have q1 : (0 : Int) ≤ (i : Int) := by omega
  have q2 : (i : Int) < (S.length : Int) := by omega
  have HLM : Hid ((w.alloc (.cells (bs zeros).toArray 66)).rangeAt sa (i * 256) (bs l)) := fun j v hj => by
    have hc := h.range hs j v hj
    exact (((Below.refl w.heap.size w).alloc (Nat.le_refl _) (.cells (bs zeros).toArray 66)).cell (p := ⟨sa, i * 256 + j, none⟩) h.sec.lt).trans hc
  have c0' : (w.alloc (.cells (bs zeros).toArray 66)).cell? ⟨g, 0, none⟩ = some (.slice (some ⟨sa, 0, none⟩) S.length S.length) := (((Below.refl w.heap.size w).alloc (Nat.le_refl _) (.cells (bs zeros).toArray 66)).cell (p := ⟨g, 0, none⟩) (Blk.lt h.dv)).trans c0
  clear h hf hi hl ha hs c0 hz
  go_enter Try.func20, Try.ntmps20
  go_wp2_with fail
  refine HF.out.mono ?_
  rintro e w1 ⟨rfl, rfl⟩
  clear HF
  go_wp2_with (first
    | (at_lookup; refine wpList_lookup_own_ok _ rfl _ _ 59 rfl 3 66 lawI Try.underlying59 secR (zero66 _) (.lit (.string zeros)) [] (secR_of zeros) mb k D rfl HM.out _ _ rfl HKY.out ?_; intro v ps hv; rw [HA.out] at hv; obtain ⟨rfl, _⟩ := secR_inv hv; rw [hh]; clear hv)
    | ((with_reducible refine wpList_store_row rfl 66 (.tmp 7) (.tmp 22) rfl w1.heap.size (bs zeros).toArray rfl rfl 66 _ (heap_alloc_new w1 _) HIZ.out ?ho K0.out ?_); (case ho => exact HO.out); rw [World.setRow_alloc_new])
    | (with_reducible refine wpList_load_mid rfl 66 (.tmp 31) rfl sa (i * 256) rfl (bs l) (.array 256 5) HLM.out Try.underlying66 rfl HIL.out ?_)
    | (with_reducible refine wpList_store_row rfl 66 (.tmp 7) (.tmp 32) rfl w1.heap.size (bs l).toArray rfl rfl 66 _ (heap_alloc_new w1 _) HIS.out HO2.out K1.out ?_))
  rw [World.setRow_alloc_new]
  go_ret2
  exact ⟨(Below.refl _ w1).alloc (Nat.le_refl _) _, w1.heap.size, rfl, Nat.le_refl _, Blk.new w1 (bs l) 66 _ rfl⟩
end Go.Proofs.Ytohmdcbfffgheaa.Dk
