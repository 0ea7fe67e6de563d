/-
  The contract of super's read: what a sector's fields say. No condition.
-/
import Derived.Test.YtlpbkjonicjccaaDoorSd
namespace Go.Proofs.YtlpbkjonicjccaaDoor.Sh
open Go.RowKit Go.Lib

theorem info25 : (Tryd.prog.info? 25).map (·.size) = some 3 := by kernel_rfl
set_option maxRecDepth 100000 in
theorem slice51_4 (g : Nat) (W : World) : (Instr.sliceAt 51 (.pointer (some ⟨g, 0, none⟩)) (some (.int .i64 4)) (some (.int .i64 12)) none).run Tryd.prog W = .ok (.slice (some ⟨g, 4, none⟩) 8 252) W := by
  have e3 : Tryd.prog.elem 51 = 5 := by kernel_rfl
  have e4 : Tryd.prog.arrayLen 51 = 256 := by kernel_rfl
  have hs := run_sliceAt_array_lh (P := Tryd.prog) W 51 ⟨g, 0, none⟩ (by rw [Tryd.underlying51]; rfl) .i64 .i64 4 12 (by omega) (by omega) (by rw [e4]; omega)
  rw [hs, e3, e4]
  simp [Tryd.sizeOf5, slicedAt, Result.andThen, Addr.add]
set_option maxRecDepth 100000 in
theorem slice51_12 (g : Nat) (W : World) : (Instr.sliceAt 51 (.pointer (some ⟨g, 0, none⟩)) (some (.int .i64 12)) (some (.int .i64 44)) none).run Tryd.prog W = .ok (.slice (some ⟨g, 12, none⟩) 32 244) W := by
  have e3 : Tryd.prog.elem 51 = 5 := by kernel_rfl
  have e4 : Tryd.prog.arrayLen 51 = 256 := by kernel_rfl
  have hs := run_sliceAt_array_lh (P := Tryd.prog) W 51 ⟨g, 0, none⟩ (by rw [Tryd.underlying51]; rfl) .i64 .i64 12 44 (by omega) (by omega) (by rw [e4]; omega)
  rw [hs, e3, e4]
  simp [Tryd.sizeOf5, slicedAt, Result.andThen, Addr.add]
set_option maxRecDepth 100000 in
theorem slice51_44 (g : Nat) (W : World) : (Instr.sliceAt 51 (.pointer (some ⟨g, 0, none⟩)) (some (.int .i64 44)) (some (.int .i64 52)) none).run Tryd.prog W = .ok (.slice (some ⟨g, 44, none⟩) 8 212) W := by
  have e3 : Tryd.prog.elem 51 = 5 := by kernel_rfl
  have e4 : Tryd.prog.arrayLen 51 = 256 := by kernel_rfl
  have hs := run_sliceAt_array_lh (P := Tryd.prog) W 51 ⟨g, 0, none⟩ (by rw [Tryd.underlying51]; rfl) .i64 .i64 44 52 (by omega) (by omega) (by rw [e4]; omega)
  rw [hs, e3, e4]
  simp [Tryd.sizeOf5, slicedAt, Result.andThen, Addr.add]
/-- a part of a sector -/
theorem byt_part {w : World} {g : Nat} {l : List UInt8} {t : TypeId} (h : Blk w g (bs l) t) (a n : Nat) : Byt w (some ⟨g, a, none⟩) ((l.drop a).take n) := by
  have := (h.byt.drop a).take n
  rwa [Nat.zero_add] at this
theorem zrw_set {w : World} {ao : Option Addr} {l : List Int} (h : Zrw w ao l) (p : Addr) (u : Value) (hne : ∀ b o, ao = some ⟨b, o, none⟩ → p.block < b) : Zrw (w.setCell p u) ao l := fun h0 => by
  obtain ⟨b, o, rfl, hb, hc⟩ := h h0
  exact ⟨b, o, rfl, by simpa using hb, fun j hj => by rw [World.cell?_of_block (a := ⟨b, o + j, none⟩) (heap_setCell_other w p b u (by have := hne b o rfl; omega)), hc j hj]⟩
theorem own_farz {w : World} {B c n : Nat} {a : Option Addr} {l : List Int} (h : OwnZ w B (.slice a n c) l) : ∀ b o, a = some ⟨b, o, none⟩ → B ≤ b := by
  rintro b o rfl
  rcases h.2 with ⟨h4, _⟩ | ⟨g, cap, cur, h4, hB, _⟩
  · cases h4
  · injection h4 with h4
    injection h4 with h4
    injection h4 with h4
    omega
/-- what read answers -/
def AnsR (w : World) (l : List UInt8) (e : Ending) (w' : World) : Prop := Below w.heap.size w w' ∧ ∃ bo c, e = .returned (.agg #[.int .i64 (spOf l).g, .string (spOf l).r, .slice bo (spOf l).p.length c]) ∧ Zrw w' bo (spOf l).p ∧ (bo = none → c = 0) ∧ (spOf l).p.length ≤ c ∧ c ≤ 9223372036854775807 ∧ ∀ b o, bo = some ⟨b, o, none⟩ → w.heap.size ≤ b
set_option maxHeartbeats 4000000 in
set_option maxRecDepth 100000 in
theorem read21 (l : List UInt8) (hl : l.length = 256) (w : World) : Calls Tryd.prog 21 #[.agg (bs l).toArray] w (AnsR w l) := by
  have B0 := (Below.refl w.heap.size w).alloc (Nat.le_refl _) (.cells (bs l).toArray 51)
  have K0 := Blk.new w (bs l) 51 w.heap.size rfl
  have l4 : ((l.drop 4).take 8).length = 8 := by simp [hl]
  have l12 : ((l.drop 12).take 32).length = 32 := by simp [hl]
  have l44 : ((l.drop 44).take 8).length = 8 := by simp [hl]
  have ha1 : (bs l).toArray.all (·.oneCell') = true := all_oneCell_toArray (bs_one l)
  have hsz : (Tryd.prog.info? 51).map (·.size) = some (bs l).toArray.size := by rw [info51, List.size_toArray, bs_len, hl]
  have bx : ∀ W : World, (Instr.box 51 (.agg (bs l).toArray)).run Tryd.prog W = .ok (.pointer (some ⟨W.heap.size, 0, none⟩)) (W.alloc (.cells (bs l).toArray 51)) := fun W => by
    simp [Instr.box, newVar, newRow, Value.cells]
  obtain ⟨R, hR⟩ : ∃ R, R = (bs l).toArray := ⟨_, rfl⟩
  rw [← hR] at bx B0 K0 ⊢
  have s12 := slice51_12 w.heap.size
  have s4 := slice51_4 w.heap.size
  have s44 := slice51_44 w.heap.size
  have BA := B0.alloc B0.size (.cells #[.int .i64 0, .string ⟨#[]⟩, .slice none 0 0] 25)
  have KA := K0.alloc (.cells #[.int .i64 0, .string ⟨#[]⟩, .slice none 0 0] 25)
  have KB := Blk.new (w.alloc (.cells R 51)) [.int .i64 0, .string ⟨#[]⟩, .slice none 0 0] 25 (w.heap.size + 1) (by simp)
  have C35 := Lib.hid (from_any (some ⟨w.heap.size, 12, none⟩) ((l.drop 12).take 32) 32 244 _ (byt_part KA 12 32) l12 (by decide))
  have hfs : fromS ((l.drop 12).take 32) = (spOf l).r := by rw [fromS, if_pos l12]; rfl
  have hfe : fromE ((l.drop 12).take 32) = 0 := by rw [fromE, if_pos l12]
  rw [hfs, hfe] at C35
  have C36a := Lib.hid (fun (W : World) (k : Blk W w.heap.size (bs l) 51) => number_any (some ⟨w.heap.size, 4, none⟩) ((l.drop 4).take 8) 8 252 W (byt_part k 4 8) l4 (by decide))
  have C36b := Lib.hid (fun (W : World) (k : Blk W w.heap.size (bs l) 51) => number_any (some ⟨w.heap.size, 44, none⟩) ((l.drop 44).take 8) 8 212 W (byt_part k 44 8) l44 (by decide))
  have hx := numL_lt8 _ l44
  have hg := numL_lt8 _ l4
  have C37 := Lib.hid (fun (W : World) => packsOf_any (numL ((l.drop 44).take 8)) hx W)
  have HG : Hid (IntKind.i64.wrap (numL ((l.drop 4).take 8) : Int) = (spOf l).g) := rfl
  have HPK : Hid (packsL (numL ((l.drop 44).take 8)) = (spOf l).p) := rfl
  obtain ⟨gn, hgn⟩ : ∃ gn, gn = numL ((l.drop 4).take 8) := ⟨_, rfl⟩
  obtain ⟨xn, hxn⟩ : ∃ xn, xn = numL ((l.drop 44).take 8) := ⟨_, rfl⟩
  rw [← hgn] at C36a HG
  rw [← hxn] at C36b C37 HPK
  unfold AnsR
  obtain ⟨SP0, hSP⟩ : ∃ SP0, SP0 = spOf l := ⟨_, rfl⟩
  rw [← hSP] at C35 HG HPK ⊢
  have HKA := Lib.hid KA
  have HKB := Lib.hid KB
  have HBA := Lib.hid BA
  clear hgn hxn hSP KA KB BA B0 K0 hfs hfe l4 l12 l44 ha1 hsz hx hg hR
  go_enter Tryd.func21, Tryd.ntmps21
  go_wp2_with fail
  refine C35.out.mono ?_
  rintro e w1 ⟨rfl, b1⟩
  have HB1 := Lib.hid (below_chain HBA.out b1)
  have HK1 := Lib.hid (HKA.out.low b1)
  have HZ1 := Lib.hid (HKB.out.low b1)
  clear b1 HKA HKB HBA C35
  go_wp2_with fail
  go_region_held3 (fun _ => True) (trivial) (first
    | (go_at_call 36; (with_reducible refine (C36a.out _ (Blk.drew HK1.out)).mono ?_); rintro e w2 ⟨rfl, rfl⟩)
    | (go_at_call 36; (with_reducible refine (C36b.out _ (Blk.drew HK1.out)).mono ?_); rintro e w2 ⟨rfl, rfl⟩)
    | (go_at_call 37; (with_reducible refine (C37.out _).mono ?_); rintro e w3 ⟨b3, v3, rfl, o3⟩
       obtain ⟨a3, c3, rfl, hc3, hm3, hz3, hn3⟩ := own_zrw o3
       have FAR := Lib.hid (own_farz o3)
       have HB3 := Lib.hid (below_chain HB1.out.drew b3)
       have HZ3 := Lib.hid (Blk.low (Blk.drew HZ1.out) b3)
       have t0 := HZ3.out.cell 0
       have t1 := HZ3.out.cell 1
       have t2 := HZ3.out.cell 2
       have tf := fun j => HZ3.out.frozen j
       simp only [List.getElem?_cons_zero, List.getElem?_cons_succ] at t0 t1 t2
       have HOZ := Lib.hid hz3
       have HON := Lib.hid hn3
       clear b3 o3 hz3 hn3))
  all_goals
    go_wp2_with fail
    have K4 := Lib.hid (((HZ3.out.set 0 (.int .i64 (IntKind.i64.wrap (gn : Int)))).set 1 (.string SP0.r)).set 2 (.slice a3 (packsL xn).length c3))
    have hB3 := HB3.out
    have hs1 : w.heap.size ≤ w.heap.size + 1 := by omega
    have B4 := Lib.hid (((hB3.setCell (p := ⟨w.heap.size + 1, 0, none⟩) hs1 (.int .i64 (IntKind.i64.wrap (gn : Int)))).setCell (p := ⟨w.heap.size + 1, 1, none⟩) hs1 (.string SP0.r)).setCell (p := ⟨w.heap.size + 1, 2, none⟩) hs1 (.slice a3 (packsL xn).length c3))
    have Z4 : Hid (Zrw ((((w3.setCell ⟨w.heap.size + 1, 0, none⟩ (.int .i64 (IntKind.i64.wrap (gn : Int)))).setCell ⟨w.heap.size + 1, 1, none⟩ (.string SP0.r)).setCell ⟨w.heap.size + 1, 2, none⟩ (.slice a3 (packsL xn).length c3))) a3 (packsL xn)) := by
      have hf : ∀ b o, a3 = some ⟨b, o, none⟩ → w.heap.size + 1 < b := fun b o e => Nat.lt_of_lt_of_le HZ1.out.lt (FAR.out b o e)
      exact zrw_set (zrw_set (zrw_set HOZ.out _ _ hf) _ _ hf) _ _ hf
    exact bodyPost_ret (results_cell_row Tryd.results21 _ _ (w.heap.size + 1) 25 #[.int .i64 (IntKind.i64.wrap (gn : Int)), .string SP0.r, .slice a3 (packsL xn).length c3] (0, 0) _ rfl K4.out Tryd.underlying25 rfl info25) rfl
      ⟨B4.out, a3, c3, by rw [← HPK.out, HG.out], by rw [← HPK.out]; exact Z4.out, HON.out, by rw [← HPK.out]; exact hc3, hm3, fun b o e => by have h1 : w1.heap.size ≤ b := FAR.out b o e; have h2 := HZ1.out.lt; omega⟩
end Go.Proofs.YtlpbkjonicjccaaDoor.Sh
