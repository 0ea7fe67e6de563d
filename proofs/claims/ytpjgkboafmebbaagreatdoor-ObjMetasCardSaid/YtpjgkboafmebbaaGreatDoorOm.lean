/-
  The contracts of obj's caught and whole at objects, and of GetMeta, GetListing, GetPage, GetRoot. Conditions: each law's own.
-/
import Derived.Test.YtpjgkboafmebbaaGreatDoorOl
namespace Go.Proofs.YtpjgkboafmebbaaGreatDoor.Sh
open Go.RowKit Go.Lib Lb

/-- what a function that is tried does: it gives an object, or what is wrong goes up -/
def TriedG {α : Type} (w : World) (V : World → α → Value → Prop) (o : Option α) (e : Ending) (w' : World) : Prop := Below w.heap.size w w' ∧ ((o = none ∧ e = .panicked Wrong) ∨ ∃ x v, o = some x ∧ e = .returned v ∧ V w' x v)
/-- an object and an error's number -/
def GetR {α : Type} (w : World) (zero : Value) (V : World → α → Value → Prop) (o : Option α) (e : Ending) (w' : World) : Prop := Below w.heap.size w w' ∧ ((o = none ∧ e = .returned (.tuple #[zero, .int .i64 80])) ∨ ∃ x v, o = some x ∧ e = .returned (.tuple #[v, .int .i64 0]) ∧ V w' x v)
theorem results_two {P : Program} {fn : Func} {p q : Tmp} {ty ty2 : TypeId} (h : fn.results = #[.cell p ty, .cell q ty2]) (tmps : Array Value) (w : World) (g g2 : Nat) (t : TypeId) (cs : List Value) (d : TypeDesc) (y : Value)
    (hp : tmps.getD p undef = .pointer (some ⟨g, 0, none⟩)) (hq : tmps.getD q undef = .pointer (some ⟨g2, 0, none⟩)) (hg : Blk w g cs t) (hy : (loadVar ty2 ⟨g2, 0, none⟩).run P w = .ok y w)
    (hu : P.underlying ty = some d) (hd : (match d with | .struct _ | .array _ _ => true | _ => false) = true) (hi : (P.info? ty).map (·.size) = some cs.toArray.size) :
    (results fn tmps).run P w = .ok (.tuple #[.agg cs.toArray, y]) w := by
  have hp' : tmps[p]?.getD undef = .pointer (some ⟨g, 0, none⟩) := by simpa using hp
  have hq' : tmps[q]?.getD undef = .pointer (some ⟨g2, 0, none⟩) := by simpa using hq
  simp [results, h, hp', hq', asAddr, run_loadVar_row w g t ty cs.toArray (0, 0) d hg hu hd hi, hy, Result.andThen]
theorem load37 {w : World} {g : Nat} {y : Value} (h : w.cell? ⟨g, 0, none⟩ = some y) : (loadVar 37 ⟨g, 0, none⟩).run Tryz.prog w = .ok y w := by simp [go_sem, h]
set_option maxHeartbeats 2000000 in
set_option maxRecDepth 100000 in
theorem caught_root (F : FuncId) (caps : Array Value) (w : World) (o : Option RootP) (hE : ∀ (args : Array Value) (w : World), (callFunc F args).run Tryz.prog w = .ok (.enter F args) w)
    (hF : Calls Tryz.prog F caps ((w.alloc (.cells #[.int .i64 0, .slice none 0 0] 35)).alloc (.cells #[.int .i64 0] 37)) (TriedG ((w.alloc (.cells #[.int .i64 0, .slice none 0 0] 35)).alloc (.cells #[.int .i64 0] 37)) (VRoot (w.heap.size + 2)) o)) :
    Calls Tryz.prog 101 #[.func (.func F) #[] caps] w (GetR w (.agg #[.int .i64 0, .slice none 0 0]) (VRoot w.heap.size) o) := by
  have hmf : ∀ (fn : Fn) (first cap : Array Value) (w : World), (Instr.makeFunc fn first cap).run Tryz.prog w = .ok (.func fn first cap) w := fun _ _ _ _ => rfl
  have HF := Lib.hid hF
  clear hF
  go_enter_defers Tryz.func101, Tryz.ntmps101
  go_wp2_with fail
  refine HF.out.mono ?_
  clear HF
  have B00 := (Below.refl w.heap.size w).alloc (Nat.le_refl _) (.cells #[.int .i64 0, .slice none 0 0] 35)
  have K00 := Blk.new w [.int .i64 0, .slice none 0 0] 35 _ rfl
  have s0 : (w.alloc (.cells #[.int .i64 0, .slice none 0 0] 35)).heap.size = w.heap.size + 1 := by simp
  have K0 : Hid (Blk ((w.alloc (.cells #[.int .i64 0, .slice none 0 0] 35)).alloc (.cells #[.int .i64 0] 37)) w.heap.size [.int .i64 0, .slice none 0 0] 35) := K00.alloc _
  have E0 : Hid (Blk ((w.alloc (.cells #[.int .i64 0, .slice none 0 0] 35)).alloc (.cells #[.int .i64 0] 37)) (w.heap.size + 1) [.int .i64 0] 37) := Blk.new _ [.int .i64 0] 37 _ s0.symm
  have B0 := Lib.hid (B00.alloc B00.size (.cells #[.int .i64 0] 37))
  clear B00 K00 s0
  generalize (w.alloc (.cells #[.int .i64 0, .slice none 0 0] 35)).alloc (.cells #[.int .i64 0] 37) = wa at *
  rintro e w1 ⟨hb, ⟨ho, rfl⟩ | ⟨x, v, ho, rfl, hv⟩⟩
  · have K1 := Lib.hid (K0.out.low hb)
    have E1 := Lib.hid (E0.out.low hb)
    have B1 := Lib.hid (below_chain B0.out hb)
    have e0 := E1.out.cell 0
    have f0 := E1.out.frozen 0
    simp only [List.getElem?_cons_zero] at e0
    have HO := Lib.hid ho
    refine leaves_cons (f := 123) (args := #[.pointer (some ⟨w.heap.size + 1, 0, none⟩)]) (by simp) (by simp [go_sem]) ?_
    refine (catch_wrong123 ⟨w.heap.size + 1, 0, none⟩ _ _ e0 f0 E1.out.lt).mono ?_
    rintro e u' w'' ⟨rfl, rfl, rfl⟩
    have EZ := (E1.out.alloc (.cells #[] 162)).set 0 (.int .i64 80)
    have KZ := (K1.out.alloc (.cells #[] 162)).other (a := ⟨w.heap.size + 1, 0, none⟩) (.int .i64 80) (by show w.heap.size ≠ w.heap.size + 1; omega)
    have BZ := (B1.out.alloc B1.out.size (.cells #[] 162)).setCell (p := ⟨w.heap.size + 1, 0, none⟩) (Nat.le_succ _) (.int .i64 80)
    exact ⟨_, results_two rfl _ _ w.heap.size (w.heap.size + 1) 35 _ _ (.int .i64 80) rfl rfl KZ (load37 (by rw [EZ.cell 0]; rfl)) Tryz.underlying35 rfl size35', BZ, .inl ⟨HO.out, rfl⟩⟩
  · obtain ⟨u1, rfl, h1⟩ := hv
    obtain ⟨a1, c1, rfl⟩ := ownG_slice h1
    have K1 := Lib.hid (K0.out.low hb)
    have E1 := Lib.hid (E0.out.low hb)
    have B1 := Lib.hid (below_chain B0.out hb)
    have HO := Lib.hid ho
    have O1 := Lib.hid h1
    clear hb ho h1 K0 E0 B0
    have k0 := K1.out.cell 0
    have f0 := K1.out.frozen 0
    have k1 := K1.out.cell 1
    have f1 := K1.out.frozen 1
    have e0 := E1.out.cell 0
    have g0 := E1.out.frozen 0
    simp only [List.getElem?_cons_zero, List.getElem?_cons_succ] at k0 k1 e0
    go_wp2_with fail
    refine leaves_cons (f := 123) (args := #[.pointer (some ⟨w.heap.size + 1, 0, none⟩)]) (by simp) (by simp [go_sem]) ?_
    refine (catch_idle123 ⟨w.heap.size + 1, 0, none⟩ _).mono ?_
    rintro e u' w'' ⟨rfl, rfl, rfl⟩
    have KZ := ((set_two K1.out (.int .i64 x.next) (.slice a1 x.pages.length c1)).other (a := ⟨w.heap.size + 1, 0, none⟩) (.int .i64 0) (by show w.heap.size ≠ w.heap.size + 1; omega)).alloc (.cells #[] 162)
    have EZ := ((((E1.out).other (a := ⟨w.heap.size, 0, none⟩) (.int .i64 x.next) (by show w.heap.size + 1 ≠ w.heap.size; omega)).other (a := ⟨w.heap.size, 1, none⟩) (.slice a1 x.pages.length c1) (by show w.heap.size + 1 ≠ w.heap.size; omega)).set 0 (.int .i64 0)).alloc (.cells #[] 162)
    have BY := (((B1.out).setCell (p := ⟨w.heap.size, 0, none⟩) (Nat.le_refl _) (.int .i64 x.next)).setCell (p := ⟨w.heap.size, 1, none⟩) (Nat.le_refl _) (.slice a1 x.pages.length c1)).setCell (p := ⟨w.heap.size + 1, 0, none⟩) (Nat.le_succ _) (.int .i64 0)
    have BZ := BY.alloc BY.size (.cells #[] 162)
    have Y1 := ownG_kept (ownG_kept (ownG_kept (O1.out) (grownBy_setCell _ w.heap.size 0 (.int .i64 x.next)) (by omega)) (grownBy_setCell _ w.heap.size 1 (.slice a1 x.pages.length c1)) (by omega)) (grownBy_setCell _ (w.heap.size + 1) 0 (.int .i64 0)) (by omega)
    have Z1 := OwnG.low (row_kept_alloc Y1 (.cells #[] 162)) (Nat.le_add_right w.heap.size 2)
    exact ⟨_, results_two rfl _ _ w.heap.size (w.heap.size + 1) 35 _ _ (.int .i64 0) rfl rfl KZ (load37 (by rw [EZ.cell 0]; rfl)) Tryz.underlying35 rfl size35', BZ, .inr ⟨_, _, HO.out, rfl, ⟨_, rfl, Z1⟩⟩⟩
set_option maxHeartbeats 2000000 in
set_option maxRecDepth 100000 in
theorem caught_page (F : FuncId) (caps : Array Value) (w : World) (o : Option PageP) (hE : ∀ (args : Array Value) (w : World), (callFunc F args).run Tryz.prog w = .ok (.enter F args) w)
    (hF : Calls Tryz.prog F caps ((w.alloc (.cells #[.slice none 0 0, .slice none 0 0] 33)).alloc (.cells #[.int .i64 0] 37)) (TriedG ((w.alloc (.cells #[.slice none 0 0, .slice none 0 0] 33)).alloc (.cells #[.int .i64 0] 37)) (VPage (w.heap.size + 2)) o)) :
    Calls Tryz.prog 97 #[.func (.func F) #[] caps] w (GetR w (.agg #[.slice none 0 0, .slice none 0 0]) (VPage w.heap.size) o) := by
  have hmf : ∀ (fn : Fn) (first cap : Array Value) (w : World), (Instr.makeFunc fn first cap).run Tryz.prog w = .ok (.func fn first cap) w := fun _ _ _ _ => rfl
  have HF := Lib.hid hF
  clear hF
  go_enter_defers Tryz.func97, Tryz.ntmps97
  go_wp2_with fail
  refine HF.out.mono ?_
  clear HF
  have B00 := (Below.refl w.heap.size w).alloc (Nat.le_refl _) (.cells #[.slice none 0 0, .slice none 0 0] 33)
  have K00 := Blk.new w [.slice none 0 0, .slice none 0 0] 33 _ rfl
  have s0 : (w.alloc (.cells #[.slice none 0 0, .slice none 0 0] 33)).heap.size = w.heap.size + 1 := by simp
  have K0 : Hid (Blk ((w.alloc (.cells #[.slice none 0 0, .slice none 0 0] 33)).alloc (.cells #[.int .i64 0] 37)) w.heap.size [.slice none 0 0, .slice none 0 0] 33) := K00.alloc _
  have E0 : Hid (Blk ((w.alloc (.cells #[.slice none 0 0, .slice none 0 0] 33)).alloc (.cells #[.int .i64 0] 37)) (w.heap.size + 1) [.int .i64 0] 37) := Blk.new _ [.int .i64 0] 37 _ s0.symm
  have B0 := Lib.hid (B00.alloc B00.size (.cells #[.int .i64 0] 37))
  clear B00 K00 s0
  generalize (w.alloc (.cells #[.slice none 0 0, .slice none 0 0] 33)).alloc (.cells #[.int .i64 0] 37) = wa at *
  rintro e w1 ⟨hb, ⟨ho, rfl⟩ | ⟨x, v, ho, rfl, hv⟩⟩
  · have K1 := Lib.hid (K0.out.low hb)
    have E1 := Lib.hid (E0.out.low hb)
    have B1 := Lib.hid (below_chain B0.out hb)
    have e0 := E1.out.cell 0
    have f0 := E1.out.frozen 0
    simp only [List.getElem?_cons_zero] at e0
    have HO := Lib.hid ho
    refine leaves_cons (f := 121) (args := #[.pointer (some ⟨w.heap.size + 1, 0, none⟩)]) (by simp) (by simp [go_sem]) ?_
    refine (catch_wrong121 ⟨w.heap.size + 1, 0, none⟩ _ _ e0 f0 E1.out.lt).mono ?_
    rintro e u' w'' ⟨rfl, rfl, rfl⟩
    have EZ := (E1.out.alloc (.cells #[] 162)).set 0 (.int .i64 80)
    have KZ := (K1.out.alloc (.cells #[] 162)).other (a := ⟨w.heap.size + 1, 0, none⟩) (.int .i64 80) (by show w.heap.size ≠ w.heap.size + 1; omega)
    have BZ := (B1.out.alloc B1.out.size (.cells #[] 162)).setCell (p := ⟨w.heap.size + 1, 0, none⟩) (Nat.le_succ _) (.int .i64 80)
    exact ⟨_, results_two rfl _ _ w.heap.size (w.heap.size + 1) 33 _ _ (.int .i64 80) rfl rfl KZ (load37 (by rw [EZ.cell 0]; rfl)) Tryz.underlying33 rfl size33', BZ, .inl ⟨HO.out, rfl⟩⟩
  · obtain ⟨u1, u2, rfl, h1, h2⟩ := hv
    obtain ⟨a1, c1, rfl⟩ := ownG_slice h1
    obtain ⟨a2, c2, rfl⟩ := ownG_slice h2
    have K1 := Lib.hid (K0.out.low hb)
    have E1 := Lib.hid (E0.out.low hb)
    have B1 := Lib.hid (below_chain B0.out hb)
    have HO := Lib.hid ho
    have O1 := Lib.hid h1
    have O2 := Lib.hid h2
    clear hb ho h1 h2 K0 E0 B0
    have k0 := K1.out.cell 0
    have f0 := K1.out.frozen 0
    have k1 := K1.out.cell 1
    have f1 := K1.out.frozen 1
    have e0 := E1.out.cell 0
    have g0 := E1.out.frozen 0
    simp only [List.getElem?_cons_zero, List.getElem?_cons_succ] at k0 k1 e0
    go_wp2_with fail
    refine leaves_cons (f := 121) (args := #[.pointer (some ⟨w.heap.size + 1, 0, none⟩)]) (by simp) (by simp [go_sem]) ?_
    refine (catch_idle121 ⟨w.heap.size + 1, 0, none⟩ _).mono ?_
    rintro e u' w'' ⟨rfl, rfl, rfl⟩
    have KZ := ((set_two K1.out (.slice a1 x.nums.length c1) (.slice a2 x.keys.length c2)).other (a := ⟨w.heap.size + 1, 0, none⟩) (.int .i64 0) (by show w.heap.size ≠ w.heap.size + 1; omega)).alloc (.cells #[] 162)
    have EZ := ((((E1.out).other (a := ⟨w.heap.size, 0, none⟩) (.slice a1 x.nums.length c1) (by show w.heap.size + 1 ≠ w.heap.size; omega)).other (a := ⟨w.heap.size, 1, none⟩) (.slice a2 x.keys.length c2) (by show w.heap.size + 1 ≠ w.heap.size; omega)).set 0 (.int .i64 0)).alloc (.cells #[] 162)
    have BY := (((B1.out).setCell (p := ⟨w.heap.size, 0, none⟩) (Nat.le_refl _) (.slice a1 x.nums.length c1)).setCell (p := ⟨w.heap.size, 1, none⟩) (Nat.le_refl _) (.slice a2 x.keys.length c2)).setCell (p := ⟨w.heap.size + 1, 0, none⟩) (Nat.le_succ _) (.int .i64 0)
    have BZ := BY.alloc BY.size (.cells #[] 162)
    have Y1 := ownG_kept (ownG_kept (ownG_kept (O1.out) (grownBy_setCell _ w.heap.size 0 (.slice a1 x.nums.length c1)) (by omega)) (grownBy_setCell _ w.heap.size 1 (.slice a2 x.keys.length c2)) (by omega)) (grownBy_setCell _ (w.heap.size + 1) 0 (.int .i64 0)) (by omega)
    have Z1 := OwnG.low (row_kept_alloc Y1 (.cells #[] 162)) (Nat.le_add_right w.heap.size 2)
    have Y2 := ownG_kept (ownG_kept (ownG_kept (O2.out) (grownBy_setCell _ w.heap.size 0 (.slice a1 x.nums.length c1)) (by omega)) (grownBy_setCell _ w.heap.size 1 (.slice a2 x.keys.length c2)) (by omega)) (grownBy_setCell _ (w.heap.size + 1) 0 (.int .i64 0)) (by omega)
    have Z2 := OwnG.low (row_kept_alloc Y2 (.cells #[] 162)) (Nat.le_add_right w.heap.size 2)
    exact ⟨_, results_two rfl _ _ w.heap.size (w.heap.size + 1) 33 _ _ (.int .i64 0) rfl rfl KZ (load37 (by rw [EZ.cell 0]; rfl)) Tryz.underlying33 rfl size33', BZ, .inr ⟨_, _, HO.out, rfl, ⟨_, _, rfl, Z1, Z2⟩⟩⟩
set_option maxHeartbeats 2000000 in
set_option maxRecDepth 100000 in
theorem caught_listing (F : FuncId) (caps : Array Value) (w : World) (o : Option ListP) (hE : ∀ (args : Array Value) (w : World), (callFunc F args).run Tryz.prog w = .ok (.enter F args) w)
    (hF : Calls Tryz.prog F caps ((w.alloc (.cells #[.bool false, .slice none 0 0, .slice none 0 0] 30)).alloc (.cells #[.int .i64 0] 37)) (TriedG ((w.alloc (.cells #[.bool false, .slice none 0 0, .slice none 0 0] 30)).alloc (.cells #[.int .i64 0] 37)) (VList (w.heap.size + 2)) o)) :
    Calls Tryz.prog 91 #[.func (.func F) #[] caps] w (GetR w (.agg #[.bool false, .slice none 0 0, .slice none 0 0]) (VList w.heap.size) o) := by
  have hmf : ∀ (fn : Fn) (first cap : Array Value) (w : World), (Instr.makeFunc fn first cap).run Tryz.prog w = .ok (.func fn first cap) w := fun _ _ _ _ => rfl
  have HF := Lib.hid hF
  clear hF
  go_enter_defers Tryz.func91, Tryz.ntmps91
  go_wp2_with fail
  refine HF.out.mono ?_
  clear HF
  have B00 := (Below.refl w.heap.size w).alloc (Nat.le_refl _) (.cells #[.bool false, .slice none 0 0, .slice none 0 0] 30)
  have K00 := Blk.new w [.bool false, .slice none 0 0, .slice none 0 0] 30 _ rfl
  have s0 : (w.alloc (.cells #[.bool false, .slice none 0 0, .slice none 0 0] 30)).heap.size = w.heap.size + 1 := by simp
  have K0 : Hid (Blk ((w.alloc (.cells #[.bool false, .slice none 0 0, .slice none 0 0] 30)).alloc (.cells #[.int .i64 0] 37)) w.heap.size [.bool false, .slice none 0 0, .slice none 0 0] 30) := K00.alloc _
  have E0 : Hid (Blk ((w.alloc (.cells #[.bool false, .slice none 0 0, .slice none 0 0] 30)).alloc (.cells #[.int .i64 0] 37)) (w.heap.size + 1) [.int .i64 0] 37) := Blk.new _ [.int .i64 0] 37 _ s0.symm
  have B0 := Lib.hid (B00.alloc B00.size (.cells #[.int .i64 0] 37))
  clear B00 K00 s0
  generalize (w.alloc (.cells #[.bool false, .slice none 0 0, .slice none 0 0] 30)).alloc (.cells #[.int .i64 0] 37) = wa at *
  rintro e w1 ⟨hb, ⟨ho, rfl⟩ | ⟨x, v, ho, rfl, hv⟩⟩
  · have K1 := Lib.hid (K0.out.low hb)
    have E1 := Lib.hid (E0.out.low hb)
    have B1 := Lib.hid (below_chain B0.out hb)
    have e0 := E1.out.cell 0
    have f0 := E1.out.frozen 0
    simp only [List.getElem?_cons_zero] at e0
    have HO := Lib.hid ho
    refine leaves_cons (f := 119) (args := #[.pointer (some ⟨w.heap.size + 1, 0, none⟩)]) (by simp) (by simp [go_sem]) ?_
    refine (catch_wrong119 ⟨w.heap.size + 1, 0, none⟩ _ _ e0 f0 E1.out.lt).mono ?_
    rintro e u' w'' ⟨rfl, rfl, rfl⟩
    have EZ := (E1.out.alloc (.cells #[] 162)).set 0 (.int .i64 80)
    have KZ := (K1.out.alloc (.cells #[] 162)).other (a := ⟨w.heap.size + 1, 0, none⟩) (.int .i64 80) (by show w.heap.size ≠ w.heap.size + 1; omega)
    have BZ := (B1.out.alloc B1.out.size (.cells #[] 162)).setCell (p := ⟨w.heap.size + 1, 0, none⟩) (Nat.le_succ _) (.int .i64 80)
    exact ⟨_, results_two rfl _ _ w.heap.size (w.heap.size + 1) 30 _ _ (.int .i64 80) rfl rfl KZ (load37 (by rw [EZ.cell 0]; rfl)) Tryz.underlying30 rfl size30', BZ, .inl ⟨HO.out, rfl⟩⟩
  · obtain ⟨u1, u2, rfl, h1, h2⟩ := hv
    obtain ⟨a1, c1, rfl⟩ := ownG_slice h1
    obtain ⟨a2, c2, rfl⟩ := ownG_slice h2
    have K1 := Lib.hid (K0.out.low hb)
    have E1 := Lib.hid (E0.out.low hb)
    have B1 := Lib.hid (below_chain B0.out hb)
    have HO := Lib.hid ho
    have O1 := Lib.hid h1
    have O2 := Lib.hid h2
    clear hb ho h1 h2 K0 E0 B0
    have k0 := K1.out.cell 0
    have f0 := K1.out.frozen 0
    have k1 := K1.out.cell 1
    have f1 := K1.out.frozen 1
    have k2 := K1.out.cell 2
    have f2 := K1.out.frozen 2
    have e0 := E1.out.cell 0
    have g0 := E1.out.frozen 0
    simp only [List.getElem?_cons_zero, List.getElem?_cons_succ] at k0 k1 k2 e0
    go_wp2_with fail
    refine leaves_cons (f := 119) (args := #[.pointer (some ⟨w.heap.size + 1, 0, none⟩)]) (by simp) (by simp [go_sem]) ?_
    refine (catch_idle119 ⟨w.heap.size + 1, 0, none⟩ _).mono ?_
    rintro e u' w'' ⟨rfl, rfl, rfl⟩
    have KZ := ((set_three K1.out (.bool x.opq) (.slice a1 x.names.length c1) (.slice a2 x.nums.length c2)).other (a := ⟨w.heap.size + 1, 0, none⟩) (.int .i64 0) (by show w.heap.size ≠ w.heap.size + 1; omega)).alloc (.cells #[] 162)
    have EZ := (((((E1.out).other (a := ⟨w.heap.size, 0, none⟩) (.bool x.opq) (by show w.heap.size + 1 ≠ w.heap.size; omega)).other (a := ⟨w.heap.size, 1, none⟩) (.slice a1 x.names.length c1) (by show w.heap.size + 1 ≠ w.heap.size; omega)).other (a := ⟨w.heap.size, 2, none⟩) (.slice a2 x.nums.length c2) (by show w.heap.size + 1 ≠ w.heap.size; omega)).set 0 (.int .i64 0)).alloc (.cells #[] 162)
    have BY := ((((B1.out).setCell (p := ⟨w.heap.size, 0, none⟩) (Nat.le_refl _) (.bool x.opq)).setCell (p := ⟨w.heap.size, 1, none⟩) (Nat.le_refl _) (.slice a1 x.names.length c1)).setCell (p := ⟨w.heap.size, 2, none⟩) (Nat.le_refl _) (.slice a2 x.nums.length c2)).setCell (p := ⟨w.heap.size + 1, 0, none⟩) (Nat.le_succ _) (.int .i64 0)
    have BZ := BY.alloc BY.size (.cells #[] 162)
    have Y1 := ownG_kept (ownG_kept (ownG_kept (ownG_kept (O1.out) (grownBy_setCell _ w.heap.size 0 (.bool x.opq)) (by omega)) (grownBy_setCell _ w.heap.size 1 (.slice a1 x.names.length c1)) (by omega)) (grownBy_setCell _ w.heap.size 2 (.slice a2 x.nums.length c2)) (by omega)) (grownBy_setCell _ (w.heap.size + 1) 0 (.int .i64 0)) (by omega)
    have Z1 := OwnG.low (row_kept_alloc Y1 (.cells #[] 162)) (Nat.le_add_right w.heap.size 2)
    have Y2 := ownG_kept (ownG_kept (ownG_kept (ownG_kept (O2.out) (grownBy_setCell _ w.heap.size 0 (.bool x.opq)) (by omega)) (grownBy_setCell _ w.heap.size 1 (.slice a1 x.names.length c1)) (by omega)) (grownBy_setCell _ w.heap.size 2 (.slice a2 x.nums.length c2)) (by omega)) (grownBy_setCell _ (w.heap.size + 1) 0 (.int .i64 0)) (by omega)
    have Z2 := OwnG.low (row_kept_alloc Y2 (.cells #[] 162)) (Nat.le_add_right w.heap.size 2)
    exact ⟨_, results_two rfl _ _ w.heap.size (w.heap.size + 1) 30 _ _ (.int .i64 0) rfl rfl KZ (load37 (by rw [EZ.cell 0]; rfl)) Tryz.underlying30 rfl size30', BZ, .inr ⟨_, _, HO.out, rfl, ⟨_, _, rfl, Z1, Z2⟩⟩⟩
set_option maxHeartbeats 2000000 in
set_option maxRecDepth 100000 in
theorem caught_meta (F : FuncId) (caps : Array Value) (w : World) (o : Option MetaP) (hE : ∀ (args : Array Value) (w : World), (callFunc F args).run Tryz.prog w = .ok (.enter F args) w)
    (hF : Calls Tryz.prog F caps ((w.alloc (.cells #[.int .i64 0, .int .i64 0, .int .i64 0, .int .i64 0, .string ⟨#[]⟩, .slice none 0 0, .slice none 0 0] 26)).alloc (.cells #[.int .i64 0] 37)) (TriedG ((w.alloc (.cells #[.int .i64 0, .int .i64 0, .int .i64 0, .int .i64 0, .string ⟨#[]⟩, .slice none 0 0, .slice none 0 0] 26)).alloc (.cells #[.int .i64 0] 37)) (VMeta (w.heap.size + 2)) o)) :
    Calls Tryz.prog 75 #[.func (.func F) #[] caps] w (GetR w (.agg #[.int .i64 0, .int .i64 0, .int .i64 0, .int .i64 0, .string ⟨#[]⟩, .slice none 0 0, .slice none 0 0]) (VMeta w.heap.size) o) := by
  have hmf : ∀ (fn : Fn) (first cap : Array Value) (w : World), (Instr.makeFunc fn first cap).run Tryz.prog w = .ok (.func fn first cap) w := fun _ _ _ _ => rfl
  have HF := Lib.hid hF
  clear hF
  go_enter_defers Tryz.func75, Tryz.ntmps75
  go_wp2_with fail
  refine HF.out.mono ?_
  clear HF
  have B00 := (Below.refl w.heap.size w).alloc (Nat.le_refl _) (.cells #[.int .i64 0, .int .i64 0, .int .i64 0, .int .i64 0, .string ⟨#[]⟩, .slice none 0 0, .slice none 0 0] 26)
  have K00 := Blk.new w [.int .i64 0, .int .i64 0, .int .i64 0, .int .i64 0, .string ⟨#[]⟩, .slice none 0 0, .slice none 0 0] 26 _ rfl
  have s0 : (w.alloc (.cells #[.int .i64 0, .int .i64 0, .int .i64 0, .int .i64 0, .string ⟨#[]⟩, .slice none 0 0, .slice none 0 0] 26)).heap.size = w.heap.size + 1 := by simp
  have K0 : Hid (Blk ((w.alloc (.cells #[.int .i64 0, .int .i64 0, .int .i64 0, .int .i64 0, .string ⟨#[]⟩, .slice none 0 0, .slice none 0 0] 26)).alloc (.cells #[.int .i64 0] 37)) w.heap.size [.int .i64 0, .int .i64 0, .int .i64 0, .int .i64 0, .string ⟨#[]⟩, .slice none 0 0, .slice none 0 0] 26) := K00.alloc _
  have E0 : Hid (Blk ((w.alloc (.cells #[.int .i64 0, .int .i64 0, .int .i64 0, .int .i64 0, .string ⟨#[]⟩, .slice none 0 0, .slice none 0 0] 26)).alloc (.cells #[.int .i64 0] 37)) (w.heap.size + 1) [.int .i64 0] 37) := Blk.new _ [.int .i64 0] 37 _ s0.symm
  have B0 := Lib.hid (B00.alloc B00.size (.cells #[.int .i64 0] 37))
  clear B00 K00 s0
  generalize (w.alloc (.cells #[.int .i64 0, .int .i64 0, .int .i64 0, .int .i64 0, .string ⟨#[]⟩, .slice none 0 0, .slice none 0 0] 26)).alloc (.cells #[.int .i64 0] 37) = wa at *
  rintro e w1 ⟨hb, ⟨ho, rfl⟩ | ⟨x, v, ho, rfl, hv⟩⟩
  · have K1 := Lib.hid (K0.out.low hb)
    have E1 := Lib.hid (E0.out.low hb)
    have B1 := Lib.hid (below_chain B0.out hb)
    have e0 := E1.out.cell 0
    have f0 := E1.out.frozen 0
    simp only [List.getElem?_cons_zero] at e0
    have HO := Lib.hid ho
    refine leaves_cons (f := 111) (args := #[.pointer (some ⟨w.heap.size + 1, 0, none⟩)]) (by simp) (by simp [go_sem]) ?_
    refine (catch_wrong111 ⟨w.heap.size + 1, 0, none⟩ _ _ e0 f0 E1.out.lt).mono ?_
    rintro e u' w'' ⟨rfl, rfl, rfl⟩
    have EZ := (E1.out.alloc (.cells #[] 162)).set 0 (.int .i64 80)
    have KZ := (K1.out.alloc (.cells #[] 162)).other (a := ⟨w.heap.size + 1, 0, none⟩) (.int .i64 80) (by show w.heap.size ≠ w.heap.size + 1; omega)
    have BZ := (B1.out.alloc B1.out.size (.cells #[] 162)).setCell (p := ⟨w.heap.size + 1, 0, none⟩) (Nat.le_succ _) (.int .i64 80)
    exact ⟨_, results_two rfl _ _ w.heap.size (w.heap.size + 1) 26 _ _ (.int .i64 80) rfl rfl KZ (load37 (by rw [EZ.cell 0]; rfl)) Tryz.underlying26 rfl size26', BZ, .inl ⟨HO.out, rfl⟩⟩
  · obtain ⟨u1, u2, rfl, h1, h2⟩ := hv
    obtain ⟨a1, c1, rfl⟩ := ownA_slice h1
    obtain ⟨a2, c2, rfl⟩ := ownG_slice h2
    have K1 := Lib.hid (K0.out.low hb)
    have E1 := Lib.hid (E0.out.low hb)
    have B1 := Lib.hid (below_chain B0.out hb)
    have HO := Lib.hid ho
    have O1 := Lib.hid h1
    have O2 := Lib.hid h2
    clear hb ho h1 h2 K0 E0 B0
    have k0 := K1.out.cell 0
    have f0 := K1.out.frozen 0
    have k1 := K1.out.cell 1
    have f1 := K1.out.frozen 1
    have k2 := K1.out.cell 2
    have f2 := K1.out.frozen 2
    have k3 := K1.out.cell 3
    have f3 := K1.out.frozen 3
    have k4 := K1.out.cell 4
    have f4 := K1.out.frozen 4
    have k5 := K1.out.cell 5
    have f5 := K1.out.frozen 5
    have k6 := K1.out.cell 6
    have f6 := K1.out.frozen 6
    have e0 := E1.out.cell 0
    have g0 := E1.out.frozen 0
    simp only [List.getElem?_cons_zero, List.getElem?_cons_succ] at k0 k1 k2 k3 k4 k5 k6 e0
    go_wp2_with fail
    refine leaves_cons (f := 111) (args := #[.pointer (some ⟨w.heap.size + 1, 0, none⟩)]) (by simp) (by simp [go_sem]) ?_
    refine (catch_idle111 ⟨w.heap.size + 1, 0, none⟩ _).mono ?_
    rintro e u' w'' ⟨rfl, rfl, rfl⟩
    have KZ := ((set_seven K1.out (.int .i64 x.kind) (.int .i64 x.mode) (.int .i64 x.links) (.int .i64 x.size) (.string x.target) (.slice a1 x.attrs.length c1) (.slice a2 x.refs.length c2)).other (a := ⟨w.heap.size + 1, 0, none⟩) (.int .i64 0) (by show w.heap.size ≠ w.heap.size + 1; omega)).alloc (.cells #[] 162)
    have EZ := (((((((((E1.out).other (a := ⟨w.heap.size, 0, none⟩) (.int .i64 x.kind) (by show w.heap.size + 1 ≠ w.heap.size; omega)).other (a := ⟨w.heap.size, 1, none⟩) (.int .i64 x.mode) (by show w.heap.size + 1 ≠ w.heap.size; omega)).other (a := ⟨w.heap.size, 2, none⟩) (.int .i64 x.links) (by show w.heap.size + 1 ≠ w.heap.size; omega)).other (a := ⟨w.heap.size, 3, none⟩) (.int .i64 x.size) (by show w.heap.size + 1 ≠ w.heap.size; omega)).other (a := ⟨w.heap.size, 4, none⟩) (.string x.target) (by show w.heap.size + 1 ≠ w.heap.size; omega)).other (a := ⟨w.heap.size, 5, none⟩) (.slice a1 x.attrs.length c1) (by show w.heap.size + 1 ≠ w.heap.size; omega)).other (a := ⟨w.heap.size, 6, none⟩) (.slice a2 x.refs.length c2) (by show w.heap.size + 1 ≠ w.heap.size; omega)).set 0 (.int .i64 0)).alloc (.cells #[] 162)
    have BY := ((((((((B1.out).setCell (p := ⟨w.heap.size, 0, none⟩) (Nat.le_refl _) (.int .i64 x.kind)).setCell (p := ⟨w.heap.size, 1, none⟩) (Nat.le_refl _) (.int .i64 x.mode)).setCell (p := ⟨w.heap.size, 2, none⟩) (Nat.le_refl _) (.int .i64 x.links)).setCell (p := ⟨w.heap.size, 3, none⟩) (Nat.le_refl _) (.int .i64 x.size)).setCell (p := ⟨w.heap.size, 4, none⟩) (Nat.le_refl _) (.string x.target)).setCell (p := ⟨w.heap.size, 5, none⟩) (Nat.le_refl _) (.slice a1 x.attrs.length c1)).setCell (p := ⟨w.heap.size, 6, none⟩) (Nat.le_refl _) (.slice a2 x.refs.length c2)).setCell (p := ⟨w.heap.size + 1, 0, none⟩) (Nat.le_succ _) (.int .i64 0)
    have BZ := BY.alloc BY.size (.cells #[] 162)
    have Y1 := OwnA.kept (OwnA.kept (OwnA.kept (OwnA.kept (OwnA.kept (OwnA.kept (OwnA.kept (OwnA.kept (O1.out) (grownBy_setCell _ w.heap.size 0 (.int .i64 x.kind)) (by omega)) (grownBy_setCell _ w.heap.size 1 (.int .i64 x.mode)) (by omega)) (grownBy_setCell _ w.heap.size 2 (.int .i64 x.links)) (by omega)) (grownBy_setCell _ w.heap.size 3 (.int .i64 x.size)) (by omega)) (grownBy_setCell _ w.heap.size 4 (.string x.target)) (by omega)) (grownBy_setCell _ w.heap.size 5 (.slice a1 x.attrs.length c1)) (by omega)) (grownBy_setCell _ w.heap.size 6 (.slice a2 x.refs.length c2)) (by omega)) (grownBy_setCell _ (w.heap.size + 1) 0 (.int .i64 0)) (by omega)
    have Z1 := OwnA.low (OwnA.alloc Y1 (.cells #[] 162)) (Nat.le_add_right w.heap.size 2)
    have Y2 := ownG_kept (ownG_kept (ownG_kept (ownG_kept (ownG_kept (ownG_kept (ownG_kept (ownG_kept (O2.out) (grownBy_setCell _ w.heap.size 0 (.int .i64 x.kind)) (by omega)) (grownBy_setCell _ w.heap.size 1 (.int .i64 x.mode)) (by omega)) (grownBy_setCell _ w.heap.size 2 (.int .i64 x.links)) (by omega)) (grownBy_setCell _ w.heap.size 3 (.int .i64 x.size)) (by omega)) (grownBy_setCell _ w.heap.size 4 (.string x.target)) (by omega)) (grownBy_setCell _ w.heap.size 5 (.slice a1 x.attrs.length c1)) (by omega)) (grownBy_setCell _ w.heap.size 6 (.slice a2 x.refs.length c2)) (by omega)) (grownBy_setCell _ (w.heap.size + 1) 0 (.int .i64 0)) (by omega)
    have Z2 := OwnG.low (row_kept_alloc Y2 (.cells #[] 162)) (Nat.le_add_right w.heap.size 2)
    exact ⟨_, results_two rfl _ _ w.heap.size (w.heap.size + 1) 26 _ _ (.int .i64 0) rfl rfl KZ (load37 (by rw [EZ.cell 0]; rfl)) Tryz.underlying26 rfl size26', BZ, .inr ⟨_, _, HO.out, rfl, ⟨_, _, rfl, Z1, Z2⟩⟩⟩
theorem rdr_new {w w0 : World} {ao : Option Addr} {l : List UInt8} {m c : Nat} (h : w0 = w) (hb : Byt w ao l) (hn : ao = none → c = 0) (hl : l.length = m) (hc : m ≤ c) (hm : c ≤ 9223372036854775807) (h47 : m ≤ 140737488355328) (hf : ∀ a, ao = some a → a.block < w.heap.size) (he : ErrT w) (h1 : 1 < w.heap.size) :
    Rdr (w0.alloc (.cells #[.slice ao m c] 127)) w0.heap.size l := by
  subst h
  exact ⟨ao, m, c, { blk := Blk.new _ [.slice ao m c] 127 _ rfl, byt := hb.below ((Below.refl _ _).alloc (Nat.le_refl _) _), hn := hn, len := hl, cap := hc, max := hm, most := h47, far := hf, err := he.alloc _, one := h1 }⟩
open Classical in
theorem whole_none {α : Type} {p : List UInt8 → Option (α × List UInt8)} {may : α → Prop} {l : List UInt8} (h : p l = none) : whole p may l = none := by rw [whole, h]
open Classical in
theorem whole_some {α : Type} {p : List UInt8 → Option (α × List UInt8)} {may : α → Prop} {l r : List UInt8} {x : α} (h : p l = some (x, r)) : whole p may l = if r = [] ∧ may x then some x else none := by rw [whole, h]
theorem enters102 (args : Array Value) (w : World) : (callFunc 102 args).run Tryz.prog w = .ok (.enter 102 args) w := by kernel_rfl
set_option maxHeartbeats 4000000 in
set_option maxRecDepth 100000 in
open Classical in
theorem cloget_root (ao : Option Addr) (m c : Nat) (gb gf gc : Nat) (l : List UInt8) (w : World) (hgb : Blk w gb [.slice ao m c] 36) (hgf : Blk w gf [.func (.func 58) #[] #[]] 111) (hgc : Blk w gc [.func (.func 39) #[] #[]] 88)
    (hb : Byt w ao l) (hn : ao = none → c = 0) (hl : l.length = m) (hc : m ≤ c) (hm : c ≤ 9223372036854775807) (h47 : m ≤ 140737488355328) (hf : ∀ a, ao = some a → a.block < w.heap.size) (he : ErrT w) :
    Calls Tryz.prog 102 #[.pointer (some ⟨gb, 0, none⟩), .pointer (some ⟨gf, 0, none⟩), .pointer (some ⟨gc, 0, none⟩)] w (TriedG w (VRoot w.heap.size) (whole pRootP OkRoot l)) := by
  obtain ⟨w0, hw0⟩ : ∃ w0, w0 = w.alloc (.cells #[.int .i64 0, .slice none 0 0] 35) := ⟨_, rfl⟩
  obtain ⟨w1, hw1⟩ : ∃ w1, w1 = w0.alloc (.cells #[.slice ao m c] 127) := ⟨_, rfl⟩
  have s0 : w0.heap.size = w.heap.size + 1 := by rw [hw0]; simp
  have s1 : w1.heap.size = w.heap.size + 2 := by rw [hw1]; simp [s0]
  have b0 : Below w.heap.size w w0 := by rw [hw0]; exact (Below.refl _ w).alloc (Nat.le_refl _) _
  have b1 : Below w.heap.size w w1 := by rw [hw1]; exact b0.alloc b0.size _
  have K0 : Blk w0 w.heap.size [.int .i64 0, .slice none 0 0] 35 := by rw [hw0]; exact Blk.new w [.int .i64 0, .slice none 0 0] 35 _ rfl
  have K1 : Hid (Blk w1 w.heap.size [.int .i64 0, .slice none 0 0] 35) := by show Blk _ _ _ _; rw [hw1]; exact K0.alloc _
  have rd : Rdr w1 (w.heap.size + 1) l := by
    have h := rdr_new (w := w0) (w0 := w0) rfl (hb.below b0) hn hl hc hm h47 (fun a ha => by have := hf a ha; omega) (he.below b0) (by have := he.pos; omega)
    rw [s0, ← hw1] at h
    exact h
  have C := Lib.hid (fields_root (w.heap.size + 1) l w1 rd)
  have B1 := Lib.hid b1
  have S1 := Lib.hid s1
  have HW0 := Lib.hid hw0
  have HW1 := Lib.hid hw1
  have KC := Lib.hid (hgc.low b1)
  have cf1 := (hgf.low b1).cell 0
  have GC := Lib.hid hgc.lt
  have cb0 := (hgb.low b0).cell 0
  simp only [List.getElem?_cons_zero] at cb0 cf1
  rw [hw1, hw0] at cf1
  rw [hw0] at cb0
  clear hgb hgf hgc hb hn hl hc hm h47 hf he s0 s1 b0 b1 K0 rd hw0 hw1
  go_enter Tryz.func102, Tryz.ntmps102
  go_wp2_with fail
  rw [← HW0.out, ← HW1.out]
  clear cb0 cf1
  refine C.out.mono ?_
  clear C
  rintro e w2 ⟨hg, ⟨ho, rfl⟩ | ⟨x, r, v, ho, rfl, hv, hr⟩⟩
  · exact ⟨rfl, B1.out.grown hg B1.out.size (fun j hj => by injection hj with hj; omega), .inl ⟨whole_none ho, rfl⟩⟩
  obtain ⟨u1, rfl, h1⟩ := hv
  obtain ⟨a1, c1, rfl⟩ := ownG_slice h1
  obtain ⟨aR, mR, cR, RP⟩ := hr
  have gc0 := GC.out
  have s1 := S1.out
  have B2 := Lib.hid (B1.out.grown hg B1.out.size (fun j hj => by injection hj with hj; omega))
  have K2 := Lib.hid (blk_grown K1.out hg (by omega))
  have KC2 := Lib.hid (blk_grown KC.out hg (by omega))
  have S2 : w.heap.size + 2 ≤ w2.heap.size := by have := hg.size; omega
  have LAWOK := Lib.hid (((law_rootP l x r).1 ho).1)
  have HO := Lib.hid (whole_some (may := OkRoot) ho)
  have H1 := Lib.hid h1
  obtain ⟨w3, hw3⟩ : ∃ w3, w3 = w2.alloc (.cells #[.int .i64 x.next, .slice a1 x.pages.length c1] 35) := ⟨_, rfl⟩
  have B23 : Below w2.heap.size w2 w3 := by rw [hw3]; exact (Below.refl _ w2).alloc (Nat.le_refl _) _
  have KX : Hid (Blk w3 w2.heap.size [.int .i64 x.next, .slice a1 x.pages.length c1] 35) := by show Blk _ _ _ _; rw [hw3]; exact Blk.new w2 [.int .i64 x.next, .slice a1 x.pages.length c1] 35 _ rfl
  have K3 := Lib.hid (K2.out.low B23)
  have KC3 := Lib.hid (KC2.out.low B23)
  have B3 := Lib.hid (below_chain B2.out B23)
  have d0 := (RP.grown B23).blk.cell 0
  simp only [List.getElem?_cons_zero] at d0
  rw [hw3] at d0
  have HW3 := Lib.hid hw3
  have RL := Lib.hid RP.len
  clear hg ho RP K1 K2 KC KC2 hw3 h1
  by_cases hm : mR = 0
  · have t1 : ((mR : Int) == 0) = true := by simp [hm]
    have t2 : (mR == 0) = true := by simp [hm]
    have RN : Hid (r = []) := List.eq_nil_of_length_eq_zero (by rw [RL.out, hm])
    obtain ⟨k1, k2, e1, k3, k4, k5, k6⟩ := ownG_srw H1.out
    obtain ⟨rfl, rfl⟩ : a1 = k1 ∧ c1 = k2 := by injection e1 with e1 _ e2; exact ⟨e1, e2⟩
    have CK := Lib.hid (fun W (hb : Below w3.heap.size w3 W) => checkroot_any x.next a1 x.pages.length c1 x.pages W ((k6.below B23).below hb) rfl k3 k4 (fun s hs => by have := key_size s (LAWOK.out.2.2 s hs); omega))
    clear hm
    go_wp2_with fail
    refine (need_yes _).mono ?_
    rintro e w4 ⟨rfl, rfl⟩
    rw [← HW3.out]
    clear d0 HW3
    have c0 := KC3.out.cell 0
    have k0 := KX.out.cell 0
    have k1 := KX.out.cell 1
    simp only [List.getElem?_cons_zero, List.getElem?_cons_succ] at c0 k0 k1
    go_wp2_with fail
    refine (CK.out w3 (Below.refl _ _)).mono ?_
    clear CK
    rintro e w4 ⟨hb4, ⟨hs, rfl⟩ | ⟨hs, rfl⟩⟩
    rotate_left
    · exact ⟨rfl, below_chain B3.out hb4, .inl ⟨by rw [HO.out, if_neg (fun h => hs h.2)], rfl⟩⟩
    have B4 := Lib.hid (below_chain B3.out hb4)
    have K4 := Lib.hid (K3.out.low hb4)
    have KX4 := Lib.hid (KX.out.low hb4)
    have HO2 : Hid (whole pRootP OkRoot l = some x) := by show _ = _; rw [HO.out, if_pos ⟨RN.out, hs⟩]
    have H14 := Lib.hid (ownG_below (ownG_below H1.out B23) hb4)
    clear hs hb4 k0 k1 c0 K3 KX
    have k0 := KX4.out.cell 0
    have z0 := K4.out.cell 0
    have f0 := K4.out.frozen 0
    have k1 := KX4.out.cell 1
    have z1 := K4.out.cell 1
    have f1 := K4.out.frozen 1
    simp only [List.getElem?_cons_zero, List.getElem?_cons_succ] at k0 z0 k1 z1
    go_wp2_with fail
    have KZ := set_two K4.out (.int .i64 x.next) (.slice a1 x.pages.length c1)
    have BZ := ((B4.out).setCell (p := ⟨w.heap.size, 0, none⟩) (Nat.le_refl _) (.int .i64 x.next)).setCell (p := ⟨w.heap.size, 1, none⟩) (Nat.le_refl _) (.slice a1 x.pages.length c1)
    have Z1 := OwnG.low (ownG_kept (ownG_kept (H14.out) (grownBy_setCell _ w.heap.size 0 (.int .i64 x.next)) (by omega)) (grownBy_setCell _ w.heap.size 1 (.slice a1 x.pages.length c1)) (by omega)) (show w.heap.size ≤ w1.heap.size by omega)
    exact bodyPost_ret (results_cell_row rfl _ _ w.heap.size 35 _ (0, 0) _ rfl KZ Tryz.underlying35 rfl size35') rfl ⟨BZ, .inr ⟨_, _, HO2.out, rfl, ⟨_, rfl, Z1⟩⟩⟩
  · have t1 : ((mR : Int) == 0) = false := by simp; omega
    have t2 : (mR == 0) = false := by simp; omega
    have RN : Hid (r ≠ []) := fun h => hm (by rw [← RL.out, h]; rfl)
    have B4 := Lib.hid B3.out
    clear hm B23
    go_wp2_with fail
    refine (need_no _).mono ?_
    rintro e w4 ⟨rfl, rfl⟩
    rw [← HW3.out]
    exact ⟨rfl, B4.out, .inl ⟨by rw [HO.out, if_neg (fun h => RN.out h.1)], rfl⟩⟩
theorem enters98 (args : Array Value) (w : World) : (callFunc 98 args).run Tryz.prog w = .ok (.enter 98 args) w := by kernel_rfl
set_option maxHeartbeats 4000000 in
set_option maxRecDepth 100000 in
open Classical in
theorem cloget_page (ao : Option Addr) (m c : Nat) (gb gf gc : Nat) (l : List UInt8) (w : World) (hgb : Blk w gb [.slice ao m c] 36) (hgf : Blk w gf [.func (.func 55) #[] #[]] 108) (hgc : Blk w gc [.func (.func 37) #[] #[]] 85)
    (hb : Byt w ao l) (hn : ao = none → c = 0) (hl : l.length = m) (hc : m ≤ c) (hm : c ≤ 9223372036854775807) (h47 : m ≤ 140737488355328) (hf : ∀ a, ao = some a → a.block < w.heap.size) (he : ErrT w) :
    Calls Tryz.prog 98 #[.pointer (some ⟨gb, 0, none⟩), .pointer (some ⟨gf, 0, none⟩), .pointer (some ⟨gc, 0, none⟩)] w (TriedG w (VPage w.heap.size) (whole pPageP OkPage l)) := by
  obtain ⟨w0, hw0⟩ : ∃ w0, w0 = w.alloc (.cells #[.slice none 0 0, .slice none 0 0] 33) := ⟨_, rfl⟩
  obtain ⟨w1, hw1⟩ : ∃ w1, w1 = w0.alloc (.cells #[.slice ao m c] 127) := ⟨_, rfl⟩
  have s0 : w0.heap.size = w.heap.size + 1 := by rw [hw0]; simp
  have s1 : w1.heap.size = w.heap.size + 2 := by rw [hw1]; simp [s0]
  have b0 : Below w.heap.size w w0 := by rw [hw0]; exact (Below.refl _ w).alloc (Nat.le_refl _) _
  have b1 : Below w.heap.size w w1 := by rw [hw1]; exact b0.alloc b0.size _
  have K0 : Blk w0 w.heap.size [.slice none 0 0, .slice none 0 0] 33 := by rw [hw0]; exact Blk.new w [.slice none 0 0, .slice none 0 0] 33 _ rfl
  have K1 : Hid (Blk w1 w.heap.size [.slice none 0 0, .slice none 0 0] 33) := by show Blk _ _ _ _; rw [hw1]; exact K0.alloc _
  have rd : Rdr w1 (w.heap.size + 1) l := by
    have h := rdr_new (w := w0) (w0 := w0) rfl (hb.below b0) hn hl hc hm h47 (fun a ha => by have := hf a ha; omega) (he.below b0) (by have := he.pos; omega)
    rw [s0, ← hw1] at h
    exact h
  have C := Lib.hid (fields_page (w.heap.size + 1) l w1 rd)
  have B1 := Lib.hid b1
  have S1 := Lib.hid s1
  have HW0 := Lib.hid hw0
  have HW1 := Lib.hid hw1
  have KC := Lib.hid (hgc.low b1)
  have cf1 := (hgf.low b1).cell 0
  have GC := Lib.hid hgc.lt
  have cb0 := (hgb.low b0).cell 0
  simp only [List.getElem?_cons_zero] at cb0 cf1
  rw [hw1, hw0] at cf1
  rw [hw0] at cb0
  clear hgb hgf hgc hb hn hl hc hm h47 hf he s0 s1 b0 b1 K0 rd hw0 hw1
  go_enter Tryz.func98, Tryz.ntmps98
  go_wp2_with fail
  rw [← HW0.out, ← HW1.out]
  clear cb0 cf1
  refine C.out.mono ?_
  clear C
  rintro e w2 ⟨hg, ⟨ho, rfl⟩ | ⟨x, r, v, ho, rfl, hv, hr⟩⟩
  · exact ⟨rfl, B1.out.grown hg B1.out.size (fun j hj => by injection hj with hj; omega), .inl ⟨whole_none ho, rfl⟩⟩
  obtain ⟨u1, u2, rfl, h1, h2⟩ := hv
  obtain ⟨a1, c1, rfl⟩ := ownG_slice h1
  obtain ⟨a2, c2, rfl⟩ := ownG_slice h2
  obtain ⟨aR, mR, cR, RP⟩ := hr
  have gc0 := GC.out
  have s1 := S1.out
  have B2 := Lib.hid (B1.out.grown hg B1.out.size (fun j hj => by injection hj with hj; omega))
  have K2 := Lib.hid (blk_grown K1.out hg (by omega))
  have KC2 := Lib.hid (blk_grown KC.out hg (by omega))
  have S2 : w.heap.size + 2 ≤ w2.heap.size := by have := hg.size; omega
  have LAWOK := Lib.hid (((law_pageP l x r).1 ho).1)
  have HO := Lib.hid (whole_some (may := OkPage) ho)
  have H1 := Lib.hid h1
  have H2 := Lib.hid h2
  obtain ⟨w3, hw3⟩ : ∃ w3, w3 = w2.alloc (.cells #[.slice a1 x.nums.length c1, .slice a2 x.keys.length c2] 33) := ⟨_, rfl⟩
  have B23 : Below w2.heap.size w2 w3 := by rw [hw3]; exact (Below.refl _ w2).alloc (Nat.le_refl _) _
  have KX : Hid (Blk w3 w2.heap.size [.slice a1 x.nums.length c1, .slice a2 x.keys.length c2] 33) := by show Blk _ _ _ _; rw [hw3]; exact Blk.new w2 [.slice a1 x.nums.length c1, .slice a2 x.keys.length c2] 33 _ rfl
  have K3 := Lib.hid (K2.out.low B23)
  have KC3 := Lib.hid (KC2.out.low B23)
  have B3 := Lib.hid (below_chain B2.out B23)
  have d0 := (RP.grown B23).blk.cell 0
  simp only [List.getElem?_cons_zero] at d0
  rw [hw3] at d0
  have HW3 := Lib.hid hw3
  have RL := Lib.hid RP.len
  clear hg ho RP K1 K2 KC KC2 hw3 h1 h2
  by_cases hm : mR = 0
  · have t1 : ((mR : Int) == 0) = true := by simp [hm]
    have t2 : (mR == 0) = true := by simp [hm]
    have RN : Hid (r = []) := List.eq_nil_of_length_eq_zero (by rw [RL.out, hm])
    obtain ⟨k1, k2, e1, k3, k4, k5, k6⟩ := ownG_zrw H1.out
    obtain ⟨rfl, rfl⟩ : a1 = k1 ∧ c1 = k2 := by injection e1 with e1 _ e2; exact ⟨e1, e2⟩
    obtain ⟨j1, j2, e2, j3, j4, j5, j6⟩ := ownG_srw H2.out
    obtain ⟨rfl, rfl⟩ : a2 = j1 ∧ c2 = j2 := by injection e2 with e1 _ e2; exact ⟨e1, e2⟩
    have CK := Lib.hid (fun W (hb : Below w3.heap.size w3 W) => checkpage_any a1 a2 x.nums.length c1 x.keys.length c2 x.nums x.keys W ((k6.below B23).below hb) rfl k3 k4 ((j6.below B23).below hb) rfl j3 j4 (fun s hs => by have := key_size s (LAWOK.out.2.2.2 s hs); omega))
    clear hm
    go_wp2_with fail
    refine (need_yes _).mono ?_
    rintro e w4 ⟨rfl, rfl⟩
    rw [← HW3.out]
    clear d0 HW3
    have c0 := KC3.out.cell 0
    have k0 := KX.out.cell 0
    have k1 := KX.out.cell 1
    simp only [List.getElem?_cons_zero, List.getElem?_cons_succ] at c0 k0 k1
    go_wp2_with fail
    refine (CK.out w3 (Below.refl _ _)).mono ?_
    clear CK
    rintro e w4 ⟨hb4, ⟨hs, rfl⟩ | ⟨hs, rfl⟩⟩
    rotate_left
    · exact ⟨rfl, below_chain B3.out hb4, .inl ⟨by rw [HO.out, if_neg (fun h => hs h.2)], rfl⟩⟩
    have B4 := Lib.hid (below_chain B3.out hb4)
    have K4 := Lib.hid (K3.out.low hb4)
    have KX4 := Lib.hid (KX.out.low hb4)
    have HO2 : Hid (whole pPageP OkPage l = some x) := by show _ = _; rw [HO.out, if_pos ⟨RN.out, hs⟩]
    have H14 := Lib.hid (ownG_below (ownG_below H1.out B23) hb4)
    have H24 := Lib.hid (ownG_below (ownG_below H2.out B23) hb4)
    clear hs hb4 k0 k1 c0 K3 KX
    have k0 := KX4.out.cell 0
    have z0 := K4.out.cell 0
    have f0 := K4.out.frozen 0
    have k1 := KX4.out.cell 1
    have z1 := K4.out.cell 1
    have f1 := K4.out.frozen 1
    simp only [List.getElem?_cons_zero, List.getElem?_cons_succ] at k0 z0 k1 z1
    go_wp2_with fail
    have KZ := set_two K4.out (.slice a1 x.nums.length c1) (.slice a2 x.keys.length c2)
    have BZ := ((B4.out).setCell (p := ⟨w.heap.size, 0, none⟩) (Nat.le_refl _) (.slice a1 x.nums.length c1)).setCell (p := ⟨w.heap.size, 1, none⟩) (Nat.le_refl _) (.slice a2 x.keys.length c2)
    have Z1 := OwnG.low (ownG_kept (ownG_kept (H14.out) (grownBy_setCell _ w.heap.size 0 (.slice a1 x.nums.length c1)) (by omega)) (grownBy_setCell _ w.heap.size 1 (.slice a2 x.keys.length c2)) (by omega)) (show w.heap.size ≤ w1.heap.size by omega)
    have Z2 := OwnG.low (ownG_kept (ownG_kept (H24.out) (grownBy_setCell _ w.heap.size 0 (.slice a1 x.nums.length c1)) (by omega)) (grownBy_setCell _ w.heap.size 1 (.slice a2 x.keys.length c2)) (by omega)) (show w.heap.size ≤ w1.heap.size by omega)
    exact bodyPost_ret (results_cell_row rfl _ _ w.heap.size 33 _ (0, 0) _ rfl KZ Tryz.underlying33 rfl size33') rfl ⟨BZ, .inr ⟨_, _, HO2.out, rfl, ⟨_, _, rfl, Z1, Z2⟩⟩⟩
  · have t1 : ((mR : Int) == 0) = false := by simp; omega
    have t2 : (mR == 0) = false := by simp; omega
    have RN : Hid (r ≠ []) := fun h => hm (by rw [← RL.out, h]; rfl)
    have B4 := Lib.hid B3.out
    clear hm B23
    go_wp2_with fail
    refine (need_no _).mono ?_
    rintro e w4 ⟨rfl, rfl⟩
    rw [← HW3.out]
    exact ⟨rfl, B4.out, .inl ⟨by rw [HO.out, if_neg (fun h => RN.out h.1)], rfl⟩⟩
theorem enters92 (args : Array Value) (w : World) : (callFunc 92 args).run Tryz.prog w = .ok (.enter 92 args) w := by kernel_rfl
set_option maxHeartbeats 4000000 in
set_option maxRecDepth 100000 in
open Classical in
theorem cloget_listing (ao : Option Addr) (m c : Nat) (gb gf gc : Nat) (l : List UInt8) (w : World) (hgb : Blk w gb [.slice ao m c] 36) (hgf : Blk w gf [.func (.func 51) #[] #[]] 104) (hgc : Blk w gc [.func (.func 35) #[] #[]] 82)
    (hb : Byt w ao l) (hn : ao = none → c = 0) (hl : l.length = m) (hc : m ≤ c) (hm : c ≤ 9223372036854775807) (h47 : m ≤ 140737488355328) (hf : ∀ a, ao = some a → a.block < w.heap.size) (he : ErrT w) :
    Calls Tryz.prog 92 #[.pointer (some ⟨gb, 0, none⟩), .pointer (some ⟨gf, 0, none⟩), .pointer (some ⟨gc, 0, none⟩)] w (TriedG w (VList w.heap.size) (whole pListP (OkList ltB nameOk) l)) := by
  obtain ⟨w0, hw0⟩ : ∃ w0, w0 = w.alloc (.cells #[.bool false, .slice none 0 0, .slice none 0 0] 30) := ⟨_, rfl⟩
  obtain ⟨w1, hw1⟩ : ∃ w1, w1 = w0.alloc (.cells #[.slice ao m c] 127) := ⟨_, rfl⟩
  have s0 : w0.heap.size = w.heap.size + 1 := by rw [hw0]; simp
  have s1 : w1.heap.size = w.heap.size + 2 := by rw [hw1]; simp [s0]
  have b0 : Below w.heap.size w w0 := by rw [hw0]; exact (Below.refl _ w).alloc (Nat.le_refl _) _
  have b1 : Below w.heap.size w w1 := by rw [hw1]; exact b0.alloc b0.size _
  have K0 : Blk w0 w.heap.size [.bool false, .slice none 0 0, .slice none 0 0] 30 := by rw [hw0]; exact Blk.new w [.bool false, .slice none 0 0, .slice none 0 0] 30 _ rfl
  have K1 : Hid (Blk w1 w.heap.size [.bool false, .slice none 0 0, .slice none 0 0] 30) := by show Blk _ _ _ _; rw [hw1]; exact K0.alloc _
  have rd : Rdr w1 (w.heap.size + 1) l := by
    have h := rdr_new (w := w0) (w0 := w0) rfl (hb.below b0) hn hl hc hm h47 (fun a ha => by have := hf a ha; omega) (he.below b0) (by have := he.pos; omega)
    rw [s0, ← hw1] at h
    exact h
  have C := Lib.hid (fields_listing (w.heap.size + 1) l w1 rd)
  have B1 := Lib.hid b1
  have S1 := Lib.hid s1
  have HW0 := Lib.hid hw0
  have HW1 := Lib.hid hw1
  have KC := Lib.hid (hgc.low b1)
  have cf1 := (hgf.low b1).cell 0
  have GC := Lib.hid hgc.lt
  have cb0 := (hgb.low b0).cell 0
  simp only [List.getElem?_cons_zero] at cb0 cf1
  rw [hw1, hw0] at cf1
  rw [hw0] at cb0
  clear hgb hgf hgc hb hn hl hc hm h47 hf he s0 s1 b0 b1 K0 rd hw0 hw1
  go_enter Tryz.func92, Tryz.ntmps92
  go_wp2_with fail
  rw [← HW0.out, ← HW1.out]
  clear cb0 cf1
  refine C.out.mono ?_
  clear C
  rintro e w2 ⟨hg, ⟨ho, rfl⟩ | ⟨x, r, v, ho, rfl, hv, hr⟩⟩
  · exact ⟨rfl, B1.out.grown hg B1.out.size (fun j hj => by injection hj with hj; omega), .inl ⟨whole_none ho, rfl⟩⟩
  obtain ⟨u1, u2, rfl, h1, h2⟩ := hv
  obtain ⟨a1, c1, rfl⟩ := ownG_slice h1
  obtain ⟨a2, c2, rfl⟩ := ownG_slice h2
  obtain ⟨aR, mR, cR, RP⟩ := hr
  have gc0 := GC.out
  have s1 := S1.out
  have B2 := Lib.hid (B1.out.grown hg B1.out.size (fun j hj => by injection hj with hj; omega))
  have K2 := Lib.hid (blk_grown K1.out hg (by omega))
  have KC2 := Lib.hid (blk_grown KC.out hg (by omega))
  have S2 : w.heap.size + 2 ≤ w2.heap.size := by have := hg.size; omega
  have LAWOK := Lib.hid (((law_listP l x r).1 ho).1)
  have HO := Lib.hid (whole_some (may := (OkList ltB nameOk)) ho)
  have H1 := Lib.hid h1
  have H2 := Lib.hid h2
  obtain ⟨w3, hw3⟩ : ∃ w3, w3 = w2.alloc (.cells #[.bool x.opq, .slice a1 x.names.length c1, .slice a2 x.nums.length c2] 30) := ⟨_, rfl⟩
  have B23 : Below w2.heap.size w2 w3 := by rw [hw3]; exact (Below.refl _ w2).alloc (Nat.le_refl _) _
  have KX : Hid (Blk w3 w2.heap.size [.bool x.opq, .slice a1 x.names.length c1, .slice a2 x.nums.length c2] 30) := by show Blk _ _ _ _; rw [hw3]; exact Blk.new w2 [.bool x.opq, .slice a1 x.names.length c1, .slice a2 x.nums.length c2] 30 _ rfl
  have K3 := Lib.hid (K2.out.low B23)
  have KC3 := Lib.hid (KC2.out.low B23)
  have B3 := Lib.hid (below_chain B2.out B23)
  have d0 := (RP.grown B23).blk.cell 0
  simp only [List.getElem?_cons_zero] at d0
  rw [hw3] at d0
  have HW3 := Lib.hid hw3
  have RL := Lib.hid RP.len
  clear hg ho RP K1 K2 KC KC2 hw3 h1 h2
  by_cases hm : mR = 0
  · have t1 : ((mR : Int) == 0) = true := by simp [hm]
    have t2 : (mR == 0) = true := by simp [hm]
    have RN : Hid (r = []) := List.eq_nil_of_length_eq_zero (by rw [RL.out, hm])
    obtain ⟨k1, k2, e1, k3, k4, k5, k6⟩ := ownG_srw H1.out
    obtain ⟨rfl, rfl⟩ : a1 = k1 ∧ c1 = k2 := by injection e1 with e1 _ e2; exact ⟨e1, e2⟩
    obtain ⟨j1, j2, e2, j3, j4, j5, j6⟩ := ownG_zrw H2.out
    obtain ⟨rfl, rfl⟩ : a2 = j1 ∧ c2 = j2 := by injection e2 with e1 _ e2; exact ⟨e1, e2⟩
    have CK := Lib.hid (fun W (hb : Below w3.heap.size w3 W) => checklisting_any x.opq a1 a2 x.names.length c1 x.nums.length c2 x.names x.nums W ((j6.below B23).below hb) rfl j3 j4 ((k6.below B23).below hb) rfl k3 k4)
    clear hm
    go_wp2_with fail
    refine (need_yes _).mono ?_
    rintro e w4 ⟨rfl, rfl⟩
    rw [← HW3.out]
    clear d0 HW3
    have c0 := KC3.out.cell 0
    have k0 := KX.out.cell 0
    have k1 := KX.out.cell 1
    have k2 := KX.out.cell 2
    simp only [List.getElem?_cons_zero, List.getElem?_cons_succ] at c0 k0 k1 k2
    go_wp2_with fail
    refine (CK.out w3 (Below.refl _ _)).mono ?_
    clear CK
    rintro e w4 ⟨hb4, ⟨hs, rfl⟩ | ⟨hs, rfl⟩⟩
    rotate_left
    · exact ⟨rfl, below_chain B3.out hb4, .inl ⟨by rw [HO.out, if_neg (fun h => hs h.2)], rfl⟩⟩
    have B4 := Lib.hid (below_chain B3.out hb4)
    have K4 := Lib.hid (K3.out.low hb4)
    have KX4 := Lib.hid (KX.out.low hb4)
    have HO2 : Hid (whole pListP (OkList ltB nameOk) l = some x) := by show _ = _; rw [HO.out, if_pos ⟨RN.out, hs⟩]
    have H14 := Lib.hid (ownG_below (ownG_below H1.out B23) hb4)
    have H24 := Lib.hid (ownG_below (ownG_below H2.out B23) hb4)
    clear hs hb4 k0 k1 k2 c0 K3 KX
    have k0 := KX4.out.cell 0
    have z0 := K4.out.cell 0
    have f0 := K4.out.frozen 0
    have k1 := KX4.out.cell 1
    have z1 := K4.out.cell 1
    have f1 := K4.out.frozen 1
    have k2 := KX4.out.cell 2
    have z2 := K4.out.cell 2
    have f2 := K4.out.frozen 2
    simp only [List.getElem?_cons_zero, List.getElem?_cons_succ] at k0 z0 k1 z1 k2 z2
    go_wp2_with fail
    have KZ := set_three K4.out (.bool x.opq) (.slice a1 x.names.length c1) (.slice a2 x.nums.length c2)
    have BZ := (((B4.out).setCell (p := ⟨w.heap.size, 0, none⟩) (Nat.le_refl _) (.bool x.opq)).setCell (p := ⟨w.heap.size, 1, none⟩) (Nat.le_refl _) (.slice a1 x.names.length c1)).setCell (p := ⟨w.heap.size, 2, none⟩) (Nat.le_refl _) (.slice a2 x.nums.length c2)
    have Z1 := OwnG.low (ownG_kept (ownG_kept (ownG_kept (H14.out) (grownBy_setCell _ w.heap.size 0 (.bool x.opq)) (by omega)) (grownBy_setCell _ w.heap.size 1 (.slice a1 x.names.length c1)) (by omega)) (grownBy_setCell _ w.heap.size 2 (.slice a2 x.nums.length c2)) (by omega)) (show w.heap.size ≤ w1.heap.size by omega)
    have Z2 := OwnG.low (ownG_kept (ownG_kept (ownG_kept (H24.out) (grownBy_setCell _ w.heap.size 0 (.bool x.opq)) (by omega)) (grownBy_setCell _ w.heap.size 1 (.slice a1 x.names.length c1)) (by omega)) (grownBy_setCell _ w.heap.size 2 (.slice a2 x.nums.length c2)) (by omega)) (show w.heap.size ≤ w1.heap.size by omega)
    exact bodyPost_ret (results_cell_row rfl _ _ w.heap.size 30 _ (0, 0) _ rfl KZ Tryz.underlying30 rfl size30') rfl ⟨BZ, .inr ⟨_, _, HO2.out, rfl, ⟨_, _, rfl, Z1, Z2⟩⟩⟩
  · have t1 : ((mR : Int) == 0) = false := by simp; omega
    have t2 : (mR == 0) = false := by simp; omega
    have RN : Hid (r ≠ []) := fun h => hm (by rw [← RL.out, h]; rfl)
    have B4 := Lib.hid B3.out
    clear hm B23
    go_wp2_with fail
    refine (need_no _).mono ?_
    rintro e w4 ⟨rfl, rfl⟩
    rw [← HW3.out]
    exact ⟨rfl, B4.out, .inl ⟨by rw [HO.out, if_neg (fun h => RN.out h.1)], rfl⟩⟩
theorem enters76 (args : Array Value) (w : World) : (callFunc 76 args).run Tryz.prog w = .ok (.enter 76 args) w := by kernel_rfl
set_option maxHeartbeats 4000000 in
set_option maxRecDepth 100000 in
open Classical in
theorem cloget_meta (ao : Option Addr) (m c : Nat) (gb gf gc : Nat) (l : List UInt8) (w : World) (hgb : Blk w gb [.slice ao m c] 36) (hgf : Blk w gf [.func (.func 41) #[] #[]] 90) (hgc : Blk w gc [.func (.func 33) #[] #[]] 80)
    (hb : Byt w ao l) (hn : ao = none → c = 0) (hl : l.length = m) (hc : m ≤ c) (hm : c ≤ 9223372036854775807) (h47 : m ≤ 140737488355328) (hf : ∀ a, ao = some a → a.block < w.heap.size) (he : ErrT w) :
    Calls Tryz.prog 76 #[.pointer (some ⟨gb, 0, none⟩), .pointer (some ⟨gf, 0, none⟩), .pointer (some ⟨gc, 0, none⟩)] w (TriedG w (VMeta w.heap.size) (whole pMetaP (OkMeta ltB nameOk) l)) := by
  obtain ⟨w0, hw0⟩ : ∃ w0, w0 = w.alloc (.cells #[.int .i64 0, .int .i64 0, .int .i64 0, .int .i64 0, .string ⟨#[]⟩, .slice none 0 0, .slice none 0 0] 26) := ⟨_, rfl⟩
  obtain ⟨w1, hw1⟩ : ∃ w1, w1 = w0.alloc (.cells #[.slice ao m c] 127) := ⟨_, rfl⟩
  have s0 : w0.heap.size = w.heap.size + 1 := by rw [hw0]; simp
  have s1 : w1.heap.size = w.heap.size + 2 := by rw [hw1]; simp [s0]
  have b0 : Below w.heap.size w w0 := by rw [hw0]; exact (Below.refl _ w).alloc (Nat.le_refl _) _
  have b1 : Below w.heap.size w w1 := by rw [hw1]; exact b0.alloc b0.size _
  have K0 : Blk w0 w.heap.size [.int .i64 0, .int .i64 0, .int .i64 0, .int .i64 0, .string ⟨#[]⟩, .slice none 0 0, .slice none 0 0] 26 := by rw [hw0]; exact Blk.new w [.int .i64 0, .int .i64 0, .int .i64 0, .int .i64 0, .string ⟨#[]⟩, .slice none 0 0, .slice none 0 0] 26 _ rfl
  have K1 : Hid (Blk w1 w.heap.size [.int .i64 0, .int .i64 0, .int .i64 0, .int .i64 0, .string ⟨#[]⟩, .slice none 0 0, .slice none 0 0] 26) := by show Blk _ _ _ _; rw [hw1]; exact K0.alloc _
  have rd : Rdr w1 (w.heap.size + 1) l := by
    have h := rdr_new (w := w0) (w0 := w0) rfl (hb.below b0) hn hl hc hm h47 (fun a ha => by have := hf a ha; omega) (he.below b0) (by have := he.pos; omega)
    rw [s0, ← hw1] at h
    exact h
  have C := Lib.hid (fields_meta (w.heap.size + 1) l w1 rd)
  have B1 := Lib.hid b1
  have S1 := Lib.hid s1
  have HW0 := Lib.hid hw0
  have HW1 := Lib.hid hw1
  have KC := Lib.hid (hgc.low b1)
  have cf1 := (hgf.low b1).cell 0
  have GC := Lib.hid hgc.lt
  have cb0 := (hgb.low b0).cell 0
  simp only [List.getElem?_cons_zero] at cb0 cf1
  rw [hw1, hw0] at cf1
  rw [hw0] at cb0
  clear hgb hgf hgc hb hn hl hc hm h47 hf he s0 s1 b0 b1 K0 rd hw0 hw1
  go_enter Tryz.func76, Tryz.ntmps76
  go_wp2_with fail
  rw [← HW0.out, ← HW1.out]
  clear cb0 cf1
  refine C.out.mono ?_
  clear C
  rintro e w2 ⟨hg, ⟨ho, rfl⟩ | ⟨x, r, v, ho, rfl, hv, hr⟩⟩
  · exact ⟨rfl, B1.out.grown hg B1.out.size (fun j hj => by injection hj with hj; omega), .inl ⟨whole_none ho, rfl⟩⟩
  obtain ⟨u1, u2, rfl, h1, h2⟩ := hv
  obtain ⟨a1, c1, rfl⟩ := ownA_slice h1
  obtain ⟨a2, c2, rfl⟩ := ownG_slice h2
  obtain ⟨aR, mR, cR, RP⟩ := hr
  have gc0 := GC.out
  have s1 := S1.out
  have B2 := Lib.hid (B1.out.grown hg B1.out.size (fun j hj => by injection hj with hj; omega))
  have K2 := Lib.hid (blk_grown K1.out hg (by omega))
  have KC2 := Lib.hid (blk_grown KC.out hg (by omega))
  have S2 : w.heap.size + 2 ≤ w2.heap.size := by have := hg.size; omega
  have LAWOK := Lib.hid (((law_metaP l x r).1 ho).1)
  have HO := Lib.hid (whole_some (may := (OkMeta ltB nameOk)) ho)
  have H1 := Lib.hid h1
  have H2 := Lib.hid h2
  obtain ⟨w3, hw3⟩ : ∃ w3, w3 = w2.alloc (.cells #[.int .i64 x.kind, .int .i64 x.mode, .int .i64 x.links, .int .i64 x.size, .string x.target, .slice a1 x.attrs.length c1, .slice a2 x.refs.length c2] 26) := ⟨_, rfl⟩
  have B23 : Below w2.heap.size w2 w3 := by rw [hw3]; exact (Below.refl _ w2).alloc (Nat.le_refl _) _
  have KX : Hid (Blk w3 w2.heap.size [.int .i64 x.kind, .int .i64 x.mode, .int .i64 x.links, .int .i64 x.size, .string x.target, .slice a1 x.attrs.length c1, .slice a2 x.refs.length c2] 26) := by show Blk _ _ _ _; rw [hw3]; exact Blk.new w2 [.int .i64 x.kind, .int .i64 x.mode, .int .i64 x.links, .int .i64 x.size, .string x.target, .slice a1 x.attrs.length c1, .slice a2 x.refs.length c2] 26 _ rfl
  have K3 := Lib.hid (K2.out.low B23)
  have KC3 := Lib.hid (KC2.out.low B23)
  have B3 := Lib.hid (below_chain B2.out B23)
  have d0 := (RP.grown B23).blk.cell 0
  simp only [List.getElem?_cons_zero] at d0
  rw [hw3] at d0
  have HW3 := Lib.hid hw3
  have RL := Lib.hid RP.len
  clear hg ho RP K1 K2 KC KC2 hw3 h1 h2
  by_cases hm : mR = 0
  · have t1 : ((mR : Int) == 0) = true := by simp [hm]
    have t2 : (mR == 0) = true := by simp [hm]
    have RN : Hid (r = []) := List.eq_nil_of_length_eq_zero (by rw [RL.out, hm])
    obtain ⟨k1, k2, e1, k3, k4, k5, k6⟩ := ownA_arw H1.out (fun y hy => by have h1 := (LAWOK.out.2.2.2.2.2.1.2 y hy).1; have h2 : y.1.data.toList.length = y.1.size := Array.length_toList; omega)
    obtain ⟨rfl, rfl⟩ : a1 = k1 ∧ c1 = k2 := by injection e1 with e1 _ e2; exact ⟨e1, e2⟩
    obtain ⟨j1, j2, e2, j3, j4, j5, j6⟩ := ownG_rrw H2.out (fun y hy => by
      rcases (LAWOK.out.2.2.2.2.2.2.2 y hy).1 with h1 | h1
      · have := key_size y.key h1.1; omega
      · rw [h1.1]; decide)
    obtain ⟨rfl, rfl⟩ : a2 = j1 ∧ c2 = j2 := by injection e2 with e1 _ e2; exact ⟨e1, e2⟩
    have TS : x.target.size ≤ 9223372036854775807 := by have h1 := LAWOK.out.2.2.2.2.1; have h2 : x.target.data.toList.length = x.target.size := Array.length_toList; omega
    have CK := Lib.hid (fun W (hb : Below w3.heap.size w3 W) => checkmeta_any x.kind x.mode x.links x.size x.target a1 a2 x.attrs.length c1 x.refs.length c2 x.attrs x.refs W TS ((k6.below B23).below hb) rfl k3 k4 ((j6.below B23).below hb) rfl j3 j4)
    clear hm
    go_wp2_with fail
    refine (need_yes _).mono ?_
    rintro e w4 ⟨rfl, rfl⟩
    rw [← HW3.out]
    clear d0 HW3
    have c0 := KC3.out.cell 0
    have k0 := KX.out.cell 0
    have k1 := KX.out.cell 1
    have k2 := KX.out.cell 2
    have k3 := KX.out.cell 3
    have k4 := KX.out.cell 4
    have k5 := KX.out.cell 5
    have k6 := KX.out.cell 6
    simp only [List.getElem?_cons_zero, List.getElem?_cons_succ] at c0 k0 k1 k2 k3 k4 k5 k6
    go_wp2_with fail
    refine (CK.out w3 (Below.refl _ _)).mono ?_
    clear CK
    rintro e w4 ⟨hb4, ⟨hs, rfl⟩ | ⟨hs, rfl⟩⟩
    rotate_left
    · exact ⟨rfl, below_chain B3.out hb4, .inl ⟨by rw [HO.out, if_neg (fun h => hs h.2)], rfl⟩⟩
    have B4 := Lib.hid (below_chain B3.out hb4)
    have K4 := Lib.hid (K3.out.low hb4)
    have KX4 := Lib.hid (KX.out.low hb4)
    have HO2 : Hid (whole pMetaP (OkMeta ltB nameOk) l = some x) := by show _ = _; rw [HO.out, if_pos ⟨RN.out, hs⟩]
    have H14 := Lib.hid (OwnA.below (OwnA.below H1.out B23) hb4)
    have H24 := Lib.hid (ownG_below (ownG_below H2.out B23) hb4)
    clear hs hb4 k0 k1 k2 k3 k4 k5 k6 c0 K3 KX
    have k0 := KX4.out.cell 0
    have z0 := K4.out.cell 0
    have f0 := K4.out.frozen 0
    have k1 := KX4.out.cell 1
    have z1 := K4.out.cell 1
    have f1 := K4.out.frozen 1
    have k2 := KX4.out.cell 2
    have z2 := K4.out.cell 2
    have f2 := K4.out.frozen 2
    have k3 := KX4.out.cell 3
    have z3 := K4.out.cell 3
    have f3 := K4.out.frozen 3
    have k4 := KX4.out.cell 4
    have z4 := K4.out.cell 4
    have f4 := K4.out.frozen 4
    have k5 := KX4.out.cell 5
    have z5 := K4.out.cell 5
    have f5 := K4.out.frozen 5
    have k6 := KX4.out.cell 6
    have z6 := K4.out.cell 6
    have f6 := K4.out.frozen 6
    simp only [List.getElem?_cons_zero, List.getElem?_cons_succ] at k0 z0 k1 z1 k2 z2 k3 z3 k4 z4 k5 z5 k6 z6
    go_wp2_with fail
    have KZ := set_seven K4.out (.int .i64 x.kind) (.int .i64 x.mode) (.int .i64 x.links) (.int .i64 x.size) (.string x.target) (.slice a1 x.attrs.length c1) (.slice a2 x.refs.length c2)
    have BZ := (((((((B4.out).setCell (p := ⟨w.heap.size, 0, none⟩) (Nat.le_refl _) (.int .i64 x.kind)).setCell (p := ⟨w.heap.size, 1, none⟩) (Nat.le_refl _) (.int .i64 x.mode)).setCell (p := ⟨w.heap.size, 2, none⟩) (Nat.le_refl _) (.int .i64 x.links)).setCell (p := ⟨w.heap.size, 3, none⟩) (Nat.le_refl _) (.int .i64 x.size)).setCell (p := ⟨w.heap.size, 4, none⟩) (Nat.le_refl _) (.string x.target)).setCell (p := ⟨w.heap.size, 5, none⟩) (Nat.le_refl _) (.slice a1 x.attrs.length c1)).setCell (p := ⟨w.heap.size, 6, none⟩) (Nat.le_refl _) (.slice a2 x.refs.length c2)
    have Z1 := OwnA.low (OwnA.kept (OwnA.kept (OwnA.kept (OwnA.kept (OwnA.kept (OwnA.kept (OwnA.kept (H14.out) (grownBy_setCell _ w.heap.size 0 (.int .i64 x.kind)) (by omega)) (grownBy_setCell _ w.heap.size 1 (.int .i64 x.mode)) (by omega)) (grownBy_setCell _ w.heap.size 2 (.int .i64 x.links)) (by omega)) (grownBy_setCell _ w.heap.size 3 (.int .i64 x.size)) (by omega)) (grownBy_setCell _ w.heap.size 4 (.string x.target)) (by omega)) (grownBy_setCell _ w.heap.size 5 (.slice a1 x.attrs.length c1)) (by omega)) (grownBy_setCell _ w.heap.size 6 (.slice a2 x.refs.length c2)) (by omega)) (show w.heap.size ≤ w1.heap.size by omega)
    have Z2 := OwnG.low (ownG_kept (ownG_kept (ownG_kept (ownG_kept (ownG_kept (ownG_kept (ownG_kept (H24.out) (grownBy_setCell _ w.heap.size 0 (.int .i64 x.kind)) (by omega)) (grownBy_setCell _ w.heap.size 1 (.int .i64 x.mode)) (by omega)) (grownBy_setCell _ w.heap.size 2 (.int .i64 x.links)) (by omega)) (grownBy_setCell _ w.heap.size 3 (.int .i64 x.size)) (by omega)) (grownBy_setCell _ w.heap.size 4 (.string x.target)) (by omega)) (grownBy_setCell _ w.heap.size 5 (.slice a1 x.attrs.length c1)) (by omega)) (grownBy_setCell _ w.heap.size 6 (.slice a2 x.refs.length c2)) (by omega)) (show w.heap.size ≤ w1.heap.size by omega)
    exact bodyPost_ret (results_cell_row rfl _ _ w.heap.size 26 _ (0, 0) _ rfl KZ Tryz.underlying26 rfl size26') rfl ⟨BZ, .inr ⟨_, _, HO2.out, rfl, ⟨_, _, rfl, Z1, Z2⟩⟩⟩
  · have t1 : ((mR : Int) == 0) = false := by simp; omega
    have t2 : (mR == 0) = false := by simp; omega
    have RN : Hid (r ≠ []) := fun h => hm (by rw [← RL.out, h]; rfl)
    have B4 := Lib.hid B3.out
    clear hm B23
    go_wp2_with fail
    refine (need_no _).mono ?_
    rintro e w4 ⟨rfl, rfl⟩
    rw [← HW3.out]
    exact ⟨rfl, B4.out, .inl ⟨by rw [HO.out, if_neg (fun h => RN.out h.1)], rfl⟩⟩
end Go.Proofs.YtpjgkboafmebbaaGreatDoor.Sh
