/-
  Slices of rows of entries, appending as one step of a region that draws, and the contract of the document's own with. Conditions: each law's own.
-/
import Derived.Test.YtpcmminokhmkjaaDoorSp
import Derived.Test.YtpcmminokhmkjaaDoorLz
import Derived.Deep.RegionHeld3
import Derived.Deep.RegionLaw
import Derived.WideShapes
namespace Go.Proofs.YtpcmminokhmkjaaDoor.St
open Go.Shelf Go.RowKit Go.Lib Go.Sort Go.WideShapes
theorem add_zero (a : Addr) : a.add 0 = a := by cases a; simp [Addr.add]
theorem toList_inj {a b : ByteArray} (h : a.toList = b.toList) : a = b := by
  rw [toList_data, toList_data] at h
  cases a
  cases b
  congr
  exact Array.toList_inj.1 h
theorem elem22 : Tryd.prog.elem 22 = 31 := by kernel_rfl
set_option maxRecDepth 100000 in
theorem slice_toE (ao : Option Addr) (len c n : Nat) (hn : n ≤ c) (W : World) :
    (Instr.slice 22 (.slice ao len c) none (some (.int .i64 (n : Int))) none).run Tryd.prog W = .ok (.slice ao n c) W := by
  have hs := run_slice_h (P := Tryd.prog) W 22 ao len c (by rw [Tryd.underlying22]; rfl) .i64 (n : Int) (by omega) (by omega)
  rw [hs]
  have e2 : ((n : Int)).toNat = n := by omega
  rw [e2, elem22]
  cases ao with
  | none => simp [Tryd.sizeOf31, sliced, Result.andThen]
  | some a => simp [Tryd.sizeOf31, sliced, Result.andThen, add_zero]
set_option maxRecDepth 100000 in
theorem slice_fromE (ao : Option Addr) (len c n : Nat) (l : List Ent) (h1 : n ≤ len) (h3 : len = l.length) (h4 : ao = none → c = 0) (h5 : len ≤ c) :
    ∃ ao', (∀ W, (Instr.slice 22 (.slice ao len c) (some (.int .i64 (n : Int))) none none).run Tryd.prog W = .ok (.slice ao' (len - n) (c - n)) W) ∧ (∀ w, Erw w ao l → Erw w ao' (l.drop n)) ∧ (ao' = none → c - n = 0) := by
  have hs := fun W => run_slice_l (P := Tryd.prog) W 22 ao len c (by rw [Tryd.underlying22]; rfl) .i64 (n : Int) (by omega) (by omega)
  simp only [elem22, Tryd.sizeOf31, sliced, Result.andThen, Int.toNat_natCast] at hs
  by_cases hcn : c = n
  · refine ⟨ao, fun W => by rw [hs W, if_pos hcn], fun w hb hne => ?_, fun _ => by omega⟩
    exfalso
    apply hne
    apply List.drop_of_length_le
    omega
  · cases ao with
    | none =>
      have := h4 rfl
      omega
    | some a =>
      refine ⟨some (a.add (n * 5)), fun W => by rw [hs W, if_neg hcn]; rfl, fun w hb => ?_, fun h => by cases h⟩
      by_cases hl : l = []
      · subst hl
        rw [List.drop_nil]
        exact erw_nil _ _
      · obtain ⟨b, o, h0, _, _⟩ := hb hl
        injection h0 with h0
        subst h0
        rw [WideShapes.add_plain]
        exact hb.drop n (by omega)
set_option maxRecDepth 100000 in
theorem step_appE {w : World} {ops : Array Oper} {o : Oper} {a : Act} {K : Act → World → Prop} {Q : Exit → Act → World → Prop} {E : Prop} (hgd : o.guard = none) (s x : Operand)
    (ho : o.op = .call { callee := .builtin .append, args := #[s, x], argTypes := #[22, 22] })
    (base : Nat) (v : Value) (xs l : List Ent) (hs : a.eval s = v) (hown : OwnE w base v xs)
    (ao : Option Addr) (m c : Nat) (hx : a.eval x = .slice ao m c) (hr : Erw w ao l) (hn : ao = none → c = 0) (hm : Hid (l.length = m))
    (h47 : xs.length + m ≤ 1099511627776) (hbase : base ≤ w.heap.size)
    (h : ∀ v' w', OwnE w' base v' (xs ++ l) → w.grownBy w' v.ownBlock → K (a.put o.dst v') w') :
    if Region.wanted o (yielded ops a.tmps) = true then Oper.wp Tryd.prog o a w K Q else E := by
  have hm' : l.length = m := hm
  subst hm'
  have hw : Region.wanted o (yielded ops a.tmps) = true := by simp [Region.wanted, hgd]
  rw [if_pos hw]
  obtain ⟨i0, hi, hz0, hz1, hz2⟩ := info_parts info31
  cases ao with
  | some ad =>
    refine wp_append_own w s x 22 ho base 31 i0 (.agg (encT z0).toArray) 5 48 Tryd.underlying22 hi hz0 hz1 hz2 rfl (by decide) v xs.length (cs xs) hs hown ad l.length c (cs l) hx (cs_len l) ?_ (cs_one l)
      (by unfold maxLen; omega) (by omega) hbase (fun v' w' h1 h2 _ => h v' w' (by unfold OwnE; rw [List.length_append, cs_app]; exact h1) h2)
    intro j u hj
    have hjl : j < (cs l).length := (List.getElem?_eq_some_iff.1 hj).1
    obtain ⟨b, o', h0, _, hcell⟩ := hr (by intro h0; rw [h0] at hjl; simp [cs] at hjl)
    injection h0 with h0
    subst h0
    rw [WideShapes.add_plain]
    exact hcell j u hj
  | none =>
    obtain rfl : l = [] := by
      cases l with
      | nil => rfl
      | cons y r =>
        obtain ⟨b, o, h0, _⟩ := hr (by simp)
        cases h0
    have hc := hn rfl
    subst hc
    have hrun := run_append_owned_none (P := Tryd.prog) (w := w) base 22 o.type 31 i0 5 Tryd.underlying22 hi v xs.length (cs xs) hown
    unfold Oper.wp
    have hx0 : a.eval x = .slice none 0 0 := hx
    simp [execOp, ho, resolve, invoke, builtin, hs, hx0, hrun, Result.andThen]
    exact h v w (by simpa using hown) (World.grownBy.refl w _)
theorem ownE_lit (w : World) (l : List Ent) (B : Nat) (hB : B ≤ w.heap.size) (hl : l.length ≤ 1099511627776) : OwnE (w.alloc (.cells (cs l).toArray 31)) B (.slice (some ⟨w.heap.size, 0, none⟩) l.length l.length) l := by
  have h := World.ownsRow_lit (e := 31) (size := 5) w (cs l).toArray l.length hB (by unfold maxLen; omega) (by simp [cs_len])
  simpa [OwnE] using h
theorem ownE_grow {w W W' : World} {G : Nat} {v : Value} {l : List Ent} (h : OwnE W G v l) (hb : Below G w W) (hG : G ≤ W.heap.size) (hg : W.grownBy W' v.ownBlock) : Below G w W' := hb.grown hg hG (fun k hk => (h.lt k hk).1)
theorem erw_one (w : World) (x : Ent) : Erw (w.alloc (.cells (encE x).toArray 31)) (some ⟨w.heap.size, 0, none⟩) [x] := fun _ => by
  refine ⟨w.heap.size, 0, rfl, by simp, fun j u hj => ?_⟩
  rw [World.cell?_alloc_new]
  simpa [cs] using hj
theorem erw_alloc {w : World} {ao : Option Addr} {l : List Ent} (h : Erw w ao l) (o : Obj) : Erw (w.alloc o) ao l := h.below ((Below.refl _ w).alloc (Nat.le_refl _) o)
theorem erw_kept {W W' : World} {b o : Nat} {ob : Option Nat} {l : List Ent} (h : Erw W (some ⟨b, o, none⟩) l) (hg : W.grownBy W' ob) (hne : some b ≠ ob) : Erw W' (some ⟨b, o, none⟩) l := fun h0 => by
  obtain ⟨b', o', h1, h2, h3⟩ := h h0
  injection h1 with h1
  injection h1 with h1 h4
  subst h1
  subst h4
  exact ⟨b, o, rfl, Nat.lt_of_lt_of_le h2 hg.size, fun j u hj => hg.cell (h3 j u hj) hne⟩
def plcE (l : List Ent) (k : ByteArray) : Nat := if plc l k < l.length ∧ l[plc l k]!.key = k then plc l k + 1 else plc l k
/-- a row with an entry -/
def wth (l : List Ent) (x : Ent) : List Ent := l.take (plc l x.key) ++ [x] ++ l.drop (plcE l x.key)
theorem plcE_le (l : List Ent) (k : ByteArray) : plcE l k ≤ l.length := by
  unfold plcE
  have := plc_le l k
  split <;> omega
theorem wth_len (l : List Ent) (x : Ent) : (wth l x).length ≤ l.length + 1 := by
  unfold wth plcE
  have := plc_le l x.key
  simp only [List.length_append, List.length_take, List.length_drop, List.length_singleton]
  split <;> omega
theorem ba_beq (a b : ByteArray) : (a.toList == b.toList) = decide (a = b) := by
  cases h : (a.toList == b.toList) with
  | true => rw [eq_comm, decide_eq_true_iff]; exact toList_inj (eq_of_beq h)
  | false =>
    rw [eq_comm, decide_eq_false_iff_not]
    rintro rfl
    simp at h
end Go.Proofs.YtpcmminokhmkjaaDoor.St
