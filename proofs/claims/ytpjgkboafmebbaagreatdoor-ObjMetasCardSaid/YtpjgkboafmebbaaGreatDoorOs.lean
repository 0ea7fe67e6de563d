/-
  Rows of texts, of numbers, of references and of attributes, and the four objects, opened as arguments. Conditions: each law's own.
-/
import Derived.Test.YtpjgkboafmebbaaGreatDoorWl
import Derived.Test.YtpjgkboafmebbaaGreatDoorOc
import Derived.Lib.SmallJoins
import Derived.SliceStrings
import Derived.Deep.Slices
namespace Go.Proofs.YtpjgkboafmebbaaGreatDoor.Sh
open Go.ChangeShapes Go.WideShapes Go.ChangeAt Go.RowKit Go.Lib Lb

instance : Inhabited RefP := ⟨⟨⟨#[]⟩, 0, 0, 0⟩⟩
theorem cells9 : Tryz.prog.cellsOf 9 = 1 := by kernel_rfl
theorem cells47 : Tryz.prog.cellsOf 47 = 1 := by kernel_rfl
theorem cells3 : Tryz.prog.cellsOf 3 = 1 := by kernel_rfl
theorem cells36 : Tryz.prog.cellsOf 36 = 1 := by kernel_rfl
theorem cells49 : Tryz.prog.cellsOf 49 = 4 := by kernel_rfl
theorem cells95 : Tryz.prog.cellsOf 95 = 2 := by kernel_rfl
section
variable {H : Type} {enc : TypeId × Value → H} {P : Program}
theorem open_byt_f {t e : TypeId} {W : World} {v : Value} {y : DataW H × List MemPlace} {n : Nat} (ht : P.underlying t = some (.slice e)) (he : P.underlying e = some (.int .u8)) (hc : P.cellsOf e = 1)
    (hf : DataW.trod enc P W 0 (fun _ => true) true n t [v] = some y) (hlt : ∀ x ∈ y.2, x.block < W.heap.size) :
    ∃ ao l c, v = .slice ao l.length c ∧ l.length ≤ c ∧ c ≤ 9223372036854775807 ∧ Byt W ao l ∧ (ao = none → c = 0) := by
  obtain ⟨d, p⟩ := y
  rcases open_ints ht he hc hf with ⟨hcs, hx⟩ | ⟨a, len', cap', zs, hcs, _, hl, hm, hz, hx, hcell, hws⟩
  · simp only [List.cons.injEq, and_true] at hcs
    subst hcs
    exact ⟨none, [], 0, rfl, Nat.le_refl _, by omega, byt_nil _ _, fun _ => rfl⟩
  · simp only [List.cons.injEq, and_true] at hcs
    subst hcs
    simp only [Prod.mk.injEq] at hx
    obtain ⟨rfl, rfl⟩ := hx
    simp only [if_true] at hz
    have hll : ((zs.take len').map fun n => UInt8.ofNat n.toNat).length = len' := by rw [List.length_map, List.length_take]; omega
    refine ⟨some a, (zs.take len').map fun n => UInt8.ofNat n.toNat, cap', by rw [hll], by rw [hll]; exact hl, by unfold maxLen at hm; omega, fun hne => ?_, fun h => by (cases h)⟩
    have hl0 : len' ≠ 0 := by
      intro h0
      apply hne
      rw [h0]
      rfl
    obtain ⟨b, off, spot⟩ := a
    have hspot : spot = none := by simpa [Addr.add] using World.cell?_spot (hcell 0 (by omega))
    subst hspot
    refine ⟨b, off, rfl, hlt (.cell b off) (MemPlace.mem_row.2 ⟨0, by omega, by simp⟩), fun j hj => ?_⟩
    rw [hll] at hj
    have hcj := hcell j (by omega)
    rw [add_plain] at hcj
    have hjs : j < zs.length := by omega
    have hb := range_u8 hws j
    have e : zs.getD j 0 = zs[j] := by simp [List.getD, List.getElem?_eq_getElem hjs]
    rw [List.getD_eq_getElem?_getD] at e
    rw [e] at hb
    rw [hcj, List.getD_eq_getElem?_getD, e]
    simp only [List.getElem_map, List.getElem_take, UInt8.toNat_ofNat']
    congr 2
    omega
/-- a row of numbers that came in -/
theorem open_zrw_f {t e : TypeId} {W : World} {v : Value} {y : DataW H × List MemPlace} {n : Nat} (ht : P.underlying t = some (.slice e)) (he : P.underlying e = some (.int .i64)) (hc : P.cellsOf e = 1)
    (hf : DataW.trod enc P W 0 (fun _ => true) true n t [v] = some y) (hlt : ∀ x ∈ y.2, x.block < W.heap.size) :
    ∃ ao l c, v = .slice ao (l : List Int).length c ∧ l.length ≤ c ∧ c ≤ 9223372036854775807 ∧ Zrw W ao l ∧ (ao = none → c = 0) := by
  obtain ⟨d, p⟩ := y
  rcases open_ints ht he hc hf with ⟨hcs, hx⟩ | ⟨a, len', cap', zs, hcs, _, hl, hm, hz, hx, hcell, hws⟩
  · simp only [List.cons.injEq, and_true] at hcs
    subst hcs
    exact ⟨none, [], 0, rfl, Nat.le_refl _, by omega, fun h => absurd rfl h, fun _ => rfl⟩
  · simp only [List.cons.injEq, and_true] at hcs
    subst hcs
    simp only [Prod.mk.injEq] at hx
    obtain ⟨rfl, rfl⟩ := hx
    simp only [if_true] at hz
    have hll : (zs.take len').length = len' := by rw [List.length_take]; omega
    refine ⟨some a, zs.take len', cap', by rw [hll], by rw [hll]; exact hl, by unfold maxLen at hm; omega, fun hne => ?_, fun h => by (cases h)⟩
    have hl0 : len' ≠ 0 := by
      intro h0
      apply hne
      rw [h0]
      rfl
    obtain ⟨b, off, spot⟩ := a
    have hspot : spot = none := by simpa [Addr.add] using World.cell?_spot (hcell 0 (by omega))
    subst hspot
    refine ⟨b, off, rfl, hlt (.cell b off) (MemPlace.mem_row.2 ⟨0, by omega, by simp⟩), fun j hj => ?_⟩
    rw [hll] at hj
    have hcj := hcell j (by omega)
    rw [add_plain] at hcj
    have hjs : j < zs.length := by omega
    rw [hcj, List.getElem_take, List.getD_eq_getElem?_getD, List.getElem?_eq_getElem hjs]
    rfl
/-- a row of texts that came in -/
theorem open_srw_f {t e : TypeId} {W : World} {v : Value} {y : DataW H × List MemPlace} {n : Nat} (ht : P.underlying t = some (.slice e)) (he : P.underlying e = some .string) (hc : P.cellsOf e = 1)
    (hf : DataW.trod enc P W 0 (fun _ => true) true n t [v] = some y) (hlt : ∀ x ∈ y.2, x.block < W.heap.size) :
    ∃ ao l c, v = .slice ao (l : List ByteArray).length c ∧ l.length ≤ c ∧ c ≤ 9223372036854775807 ∧ Srw W ao l ∧ (ao = none → c = 0) ∧ ∀ s ∈ l, s.size ≤ 9223372036854775807 := by
  obtain ⟨d, p⟩ := y
  rcases open_strings ht he hc hf with ⟨hcs, hx⟩ | ⟨a, len', cap', zs, hcs, _, hl, hm, hz, hx, hcell, hws⟩
  · simp only [List.cons.injEq, and_true] at hcs
    subst hcs
    exact ⟨none, [], 0, rfl, Nat.le_refl _, by omega, srw_nil _ _, fun _ => rfl, fun s hs => by cases hs⟩
  · simp only [List.cons.injEq, and_true] at hcs
    subst hcs
    simp only [Prod.mk.injEq] at hx
    obtain ⟨rfl, rfl⟩ := hx
    simp only [if_true] at hz
    have hll : (zs.take len').length = len' := by rw [List.length_take]; omega
    refine ⟨some a, zs.take len', cap', by rw [hll], by rw [hll]; exact hl, by unfold maxLen at hm; omega, fun hne => ?_, fun h => by (cases h), fun s hs => by have := hws s (List.mem_of_mem_take hs); unfold maxLen at this; omega⟩
    have hl0 : len' ≠ 0 := by
      intro h0
      apply hne
      rw [h0]
      rfl
    obtain ⟨b, off, spot⟩ := a
    have hspot : spot = none := by simpa [Addr.add] using World.cell?_spot (hcell 0 (by omega))
    subst hspot
    refine ⟨b, off, rfl, hlt (.cell b off) (MemPlace.mem_row.2 ⟨0, by omega, by simp⟩), fun j hj => ?_⟩
    rw [hll] at hj
    have hcj := hcell j (by omega)
    rw [add_plain] at hcj
    have hjs : j < zs.length := by omega
    rw [hcj, List.getElem_take, List.getD_eq_getElem?_getD, List.getElem?_eq_getElem hjs]
    rfl
end
theorem spot_none {W : World} {a : Addr} {k : Nat} {v : Value} (h : W.cell? ((a.add (0 * k)).add 0) = some v) : a.spot = none := by
  rw [Nat.zero_mul] at h
  simpa [Addr.add] using World.cell?_spot h
theorem add_two (b o i j : Nat) : ((⟨b, o, none⟩ : Addr).add i).add j = ⟨b, o + i + j, none⟩ := by rw [add_plain, add_plain]
section
variable {H : Type} {enc : TypeId × Value → H}
set_option maxRecDepth 100000 in
/-- a row of references that came in -/
theorem open_rrw_f {W : World} {v : Value} {y : DataW H × List MemPlace} {n : Nat} (hf : DataW.trod enc Tryz.prog W 0 (fun _ => true) true n 24 [v] = some y) (hlt : ∀ x ∈ y.2, x.block < W.heap.size) :
    ∃ ao l c, v = .slice ao (l : List RefP).length c ∧ l.length ≤ c ∧ c ≤ 9223372036854775807 ∧ Rrw W ao l := by
  obtain ⟨d, p⟩ := y
  rcases Go.Deep.open_slice Tryz.underlying24 hf with ⟨hcs, hx⟩ | ⟨a, len, cap, m, n', D, Pl, hcs, _, hl, hm, hmm, hx, each⟩
  · simp only [List.cons.injEq, and_true] at hcs
    subst hcs
    exact ⟨none, [], 0, rfl, Nat.le_refl _, by omega, fun h => absurd rfl h⟩
  · simp only [List.cons.injEq, and_true] at hcs
    subst hcs
    simp only [if_true] at hmm
    subst hmm
    simp only [Prod.mk.injEq] at hx
    obtain ⟨rfl, rfl⟩ := hx
    rw [cells49] at each hlt
    obtain ⟨Y, hY⟩ := Go.Deep.choose_lt (α := RefP) (n := m) (p := fun i r => W.cell? ((a.add (i * 4)).add 0) = some (.string r.key) ∧ W.cell? ((a.add (i * 4)).add 1) = some (.int .i64 r.lower) ∧ W.cell? ((a.add (i * 4)).add 2) = some (.int .i64 r.off) ∧ W.cell? ((a.add (i * 4)).add 3) = some (.int .i64 r.n) ∧ r.key.size ≤ 9223372036854775807) (fun i hi => by
      obtain ⟨cs', h1, h2⟩ := each i hi
      obtain ⟨_, hlen, hc⟩ := World.cells?_some h1
      match cs', hlen with
      | [c0, c1, c2, c3], _ =>
        obtain ⟨y0, y1, y2, y3, k, _, _, t0, t1, t2, t3⟩ := Go.Joins.trod_struct4 Tryz.underlying49 h2
        simp only [cells47, cells3, List.drop_succ_cons, List.drop_zero, List.take_succ_cons, List.take_zero] at t0 t1 t2 t3
        obtain ⟨s, e0, _, hs⟩ := DataW.trod_string Tryz.underlying47 t0
        obtain ⟨x1, e1, _, _⟩ := DataW.trod_int Tryz.underlying3 t1
        obtain ⟨x2, e2, _, _⟩ := DataW.trod_int Tryz.underlying3 t2
        obtain ⟨x3, e3, _, _⟩ := DataW.trod_int Tryz.underlying3 t3
        simp only [List.cons.injEq, and_true] at e0 e1 e2 e3
        subst e0 e1 e2 e3
        exact ⟨⟨s, x1, x2, x3⟩, hc 0 (by omega), hc 1 (by omega), hc 2 (by omega), hc 3 (by omega), by unfold maxLen at hs; show s.size ≤ _; omega⟩)
    have hll : ((List.range len).map Y).length = len := by simp
    refine ⟨some a, (List.range len).map Y, m, by rw [hll], by rw [hll]; exact hl, by unfold maxLen at hm; omega, fun hne => ?_⟩
    have hl0 : len ≠ 0 := by
      intro h0
      apply hne
      rw [h0]
      rfl
    obtain ⟨b, off, spot⟩ := a
    have hspot : spot = none := spot_none (hY 0 (by omega)).1
    subst hspot
    refine ⟨b, off, rfl, hlt (.cell b off) (List.mem_append_left _ (MemPlace.mem_row.2 ⟨0, by omega, by simp⟩)), fun j x hx => ?_⟩
    have hj : j < len := by
      have := (List.getElem?_eq_some_iff.1 hx).1
      rw [hll] at this
      exact this
    have e : Y j = x := by
      rw [List.getElem?_map, List.getElem?_range hj] at hx
      exact Option.some.inj hx
    have h := hY j (by omega)
    simp only [add_two] at h
    rw [e] at h
    exact h
set_option maxRecDepth 100000 in
/-- a row of attributes that came in -/
theorem open_arw_f {W : World} {v : Value} {y : DataW H × List MemPlace} {n : Nat} (hf : DataW.trod enc Tryz.prog W 0 (fun _ => true) true n 23 [v] = some y) (hlt : ∀ x ∈ y.2, x.block < W.heap.size) :
    ∃ ao l c, v = .slice ao (l : List (ByteArray × List UInt8)).length c ∧ l.length ≤ c ∧ c ≤ 9223372036854775807 ∧ Arw W ao l := by
  obtain ⟨d, p⟩ := y
  rcases Go.Deep.open_slice Tryz.underlying23 hf with ⟨hcs, hx⟩ | ⟨a, len, cap, m, n', D, Pl, hcs, _, hl, hm, hmm, hx, each⟩
  · simp only [List.cons.injEq, and_true] at hcs
    subst hcs
    exact ⟨none, [], 0, rfl, Nat.le_refl _, by omega, fun h => absurd rfl h⟩
  · simp only [List.cons.injEq, and_true] at hcs
    subst hcs
    simp only [if_true] at hmm
    subst hmm
    simp only [Prod.mk.injEq] at hx
    obtain ⟨rfl, rfl⟩ := hx
    rw [cells95] at each hlt
    obtain ⟨Y, hY⟩ := Go.Deep.choose_lt (α := ByteArray × List UInt8) (n := m) (p := fun i x => W.cell? ((a.add (i * 2)).add 0) = some (.string x.1) ∧ x.1.size ≤ 9223372036854775807 ∧
        ∃ ad q c, W.cell? ((a.add (i * 2)).add 1) = some (.slice ad q c) ∧ x.2.length = q ∧ q ≤ c ∧ c ≤ 9223372036854775807 ∧ Byt W ad x.2 ∧ (ad = none → c = 0)) (fun i hi => by
      obtain ⟨cs', h1, h2⟩ := each i hi
      obtain ⟨_, hlen, hc⟩ := World.cells?_some h1
      match cs', hlen with
      | [c0, c1], _ =>
        obtain ⟨y0, y1, k, hxx, _, t0, t1⟩ := trod_struct2 Tryz.underlying95 h2
        simp only [cells9, cells36, List.drop_succ_cons, List.drop_zero, List.take_succ_cons, List.take_zero] at t0 t1
        obtain ⟨s, e0, _, hs⟩ := DataW.trod_string Tryz.underlying9 t0
        obtain ⟨ad, l, c, e1, q1, q2, q3, q4⟩ := open_byt_f Tryz.underlying36 Tryz.underlying5 cells5 t1 (fun x hx => hlt x (List.mem_append_right _ (List.mem_flatMap.2 ⟨i, List.mem_range.2 hi, by
          simp only [Prod.mk.injEq] at hxx
          rw [hxx.2]
          exact List.mem_append_right _ hx⟩)))
        simp only [List.cons.injEq, and_true] at e0
        subst e0 e1
        exact ⟨(s, l), hc 0 (by omega), by unfold maxLen at hs; show s.size ≤ _; omega, ad, _, c, hc 1 (by omega), rfl, q1, q2, q3, q4⟩)
    have hll : ((List.range len).map Y).length = len := by simp
    refine ⟨some a, (List.range len).map Y, m, by rw [hll], by rw [hll]; exact hl, by unfold maxLen at hm; omega, fun hne => ?_⟩
    have hl0 : len ≠ 0 := by
      intro h0
      apply hne
      rw [h0]
      rfl
    obtain ⟨b, off, spot⟩ := a
    have hspot : spot = none := spot_none (hY 0 (by omega)).1
    subst hspot
    refine ⟨b, off, rfl, hlt (.cell b off) (List.mem_append_left _ (MemPlace.mem_row.2 ⟨0, by omega, by simp⟩)), fun j x hx => ?_⟩
    have hj : j < len := by
      have := (List.getElem?_eq_some_iff.1 hx).1
      rw [hll] at this
      exact this
    have e : Y j = x := by
      rw [List.getElem?_map, List.getElem?_range hj] at hx
      exact Option.some.inj hx
    have h := hY j (by omega)
    simp only [add_two] at h
    rw [e] at h
    exact h
end
theorem cells26 : Tryz.prog.cellsOf 26 = 7 := by kernel_rfl
theorem cells30 : Tryz.prog.cellsOf 30 = 3 := by kernel_rfl
theorem cells33 : Tryz.prog.cellsOf 33 = 2 := by kernel_rfl
theorem cells35 : Tryz.prog.cellsOf 35 = 2 := by kernel_rfl
theorem cells22 : Tryz.prog.cellsOf 22 = 1 := by kernel_rfl
theorem cells23 : Tryz.prog.cellsOf 23 = 1 := by kernel_rfl
theorem cells24 : Tryz.prog.cellsOf 24 = 1 := by kernel_rfl
theorem cells27 : Tryz.prog.cellsOf 27 = 1 := by kernel_rfl
theorem cells28 : Tryz.prog.cellsOf 28 = 1 := by kernel_rfl
theorem cells31 : Tryz.prog.cellsOf 31 = 1 := by kernel_rfl
theorem cells4 : Tryz.prog.cellsOf 4 = 1 := by kernel_rfl
section
variable {H : Type} {enc : TypeId × Value → H}
set_option maxRecDepth 100000 in
/-- a node that came in -/
theorem open_meta {W : World} {base : Nat} {v : Value} {d : DataW H} {p : List MemPlace} (hval : Value.okWide Tryz.prog W .any base 26 v) (h : DataW.Trod enc Tryz.prog W 0 (fun _ => true) true 26 v d p) (hlt : ∀ x ∈ p, x.block < W.heap.size) :
    ∃ (k a b d : Int) (t : ByteArray) (av : Option Addr) (la : List (ByteArray × List UInt8)) (ac : Nat) (rv : Option Addr) (lr : List RefP) (rc : Nat), v = .agg #[.int .i64 k, .int .i64 a, .int .i64 b, .int .i64 d, .string t, .slice av la.length ac, .slice rv lr.length rc] ∧ t.size ≤ 9223372036854775807 ∧
      Arw W av la ∧ la.length ≤ ac ∧ ac ≤ 9223372036854775807 ∧ Rrw W rv lr ∧ lr.length ≤ rc ∧ rc ≤ 9223372036854775807 := by
  obtain ⟨cs, rfl, hsz⟩ := okWide_struct Tryz.underlying26 hval
  rw [cells26] at hsz
  obtain ⟨l⟩ := cs
  obtain ⟨fuel, hf⟩ := h
  match l, hsz with
  | [c0, c1, c2, c3, c4, c5, c6], _ =>
    obtain ⟨xs, n, _, hx, _, hlen, hfs⟩ := DataW.trod_struct Tryz.underlying26 hf
    match xs, hlen with
    | [y0, y1, y2, y3, y4, y5, y6], _ =>
      have f0 : DataW.trod enc Tryz.prog W 0 (fun _ => true) true n 22 [c0] = some y0 := by
        have h := hfs 0 _ rfl
        change DataW.trod enc Tryz.prog W 0 (fun _ => true) true n 22 (List.take (Tryz.prog.cellsOf 22) (List.drop 0 [c0, c1, c2, c3, c4, c5, c6])) = some y0 at h
        rw [cells22] at h
        exact h
      have f1 : DataW.trod enc Tryz.prog W 0 (fun _ => true) true n 3 [c1] = some y1 := by
        have h := hfs 1 _ rfl
        change DataW.trod enc Tryz.prog W 0 (fun _ => true) true n 3 (List.take (Tryz.prog.cellsOf 3) (List.drop 1 [c0, c1, c2, c3, c4, c5, c6])) = some y1 at h
        rw [cells3] at h
        exact h
      have f2 : DataW.trod enc Tryz.prog W 0 (fun _ => true) true n 3 [c2] = some y2 := by
        have h := hfs 2 _ rfl
        change DataW.trod enc Tryz.prog W 0 (fun _ => true) true n 3 (List.take (Tryz.prog.cellsOf 3) (List.drop 2 [c0, c1, c2, c3, c4, c5, c6])) = some y2 at h
        rw [cells3] at h
        exact h
      have f3 : DataW.trod enc Tryz.prog W 0 (fun _ => true) true n 3 [c3] = some y3 := by
        have h := hfs 3 _ rfl
        change DataW.trod enc Tryz.prog W 0 (fun _ => true) true n 3 (List.take (Tryz.prog.cellsOf 3) (List.drop 3 [c0, c1, c2, c3, c4, c5, c6])) = some y3 at h
        rw [cells3] at h
        exact h
      have f4 : DataW.trod enc Tryz.prog W 0 (fun _ => true) true n 9 [c4] = some y4 := by
        have h := hfs 4 _ rfl
        change DataW.trod enc Tryz.prog W 0 (fun _ => true) true n 9 (List.take (Tryz.prog.cellsOf 9) (List.drop 4 [c0, c1, c2, c3, c4, c5, c6])) = some y4 at h
        rw [cells9] at h
        exact h
      have f5 : DataW.trod enc Tryz.prog W 0 (fun _ => true) true n 23 [c5] = some y5 := by
        have h := hfs 5 _ rfl
        change DataW.trod enc Tryz.prog W 0 (fun _ => true) true n 23 (List.take (Tryz.prog.cellsOf 23) (List.drop 5 [c0, c1, c2, c3, c4, c5, c6])) = some y5 at h
        rw [cells23] at h
        exact h
      have f6 : DataW.trod enc Tryz.prog W 0 (fun _ => true) true n 24 [c6] = some y6 := by
        have h := hfs 6 _ rfl
        change DataW.trod enc Tryz.prog W 0 (fun _ => true) true n 24 (List.take (Tryz.prog.cellsOf 24) (List.drop 6 [c0, c1, c2, c3, c4, c5, c6])) = some y6 at h
        rw [cells24] at h
        exact h
      simp only [Prod.mk.injEq] at hx
      obtain ⟨k, e0, _, _⟩ := DataW.trod_int Tryz.underlying22 f0
      obtain ⟨a, e1, _, _⟩ := DataW.trod_int Tryz.underlying3 f1
      obtain ⟨b, e2, _, _⟩ := DataW.trod_int Tryz.underlying3 f2
      obtain ⟨z, e3, _, _⟩ := DataW.trod_int Tryz.underlying3 f3
      obtain ⟨t, e4, _, ht⟩ := DataW.trod_string Tryz.underlying9 f4
      obtain ⟨av, la, ac, e5, a1, a2, a3⟩ := open_arw_f f5 (fun x hx2 => hlt x (by rw [hx.2]; simp [hx2]))
      obtain ⟨rv, lr, rc, e6, r1, r2, r3⟩ := open_rrw_f f6 (fun x hx2 => hlt x (by rw [hx.2]; simp [hx2]))
      simp only [List.cons.injEq, and_true] at e0 e1 e2 e3 e4
      subst e0 e1 e2 e3 e4 e5 e6
      exact ⟨k, a, b, z, t, av, la, ac, rv, lr, rc, rfl, by unfold maxLen at ht; omega, a3, a1, a2, r3, r1, r2⟩
set_option maxRecDepth 100000 in
/-- a listing that came in -/
theorem open_listing {W : World} {base : Nat} {v : Value} {d : DataW H} {p : List MemPlace} (hval : Value.okWide Tryz.prog W .any base 30 v) (h : DataW.Trod enc Tryz.prog W 0 (fun _ => true) true 30 v d p) (hlt : ∀ x ∈ p, x.block < W.heap.size) :
    ∃ (o : Bool) (sv : Option Addr) (ls : List ByteArray) (sc : Nat) (zv : Option Addr) (lz : List Int) (zc : Nat), v = .agg #[.bool o, .slice sv ls.length sc, .slice zv lz.length zc] ∧ Srw W sv ls ∧ ls.length ≤ sc ∧ sc ≤ 9223372036854775807 ∧ Zrw W zv lz ∧ lz.length ≤ zc ∧ zc ≤ 9223372036854775807 := by
  obtain ⟨cs, rfl, hsz⟩ := okWide_struct Tryz.underlying30 hval
  rw [cells30] at hsz
  obtain ⟨l⟩ := cs
  obtain ⟨fuel, hf⟩ := h
  match l, hsz with
  | [c0, c1, c2], _ =>
    obtain ⟨xs, n, _, hx, _, hlen, hfs⟩ := DataW.trod_struct Tryz.underlying30 hf
    match xs, hlen with
    | [y0, y1, y2], _ =>
      have f0 : DataW.trod enc Tryz.prog W 0 (fun _ => true) true n 4 [c0] = some y0 := by
        have h := hfs 0 _ rfl
        change DataW.trod enc Tryz.prog W 0 (fun _ => true) true n 4 (List.take (Tryz.prog.cellsOf 4) (List.drop 0 [c0, c1, c2])) = some y0 at h
        rw [cells4] at h
        exact h
      have f1 : DataW.trod enc Tryz.prog W 0 (fun _ => true) true n 27 [c1] = some y1 := by
        have h := hfs 1 _ rfl
        change DataW.trod enc Tryz.prog W 0 (fun _ => true) true n 27 (List.take (Tryz.prog.cellsOf 27) (List.drop 1 [c0, c1, c2])) = some y1 at h
        rw [cells27] at h
        exact h
      have f2 : DataW.trod enc Tryz.prog W 0 (fun _ => true) true n 28 [c2] = some y2 := by
        have h := hfs 2 _ rfl
        change DataW.trod enc Tryz.prog W 0 (fun _ => true) true n 28 (List.take (Tryz.prog.cellsOf 28) (List.drop 2 [c0, c1, c2])) = some y2 at h
        rw [cells28] at h
        exact h
      simp only [Prod.mk.injEq] at hx
      obtain ⟨b, e0, _⟩ := DataW.trod_bool Tryz.underlying4 f0
      obtain ⟨sv, ls, sc, e1, a1, a2, a3, _, _⟩ := open_srw_f Tryz.underlying27 Tryz.underlying9 cells9 f1 (fun x hx2 => hlt x (by rw [hx.2]; simp [hx2]))
      obtain ⟨zv, lz, zc, e2, r1, r2, r3, _⟩ := open_zrw_f Tryz.underlying28 Tryz.underlying3 cells3 f2 (fun x hx2 => hlt x (by rw [hx.2]; simp [hx2]))
      simp only [List.cons.injEq, and_true] at e0
      subst e0 e1 e2
      exact ⟨b, sv, ls, sc, zv, lz, zc, rfl, a3, a1, a2, r3, r1, r2⟩
set_option maxRecDepth 100000 in
/-- a page that came in -/
theorem open_page {W : World} {base : Nat} {v : Value} {d : DataW H} {p : List MemPlace} (hval : Value.okWide Tryz.prog W .any base 33 v) (h : DataW.Trod enc Tryz.prog W 0 (fun _ => true) true 33 v d p) (hlt : ∀ x ∈ p, x.block < W.heap.size) :
    ∃ (zv : Option Addr) (lz : List Int) (zc : Nat) (kv : Option Addr) (lk : List ByteArray) (kc : Nat), v = .agg #[.slice zv lz.length zc, .slice kv lk.length kc] ∧ Zrw W zv lz ∧ lz.length ≤ zc ∧ zc ≤ 9223372036854775807 ∧ Srw W kv lk ∧ lk.length ≤ kc ∧ kc ≤ 9223372036854775807 ∧ ∀ s ∈ lk, s.size ≤ 9223372036854775807 := by
  obtain ⟨cs, rfl, hsz⟩ := okWide_struct Tryz.underlying33 hval
  rw [cells33] at hsz
  obtain ⟨l⟩ := cs
  obtain ⟨fuel, hf⟩ := h
  match l, hsz with
  | [c0, c1], _ =>
    obtain ⟨xs, n, _, hx, _, hlen, hfs⟩ := DataW.trod_struct Tryz.underlying33 hf
    match xs, hlen with
    | [y0, y1], _ =>
      have f0 : DataW.trod enc Tryz.prog W 0 (fun _ => true) true n 28 [c0] = some y0 := by
        have h := hfs 0 _ rfl
        change DataW.trod enc Tryz.prog W 0 (fun _ => true) true n 28 (List.take (Tryz.prog.cellsOf 28) (List.drop 0 [c0, c1])) = some y0 at h
        rw [cells28] at h
        exact h
      have f1 : DataW.trod enc Tryz.prog W 0 (fun _ => true) true n 31 [c1] = some y1 := by
        have h := hfs 1 _ rfl
        change DataW.trod enc Tryz.prog W 0 (fun _ => true) true n 31 (List.take (Tryz.prog.cellsOf 31) (List.drop 1 [c0, c1])) = some y1 at h
        rw [cells31] at h
        exact h
      simp only [Prod.mk.injEq] at hx
      obtain ⟨zv, lz, zc, e0, r1, r2, r3, _⟩ := open_zrw_f Tryz.underlying28 Tryz.underlying3 cells3 f0 (fun x hx2 => hlt x (by rw [hx.2]; simp [hx2]))
      obtain ⟨kv, lk, kc, e1, a1, a2, a3, _, a5⟩ := open_srw_f Tryz.underlying31 Tryz.underlying47 cells47 f1 (fun x hx2 => hlt x (by rw [hx.2]; simp [hx2]))
      subst e0 e1
      exact ⟨zv, lz, zc, kv, lk, kc, rfl, r3, r1, r2, a3, a1, a2, a5⟩
set_option maxRecDepth 100000 in
/-- a root that came in -/
theorem open_root {W : World} {base : Nat} {v : Value} {d : DataW H} {p : List MemPlace} (hval : Value.okWide Tryz.prog W .any base 35 v) (h : DataW.Trod enc Tryz.prog W 0 (fun _ => true) true 35 v d p) (hlt : ∀ x ∈ p, x.block < W.heap.size) :
    ∃ (nx : Int) (kv : Option Addr) (lk : List ByteArray) (kc : Nat), v = .agg #[.int .i64 nx, .slice kv lk.length kc] ∧ Srw W kv lk ∧ lk.length ≤ kc ∧ kc ≤ 9223372036854775807 ∧ ∀ s ∈ lk, s.size ≤ 9223372036854775807 := by
  obtain ⟨cs, rfl, hsz⟩ := okWide_struct Tryz.underlying35 hval
  rw [cells35] at hsz
  obtain ⟨l⟩ := cs
  obtain ⟨fuel, hf⟩ := h
  match l, hsz with
  | [c0, c1], _ =>
    obtain ⟨xs, n, _, hx, _, hlen, hfs⟩ := DataW.trod_struct Tryz.underlying35 hf
    match xs, hlen with
    | [y0, y1], _ =>
      have f0 : DataW.trod enc Tryz.prog W 0 (fun _ => true) true n 3 [c0] = some y0 := by
        have h := hfs 0 _ rfl
        change DataW.trod enc Tryz.prog W 0 (fun _ => true) true n 3 (List.take (Tryz.prog.cellsOf 3) (List.drop 0 [c0, c1])) = some y0 at h
        rw [cells3] at h
        exact h
      have f1 : DataW.trod enc Tryz.prog W 0 (fun _ => true) true n 31 [c1] = some y1 := by
        have h := hfs 1 _ rfl
        change DataW.trod enc Tryz.prog W 0 (fun _ => true) true n 31 (List.take (Tryz.prog.cellsOf 31) (List.drop 1 [c0, c1])) = some y1 at h
        rw [cells31] at h
        exact h
      simp only [Prod.mk.injEq] at hx
      obtain ⟨nx, e0, _, _⟩ := DataW.trod_int Tryz.underlying3 f0
      obtain ⟨kv, lk, kc, e1, a1, a2, a3, _, a5⟩ := open_srw_f Tryz.underlying31 Tryz.underlying47 cells47 f1 (fun x hx2 => hlt x (by rw [hx.2]; simp [hx2]))
      simp only [List.cons.injEq, and_true] at e0
      subst e0 e1
      exact ⟨nx, kv, lk, kc, rfl, a3, a1, a2, a5⟩
end
end Go.Proofs.YtpjgkboafmebbaaGreatDoor.Sh
