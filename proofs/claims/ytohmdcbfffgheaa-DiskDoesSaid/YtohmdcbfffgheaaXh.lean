/-
  A row of the statements' own calls (Op), as it comes in. Conditions: each law's own.
-/
import Derived.Test.YtohmdcbfffgheaaXe
import Derived.Test.YtohmdcbfffgheaaWl
import Derived.Deep.Slices
namespace Go.Proofs.Ytohmdcbfffgheaa.Dk
open Go.ChangeShapes Go.WideShapes Go.ChangeAt Go.RowKit Go.Lib Go.ChangeMaps
section
variable {H : Type} {enc : TypeId × Value → H} {P : Program}
/-- a row of ints that came in -/
theorem open_zrw_f {t e : TypeId} {W : World} {v : Value} {y : DataW H × List MemPlace} {n : Nat} (ht : P.underlying t = some (.slice e)) (he : P.underlying e = some (.int .i64)) (hc : P.cellsOf e = 1)
    (hf : DataW.trod enc P W 0 (fun _ => true) true n t [v] = some y) (hlt : ∀ x ∈ y.2, x.block < W.heap.size) :
    ∃ ao l c, v = .slice ao (l : List Int).length c ∧ l.length ≤ c ∧ c ≤ 9223372036854775807 ∧ Zrw W ao l ∧ (ao = none → c = 0) ∧ ∀ x ∈ l, -9223372036854775808 ≤ x ∧ x ≤ 9223372036854775807 := by
  obtain ⟨d, p⟩ := y
  rcases open_ints ht he hc hf with ⟨hcs, hx⟩ | ⟨a, len', cap', zs, hcs, _, hl, hm, hz, hx, hcell, hws⟩
  · simp only [List.cons.injEq, and_true] at hcs
    subst hcs
    exact ⟨none, [], 0, rfl, Nat.le_refl _, by omega, fun h => absurd rfl h, fun _ => rfl, fun x hx => by cases hx⟩
  · simp only [List.cons.injEq, and_true] at hcs
    subst hcs
    simp only [Prod.mk.injEq] at hx
    obtain ⟨rfl, rfl⟩ := hx
    simp only [if_true] at hz
    have hll : (zs.take len').length = len' := by rw [List.length_take]; omega
    refine ⟨some a, zs.take len', cap', by rw [hll], by rw [hll]; exact hl, by unfold maxLen at hm; omega, fun hne => ?_, fun h => by (cases h), fun x hx => bounds_i64 (hws x (List.mem_of_mem_take hx))⟩
    have hl0 : len' ≠ 0 := by
      intro h0
      apply hne
      rw [h0]
      rfl
    obtain ⟨b, off, spot⟩ := a
    have hspot : spot = none := by simpa [Addr.add] using World.cell?_spot (hcell 0 (by omega))
    subst hspot
    refine ⟨b, off, rfl, hlt (.cell b off) (MemPlace.mem_row.2 ⟨0, by omega, by simp⟩), fun j hj => ?_⟩
    rw [hll] at hj
    have hcj := hcell j (by omega)
    rw [add_plain] at hcj
    have hjs : j < zs.length := by omega
    rw [hcj, List.getElem_take, List.getD_eq_getElem?_getD, List.getElem?_eq_getElem hjs]
    rfl
end
/-- a call, as the statements have it -/
structure OpR where
  kind : Int
  at_ : Int
  fill : UInt8
  size : Int
  ka : Option Addr
  keep : List Int
  kc : Nat
instance : Inhabited OpR := ⟨⟨0, 0, 0, 0, none, [], 0⟩⟩
/-- the five cells of a call -/
def OpAt (w : World) (b o : Nat) (x : OpR) : Prop :=
  w.cell? ⟨b, o, none⟩ = some (.int .i64 x.kind) ∧ w.cell? ⟨b, o + 1, none⟩ = some (.int .i64 x.at_) ∧ w.cell? ⟨b, o + 2, none⟩ = some (.int .u8 (x.fill.toNat : Int)) ∧ w.cell? ⟨b, o + 3, none⟩ = some (.int .i64 x.size) ∧
    w.cell? ⟨b, o + 4, none⟩ = some (.slice x.ka x.keep.length x.kc)
/-- what a call may be -/
def OpOk (w : World) (x : OpR) : Prop :=
  -9223372036854775808 ≤ x.at_ ∧ x.at_ ≤ 9223372036854775807 ∧ x.keep.length ≤ x.kc ∧ x.kc ≤ 9223372036854775807 ∧ Zrw w x.ka x.keep ∧ ∀ z ∈ x.keep, -9223372036854775808 ≤ z ∧ z ≤ 9223372036854775807
/-- a row of calls -/
def Ops (w : World) (ao : Option Addr) (L : List OpR) : Prop :=
  (L ≠ [] → ∃ b o, ao = some ⟨b, o, none⟩ ∧ b < w.heap.size ∧ ∀ j x, L[j]? = some x → OpAt w b (o + 5 * j) x) ∧ ∀ x ∈ L, OpOk w x
theorem cells41 : Try.prog.cellsOf 41 = 5 := by kernel_rfl
theorem cells3 : Try.prog.cellsOf 3 = 1 := by kernel_rfl
theorem cells32 : Try.prog.cellsOf 32 = 1 := by kernel_rfl
section
variable {H : Type} {enc : TypeId × Value → H}
set_option maxRecDepth 100000 in
theorem open_op {W : World} {n : Nat} {cs : List Value} {y : DataW H × List MemPlace} (hlen : cs.length = 5) (h : DataW.trod enc Try.prog W 0 (fun _ => true) true n 41 cs = some y) (hlt : ∀ x ∈ y.2, x.block < W.heap.size) :
    ∃ x : OpR, cs = [.int .i64 x.kind, .int .i64 x.at_, .int .u8 (x.fill.toNat : Int), .int .i64 x.size, .slice x.ka x.keep.length x.kc] ∧ OpOk W x := by
  match cs, hlen with
  | [c0, c1, c2, c3, c4], _ =>
    obtain ⟨xs, k, _, hx, _, hxl, hfs⟩ := DataW.trod_struct Try.underlying41 h
    match xs, hxl with
    | [y0, y1, y2, y3, y4], _ =>
      have f0 : DataW.trod enc Try.prog W 0 (fun _ => true) true k 3 [c0] = some y0 := by
        have h := hfs 0 _ rfl
        change DataW.trod enc Try.prog W 0 (fun _ => true) true k 3 (List.take (Try.prog.cellsOf 3) (List.drop 0 [c0, c1, c2, c3, c4])) = some y0 at h
        rw [cells3] at h
        exact h
      have f1 : DataW.trod enc Try.prog W 0 (fun _ => true) true k 3 [c1] = some y1 := by
        have h := hfs 1 _ rfl
        change DataW.trod enc Try.prog W 0 (fun _ => true) true k 3 (List.take (Try.prog.cellsOf 3) (List.drop 1 [c0, c1, c2, c3, c4])) = some y1 at h
        rw [cells3] at h
        exact h
      have f2 : DataW.trod enc Try.prog W 0 (fun _ => true) true k 5 [c2] = some y2 := by
        have h := hfs 2 _ rfl
        change DataW.trod enc Try.prog W 0 (fun _ => true) true k 5 (List.take (Try.prog.cellsOf 5) (List.drop 2 [c0, c1, c2, c3, c4])) = some y2 at h
        rw [cells5] at h
        exact h
      have f3 : DataW.trod enc Try.prog W 0 (fun _ => true) true k 3 [c3] = some y3 := by
        have h := hfs 3 _ rfl
        change DataW.trod enc Try.prog W 0 (fun _ => true) true k 3 (List.take (Try.prog.cellsOf 3) (List.drop 3 [c0, c1, c2, c3, c4])) = some y3 at h
        rw [cells3] at h
        exact h
      have f4 : DataW.trod enc Try.prog W 0 (fun _ => true) true k 32 [c4] = some y4 := by
        have h := hfs 4 _ rfl
        change DataW.trod enc Try.prog W 0 (fun _ => true) true k 32 (List.take (Try.prog.cellsOf 32) (List.drop 4 [c0, c1, c2, c3, c4])) = some y4 at h
        rw [cells32] at h
        exact h
      obtain ⟨z0, e0, _, _⟩ := DataW.trod_int Try.underlying3 f0
      obtain ⟨z1, e1, _, w1⟩ := DataW.trod_int Try.underlying3 f1
      obtain ⟨z2, e2, _, w2⟩ := DataW.trod_int Try.underlying5 f2
      obtain ⟨z3, e3, _, _⟩ := DataW.trod_int Try.underlying3 f3
      obtain ⟨ka, keep, kc, e4, g1, g2, g3, _, g5⟩ := open_zrw_f Try.underlying32 Try.underlying3 cells3 f4 (fun x hx2 => hlt x (by rw [show y.2 = _ from congrArg Prod.snd hx]; simp [hx2]))
      simp only [List.cons.injEq, and_true] at e0 e1 e2 e3
      subst e0 e1 e2 e3 e4
      have b2 := bounds_u8 w2
      refine ⟨⟨z0, z1, UInt8.ofNat z2.toNat, z3, ka, keep, kc⟩, ?_, (bounds_i64 w1).1, (bounds_i64 w1).2, g1, g2, g3, g5⟩
      simp
      omega
set_option maxRecDepth 100000 in
theorem open_ops {W : World} {base : Nat} {v : Value} {d : DataW H} {p : List MemPlace} (hval : Value.okWide Try.prog W .any base 35 v) (h : DataW.Trod enc Try.prog W 0 (fun _ => true) true 35 v d p) (hlt : ∀ x ∈ p, x.block < W.heap.size) :
    ∃ (ao : Option Addr) (L : List OpR) (c : Nat), v = .slice ao L.length c ∧ L.length ≤ c ∧ c ≤ 9223372036854775807 ∧ Ops W ao L := by
  obtain ⟨a0, len, cap, rfl⟩ := okWide_slice Try.underlying35 hval
  obtain ⟨fuel, hf⟩ := h
  rcases Go.Deep.open_slice Try.underlying35 hf with ⟨hcs, hx⟩ | ⟨a, len', cap', m, n, D, Pl, hcs, _, hl, hm, hmm, hx, hel⟩
  · simp [Value.cells] at hcs
    obtain ⟨rfl, rfl, rfl⟩ := hcs
    exact ⟨none, [], 0, rfl, Nat.le_refl _, by omega, fun h => absurd rfl h, fun x hx => by cases hx⟩
  · simp [Value.cells] at hcs
    obtain ⟨rfl, rfl, rfl⟩ := hcs
    simp only [if_true] at hmm
    subst hmm
    simp only [Prod.mk.injEq] at hx
    obtain ⟨rfl, rfl⟩ := hx
    rw [cells41] at hlt
    have each : ∀ i, i < m → ∃ x : OpR, (∀ j, j < 5 → W.cell? (a.add (i * 5 + j)) = [Value.int .i64 x.kind, .int .i64 x.at_, .int .u8 (x.fill.toNat : Int), .int .i64 x.size, .slice x.ka x.keep.length x.kc][j]?) ∧ OpOk W x := fun i hi => by
      obtain ⟨cs', h1, h2⟩ := hel i hi
      rw [cells41] at h1
      obtain ⟨_, hlen, hcell⟩ := World.cells?_some h1
      obtain ⟨x, hx1, hx2⟩ := open_op hlen h2 (fun x hx => hlt x (List.mem_append_right _ (List.mem_flatMap.2 ⟨i, List.mem_range.2 hi, hx⟩)))
      refine ⟨x, fun j hj => ?_, hx2⟩
      have hcj := hcell j hj
      rw [Go.Deep.add_add] at hcj
      rw [← hx1]
      exact hcj
    obtain ⟨q, hq⟩ := Go.Deep.choose_lt each
    have hll : ((List.range len).map q).length = len := by simp
    refine ⟨some a, (List.range len).map q, m, by rw [hll], by rw [hll]; exact hl, by unfold maxLen at hm; omega, fun hne => ?_, fun x hx => ?_⟩
    · have hl0 : 0 < len := by
        rcases Nat.eq_zero_or_pos len with h0 | h0
        · exact absurd (by rw [h0]; rfl) hne
        · exact h0
      obtain ⟨b, off, spot⟩ := a
      have hspot : spot = none := by
        have h1 := (hq 0 (by omega)).1 0 (by omega)
        exact by simpa [Addr.add] using World.cell?_spot h1
      subst hspot
      refine ⟨b, off, rfl, hlt (.cell b off) (List.mem_append_left _ (MemPlace.mem_row.2 ⟨0, by omega, by simp⟩)), fun j x hj => ?_⟩
      rw [List.getElem?_map] at hj
      obtain ⟨i, hi, rfl⟩ := Option.map_eq_some_iff.1 hj
      obtain ⟨hjl, rfl⟩ := List.getElem?_eq_some_iff.1 hi
      simp only [List.length_range] at hjl
      rw [List.getElem_range]
      have h5 := (hq j (by omega)).1
      have g0 := h5 0 (by omega)
      have g1 := h5 1 (by omega)
      have g2 := h5 2 (by omega)
      have g3 := h5 3 (by omega)
      have g4 := h5 4 (by omega)
      simp only [add_plain] at g0 g1 g2 g3 g4
      have ej : j * 5 = 5 * j := Nat.mul_comm _ _
      rw [ej] at g0 g1 g2 g3 g4
      exact ⟨by simpa [Nat.add_assoc] using g0, by simpa [Nat.add_assoc] using g1, by simpa [Nat.add_assoc] using g2, by simpa [Nat.add_assoc] using g3, by simpa [Nat.add_assoc] using g4⟩
    · obtain ⟨j, hj, rfl⟩ := List.mem_map.1 hx
      exact (hq j (by have := List.mem_range.1 hj; omega)).2
end
end Go.Proofs.Ytohmdcbfffgheaa.Dk
