/-
  A row of rows of bytes, opened as an argument. No other condition.
-/
import Derived.Test.YtmojhnekecbbiaaDoorWl
import Derived.Test.YtmojhnekecbbiaaDoorLc0
namespace Go.Proofs.YtmojhnekecbbiaaDoor.Sh
open Go.ChangeShapes Go.WideShapes Go.ChangeAt Go.RowKit Go.Lib

theorem cells22 : Tryd.prog.cellsOf 22 = 1 := by kernel_rfl
set_option maxRecDepth 100000 in
theorem open_rows {H : Type} {enc : TypeId × Value → H} {W : World} {base : Nat} {v : Value} {d : DataW H} {p : List MemPlace} (hval : Value.okWide Tryd.prog W .any base 33 v) (h : DataW.Trod enc Tryd.prog W 0 (fun _ => true) true 33 v d p) (hlt : ∀ x ∈ p, x.block < W.heap.size) :
    ∃ ao l c, v = .slice ao (l : List (List UInt8)).length c ∧ Rws2 W ao l := by
  obtain ⟨a0, len, cap, rfl⟩ := okWide_slice Tryd.underlying33 hval
  obtain ⟨fuel, hf⟩ := h
  rcases Go.Deep.open_int_rows Tryd.underlying33 Tryd.underlying22 Tryd.underlying5 cells22 cells5 hf with ⟨hcs, hx⟩ | ⟨a, len', cap', A, L, C, Z, hcs, _, hl, hm, hx, hr⟩
  · simp [Value.cells] at hcs
    obtain ⟨rfl, rfl, rfl⟩ := hcs
    exact ⟨none, [], 0, rfl, fun h => absurd rfl h⟩
  · simp [Value.cells] at hcs
    obtain ⟨rfl, rfl, rfl⟩ := hcs
    simp only [Prod.mk.injEq] at hx
    obtain ⟨rfl, rfl⟩ := hx
    have hll : ((List.range len).map fun r => ((Z r).take (L r)).map fun n => UInt8.ofNat n.toNat).length = len := by simp
    refine ⟨some a, (List.range len).map fun r => ((Z r).take (L r)).map fun n => UInt8.ofNat n.toNat, cap, by rw [hll], fun hne => ?_⟩
    have hl0 : len ≠ 0 := fun h0 => hne (by rw [h0]; rfl)
    have hr0 := hr 0 (by omega)
    obtain ⟨b, off, spot⟩ := a
    have hspot : spot = none := by simpa [Addr.add] using World.cell?_spot hr0.1
    subst hspot
    refine ⟨b, off, rfl, hlt (.cell b off) (List.mem_append_left _ (MemPlace.mem_row.2 ⟨0, by omega, by simp⟩)), fun j hj => ?_⟩
    rw [hll] at hj
    obtain ⟨r1, r2, r3, r4, r5, r6, r7⟩ := hr j (by omega)
    rw [add_plain] at r1
    have hg : ((List.range len).map fun r => ((Z r).take (L r)).map fun n => UInt8.ofNat n.toNat)[j]'(by rw [hll]; exact hj) = ((Z j).take (L j)).map fun n => UInt8.ofNat n.toNat := by simp
    rw [hg]
    have hlj : (((Z j).take (L j)).map fun n => UInt8.ofNat n.toNat).length = L j := by rw [List.length_map, List.length_take]; omega
    refine ⟨A j, C j, by rw [hlj]; exact r1, fun hne2 => ?_, r6, by rw [hlj]; exact r2, by unfold maxLen at r3; omega⟩
    have hL0 : L j ≠ 0 := by
      intro h0
      apply hne2
      rw [h0]
      rfl
    cases hA : A j with
    | none => have := r6 hA; omega
    | some a' =>
      obtain ⟨_, hc⟩ := r7 a' hA
      obtain ⟨b', off', spot'⟩ := a'
      have hspot' : spot' = none := by simpa [Addr.add] using World.cell?_spot (hc 0 (by omega))
      subst hspot'
      refine ⟨b', off', rfl, hlt (.cell b' off') (List.mem_append_right _ (List.mem_flatMap.2 ⟨j, List.mem_range.2 (by omega), ?_⟩)), fun i hi => ?_⟩
      · rw [hA]
        exact MemPlace.mem_row.2 ⟨0, by omega, by simp⟩
      · rw [hlj] at hi
        have hci := hc i (by omega)
        rw [add_plain] at hci
        have his : i < (Z j).length := by omega
        have hb := range_u8 r5 i
        have e : (Z j).getD i 0 = (Z j)[i] := by simp [List.getD, List.getElem?_eq_getElem his]
        rw [List.getD_eq_getElem?_getD] at e
        rw [e] at hb
        rw [hci, List.getD_eq_getElem?_getD, e]
        simp only [List.getElem_map, List.getElem_take, UInt8.toNat_ofNat']
        congr 2
        omega
end Go.Proofs.YtmojhnekecbbiaaDoor.Sh
