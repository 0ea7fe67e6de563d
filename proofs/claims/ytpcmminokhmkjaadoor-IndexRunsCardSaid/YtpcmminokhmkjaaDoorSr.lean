/-
  Rows of entries of one's own as the sort takes them, and back. No condition.
-/
import Derived.Test.YtpcmminokhmkjaaDoorSq
namespace Go.Proofs.YtpcmminokhmkjaaDoor.St
open Go.Shelf Go.RowKit Go.Lib Go.Sort
/-- entries, each with its place -/
def tagd (l : List Ent) : Array TE := (l.zipIdx).toArray
theorem tagd_size (l : List Ent) : (tagd l).size = l.length := by simp [tagd]
theorem tagd_get (l : List Ent) (i : Nat) (h : i < l.length) : (tagd l)[i]! = (l[i]!, i) := by
  rw [getElem!_pos (tagd l) i (by rw [tagd_size]; exact h), getElem!_pos l i h]
  simp [tagd]
theorem swk_below {w0 W : World} {blk off B : Nat} {d : Array TE} (h : SW w0 blk off d W) (h1 : B ≤ blk) (h2 : B ≤ w0.heap.size) : Below B w0 W := by
  obtain ⟨n, os, rfl⟩ := h
  unfold sortWorldK
  have e : Below B w0 (putRowK encT 5 (Sort.ahead w0 n) blk off d) := by
    refine ⟨rfl, rfl, rfl, by rw [size_putRowK]; exact Nat.le_refl _, fun i hi => ?_⟩
    unfold putRowK putRow mapBlock
    simp [Array.getElem?_modify, show ¬ blk = i by omega]
  have := below_grow (B := B) (w := w0) os.toList _ (by rw [size_putRowK]; exact h2) e
  simpa using this
theorem rw_of_own {w : World} {B g c n : Nat} {l : List Ent} (h : OwnE w B (.slice (some ⟨g, 0, none⟩) n c) l) (hn : l.length = n) : RW w g 0 (tagd l) ∧ n ≤ c ∧ B ≤ g := by
  obtain ⟨_, ⟨h0, _⟩ | ⟨g', cap, cur, he, hB, hg, h1, _, hz, ht⟩⟩ := h
  · cases h0
  · injection he with e1 e2 e3
    injection e1 with e1
    injection e1 with e1
    subst e1 e3
    refine ⟨⟨fun _ => rfl, fun x v hv => ?_, fun t ht2 => ?_, (Array.getElem?_eq_some_iff.1 hg).1⟩, by omega, hB⟩
    · exact cs_one [x.1] v (by simpa [cs, encT] using hv)
    · have ht3 : t < l.length * 5 := by simpa [tagd_size] using ht2
      rw [get_flatK _ _ _ t (by rw [tagd_size]; exact ht3), tagd_get l (t / 5) (by omega)]
      have hu : (cs l)[t]? = some ((encE l[t / 5]!)[t % 5]!) := by
        have := cs_get l (t / 5) (by omega) (t % 5) ((encE l[t / 5]!)[t % 5]!) (by rw [getElem!_pos (encE l[t / 5]!) (t % 5) (by show t % 5 < 5; omega)]; exact List.getElem?_eq_getElem _)
        rwa [Nat.div_add_mod' t 5] at this
      have hc : cur[t]? = some ((encE l[t / 5]!)[t % 5]!) := by
        rw [← ht, List.getElem?_take_of_lt (by omega), Array.getElem?_toList] at hu
        exact hu
      refine ⟨?_, ?_⟩
      · simp only [World.cell?, hg]
        simpa [encT] using hc
      · simp [World.frozen?, hg]
end Go.Proofs.YtpcmminokhmkjaaDoor.St
