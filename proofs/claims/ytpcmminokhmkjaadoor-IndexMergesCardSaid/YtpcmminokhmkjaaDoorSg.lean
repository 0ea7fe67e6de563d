/-
  A row of structs, a part of it written over; what CompactFunc keeps of a row. No condition.
-/
import Derived.Test.YtpcmminokhmkjaaDoorSf
import Derived.Lib.SliceRun
namespace Go.Proofs.YtpcmminokhmkjaaDoor.St
open Go.Shelf Go.RowKit Go.Lib Go.Sort
section
variable {α : Type} [Inhabited α]
/-- a row with others written over it, from a place on -/
def layA (d : Array α) (i : Nat) (ys : Array α) : Array α := Array.ofFn (n := d.size) fun q => if i ≤ q.1 ∧ q.1 < i + ys.size then ys[q.1 - i]! else d[q.1]!
@[simp] theorem size_layA (d : Array α) (i : Nat) (ys : Array α) : (layA d i ys).size = d.size := by simp [layA]
theorem get_layA (d : Array α) (i : Nat) (ys : Array α) (q : Nat) (h : q < d.size) : (layA d i ys)[q]! = if i ≤ q ∧ q < i + ys.size then ys[q - i]! else d[q]! := by
  rw [getElem!_pos (layA d i ys) q (by simpa using h), show d[q]! = d[q] from getElem!_pos d q h]
  simp [layA]
theorem setMany_lay (enc : α → List Value) (k : Nat) (d ys : Array α) (i : Nat) : setMany (flatK enc k d) (i * k) (flatK enc k ys).toList = flatK enc k (layA d i ys) := by
  refine ext_get! (by simp) fun t ht => ?_
  have ht' : t < d.size * k := by simpa using ht
  have k0 : 0 < k := by
    rcases Nat.eq_zero_or_pos k with h | h
    · subst h; simp at ht'
    · exact h
  have hq : t / k < d.size := Nat.div_lt_of_lt_mul (by rw [Nat.mul_comm]; exact ht')
  rw [get_setMany _ _ _ t (by simpa using ht'), get_flatK _ _ (layA d i ys) t (by simpa using ht'), get_flatK _ _ d t ht', get_layA _ _ _ _ hq]
  simp only [Array.length_toList, size_flatK]
  have e : i ≤ t / k ↔ i * k ≤ t := Nat.le_div_iff_mul_le k0
  have e2 : t / k < i + ys.size ↔ t < i * k + ys.size * k := by rw [Nat.div_lt_iff_lt_mul k0, Nat.add_mul]
  by_cases c : i * k ≤ t ∧ t < i * k + ys.size * k
  · rw [if_pos c, if_pos ⟨e.2 c.1, e2.2 c.2⟩]
    obtain ⟨u, rfl⟩ : ∃ u, t = i * k + u := ⟨t - i * k, by omega⟩
    rw [Nat.add_sub_cancel_left, show (flatK enc k ys).toList[u]! = (flatK enc k ys)[u]! by rw [getElem!_pos (flatK enc k ys) u (by rw [size_flatK]; omega), getElem!_pos (flatK enc k ys).toList u (by rw [Array.length_toList, size_flatK]; omega)]; rfl, get_flatK _ _ ys u (by omega), Nat.mul_comm i k, Nat.mul_add_div k0, Nat.mul_add_mod, Nat.add_sub_cancel_left]
  · rw [if_neg c, if_neg (fun h => c ⟨e.1 h.1, e2.1 h.2⟩)]
theorem flat_one (enc : α → List Value) (k : Nat) (x : α) (hk : (enc x).length = k) : (flatK enc k #[x]).toList = enc x := by
  have e : flatK enc k #[x] = (enc x).toArray := ext_get! (by simp [hk]) fun t ht => by
    have ht' : t < k := by simpa using ht
    rw [get_flatK _ _ _ t (by simpa using ht'), Nat.div_eq_of_lt ht', Nat.mod_eq_of_lt ht']
    simp
  rw [e]
variable {enc : α → List Value} {k : Nat} {w0 W : World} {blk off : Nat} {dk dk0 : Array α}
theorem swk_lay (h : SWK enc k w0 blk off dk W) (hblk : blk < w0.heap.size) (i : Nat) (ys : Array α) (hi : i + ys.size ≤ dk.size) : SWK enc k w0 blk off (layA dk i ys) (W.setCells blk (off + i * k) (flatK enc k ys).toList) := by
  obtain ⟨n, os, rfl⟩ := h
  refine ⟨n, os, ?_⟩
  unfold sortWorldK
  have hb : i * k + ys.size * k ≤ dk.size * k := by rw [← Nat.add_mul]; exact Nat.mul_le_mul_right _ hi
  rw [← putRowK_grow enc k (Sort.ahead w0 n) os blk off dk hblk, ← putRowK_grow enc k (Sort.ahead w0 n) os blk off _ hblk]
  unfold putRowK
  rw [setCells_putRow _ _ _ _ _ _ (by simpa using hb), setMany_lay]
theorem swk_put (h : SWK enc k w0 blk off dk W) (R : RowK enc k w0 blk off dk0) (i : Nat) (x : α) (hi : i < dk.size) : SWK enc k w0 blk off (layA dk i #[x]) (W.setCells blk (off + i * k) (enc x)) := by
  have := swk_lay h R.hblk i #[x] hi
  rwa [flat_one enc k x (R.hk x)] at this
end
/-- the first of its key in a row that is sorted -/
def hd (d : Array TE) (i : Nat) : Bool := i == 0 || !(d[i]!.1.key.toList == d[i - 1]!.1.key.toList)
/-- what is kept of the first of them -/
def kp (d : Array TE) (n : Nat) : List TE := ((List.range n).filter (hd d)).map fun i => d[i]!
theorem kp_yes {d : Array TE} {n : Nat} (h : hd d n = true) : kp d (n + 1) = kp d n ++ [d[n]!] := by
  unfold kp
  rw [List.range_succ, List.filter_append, List.map_append]
  simp [h]
theorem kp_no {d : Array TE} {n : Nat} (h : hd d n = false) : kp d (n + 1) = kp d n := by
  unfold kp
  rw [List.range_succ, List.filter_append, List.map_append]
  simp [h]
theorem kp_all {d : Array TE} {n : Nat} (h : ∀ q, q < n → hd d q = true) : kp d n = (List.range n).map fun i => d[i]! := by
  unfold kp
  rw [List.filter_eq_self.2 (fun q hq => h q (List.mem_range.1 hq))]
/-- how far it is -/
structure CInv (d : Array TE) (j i : Nat) (dk : Array TE) : Prop where
  size : dk.size = d.size
  len : (kp d j).length = i
  low : ∀ q, q < i → dk[q]! = (kp d j)[q]!
  high : ∀ q, j - 1 ≤ q → dk[q]! = d[q]!
  lt : i < j
theorem cinv_start {d : Array TE} {k : Nat} (h : ∀ q, q < k → hd d q = true) (hk : hd d k = false) : CInv d (k + 1) k d where
  size := rfl
  len := by rw [kp_no hk, kp_all h]; simp
  low q hq := by rw [kp_no hk, kp_all h]; simp [hq]
  high _ _ := rfl
  lt := Nat.lt_succ_self _
theorem cinv_skip {d dk : Array TE} {j i : Nat} (h : CInv d j i dk) (hj : hd d j = false) : CInv d (j + 1) i dk where
  size := h.size
  len := by rw [kp_no hj]; exact h.len
  low q hq := by rw [kp_no hj]; exact h.low q hq
  high q hq := h.high q (by omega)
  lt := by have := h.lt; omega
theorem cinv_keep {d dk : Array TE} {j i : Nat} (h : CInv d j i dk) (hj : hd d j = true) (hs : j < d.size) : CInv d (j + 1) (i + 1) (layA dk i #[d[j]!]) where
  size := by rw [size_layA]; exact h.size
  len := by rw [kp_yes hj, List.length_append, h.len]; rfl
  low q hq := by
    have := h.lt
    rw [get_layA _ _ _ _ (by rw [h.size]; omega), kp_yes hj]
    rcases Nat.lt_or_eq_of_le (Nat.le_of_lt_succ hq) with c | rfl
    · rw [if_neg (by omega), h.low q c, getElem!_pos _ q (by rw [h.len]; exact c), getElem!_pos _ q (by rw [List.length_append, h.len]; omega), List.getElem_append_left]
    · rw [if_pos ⟨Nat.le_refl _, by simp⟩, getElem!_pos _ q (by rw [List.length_append, h.len]; simp), List.getElem_append_right (by rw [h.len]; exact Nat.le_refl _)]
      simp
  high q hq := by
    have := h.lt
    rcases Nat.lt_or_ge q d.size with c | c
    · rw [get_layA _ _ _ _ (by rw [h.size]; exact c), if_neg (by simp; omega)]
      exact h.high q (by omega)
    · rw [getElem!_neg _ q (by rw [size_layA, h.size]; omega), getElem!_neg _ q (by omega)]
  lt := by have := h.lt; omega
def z0 : TE := (⟨⟨#[]⟩, 0, 0, 0, 0⟩, 0)
theorem zeros5 (n : Nat) : Builtin.zeroCells (encT z0).toArray n = flatK encT 5 (Array.replicate n z0) := by
  refine ext_get! (by simp [Builtin.zeroCells, encT, encE]) fun t ht => ?_
  have ht' : t < n * 5 := by simpa [Builtin.zeroCells, encT, encE] using ht
  rw [get_flatK _ _ _ t (by simpa using ht'), getElem!_pos _ t ht, getElem!_pos (Array.replicate n z0) (t / 5) (by simp; omega)]
  simp [Builtin.zeroCells, encT, encE]
theorem run_clear22 (W : World) (blk off N c : Nat) (d : Array TE) (hd : d.size = N) (H : HoldsK encT 5 W blk off d) (i : Nat) (hi : i < N) (ty : TypeId) :
    (Builtin.clear_ #[22] ty #[.slice (some ⟨blk, off + i * 5, none⟩) (N - i) c]).run Tryd.prog W = .ok (.tuple #[]) (W.setCells blk (off + i * 5) (flatK encT 5 (Array.replicate (N - i) z0)).toList) := by
  have hst := stores_of_holds Tryd.prog H (i * 5) (flatK encT 5 (Array.replicate (N - i) z0)).toList (by rw [Array.length_toList, size_flatK, Array.size_replicate, size_flatK, hd, ← Nat.add_mul]; exact Nat.mul_le_mul_right _ (by omega)) (fun v hv => by
    rw [Array.mem_toList_iff] at hv
    obtain ⟨t, ht, rfl⟩ := Array.mem_iff_getElem.1 hv
    have ht' : t < (N - i) * 5 := by simpa using ht
    rw [← getElem!_pos, get_flatK _ _ _ t (by simpa using ht'), getElem!_pos (Array.replicate (N - i) z0) (t / 5) (by simp; omega), Array.getElem_replicate]
    have : t % 5 < 5 := Nat.mod_lt _ (by omega)
    generalize t % 5 = u at this
    rcases (show u = 0 ∨ u = 1 ∨ u = 2 ∨ u = 3 ∨ u = 4 by omega) with rfl | rfl | rfl | rfl | rfl <;> rfl)
  have hz := zeros5 (N - i)
  obtain ⟨m, hm⟩ : ∃ m, N - i = m + 1 := ⟨N - i - 1, by omega⟩
  rw [hm] at hst hz ⊢
  have hz' : ∀ w, (zeroValue 31).run Tryd.prog w = .ok (.agg (encT z0).toArray) w := Tryd.zeroValue31
  have hc : (Value.agg (encT z0).toArray).cells = (encT z0).toArray := rfl
  simp [Builtin.clear_, run_underlying Tryd.underlying22, hz', hc, hz, hst]
end Go.Proofs.YtpcmminokhmkjaaDoor.St
