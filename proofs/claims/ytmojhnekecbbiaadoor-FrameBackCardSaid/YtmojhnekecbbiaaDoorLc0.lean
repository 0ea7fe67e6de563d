/-
  Plain and small laws for the walk of FrameBack: rows of records over what came in, where records end. Conditions: each law's own.
-/
import Derived.Test.YtmojhnekecbbiaaDoorFk
namespace Go.Proofs.YtmojhnekecbbiaaDoor.Sh
open Lb Go.RowKit Go.Lib

/-- data older than B -/
def DatO (B : Nat) (w : World) (u : Value) (d : List UInt8) : Prop :=
  ∃ a c, u = .slice a d.length c ∧ Byt w a d ∧ (a = none → c = 0) ∧ d.length ≤ c ∧ c ≤ 9223372036854775807 ∧ (d ≠ [] → ∀ b o, a = some ⟨b, o, none⟩ → b < B)
/-- a row of records of the call's own, whose data are older -/
def OwnO (B : Nat) (w : World) (l : List Rcd) (v : Value) : Prop :=
  ∃ us, us.length = l.length ∧ w.ownsRow B 29 3 v l.length (recsC l us) ∧ ∀ j (h : j < l.length), ∃ u, us[j]? = some u ∧ DatO B w u l[j].2
theorem owno_f {B : Nat} {w : World} {l : List Rcd} {v : Value} (h : OwnO B w l v) : OwnF B w l v := by
  obtain ⟨us, h1, h2, h3⟩ := h
  exact ⟨us, h1, h2, fun j hj => by obtain ⟨u, hu, hd⟩ := h3 j hj; exact ⟨u, hu, Or.inr hd⟩⟩
theorem owno_nil (B : Nat) (w : World) : OwnO B w [] (.slice none 0 0) := ⟨[], rfl, World.ownsRow_nil _ _ _ _, fun _ h => absurd h (Nat.not_lt_zero _)⟩
theorem datO_kept {B : Nat} {w w' : World} {u v : Value} {d : List UInt8} {e : TypeId} {s n : Nat} {xs : List Value} (h : DatO B w u d) (ho : w.ownsRow B e s v n xs) (hg : w.grownBy w' v.ownBlock) : DatO B w' u d := by
  obtain ⟨a, c, h1, h2, h3, h4, h5, h6⟩ := h
  refine ⟨a, c, h1, byt_grown h2 hg (fun hd b o hb hv => ?_), h3, h4, h5, h6⟩
  have := (World.ownsRow.lt ho b hv.symm).1
  have := h6 hd b o hb
  omega
theorem datO_below {B : Nat} {w w' : World} {u : Value} {d : List UInt8} (h : DatO B w u d) (hb : Below w.heap.size w w') : DatO B w' u d := by
  obtain ⟨a, c, h1, h2, h3, h4, h5, h6⟩ := h
  exact ⟨a, c, h1, h2.below hb, h3, h4, h5, h6⟩
theorem owno_below {B : Nat} {w w' : World} {l : List Rcd} {v : Value} (h : OwnO B w l v) (hb : Below w.heap.size w w') : OwnO B w' l v := by
  obtain ⟨us, h1, h2, h3⟩ := h
  exact ⟨us, h1, row_below h2 hb, fun j hj => by obtain ⟨u, hu, hd⟩ := h3 j hj; exact ⟨u, hu, datO_below hd hb⟩⟩
theorem owno_kept {B : Nat} {w w' : World} {l : List Rcd} {v u : Value} {e : TypeId} {s n : Nat} {xs : List Value} (h : OwnO B w l v) (ho : w.ownsRow B e s u n xs) (he : 29 ≠ e) (hg : w.grownBy w' u.ownBlock) : OwnO B w' l v := by
  obtain ⟨us, h1, h2, h3⟩ := h
  exact ⟨us, h1, World.ownsRow.kept h2 hg (apartT h2 ho he), fun j hj => by obtain ⟨x, hx, hd⟩ := h3 j hj; exact ⟨x, hx, datO_kept hd ho hg⟩⟩
theorem owno_app {B : Nat} {w w' : World} {l : List Rcd} {v v' u : Value} {us : List Value} {x : Rcd} (h1 : us.length = l.length) (ho : w.ownsRow B 29 3 v l.length (recsC l us)) (h3 : ∀ j (h : j < l.length), ∃ u, us[j]? = some u ∧ DatO B w u l[j].2) (hu : DatO B w u x.2)
    (hown : w'.ownsRow B 29 3 v' (l.length + 1) (recsC l us ++ recC x u)) (hg : w.grownBy w' v.ownBlock) : OwnO B w' (l ++ [x]) v' := by
  refine ⟨us ++ [u], by simp [h1], ?_, fun j hj => ?_⟩
  · rw [recsC_snoc h1, List.length_append, List.length_singleton]
    exact hown
  · rw [List.length_append, List.length_singleton] at hj
    rcases Nat.lt_or_ge j l.length with h | h
    · obtain ⟨y, hy, hd⟩ := h3 j h
      refine ⟨y, by rw [List.getElem?_append_left (by omega)]; exact hy, ?_⟩
      rw [List.getElem_append_left h]
      exact datO_kept hd ho hg
    · obtain rfl : j = l.length := by omega
      refine ⟨u, by rw [← h1]; simp, ?_⟩
      rw [List.getElem_append_right (Nat.le_refl _)]
      simp only [Nat.sub_self, List.getElem_singleton]
      exact datO_kept hu ho hg
theorem wpl_appo {w : World} {ops : Array Oper} {rest : List Oper} {o : Oper} {a : Act} {Q : Exit → Act → World → Prop} (hgd : o.guard = none) (s x : Operand)
    (ho : o.op = .call { callee := .builtin .append, args := #[s, x], argTypes := #[34, 34] })
    (B : Nat) (v u : Value) (l : List Rcd) (r : Rcd) (hs : a.eval s = v) (hown : OwnO B w l v) (hu : DatO B w u r.2)
    (g : Nat) (hx : a.eval x = .slice (some ⟨g, 0, none⟩) 1 1) (hb : Blk w g (recC r u) 29) (hn : l.length + 1 ≤ 1000000000) (hbase : B ≤ w.heap.size)
    (h : ∀ v' w', OwnO B w' (l ++ [r]) v' → w.grownBy w' v.ownBlock → wpList Tryd.prog ops Q rest (a.put o.dst v') w') : wpList Tryd.prog ops Q (o :: rest) a w := by
  obtain ⟨i0, hi, hz0, hz1, hz2⟩ := info_parts info29z
  obtain ⟨us, h1, h2, h3⟩ := hown
  refine wpList_append_own w hgd s x 34 ho B 29 i0 (.agg #[.int .i64 0, .string ⟨#[]⟩, .slice none 0 0]) 3 48 Tryd.underlying34 hi hz0 hz1 hz2 rfl (by decide) v l.length (recsC l us) hs h2 ⟨g, 0, none⟩ 1 1 (recC r u) hx (by rfl) (fun j y hj => ?_) ?_ (by unfold maxLen; omega) (by omega) hbase
    (fun v' w' k1 k2 _ => h v' w' (owno_app h1 h2 h3 hu k1 k2) k2)
  · rw [WideShapes.add_plain, Nat.zero_add, hb.cell]
    exact hj
  · intro y hy
    simp only [recC, List.mem_cons, List.not_mem_nil, or_false] at hy
    rcases hy with rfl | rfl | rfl
    · rfl
    · rfl
    · exact dat_one (Or.inr hu)
/-- the cells at an address read as rows of bytes -/
def Rws2 (w : World) (ao : Option Addr) (l : List (List UInt8)) : Prop :=
  l ≠ [] → ∃ b o, ao = some ⟨b, o, none⟩ ∧ b < w.heap.size ∧ ∀ j (h : j < l.length), ∃ aj cj, w.cell? ⟨b, o + j, none⟩ = some (.slice aj (l[j]).length cj) ∧ Byt w aj l[j] ∧ (aj = none → cj = 0) ∧ (l[j]).length ≤ cj ∧ cj ≤ 9223372036854775807
theorem Rws2.at {w : World} {ao : Option Addr} {l : List (List UInt8)} (h : Rws2 w ao l) (j : Nat) (hj : j < l.length) : ∃ b o, ao = some ⟨b, o, none⟩ ∧ b < w.heap.size ∧ ∃ aj cj, w.cell? ⟨b, o + j, none⟩ = some (.slice aj (l[j]).length cj) ∧ DatO w.heap.size w (.slice aj (l[j]).length cj) l[j] := by
  obtain ⟨b, o, h1, h2, h3⟩ := h (fun h0 => by rw [h0] at hj; simp at hj)
  obtain ⟨aj, cj, k1, k2, k3, k4, k5⟩ := h3 j hj
  refine ⟨b, o, h1, h2, aj, cj, k1, aj, cj, rfl, k2, k3, k4, k5, fun hd b' o' ha => ?_⟩
  obtain ⟨b2, o2, e1, e2, _⟩ := k2 hd
  rw [e1] at ha
  injection ha with ha
  injection ha with ha
  omega
/-- how long all is behind j records, for each j -/
def endZ (k : UInt8) (ls : List (List UInt8)) (i : Nat) : List Int := (List.range (i + 1)).map fun j => ((Fr.allL k (ls.take j)).length : Int)
theorem endZ_len (k : UInt8) (ls : List (List UInt8)) (i : Nat) : (endZ k ls i).length = i + 1 := by simp [endZ]
theorem endZ_next (k : UInt8) (ls : List (List UInt8)) (i : Nat) : endZ k ls (i + 1) = endZ k ls i ++ [((Fr.allL k (ls.take (i + 1))).length : Int)] := by
  unfold endZ
  rw [List.range_succ, List.map_append]
  rfl
theorem endZ_at (k : UInt8) (ls : List (List UInt8)) (i j : Nat) (h : j ≤ i) : (endZ k ls i).getD j 0 = ((Fr.allL k (ls.take j)).length : Int) := by
  simp [endZ, List.getD, show j < i + 1 by omega]
theorem endZ_take (k : UInt8) (ls : List (List UInt8)) : (endZ k ls ls.length).take ls.length = Fr.endsL k 0 ls := by
  refine List.ext_getElem (by rw [List.length_take, endZ_len, Fr.ends_len]; omega) fun j h1 h2 => ?_
  rw [Fr.ends_at, List.getElem_take]
  simp [endZ]
theorem all_next (k : UInt8) (ls : List (List UInt8)) (i : Nat) (h : i < ls.length) : Fr.allL k (ls.take (i + 1)) = Fr.allL k (ls.take i) ++ Fr.frL k ls[i] := by
  unfold Fr.allL
  rw [List.take_succ_eq_append_getElem h, List.map_append, List.flatten_append]
  simp only [List.map_cons, List.map_nil, List.flatten_cons, List.flatten_nil, List.append_nil]
theorem all_small (k : UInt8) (ls : List (List UInt8)) (h : ∀ l ∈ ls, l.length ≤ 300) : (Fr.allL k ls).length ≤ 316 * ls.length := by
  induction ls with
  | nil => simp [Fr.allL]
  | cons l r ih =>
    rw [Fr.allL_cons, List.length_append, Fr.frL_len, List.length_cons]
    have := putL_len l.length
    have := h l (by simp)
    have := ih fun x hx => h x (by simp [hx])
    omega
theorem kb_nat (k : UInt8) : kb (k.toNat : Int) = k := by
  apply UInt8.toNat_inj.1
  have := k.toNat_lt
  show ((k.toNat : Int) % 256).toNat % 256 = k.toNat
  omega
set_option maxRecDepth 100000 in
theorem slice_to35 (ao : Option Addr) (len c n : Nat) (hn : n ≤ c) (W : World) : (Instr.slice 35 (.slice ao len c) none (some (.int .i64 (n : Int))) none).run Tryd.prog W = .ok (.slice ao n c) W := by
  have hs := run_slice_h (P := Tryd.prog) W 35 ao len c (by rw [Tryd.underlying35]; rfl) .i64 (n : Int) (by omega) (by omega)
  rw [hs]
  have e2 : ((n : Int)).toNat = n := by omega
  have e3 : Tryd.prog.elem 35 = 3 := by kernel_rfl
  rw [e2, e3]
  cases ao with
  | none => simp [Tryd.sizeOf3, sliced, Result.andThen]
  | some a => simp [Tryd.sizeOf3, sliced, Result.andThen, add_zero]
set_option maxRecDepth 100000 in
theorem slice_to34 (ao : Option Addr) (len c n : Nat) (hn : n ≤ c) (W : World) : (Instr.slice 34 (.slice ao len c) none (some (.int .i64 (n : Int))) none).run Tryd.prog W = .ok (.slice ao n c) W := by
  have hs := run_slice_h (P := Tryd.prog) W 34 ao len c (by rw [Tryd.underlying34]; rfl) .i64 (n : Int) (by omega) (by omega)
  rw [hs]
  have e2 : ((n : Int)).toNat = n := by omega
  have e3 : Tryd.prog.elem 34 = 29 := by kernel_rfl
  rw [e2, e3]
  cases ao with
  | none => simp [Tryd.sizeOf29, sliced, Result.andThen]
  | some a => simp [Tryd.sizeOf29, sliced, Result.andThen, add_zero]
end Go.Proofs.YtmojhnekecbbiaaDoor.Sh
