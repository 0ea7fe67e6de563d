/-
  The contracts of obj's readEach and readRow. Conditions: each law's own.
-/
import Derived.Test.YtojhlhpbhoeplaaGreatDoorOi
namespace Go.Proofs.YtojhlhpbhoeplaaGreatDoor.Sh
open Go.RowKit Go.Lib Lb

section
variable {P : Program} {t e : TypeId}
/-- one element appended to a row of the call's own, whatever its cells -/
theorem wpl_one {w : World} {ops : Array Oper} {rest : List Oper} {o : Oper} {a : Act} {Q : Exit → Act → World → Prop} (hgd : o.guard = none) (s x : Operand)
    (ho : o.op = .call { callee := .builtin .append, args := #[s, x], argTypes := #[t, t] })
    (ht : P.underlying t = some (.slice e)) {z : Value} {size bytes : Nat} (hinf : (P.info? e).map (fun i => (i.zero, i.size, i.bytes)) = some (some z, size, bytes)) (hzs : z.cells.size = size) (hsz : 0 < size)
    (base : Nat) (v : Value) (n : Nat) (xs : List Value) (hs : a.eval s = v) (hown : w.ownsRow base e size v n xs)
    (g : Nat) (cs : List Value) (hx : a.eval x = .slice (some ⟨g, 0, none⟩) 1 1) (hb : Blk w g cs e) (hl : cs.length = size) (h1 : ∀ u ∈ cs, u.oneCell' = true)
    (hn : n + 1 ≤ 1000000) (hby : bytes ≤ 1000) (hbase : base ≤ w.heap.size)
    (h : ∀ v' w', w'.ownsRow base e size v' (n + 1) (xs ++ cs) → w.grownBy w' v.ownBlock → wpList P ops Q rest (a.put o.dst v') w') : wpList P ops Q (o :: rest) a w := by
  obtain ⟨i0, hi, hz0, hz1, hz2⟩ := info_parts hinf
  have hmul : (n + 1) * bytes ≤ 1000000 * 1000 := Nat.mul_le_mul hn hby
  refine wpList_append_own w hgd s x t ho base e i0 z size bytes ht hi hz0 hz1 hz2 hzs hsz v n xs hs hown ⟨g, 0, none⟩ 1 1 cs hx (by omega) (fun j u hj => ?_) h1 (by unfold maxLen; omega) (by omega) hbase (fun v' w' h2 h3 _ => h v' w' h2 h3)
  rw [WideShapes.add_plain, Nat.zero_add, hb.cell]
  exact hj
end
/-- a row of the call's own, element by element -/
def OwnG {α : Type} (e : TypeId) (size : Nat) (cells : α → List Value) (B : Nat) (w : World) (l : List α) (v : Value) : Prop := w.ownsRow B e size v l.length (l.flatMap cells)
def cellsI (x : Int) : List Value := [.int .i64 x]
def cellsS (s : ByteArray) : List Value := [.string s]
def cellsR (x : RefP) : List Value := [.string x.key, .int .i64 x.lower, .int .i64 x.off, .int .i64 x.n]
theorem infoI : (Tryz.prog.info? 3).map (fun i => (i.zero, i.size, i.bytes)) = some (some (.int .i64 0), 1, 8) := by kernel_rfl
theorem infoR : (Tryz.prog.info? 145).map (fun i => (i.zero, i.size, i.bytes)) = some (some (.agg #[.string ⟨#[]⟩, .int .i64 0, .int .i64 0, .int .i64 0]), 4, 40) := by kernel_rfl
theorem infoA : (Tryz.prog.info? 82).map (fun i => (i.zero, i.size, i.bytes)) = some (some (.agg #[.string ⟨#[]⟩, .slice none 0 0]), 2, 40) := by kernel_rfl
theorem row_next {α : Type} {p : List UInt8 → Option (α × List UInt8)} {i : Nat} {l lr : List UInt8} {P : List α} (h : pRow p i l = some (P, lr)) : pRow p (i + 1) l = match p lr with | none => none | some (x, s) => some (P ++ [x], s) := by
  rw [row_snoc, h]
  simp only
  cases hp : p lr with
  | none => rfl
  | some u => rfl
theorem row_kept {w w' : World} {B e size n : Nat} {v : Value} {xs : List Value} {g : Nat} (h : w.ownsRow B e size v n xs) (hg : w.grownBy w' (some g)) (hb : g < B) : w'.ownsRow B e size v n xs :=
  World.ownsRow.kept h hg (by
    cases hv : v.ownBlock with
    | none => exact .inl rfl
    | some j => exact .inr fun e => by have := (h.lt j hv).1; injection e with e; omega)
theorem row_kept_alloc {w : World} {B e size n : Nat} {v : Value} {xs : List Value} (h : w.ownsRow B e size v n xs) (o : Obj) : (w.alloc o).ownsRow B e size v n xs := World.ownsRow.alloc h o
theorem flat_snoc {α : Type} (f : α → List Value) (l : List α) (x : α) : (l ++ [x]).flatMap f = l.flatMap f ++ f x := by simp
/-- attributes' cells -/
def attC (l : List (ByteArray × List UInt8)) (us : List Value) : List Value := (l.zip us).flatMap fun z => [.string z.1.1, z.2]
/-- a row of attributes of the call's own, each value one, too -/
def OwnA (B : Nat) (w : World) (l : List (ByteArray × List UInt8)) (v : Value) : Prop :=
  ∃ us : List Value, us.length = l.length ∧ w.ownsRow B 82 2 v l.length (attC l us) ∧ ∀ (i : Nat) (x : ByteArray × List UInt8) (u : Value), l[i]? = some x → us[i]? = some u → Own w B u x.2
theorem own_kept {w w' : World} {B g : Nat} {v : Value} {l : List UInt8} (h : Own w B v l) (hg : w.grownBy w' (some g)) (hb : g < B) : Own w' B v l := row_kept h hg hb
theorem own_apart {w w' : World} {B n : Nat} {u v : Value} {d : List UInt8} {xs : List Value} (h : Own w B u d) (ho : w.ownsRow B 82 2 v n xs) (hg : w.grownBy w' v.ownBlock) : Own w' B u d := by
  refine World.ownsRow.kept h hg ?_
  cases hu : u.ownBlock with
  | none => exact .inl rfl
  | some j =>
    refine .inr fun e => ?_
    obtain ⟨_, ⟨rfl, _⟩ | ⟨k, c1, cur1, rfl, _, h1, _⟩⟩ := h
    · cases hu
    · obtain ⟨_, ⟨rfl, _⟩ | ⟨k2, c2, cur2, rfl, _, h2, _⟩⟩ := ho
      · cases e
      · have e1 : k = j := by injection hu
        have e2 : j = k2 := by injection e
        subst e1
        subst e2
        rw [h1] at h2
        injection h2 with h2
        injection h2 with _ h3 _
        cases h3
theorem attC_snoc {l : List (ByteArray × List UInt8)} {us : List Value} (h : us.length = l.length) (x : ByteArray × List UInt8) (u : Value) : attC (l ++ [x]) (us ++ [u]) = attC l us ++ [.string x.1, u] := by
  unfold attC
  rw [List.zip_append h.symm]
  simp
theorem ownA_nil (B : Nat) (w : World) : OwnA B w [] (.slice none 0 0) := ⟨[], rfl, World.ownsRow_nil _ _ _ _, fun i x u h => by simp at h⟩
theorem OwnA.kept {w w' : World} {B g : Nat} {v : Value} {l : List (ByteArray × List UInt8)} (h : OwnA B w l v) (hg : w.grownBy w' (some g)) (hb : g < B) : OwnA B w' l v := by
  obtain ⟨us, h1, h2, h3⟩ := h
  exact ⟨us, h1, row_kept h2 hg hb, fun i x u hx hu => own_kept (h3 i x u hx hu) hg hb⟩
theorem OwnA.alloc {w : World} {B : Nat} {v : Value} {l : List (ByteArray × List UInt8)} (h : OwnA B w l v) (o : Obj) : OwnA B (w.alloc o) l v := by
  obtain ⟨us, h1, h2, h3⟩ := h
  exact ⟨us, h1, row_kept_alloc h2 o, fun i x u hx hu => row_kept_alloc (h3 i x u hx hu) o⟩
theorem OwnA.low {w : World} {B B' : Nat} {v : Value} {l : List (ByteArray × List UInt8)} (h : OwnA B w l v) (hb : B' ≤ B) : OwnA B' w l v := by
  obtain ⟨us, h1, ⟨h2, h2'⟩, h3⟩ := h
  refine ⟨us, h1, ⟨h2, ?_⟩, fun i x u hx hu => Own.low (h3 i x u hx hu) hb⟩
  rcases h2' with h2' | ⟨g, c, cur, e1, e2, e3⟩
  · exact .inl h2'
  · exact .inr ⟨g, c, cur, e1, Nat.le_trans hb e2, e3⟩
theorem many_none {α : Type} {p : List UInt8 → Option (α × List UInt8)} {m : Nat} {l : List UInt8} (h : pNum m l = none) : pMany m p l = none := by rw [pMany, pMap, pSeq, h]; rfl
theorem many_some {α : Type} {p : List UInt8 → Option (α × List UInt8)} {m : Nat} {l r : List UInt8} {n : Int} (h : pNum m l = some (n, r)) : pMany m p l = pRow p n.toNat r := by
  rw [pMany, pMap, pSeq, h]
  simp only
  cases pRow p n.toNat r with
  | none => rfl
  | some u => rfl
theorem ansP_own {α : Type} {w W : World} {g : Nat} {V V' : World → α → Value → Prop} {o : Option (α × List UInt8)} {e : Ending} {w' : World} (hW : w.grownBy W (some g)) (hV : ∀ w' x v, V w' x v → V' w' x v) (h : AnsP W g V o e w') : AnsP w g V' o e w' := by
  obtain ⟨hg, h | ⟨x, r, v, h1, h2, h3, h4⟩⟩ := h
  · exact ⟨grownBy_trans hW hg, .inl h⟩
  · exact ⟨grownBy_trans hW hg, .inr ⟨x, r, v, h1, h2, hV _ _ _ h3, h4⟩⟩
theorem OwnG.low {α : Type} {e : TypeId} {size B B' : Nat} {cells : α → List Value} {w : World} {l : List α} {v : Value} (h : OwnG e size cells B w l v) (hb : B' ≤ B) : OwnG e size cells B' w l v := by
  obtain ⟨h1, h2 | ⟨g, c, cur, e1, e2, e3⟩⟩ := h
  · exact ⟨h1, .inl h2⟩
  · exact ⟨h1, .inr ⟨g, c, cur, e1, Nat.le_trans hb e2, e3⟩⟩
end Go.Proofs.YtojhlhpbhoeplaaGreatDoor.Sh
