/-
  The contract of the document's own GetRoot. Conditions: each law's own.
-/
import Derived.Test.YtcgbaiogbcodcaaGreatDoorRg
import Derived.Laws.ResultCell
namespace Go.Proofs.YtcgbaiogbcodcaaGreatDoor.Sh
open Go.RowKit Go.Lib Lb

/-- a result that lies in a block, and one beside it -/
theorem results_row_tmp {P : Program} {fn : Func} {p u : Tmp} {ty : TypeId} (h : fn.results = #[.cell p ty, .tmp u]) (tmps : Array Value) (w : World) (g : Nat) (t : TypeId) (cs : List Value) (d : TypeDesc) (y : Value)
    (hp : tmps.getD p undef = .pointer (some ⟨g, 0, none⟩)) (hy : tmps.getD u undef = y) (hg : Blk w g cs t)
    (hu : P.underlying ty = some d) (hd : (match d with | .struct _ | .array _ _ => true | _ => false) = true) (hi : (P.info? ty).map (·.size) = some cs.toArray.size) :
    (results fn tmps).run P w = .ok (.tuple #[.agg cs.toArray, y]) w := by
  rw [results_cell_tmp h, hp, hy]
  simp [asAddr, Result.andThen, run_loadVar_row w g t ty cs.toArray (0, 0) d hg hu hd hi]
theorem row_snoc {α : Type} (p : List UInt8 → Option (α × List UInt8)) (i : Nat) (l : List UInt8) : pRow p (i + 1) l = match pRow p i l with | none => none | some (xs, r) => match p r with | none => none | some (x, s) => some (xs ++ [x], s) := by
  induction i generalizing l with
  | zero =>
    show (match p l with | none => none | some (x, r) => some (([x] : List α), r)) = (match p l with | none => none | some (x, s) => some (([] : List α) ++ [x], s))
    rfl
  | succ i ih =>
    rw [pRow]
    conv => rhs; rw [pRow]
    cases h1 : p l with
    | none => rfl
    | some u =>
      obtain ⟨x, r⟩ := u
      simp only [ih r]
      cases h2 : pRow p i r with
      | none => rfl
      | some v =>
        obtain ⟨xs, s⟩ := v
        simp only
        cases h3 : p s with
        | none => rfl
        | some z => rfl
theorem row_none {α : Type} (p : List UInt8 → Option (α × List UInt8)) (l : List UInt8) (i j : Nat) (h : pRow p i l = none) (hj : i ≤ j) : pRow p j l = none := by
  induction j with
  | zero => obtain rfl : i = 0 := by omega
            exact h
  | succ j ih =>
    rcases Nat.lt_or_ge j i with h1 | h1
    · obtain rfl : i = j + 1 := by omega
      exact h
    · rw [row_snoc, ih h1]
/-- how many, as a reader tells -/
theorem num_step (most : Nat) (l : List UInt8) (b : Bool) : ∃ k : Nat, (stepR (pNum most) 0 l b).1 = (k : Int) ∧ k ≤ most := by
  unfold stepR pNum
  cases b with
  | true => exact ⟨0, rfl, by omega⟩
  | false =>
    by_cases h : (getL l).2.2 = 0 ∧ (getL l).1 ≤ most
    · exact ⟨(getL l).1, by simp [h], h.2⟩
    · exact ⟨0, by simp [if_neg h], by omega⟩
theorem step_ok {α : Type} {p : List UInt8 → Option (α × List UInt8)} {z : α} {l : List UInt8} {b : Bool} (h : (stepR p z l b).2.2 = false) : b = false ∧ p l = some ((stepR p z l b).1, (stepR p z l b).2.1) := by
  unfold stepR at h ⊢
  cases b with
  | true => cases h
  | false =>
    refine ⟨rfl, ?_⟩
    cases h1 : p l with
    | none => rw [h1] at h; cases h
    | some u => rfl
theorem step_bad {α : Type} {p : List UInt8 → Option (α × List UInt8)} {z : α} {l : List UInt8} (h : (stepR p z l false).2.2 = true) : p l = none := by
  unfold stepR at h
  cases h1 : p l with
  | none => rfl
  | some u => rw [h1] at h; cases h
/-- a root's head, read -/
theorem root_head (l l1 l2 : List UInt8) (x : Int) (n : Nat) (d1 d2 : Bool) (h1 : stepR (pNum 1025) 0 l false = (x, l1, d1)) (h2 : stepR (pNum 64) 0 l1 d1 = ((n : Int), l2, d2)) :
    (d2 = true → pRoot l = none) ∧ (d2 = false → pRoot l = match pRow pKey n l2 with | none => none | some (P, r) => some (⟨x, P⟩, r)) := by
  unfold pRoot pMap pSeq pMany pMap pSeq
  constructor
  · intro hd
    cases d1 with
    | true =>
      rw [step_bad (p := pNum 1025) (z := 0) (l := l) (by rw [h1])]
      rfl
    | false =>
      have k1 := (step_ok (p := pNum 1025) (z := 0) (l := l) (b := false) (by rw [h1])).2
      have k2 := step_bad (p := pNum 64) (z := 0) (l := l1) (by rw [h2]; exact hd)
      rw [k1, h1]
      simp only [k2]
      rfl
  · intro hd
    obtain ⟨k0, k2⟩ := step_ok (p := pNum 64) (z := 0) (l := l1) (b := d1) (by rw [h2]; exact hd)
    have k1 := (step_ok (p := pNum 1025) (z := 0) (l := l) (b := false) (by rw [h1]; exact k0)).2
    rw [h2] at k2
    rw [k1, h1]
    simp only [k2, Int.toNat_natCast]
    cases pRow pKey n l2 with
    | none => rfl
    | some u => rfl
/-- a reader that was made of bytes -/
theorem rd_new (w : World) (ao : Option Addr) (l : List UInt8) (m c : Nat) (g : Nat) (hg : g = w.heap.size) (hb : Byt w ao l) (hn : ao = none → c = 0) (hl : l.length = m) (hc : m ≤ c) (hm : c ≤ 9223372036854775807) (h47 : m ≤ 140737488355328) (hf : ∀ a, ao = some a → a.block < g) :
    Rd (w.alloc (.cells #[.slice ao m c, .bool false] 99)) g l false ao m c :=
  { blk := Blk.new w [.slice ao m c, .bool false] 99 g hg
    byt := hb.below ((Below.refl _ w).alloc (Nat.le_refl _) _)
    hn := hn, len := hl, cap := hc, max := hm, most := h47, far := hf }
/-- what a reader's call leaves alone -/
theorem AnsR.kept {w w' : World} {g : Nat} {v : Value} {l : List UInt8} {bad : Bool} {e : Ending} (h : AnsR w g v l bad e w') {k : Nat} {cs : List Value} {t : TypeId} (hk : Blk w k cs t) (hne : k ≠ g) : Blk w' k cs t := blk_grown hk h.2.1 hne
theorem AnsR.below {w w' : World} {g B : Nat} {v : Value} {l : List UInt8} {bad : Bool} {e : Ending} (h : AnsR w g v l bad e w') {w0 : World} (hb : Below B w0 w) (hB : B ≤ w.heap.size) (hg : B ≤ g) : Below B w0 w' := hb.grown h.2.1 hB (fun k hk => by injection hk with hk; omega)
/-- what the reader of a root gives -/
def GetsRoot (w : World) (l : List UInt8) (e : Ending) (w' : World) : Prop :=
  Below w.heap.size w w' ∧ ((getRoot l = none ∧ e = .returned (.tuple #[.agg #[.int .i64 0, .slice none 0 0], .int .i64 80])) ∨
    ∃ x v, getRoot l = some x ∧ e = .returned (.tuple #[.agg #[.int .i64 x.next, v], .int .i64 0]) ∧ OwnS w' w.heap.size v x.pages)
theorem below_set {w w' : World} {B g i : Nat} (h : Below B w w') (hB : B ≤ w'.heap.size) (hg : B ≤ g) (v : Value) : Below B w (w'.setCell ⟨g, i, none⟩ v) := h.grown (grownBy_setCell w' g i v) hB (fun k hk => by injection hk with hk; omega)
theorem set_two {w : World} {g : Nat} {a b : Value} {t : TypeId} (h : Blk w g [a, b] t) (u v : Value) : Blk ((w.setCell ⟨g, 0, none⟩ u).setCell ⟨g, 1, none⟩ v) g [u, v] t := by
  have h1 := h.set 0 u
  have h2 := h1.set 1 v
  simpa using h2
theorem srw_one (w : World) (x : ByteArray) : Srw (w.alloc (.cells #[.string x] 170)) (some ⟨w.heap.size, 0, none⟩) [x] := fun _ => by
  refine ⟨w.heap.size, 0, rfl, by simp, fun j hj => ?_⟩
  obtain rfl : j = 0 := by simpa using hj
  exact cell_new w #[.string x] 0 _ rfl rfl
theorem blk_row {w w' : World} {g : Nat} {k : Option Nat} {cs : List Value} {t : TypeId} (h : Blk w g cs t) (hg : w.grownBy w' k) (hne : some g ≠ k) : Blk w' g cs t := (hg.block g h.lt hne).trans h
theorem Rd.row {w w' : World} {g : Nat} {l : List UInt8} {bad : Bool} {ao : Option Addr} {m c : Nat} {k : Option Nat} (h : Rd w g l bad ao m c) (hg : w.grownBy w' k) (hk : ∀ b, k = some b → g < b) : Rd w' g l bad ao m c :=
  { blk := blk_row h.blk hg (fun e => by have := hk g e.symm; omega)
    byt := fun hne => by
      obtain ⟨b, o, h1, h2, h3⟩ := h.byt hne
      have hb : b < g := h.far _ h1
      exact ⟨b, o, h1, Nat.lt_of_lt_of_le h2 hg.size, fun j hj => hg.cell (h3 j hj) (fun e => by have := hk b e.symm; omega)⟩
    hn := h.hn, len := h.len, cap := h.cap, max := h.max, most := h.most, far := h.far }
theorem root_step {l l2 lr l3 : List UInt8} {x : Int} {n i : Nat} {d2 d3 : Bool} {P : List ByteArray} {k : ByteArray} (HH : (d2 = true → pRoot l = none) ∧ (d2 = false → pRoot l = match pRow pKey n l2 with | none => none | some (P, r) => some (⟨x, P⟩, r)))
    (HN : d2 = false ∧ pRow pKey i l2 = some (P, lr)) (HK : (k, l3, d3) = stepR pKey ⟨#[]⟩ lr false) (hin : i < n) : if d3 = true then pRoot l = none else d2 = false ∧ pRow pKey (i + 1) l2 = some (P ++ [k], l3) := by
  cases d3 with
  | true =>
    rw [if_pos rfl, HH.2 HN.1, row_none pKey l2 (i + 1) n (by rw [row_snoc, HN.2]; simp only; rw [step_bad (p := pKey) (z := ⟨#[]⟩) (l := lr) (by rw [← HK])]) hin]
  | false =>
    rw [if_neg (by decide)]
    have h := (step_ok (p := pKey) (z := ⟨#[]⟩) (l := lr) (b := false) (by rw [← HK])).2
    rw [← HK] at h
    exact ⟨HN.1, by rw [row_snoc, HN.2]; simp only; rw [h]⟩
theorem owns_below {w w' : World} {B : Nat} {v : Value} {l : List ByteArray} (h : OwnS w B v l) (hb : Below w.heap.size w w') : OwnS w' B v l := by
  obtain ⟨h1, h2 | ⟨g, cap, cur, e1, e2, e3, e4⟩⟩ := h
  · exact ⟨h1, Or.inl h2⟩
  · exact ⟨h1, Or.inr ⟨g, cap, cur, e1, e2, (hb.block g (Array.getElem?_eq_some_iff.1 e3).1).trans e3, e4⟩⟩
theorem key_size (k : ByteArray) (h : keyOk k) : k.size = 64 := by
  by_cases h64 : k.size = 64
  · exact h64
  · exfalso
    unfold keyOk at h
    rw [keyBytes, if_neg (by rw [Array.length_toList]; exact h64)] at h
    cases h
theorem owns_kept {w w' : World} {B g : Nat} {v : Value} {l : List ByteArray} (h : OwnS w B v l) (hg : w.grownBy w' (some g)) (hb : g < B) : OwnS w' B v l := by
  obtain ⟨h1, h2 | ⟨k, cap, cur, e1, e2, e3, e4⟩⟩ := h
  · exact ⟨h1, Or.inl h2⟩
  · exact ⟨h1, Or.inr ⟨k, cap, cur, e1, e2, (hg.block k (Array.getElem?_eq_some_iff.1 e3).1 (fun e => by injection e with e; omega)).trans e3, e4⟩⟩
theorem owns_ne {W : World} {G b : Nat} {v : Value} {l : List ByteArray} (h : OwnS W G v l) (hb : b < G) : some b ≠ v.ownBlock := fun e => by
  have := (h.lt b e.symm).1
  omega
end Go.Proofs.YtcgbaiogbcodcaaGreatDoor.Sh
