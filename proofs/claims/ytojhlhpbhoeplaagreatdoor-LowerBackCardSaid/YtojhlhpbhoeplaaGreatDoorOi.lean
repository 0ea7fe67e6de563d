/-
  The contracts of obj's reader's field, at each shape but a row's, and of read at each type. Conditions: each law's own.
-/
import Derived.Test.YtojhlhpbhoeplaaGreatDoorOh
namespace Go.Proofs.YtojhlhpbhoeplaaGreatDoor.Sh
open Go.RowKit Go.Lib Lb

/-- a value of a type, as an interface holds it -/
def VIf {α : Type} (T : TypeId) (V : World → α → Value → Prop) (w : World) (x : α) (v : Value) : Prop := ∃ u, v = .iface T u ∧ V w x u
def VBool (_ : World) (b : Bool) (v : Value) : Prop := v = .bool b
/-- a flag, by a number -/
theorem flag_num (l : List UInt8) : pFlag l = match pNum 32768 l with | none => none | some (x, r) => if x ≤ 1 then some (decide (x = 1), r) else none := by
  unfold pFlag pMap pNum
  obtain ⟨x, n, q, hg⟩ : ∃ x n q, getL l = (x, n, q) := ⟨_, _, _, rfl⟩
  rw [hg]
  by_cases hq : q = 0
  · by_cases h1 : x ≤ 1
    · have h2 : x ≤ 32768 := by omega
      have h3 : (x : Int) ≤ 1 := by omega
      simp [hq, h1, h2, h3]
    · by_cases h2 : x ≤ 32768
      · have h3 : ¬ (x : Int) ≤ 1 := by omega
        simp [hq, h1, h2, h3]
      · simp [hq, h1, h2]
  · simp [hq]
theorem num_some {most : Nat} {l : List UInt8} {x : Int} {r : List UInt8} (h : pNum most l = some (x, r)) : 0 ≤ x ∧ x ≤ most := by
  unfold pNum at h
  split at h
  · rename_i hc
    simp only [Option.some.injEq, Prod.mk.injEq] at h
    obtain ⟨rfl, rfl⟩ := h
    omega
  · cases h
theorem gb_then {a b c : World} {row row' : Option Nat} (h : a.grownBy b row) (k : b.grownBy c row') (hr : ∀ j, row' = some j → a.heap.size ≤ j ∨ row = some j) : a.grownBy c row :=
  ⟨k.os.trans h.os, k.tape.trans h.tape, k.output.trans h.output, Nat.le_trans h.size k.size, fun i hi hne => (k.block i (Nat.lt_of_lt_of_le hi h.size) (fun e => by
    rcases hr i e.symm with h1 | h1
    · omega
    · exact hne h1.symm)).trans (h.block i hi hne)⟩
/-- where a piece of a content is, by a flag -/
def pOrg : List UInt8 → Option ((Bool × ByteArray × Int × Int) × List UInt8) :=
  pSeq pFlag fun b => if b = true then pMap (fun k => (k, (0 : Int), (0 : Int))) pKey else pMap (fun z => (noKey, z.1, z.2)) (pSeq (pNum 32768) fun _ => pNum 32768)
def VOrg (_ : World) (x : Bool × ByteArray × Int × Int) (v : Value) : Prop := v = if x.1 = true then .iface 143 (.string x.2.1) else .iface 8182 (.agg #[.int .i64 x.2.2.1, .int .i64 x.2.2.2])
theorem org_none {l : List UInt8} (h : pFlag l = none) : pOrg l = none := by rw [pOrg, pSeq, h]
theorem org_key {l r : List UInt8} (h : pFlag l = some (true, r)) : pOrg l = match pKey r with | none => none | some (k, s) => some ((true, k, 0, 0), s) := by
  rw [pOrg, pSeq, h]
  simp only [if_true, pMap]
  cases pKey r with
  | none => rfl
  | some u => rfl
theorem org_place {l r : List UInt8} (h : pFlag l = some (false, r)) : pOrg l = match pNum 32768 r with | none => none | some (a, s) => match pNum 32768 s with | none => none | some (b, t) => some ((false, noKey, a, b), t) := by
  rw [pOrg, pSeq, h]
  simp only [Bool.false_eq_true, if_false, pMap, pSeq]
  cases pNum 32768 r with
  | none => rfl
  | some u =>
    obtain ⟨a, s⟩ := u
    simp only
    cases pNum 32768 s with
    | none => rfl
    | some z => rfl
/-- an attribute -/
def pAttP : List UInt8 → Option ((ByteArray × List UInt8) × List UInt8) := pSeq (pText 1000) fun _ => pData 1000
def VAtt (B : Nat) (w : World) (x : ByteArray × List UInt8) (v : Value) : Prop := ∃ u, v = .agg #[.string x.1, u] ∧ Own w B u x.2
/-- a piece of a content, as the program reads it -/
def pRefP : List UInt8 → Option (RefP × List UInt8) := pMap (fun z : (Bool × ByteArray × Int × Int) × Int => (⟨z.1.2.1, z.1.2.2.1, z.1.2.2.2, z.2⟩ : RefP)) (pSeq pOrg fun _ => pNum 32768)
def VRef (_ : World) (x : RefP) (v : Value) : Prop := v = .agg #[.string x.key, .int .i64 x.lower, .int .i64 x.off, .int .i64 x.n]
theorem refP_none {l : List UInt8} (h : pOrg l = none) : pRefP l = none := by rw [pRefP, pMap, pSeq, h]; rfl
theorem refP_some {l r : List UInt8} {x : Bool × ByteArray × Int × Int} (h : pOrg l = some (x, r)) : pRefP l = match pNum 32768 r with | none => none | some (n, s) => some (⟨x.2.1, x.2.2.1, x.2.2.2, n⟩, s) := by
  rw [pRefP, pMap, pSeq, h]
  simp only
  cases pNum 32768 r with
  | none => rfl
  | some u => rfl
theorem org_false {l r : List UInt8} {x : Bool × ByteArray × Int × Int} (h : pOrg l = some (x, r)) : (x.1 = true ∧ x.2.2.1 = 0 ∧ x.2.2.2 = 0) ∨ (x.1 = false ∧ x.2.1 = noKey) := by
  cases hf : pFlag l with
  | none => rw [org_none hf] at h; cases h
  | some u =>
    obtain ⟨b, s⟩ := u
    cases b with
    | true =>
      rw [org_key hf] at h
      cases hk : pKey s with
      | none => rw [hk] at h; cases h
      | some z =>
        rw [hk] at h
        simp only [Option.some.injEq, Prod.mk.injEq] at h
        obtain ⟨rfl, _⟩ := h
        exact .inl ⟨rfl, rfl, rfl⟩
    | false =>
      rw [org_place hf] at h
      cases h1 : pNum 32768 s with
      | none => rw [h1] at h; cases h
      | some z =>
        obtain ⟨a, t⟩ := z
        rw [h1] at h
        simp only at h
        cases h2 : pNum 32768 t with
        | none => rw [h2] at h; cases h
        | some y =>
          rw [h2] at h
          simp only [Option.some.injEq, Prod.mk.injEq] at h
          obtain ⟨rfl, _⟩ := h
          exact .inr ⟨rfl, rfl⟩
theorem set_four {w : World} {g : Nat} {a b c d : Value} {t : TypeId} (h : Blk w g [a, b, c, d] t) (a' b' c' d' : Value) : Blk ((((w.setCell ⟨g, 0, none⟩ a').setCell ⟨g, 1, none⟩ b').setCell ⟨g, 2, none⟩ c').setCell ⟨g, 3, none⟩ d') g [a', b', c', d'] t := by
  have h1 := h.set 0 a'
  have h2 := h1.set 1 b'
  have h3 := h2.set 2 c'
  have h4 := h3.set 3 d'
  simpa using h4
theorem gb_set {a w : World} {row : Option Nat} (h : a.grownBy w row) {b i : Nat} (hb : a.heap.size ≤ b) (v : Value) : a.grownBy (w.setCell ⟨b, i, none⟩ v) row := gb_then h (grownBy_setCell w b i v) (fun j hj => .inl (by injection hj with hj; omega))
theorem gb_drew {a w : World} {row : Option Nat} (h : a.grownBy w row) : a.grownBy w.drew row := ⟨h.os, h.tape, h.output, h.size, h.block⟩
theorem size49 : (Tryz.prog.info? 145).map (·.size) = some 4 := by kernel_rfl
theorem zero49 (w : World) : (zeroValue 145).run Tryz.prog w = .ok (.agg #[.string ⟨#[]⟩, .int .i64 0, .int .i64 0, .int .i64 0]) w := by kernel_rfl
theorem size95 : (Tryz.prog.info? 82).map (·.size) = some 2 := by kernel_rfl
end Go.Proofs.YtojhlhpbhoeplaaGreatDoor.Sh
