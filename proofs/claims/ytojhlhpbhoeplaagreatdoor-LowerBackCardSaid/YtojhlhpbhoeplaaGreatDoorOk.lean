/-
  The contracts of obj's root, page, listing, meta: an object's fields, read. Conditions: each law's own.
-/
import Derived.Test.YtojhlhpbhoeplaaGreatDoorOj
namespace Go.Proofs.YtojhlhpbhoeplaaGreatDoor.Sh
open Go.RowKit Go.Lib Lb

theorem ownG_kept {α : Type} {e : TypeId} {size B g : Nat} {cells : α → List Value} {w w' : World} {l : List α} {v : Value} (h : OwnG e size cells B w l v) (hg : w.grownBy w' (some g)) (hb : g < B) : OwnG e size cells B w' l v := row_kept h hg hb
theorem ownG_slice {α : Type} {e : TypeId} {size B : Nat} {cells : α → List Value} {w : World} {l : List α} {v : Value} (h : OwnG e size cells B w l v) : ∃ ao c, v = .slice ao l.length c := by
  obtain ⟨_, ⟨rfl, h2⟩ | ⟨g, c, cur, rfl, _⟩⟩ := h
  · exact ⟨none, 0, by rw [h2]⟩
  · exact ⟨_, _, rfl⟩
theorem ownA_slice {B : Nat} {w : World} {l : List (ByteArray × List UInt8)} {v : Value} (h : OwnA B w l v) : ∃ ao c, v = .slice ao l.length c := by
  obtain ⟨us, _, ⟨_, ⟨rfl, h2⟩ | ⟨g, c, cur, rfl, _⟩⟩, _⟩ := h
  · exact ⟨none, 0, by rw [h2]⟩
  · exact ⟨_, _, rfl⟩
theorem ownG_set {α : Type} {e : TypeId} {size B b i : Nat} {cells : α → List Value} {w : World} {l : List α} {v : Value} (h : OwnG e size cells B w l v) (hb : b < B) (x : Value) : OwnG e size cells B (w.setCell ⟨b, i, none⟩ x) l v := row_kept h (grownBy_setCell w b i x) hb
theorem row_len {α : Type} {p : List UInt8 → Option (α × List UInt8)} : ∀ {n : Nat} {l r : List UInt8} {xs : List α}, pRow p n l = some (xs, r) → xs.length = n
  | 0, l, r, xs, h => by
    rw [pRow] at h
    simp only [Option.some.injEq, Prod.mk.injEq] at h
    rw [← h.1]
    rfl
  | n + 1, l, r, xs, h => by
    rw [pRow] at h
    cases h1 : p l with
    | none => rw [h1] at h; cases h
    | some u =>
      obtain ⟨x, s⟩ := u
      rw [h1] at h
      simp only at h
      cases h2 : pRow p n s with
      | none => rw [h2] at h; cases h
      | some v =>
        obtain ⟨ys, t⟩ := v
        rw [h2] at h
        simp only [Option.some.injEq, Prod.mk.injEq] at h
        rw [← h.1, List.length_cons, row_len h2]
theorem many_len {α : Type} {p : List UInt8 → Option (α × List UInt8)} {m : Nat} {l r : List UInt8} {xs : List α} (h : pMany m p l = some (xs, r)) : xs.length ≤ m := by
  cases h1 : pNum m l with
  | none => rw [many_none h1] at h; cases h
  | some u =>
    obtain ⟨n, s⟩ := u
    rw [many_some h1] at h
    have h2 := row_len h
    have h3 := num_some h1
    omega
/-- a root, as the program reads it -/
def pRootP : List UInt8 → Option (RootP × List UInt8) := pMap (fun z : Int × List ByteArray => (⟨z.1, z.2⟩ : RootP)) (pSeq (pNum 32768) fun _ => pMany 32768 pKey)
def VRoot (B : Nat) (w : World) (x : RootP) (v : Value) : Prop := ∃ u, v = .agg #[.int .i64 x.next, u] ∧ OwnG 143 1 cellsS B w x.pages u
/-- a page -/
def pPageP : List UInt8 → Option (PageP × List UInt8) := pMap (fun z : List Int × List ByteArray => (⟨z.1, z.2⟩ : PageP)) (pSeq (pMany 32768 (pNum 32768)) fun a => pRow pKey a.length)
def VPage (B : Nat) (w : World) (x : PageP) (v : Value) : Prop := ∃ u t, v = .agg #[u, t] ∧ OwnG 3 1 cellsI B w x.nums u ∧ OwnG 143 1 cellsS B w x.keys t
/-- a listing -/
def pListP : List UInt8 → Option (ListP × List UInt8) := pMap (fun z : Bool × List ByteArray × List Int => (⟨z.1, z.2.1, z.2.2⟩ : ListP)) (pSeq pFlag fun _ => pSeq (pMany 32768 (pText 1000)) fun a => pRow (pNum 32768) a.length)
def VList (B : Nat) (w : World) (x : ListP) (v : Value) : Prop := ∃ u t, v = .agg #[.bool x.opq, u, t] ∧ OwnG 9 1 cellsS B w x.names u ∧ OwnG 3 1 cellsI B w x.nums t
/-- a node -/
def pMetaP : List UInt8 → Option (MetaP × List UInt8) :=
  pMap (fun z : Int × Int × Int × Int × ByteArray × List (ByteArray × List UInt8) × List RefP => (⟨z.1, z.2.1, z.2.2.1, z.2.2.2.1, z.2.2.2.2.1, z.2.2.2.2.2.1, z.2.2.2.2.2.2⟩ : MetaP))
    (pSeq (pNum 32768) fun _ => pSeq (pNum 32768) fun _ => pSeq (pNum 32768) fun _ => pSeq (pNum 32768) fun _ => pSeq (pText 1000) fun _ => pSeq (pMany 32768 pAttP) fun _ => pMany 32768 pRefP)
def VMeta (B : Nat) (w : World) (x : MetaP) (v : Value) : Prop := ∃ u t, v = .agg #[.int .i64 x.kind, .int .i64 x.mode, .int .i64 x.links, .int .i64 x.size, .string x.target, u, t] ∧ OwnA B w x.attrs u ∧ OwnG 145 4 cellsR B w x.refs t
theorem set_three {w : World} {g : Nat} {a b c : Value} {t : TypeId} (h : Blk w g [a, b, c] t) (a' b' c' : Value) : Blk (((w.setCell ⟨g, 0, none⟩ a').setCell ⟨g, 1, none⟩ b').setCell ⟨g, 2, none⟩ c') g [a', b', c'] t := by
  have h3 := ((h.set 0 a').set 1 b').set 2 c'
  simpa using h3
theorem set_seven {w : World} {g : Nat} {a b c d x y z : Value} {t : TypeId} (h : Blk w g [a, b, c, d, x, y, z] t) (a' b' c' d' x' y' z' : Value) : Blk (((((((w.setCell ⟨g, 0, none⟩ a').setCell ⟨g, 1, none⟩ b').setCell ⟨g, 2, none⟩ c').setCell ⟨g, 3, none⟩ d').setCell ⟨g, 4, none⟩ x').setCell ⟨g, 5, none⟩ y').setCell ⟨g, 6, none⟩ z') g [a', b', c', d', x', y', z'] t := by
  have h3 := ((((((h.set 0 a').set 1 b').set 2 c').set 3 d').set 4 x').set 5 y').set 6 z'
  simpa using h3
end Go.Proofs.YtojhlhpbhoeplaaGreatDoor.Sh
