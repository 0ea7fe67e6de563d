/-
  Entries as memory holds them; the contracts of cmp.Compare at keys, and of what Merge hands the sort. No condition.
-/
import Derived.Test.YtpcmminokhmkjaaDoorShelf
import Derived.Test.YtpcmminokhmkjaaDoorPm
import Derived.Below
import Derived.Lib.Hide
import Derived.Laws.Cover1
namespace Go.Proofs.YtpcmminokhmkjaaDoor.St
open Go.Shelf Go.RowKit Go.Lib Go.Sort
structure Ent where
  key : ByteArray
  pack : Int
  off : Int
  size : Int
  refs : Int
deriving DecidableEq
instance : Inhabited Ent := ⟨⟨⟨#[]⟩, 0, 0, 0, 0⟩⟩
/-- its five cells -/
def encE (e : Ent) : List Value := [.string e.key, .int .i64 e.pack, .int .i64 e.off, .int .i64 e.size, .int .i64 e.refs]
theorem bl_cons (a b : UInt8) (x y : List UInt8) : Op.bytesLess (a :: x) (b :: y) = true ↔ a < b ∨ (a = b ∧ Op.bytesLess x y = true) := by
  rw [Op.bytesLess]
  simp
theorem bl_lt : ∀ a b : List UInt8, Op.bytesLess a b = true ↔ a < b
  | [], [] => by simp [Op.bytesLess]
  | [], _ :: _ => by simp [Op.bytesLess]
  | _ :: _, [] => by simp [Op.bytesLess]
  | x :: a, y :: b => by
    rw [bl_cons, bl_lt a b, List.cons_lt_cons_iff]
theorem bl_eq {a b : List UInt8} (h : Op.bytesLess a b = false) : (a == b) = !Op.bytesLess b a := by
  cases h2 : Op.bytesLess b a with
  | true =>
    have := (bl_lt _ _).1 h2
    cases h3 : (a == b) with
    | false => rfl
    | true => rw [eq_of_beq h3] at this; exact absurd this (List.lt_irrefl _)
  | false =>
    have n1 : ¬ a < b := fun hh => by rw [(bl_lt _ _).2 hh] at h; cases h
    have n2 : ¬ b < a := fun hh => by rw [(bl_lt _ _).2 hh] at h2; cases h2
    have e : a = b := List.le_antisymm (List.not_lt.1 n2) (List.not_lt.1 n1)
    rw [e]
    simp
/-- a key that is less -/
def kl (a b : ByteArray) : Bool := Op.bytesLess a.toList b.toList
def cmpK (a b : ByteArray) : Int := if kl a b then -1 else if kl b a then 1 else 0
set_option maxRecDepth 100000 in
theorem isnan_any (a : ByteArray) (w : World) : Calls Tryd.prog 36 #[.string a] w fun e w' => e = .returned (.bool false) ∧ w' = w := by
  go_enter Tryd.func36, Tryd.ntmps36
  go_wp2
  go_ret
  exact ⟨rfl, rfl⟩
set_option maxRecDepth 100000 in
theorem compare_any (a b : ByteArray) (w : World) : Calls Tryd.prog 21 #[.string a, .string b] w fun e w' => e = .returned (.int .i64 (cmpK a b)) ∧ w' = w := by
  unfold cmpK kl
  have n1 := fun W => isnan_any a W
  have n2 := fun W => isnan_any b W
  cases h1 : Op.bytesLess a.toList b.toList with
  | true =>
    go_enter Tryd.func21, Tryd.ntmps21
    go_wp2_with (first | (go_at_call 36; (with_reducible refine (n1 _).mono ?_); rintro e w' ⟨rfl, rfl⟩) | (go_at_call 36; (with_reducible refine (n2 _).mono ?_); rintro e w' ⟨rfl, rfl⟩))
    go_ret
    exact ⟨rfl, rfl⟩
  | false =>
    have h3 := bl_eq h1
    cases h2 : Op.bytesLess b.toList a.toList with
    | true =>
      rw [h2] at h3
      go_enter Tryd.func21, Tryd.ntmps21
      go_wp2_with (first | (go_at_call 36; (with_reducible refine (n1 _).mono ?_); rintro e w' ⟨rfl, rfl⟩) | (go_at_call 36; (with_reducible refine (n2 _).mono ?_); rintro e w' ⟨rfl, rfl⟩))
      go_ret
      exact ⟨rfl, rfl⟩
    | false =>
      rw [h2] at h3
      go_enter Tryd.func21, Tryd.ntmps21
      go_wp2_with (first | (go_at_call 36; (with_reducible refine (n1 _).mono ?_); rintro e w' ⟨rfl, rfl⟩) | (go_at_call 36; (with_reducible refine (n2 _).mono ?_); rintro e w' ⟨rfl, rfl⟩))
      go_ret
      exact ⟨rfl, rfl⟩
/-- entries, each with the place that it came from -/
abbrev TE := Ent × Nat
def encT (x : TE) : List Value := encE x.1
def cfT (x y : TE) : Int := cmpK x.1.key y.1.key
def ltT (x y : TE) : Bool := kl x.1.key y.1.key
def tgT (x : TE) : Nat := x.2
set_option maxRecDepth 100000 in
theorem closure20 (x y : Ent) (W : World) : Calls Tryd.prog 20 #[.agg (encE x).toArray, .agg (encE y).toArray] W fun e w' => e = .returned (.int .i64 (cmpK x.key y.key)) ∧ ∃ q os', w' = grow (W.drewN q) os' := by
  obtain ⟨k, a, b, c, d⟩ := x
  obtain ⟨k2, a2, b2, c2, d2⟩ := y
  have hcon := fun W' => compare_any k k2 W'
  simp only [encE]
  generalize cmpK k k2 = r at hcon ⊢
  go_enter Tryd.func20, Tryd.ntmps20
  go_wp2_with (go_at_call 21; refine (hcon _).mono ?_; rintro e w' ⟨rfl, rfl⟩)
  go_ret
  exact ⟨rfl, 0, _, by rw [alloc_eq_grow, alloc_eq_grow, grow_grow]; rfl⟩
theorem cmpLays20 (blk off size : Nat) (w : World) : CmpLays Tryd.prog 20 #[] encT 5 cfT blk off size w :=
  fun _ _ _ _ x y => closure20 x.1 y.1 _
theorem cf_lt (x y : TE) : (cfT x y < 0) ↔ ltT x y = true := by
  unfold cfT ltT cmpK
  cases h1 : kl x.1.key y.1.key with
  | true => simp
  | false => cases kl y.1.key x.1.key <;> simp
theorem ltOf_cf : ltOf cfT = ltT := by
  funext x y
  unfold ltOf
  cases h : ltT x y with
  | true => exact decide_eq_true ((cf_lt x y).2 h)
  | false => exact decide_eq_false (fun hh => by rw [(cf_lt x y).1 hh] at h; cases h)
theorem kl_irrefl (a : ByteArray) : kl a a = false := by
  cases h : kl a a with
  | false => rfl
  | true => exact absurd ((bl_lt _ _).1 h) (List.lt_irrefl _)
theorem kl_trans {a b c : ByteArray} (h1 : kl a b = true) (h2 : kl b c = true) : kl a c = true := (bl_lt _ _).2 (List.lt_trans ((bl_lt _ _).1 h1) ((bl_lt _ _).1 h2))
theorem kl_ntrans {a b c : ByteArray} (h1 : kl a b = false) (h2 : kl b c = false) : kl a c = false := by
  cases h : kl a c with
  | false => rfl
  | true =>
    have n1 : ¬ a.toList < b.toList := fun hh => by rw [show kl a b = true from (bl_lt _ _).2 hh] at h1; cases h1
    have n2 : ¬ b.toList < c.toList := fun hh => by rw [show kl b c = true from (bl_lt _ _).2 hh] at h2; cases h2
    have l1 : b.toList ≤ a.toList := List.not_lt.1 n1
    have l2 : c.toList ≤ b.toList := List.not_lt.1 n2
    exact absurd ((bl_lt _ _).1 h) (List.not_lt.2 (List.le_trans l2 l1))
theorem swoT : SWO ltT where
  irrefl _ := kl_irrefl _
  trans _ _ _ h1 h2 := kl_trans h1 h2
  ntrans _ _ _ h1 h2 := kl_ntrans h1 h2
end Go.Proofs.YtpcmminokhmkjaaDoor.St
