/-
  Maps of places and of numbers, as data. No other condition.
-/
import Derived.Test.YtcgbaiogbcodcaaGreatDoorPf
import Derived.Maps.OwnSet
namespace Go.Proofs.YtcgbaiogbcodcaaGreatDoor.Pf
open Go Go.Maps

def plD (t : Nat) (d : Int) : DataW Unit := .agg [.lit (.int .i64 (t : Int)), .lit (.int .i64 d)]
def plV (t : Nat) (d : Int) : Value := .agg #[.int .i64 (t : Int), .int .i64 d]
theorem plV_inj {t s : Nat} {d e : Int} (h : plV t d = plV s e) : t = s ∧ d = e := by
  unfold plV at h
  injection h with h
  have h2 := congrArg Array.toList h
  simp only [List.cons.injEq, Value.int.injEq, true_and, and_true] at h2
  exact ⟨by omega, h2.2⟩
open Classical in
/-- how a place's value reads -/
noncomputable def plR (v : Value) : Option (DataW Unit × List MemPlace) := if h : ∃ p : Nat × Int, v = plV p.1 p.2 then some (plD h.choose.1 h.choose.2, []) else none
theorem plR_of (t : Nat) (d : Int) : plR (plV t d) = some (plD t d, []) := by
  unfold plR
  have h : ∃ p : Nat × Int, plV t d = plV p.1 p.2 := ⟨(t, d), rfl⟩
  rw [dif_pos h]
  have e := plV_inj h.choose_spec
  rw [← e.1, ← e.2]
theorem plD_inj {t s : Nat} {d e : Int} (h : plD t d = plD s e) : t = s ∧ d = e := by
  unfold plD at h
  simp only [DataW.agg.injEq, List.cons.injEq, DataW.lit.injEq, Lit.int.injEq, true_and, and_true] at h
  exact ⟨by omega, h.2⟩
theorem plR_inv {v : Value} {t : Nat} {d : Int} {ps : List MemPlace} (h : plR v = some (plD t d, ps)) : v = plV t d ∧ ps = [] := by
  unfold plR at h
  by_cases hx : ∃ p : Nat × Int, v = plV p.1 p.2
  · rw [dif_pos hx] at h
    simp only [Option.some.injEq, Prod.mk.injEq] at h
    have e := plD_inj h.1
    exact ⟨by rw [← e.1, ← e.2]; exact hx.choose_spec, h.2.symm⟩
  · rw [dif_neg hx] at h
    cases h
theorem litI_ne {i j : Int} (h : i ≠ j) : Lit.int .i64 i ≠ Lit.int .i64 j := fun e => by
  injection e with _ e
  exact h e
/-- a map of places is that of those that stand -/
structure PlM (D : DataW Unit) (E : List (Int × Int)) : Prop where
  tidy : Tidy D
  at_ : ∀ x : Int, D.atKey (.int .i64 x) (plD 0 0) = plD (times E x) (dirOf E x)
  has : ∀ x : Int, has D (.int .i64 x) = decide (times E x ≠ 0)
  size : size D = (keysL E).length
theorem PlM.empty : PlM (.map []) [] := ⟨tidy_empty, fun x => rfl, fun x => by simp [times, Go.Maps.has], rfl⟩
theorem PlM.put {D : DataW Unit} {E : List (Int × Int)} (h : PlM D E) (n d : Int) : PlM (D.put (.int .i64 n) (plD (times E n + 1) d)) (E ++ [(n, d)]) := by
  refine ⟨h.tidy.put (by trivial) _, fun x => ?_, fun x => ?_, ?_⟩
  · rw [times_snoc, dirOf_snoc]
    by_cases hx : n = x
    · subst hx
      rw [if_pos rfl, if_pos rfl, atKey_put_same h.tidy.isMap (by trivial)]
    · rw [if_neg hx, if_neg hx, atKey_put_other (litI_ne (fun e => hx e.symm)), h.at_ x]
  · rw [times_snoc]
    by_cases hx : n = x
    · subst hx
      rw [if_pos rfl, has_put_same h.tidy.isMap (by trivial)]
      simp
    · rw [if_neg hx, has_put_other (litI_ne (fun e => hx e.symm)), h.has x]
  · rw [size_put h.tidy, keysL_snoc, h.has n, h.size]
    by_cases hx : times E n ≠ 0
    · rw [decide_eq_true hx, if_pos rfl, if_pos ((keysL_mem E n).2 hx)]
    · rw [decide_eq_false hx, if_neg (by simp), if_neg (fun hk => hx ((keysL_mem E n).1 hk)), List.length_append]
      rfl
/-- a map of numbers -/
def MapI (C : DataW Unit) (m : Int → Int) : Prop := ∀ x : Int, C.atKey (.int .i64 x) (.lit (.int .i64 0)) = .lit (.int .i64 (m x))
theorem mapI_put {C : DataW Unit} {m : Int → Int} (hC : IsMap C) (h : MapI C m) (a v : Int) : MapI (C.put (.int .i64 a) (.lit (.int .i64 v))) (fun n => if n = a then v else m n) := fun x => by
  by_cases hx : x = a
  · subst hx
    simp only [if_true]
    rw [atKey_put_same hC (by trivial)]
  · simp only [if_neg hx]
    rw [atKey_put_other (litI_ne hx), h x]
end Go.Proofs.YtcgbaiogbcodcaaGreatDoor.Pf
