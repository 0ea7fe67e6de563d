/-
  The contracts of the package's Check of whatever row, and of the document's own place. Conditions: each law's own.
-/
import Derived.Test.YtpcmminokhmkjaaDoorSn
namespace Go.Proofs.YtpcmminokhmkjaaDoor.St
open Go.Shelf Go.RowKit Go.Lib Go.Sort
set_option maxRecDepth 100000 in
theorem check_none (p : Option Addr) (cap : Nat) (w : World) : Calls Tryd.prog 5 #[.slice p 0 cap] w fun e w' => e = .returned (.bool true) ∧ w' = w := by
  go_enter Tryd.func5, Tryd.ntmps5
  go_wp2
  refine wp_loop_rounds 1 ?_
  rw [rounds_succ]
  go_wp2
  go_ret
  exact ⟨rfl, rfl⟩
theorem check_any (ao : Option Addr) (n cap : Nat) (l : List Ent) (w : World) (h : Erw w ao l) (hn : l.length = n) (hn2 : n ≤ 1099511627776) (hk : ∀ i, i < n → l[i]!.key.size ≤ 9223372036854775807) :
    Calls Tryd.prog 5 #[.slice ao n cap] w fun e w' => e = .returned (.bool (chk l)) ∧ Gw w w' := by
  cases l with
  | nil =>
    subst hn
    refine (check_none ao cap w).mono ?_
    rintro e w' ⟨rfl, rfl⟩
    exact ⟨rfl, Gw.refl _⟩
  | cons x r =>
    obtain ⟨b, o, rfl, hb, hc⟩ := h (by simp)
    exact check_some b o n cap (x :: r) w hb hc hn hn2 hk
/-- where a key stands, or would -/
def plc (l : List Ent) (k : ByteArray) : Nat := (l.takeWhile fun e => kl e.key k).length
theorem plc_le (l : List Ent) (k : ByteArray) : plc l k ≤ l.length := (List.takeWhile_sublist _).length_le
theorem plc_below : ∀ (l : List Ent) (k : ByteArray) (i : Nat), i < plc l k → kl l[i]!.key k = true
  | [], _, i, h => by simp [plc] at h
  | x :: r, k, i, h => by
    unfold plc at h
    rw [List.takeWhile_cons] at h
    cases hx : kl x.key k with
    | false => rw [hx] at h; simp at h
    | true =>
      rw [hx] at h
      cases i with
      | zero => simpa using hx
      | succ i =>
        have := plc_below r k i (by simp at h; exact h)
        simpa using this
theorem plc_at : ∀ (l : List Ent) (k : ByteArray), plc l k < l.length → kl l[plc l k]!.key k = false
  | [], _, h => by simp at h
  | x :: r, k, h => by
    unfold plc at h ⊢
    rw [List.takeWhile_cons] at h ⊢
    cases hx : kl x.key k with
    | false => simp [hx]
    | true =>
      rw [hx] at h
      simp only [if_true, List.length_cons] at h ⊢
      have := plc_at r k (by unfold plc; omega)
      unfold plc at this
      simpa using this
theorem plc_of {l : List Ent} {k : ByteArray} {i : Nat} (hi : i ≤ l.length) (h1 : ∀ q, q < i → kl l[q]!.key k = true) (h2 : i < l.length → kl l[i]!.key k = false) : plc l k = i := by
  rcases Nat.lt_trichotomy (plc l k) i with c | c | c
  · have := plc_at l k (by omega)
    rw [h1 _ c] at this
    cases this
  · exact c
  · have := plc_below l k i c
    rw [h2 (by have := plc_le l k; omega)] at this
    cases this
end Go.Proofs.YtpcmminokhmkjaaDoor.St
