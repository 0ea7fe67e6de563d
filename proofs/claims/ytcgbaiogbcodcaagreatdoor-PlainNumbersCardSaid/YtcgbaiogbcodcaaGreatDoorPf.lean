/-
  Who stands where: plain mathematics of places, of ways up, of numbers that rise. No other condition.
-/
import Derived.Maps.Views
namespace Go.Proofs.YtcgbaiogbcodcaaGreatDoor.Pf
open Go Go.Maps

/-- who stands where: the number, the directory -/
def ents (G : List (Int × List Int)) : List (Int × Int) := G.flatMap fun d => d.2.map fun n => (n, d.1)
def times (E : List (Int × Int)) (x : Int) : Nat := E.countP fun e => e.1 == x
def dirOf (E : List (Int × Int)) (x : Int) : Int := E.foldl (fun a e => if e.1 = x then e.2 else a) 0
theorem ents_snoc (G : List (Int × List Int)) (d : Int × List Int) : ents (G ++ [d]) = ents G ++ d.2.map fun n => (n, d.1) := by simp [ents]
theorem ents_mem {G : List (Int × List Int)} {x d : Int} : (x, d) ∈ ents G ↔ ∃ g ∈ G, g.1 = d ∧ x ∈ g.2 := by
  unfold ents
  rw [List.mem_flatMap]
  constructor
  · rintro ⟨g, hg, h⟩
    rw [List.mem_map] at h
    obtain ⟨n, hn, e⟩ := h
    injection e with e1 e2
    subst e1 e2
    exact ⟨g, hg, rfl, hn⟩
  · rintro ⟨g, hg, rfl, h⟩
    exact ⟨g, hg, List.mem_map.2 ⟨x, h, rfl⟩⟩
theorem times_snoc (E : List (Int × Int)) (n d x : Int) : times (E ++ [(n, d)]) x = if n = x then times E x + 1 else times E x := by
  unfold times
  rw [List.countP_append, List.countP_cons, List.countP_nil]
  by_cases h : n = x
  · subst h
    simp
  · have : (n == x) = false := by simpa using h
    simp [this, h]
theorem dirOf_snoc (E : List (Int × Int)) (n d x : Int) : dirOf (E ++ [(n, d)]) x = if n = x then d else dirOf E x := by
  unfold dirOf
  rw [List.foldl_append]
  rfl
theorem times_le (E : List (Int × Int)) (x : Int) : times E x ≤ E.length := List.countP_le_length
theorem times_mem {E : List (Int × Int)} {x : Int} : times E x ≠ 0 ↔ ∃ d, (x, d) ∈ E := by
  unfold times
  rw [← Nat.pos_iff_ne_zero, List.countP_pos_iff]
  constructor
  · rintro ⟨⟨n, d⟩, h, e⟩
    have : n = x := by simpa using e
    subst this
    exact ⟨d, h⟩
  · rintro ⟨d, h⟩
    exact ⟨(x, d), h, by simp⟩
theorem snoc_ind {α : Type} {P : List α → Prop} (h0 : P []) (h1 : ∀ l a, P l → P (l ++ [a])) (l : List α) : P l := by
  have h : ∀ r : List α, P r.reverse := by
    intro r
    induction r with
    | nil => exact h0
    | cons a r ih => rw [List.reverse_cons]; exact h1 _ _ ih
  have := h l.reverse
  rwa [List.reverse_reverse] at this
theorem dirOf_zero (E : List (Int × Int)) (x : Int) : times E x = 0 → dirOf E x = 0 := by
  refine snoc_ind (P := fun E => times E x = 0 → dirOf E x = 0) (fun _ => rfl) (fun l a ih => ?_) E
  obtain ⟨n, d⟩ := a
  rw [times_snoc, dirOf_snoc]
  by_cases h : n = x
  · rw [if_pos h]
    intro h2
    omega
  · rw [if_neg h, if_neg h]
    exact ih
theorem dirOf_mem (E : List (Int × Int)) (x : Int) : times E x ≠ 0 → (x, dirOf E x) ∈ E := by
  refine snoc_ind (P := fun E => times E x ≠ 0 → (x, dirOf E x) ∈ E) (fun h => absurd rfl h) (fun l a ih => ?_) E
  obtain ⟨n, d⟩ := a
  rw [times_snoc, dirOf_snoc]
  by_cases h : n = x
  · rw [if_pos h, if_pos h]
    intro _
    subst h
    simp
  · rw [if_neg h, if_neg h]
    exact fun h2 => List.mem_append_left _ (ih h2)
theorem dirOf_only (E : List (Int × Int)) (x d : Int) : times E x ≤ 1 → (x, d) ∈ E → dirOf E x = d := by
  refine snoc_ind (P := fun E => times E x ≤ 1 → (x, d) ∈ E → dirOf E x = d) (fun _ h => by cases h) (fun l a ih => ?_) E
  obtain ⟨n, c⟩ := a
  rw [times_snoc, dirOf_snoc]
  by_cases h : n = x
  · rw [if_pos h, if_pos h]
    intro h1 h2
    subst h
    rcases List.mem_append.1 h2 with h3 | h3
    · exact absurd (times_mem.2 ⟨d, h3⟩) (by omega)
    · simp only [List.mem_singleton, Prod.mk.injEq, true_and] at h3
      exact h3.symm
  · rw [if_neg h, if_neg h]
    intro h1 h2
    rcases List.mem_append.1 h2 with h3 | h3
    · exact ih h1 h3
    · simp only [List.mem_singleton, Prod.mk.injEq] at h3
      exact absurd h3.1.symm h
/-- the numbers that stand somewhere, each once -/
def keysL (E : List (Int × Int)) : List Int := E.foldl (fun L e => if e.1 ∈ L then L else L ++ [e.1]) []
theorem keysL_snoc (E : List (Int × Int)) (e : Int × Int) : keysL (E ++ [e]) = if e.1 ∈ keysL E then keysL E else keysL E ++ [e.1] := by
  unfold keysL
  rw [List.foldl_append]
  rfl
theorem keysL_mem (E : List (Int × Int)) (x : Int) : x ∈ keysL E ↔ times E x ≠ 0 := by
  refine snoc_ind (P := fun E => x ∈ keysL E ↔ times E x ≠ 0) (by simp [keysL, times]) (fun l a ih => ?_) E
  obtain ⟨n, d⟩ := a
  rw [keysL_snoc, times_snoc]
  by_cases h : n ∈ keysL l
  · rw [if_pos h]
    by_cases hx : n = x
    · subst hx
      rw [if_pos rfl]
      exact ⟨fun _ => by omega, fun _ => h⟩
    · rw [if_neg hx]
      exact ih
  · rw [if_neg h]
    by_cases hx : n = x
    · subst hx
      rw [if_pos rfl]
      exact ⟨fun _ => by omega, fun _ => by simp⟩
    · rw [if_neg hx, List.mem_append]
      simp only [List.mem_singleton]
      rw [ih]
      exact ⟨fun h => h.resolve_right (fun e => hx e.symm), .inl⟩
theorem keysL_nodup (E : List (Int × Int)) : (keysL E).Nodup := by
  refine snoc_ind (P := fun E => (keysL E).Nodup) (by simp [keysL]) (fun l a ih => ?_) E
  rw [keysL_snoc]
  by_cases h : a.1 ∈ keysL l
  · rw [if_pos h]
    exact ih
  · rw [if_neg h]
    rw [List.nodup_append]
    refine ⟨ih, by simp, fun x hx y hy => ?_⟩
    simp only [List.mem_singleton] at hy
    subst hy
    exact fun e => h (e ▸ hx)
/-- a row of unlike ones that is within another one of the same length has all of it -/
theorem nodup_len : ∀ (a b : List Int), a.Nodup → (∀ x ∈ a, x ∈ b) → a.length ≤ b.length
  | [], b, _, _ => Nat.zero_le _
  | x :: a, b, hn, h => by
    rw [List.nodup_cons] at hn
    have h1 := nodup_len a (b.erase x) hn.2 (fun y hy => (List.mem_erase_of_ne (fun e => hn.1 (by rw [← e]; exact hy))).2 (h y (List.mem_cons_of_mem _ hy)))
    have h2 := List.length_erase_of_mem (h x List.mem_cons_self)
    have h3 := List.length_pos_of_mem (h x List.mem_cons_self)
    rw [List.length_cons]
    omega
theorem nodup_full {a b : List Int} (ha : a.Nodup) (h : ∀ x ∈ a, x ∈ b) (hl : b.length ≤ a.length) : ∀ x ∈ b, x ∈ a := by
  intro x hx
  by_cases hxa : x ∈ a
  · exact hxa
  · exfalso
    have h1 := nodup_len (x :: a) b (List.nodup_cons.2 ⟨hxa, ha⟩) (fun y hy => by
      rcases List.mem_cons.1 hy with rfl | hy
      · exact hx
      · exact h y hy)
    rw [List.length_cons] at h1
    omega
/-- of rows that are inodes' numbers: as many stand as there are keys just if all keys are inodes' -/
theorem standing_iff {N : List Int} (hN : N.Nodup) (E : List (Int × Int)) : N.countP (fun x => decide (0 < times E x)) = (keysL E).length ↔ ∀ x, times E x ≠ 0 → x ∈ N := by
  have e : N.countP (fun x => decide (0 < times E x)) = (N.filter fun x => decide (0 < times E x)).length := List.countP_eq_length_filter
  have hn : (N.filter fun x => decide (0 < times E x)).Nodup := List.Nodup.sublist List.filter_sublist hN
  have hs : ∀ x ∈ N.filter (fun x => decide (0 < times E x)), x ∈ keysL E := fun x hx => by
    rw [List.mem_filter] at hx
    have h2 : 0 < times E x := by simpa using hx.2
    exact (keysL_mem E x).2 (by omega)
  constructor
  · intro h x hx
    have := nodup_full hn hs (by omega) x ((keysL_mem E x).2 hx)
    exact (List.mem_filter.1 this).1
  · intro h
    have h1 := nodup_len _ _ hn hs
    have h2 := nodup_len (keysL E) (N.filter fun x => decide (0 < times E x)) (keysL_nodup E) (fun x hx => by
      have h3 := (keysL_mem E x).1 hx
      exact List.mem_filter.2 ⟨h x h3, by simp; omega⟩)
    omega
/-- k steps up -/
def upN (E : List (Int × Int)) : Nat → Int → Int
  | 0, x => x
  | k + 1, x => dirOf E (upN E k x)
theorem upN_add (E : List (Int × Int)) (j : Nat) (x : Int) : ∀ k, upN E (k + j) x = upN E k (upN E j x)
  | 0 => by rw [Nat.zero_add]; rfl
  | k + 1 => by
    rw [show k + 1 + j = (k + j) + 1 by omega]
    show dirOf E (upN E (k + j) x) = dirOf E (upN E k (upN E j x))
    rw [upN_add E j x k]
def UpEnds (E : List (Int × Int)) (x : Int) : Prop := ∃ k, upN E k x = 0
theorem ends_up {E : List (Int × Int)} {x : Int} (k : Nat) (h : UpEnds E (upN E k x)) : UpEnds E x := by
  obtain ⟨j, hj⟩ := h
  exact ⟨j + k, by rw [upN_add, hj]⟩
theorem ends_on {E : List (Int × Int)} {x : Int} {j k : Nat} (hjk : j ≤ k) (h : UpEnds E (upN E k x)) : UpEnds E (upN E j x) := by
  refine ends_up (k - j) ?_
  rw [← upN_add, Nat.sub_add_cancel hjk]
  exact h
theorem ends_never {E : List (Int × Int)} {x : Int} {j k : Nat} (hjk : j < k) (he : upN E j x = upN E k x) (h0 : ∀ i, i < k → upN E i x ≠ 0) : ¬ UpEnds E x := by
  rintro ⟨m, hm⟩
  induction m using Nat.strongRecOn with
  | _ m ih =>
    rcases Nat.lt_or_ge m k with h | h
    · exact h0 m h hm
    · refine ih (m - k + j) (by omega) ?_
      rw [upN_add, he, ← upN_add, Nat.sub_add_cancel h]
      exact hm
/-- the state of a walk up from x: by says whose way each was met on -/
structure WayUp (E : List (Int × Int)) (N : List Int) (i : Nat) (x : Int) (k : Nat) (m : Int → Int) : Prop where
  old : ∀ n, m n ≠ 0 → m n = x ∨ (UpEnds E n ∧ m n ∈ N.take i)
  mine : ∀ n, m n = x ↔ ∃ j, j < k ∧ n = upN E j x
  live : ∀ j, j < k → upN E j x ≠ 0
  dom : ∀ n, m n ≠ 0 → n ∈ N
/-- .. between two walks -/
structure WaysUp (E : List (Int × Int)) (N : List Int) (i : Nat) (m : Int → Int) : Prop where
  old : ∀ n, m n ≠ 0 → UpEnds E n ∧ m n ∈ N.take i
  dom : ∀ n, m n ≠ 0 → n ∈ N
  done : ∀ x ∈ N.take i, UpEnds E x
theorem WaysUp.start (E : List (Int × Int)) (N : List Int) : WaysUp E N 0 (fun _ => 0) := ⟨fun n h => absurd rfl h, fun n h => absurd rfl h, fun x hx => by simp at hx⟩
theorem not_take {N : List Int} (hN : N.Nodup) {i : Nat} {x : Int} (hx : N[i]? = some x) : x ∉ N.take i := by
  intro h
  obtain ⟨j, hj, e⟩ := List.mem_take_iff_getElem.1 h
  obtain ⟨hi, e2⟩ := List.getElem?_eq_some_iff.1 hx
  have := (List.getElem_inj (h₀ := by omega) (h₁ := hi) hN).1 (e.trans e2.symm)
  omega
theorem WaysUp.enter {E : List (Int × Int)} {N : List Int} {i : Nat} {m : Int → Int} (h : WaysUp E N i m) (hN : N.Nodup) {x : Int} (hx : N[i]? = some x) (h0 : x ≠ 0) : WayUp E N i x 0 m := by
  refine ⟨fun n hn => .inr (h.old n hn), fun n => ⟨fun e => ?_, fun ⟨j, hj, _⟩ => by omega⟩, fun j hj => by omega, h.dom⟩
  exact absurd (e ▸ (h.old n (by rw [e]; exact h0)).2) (not_take hN hx)
theorem WayUp.next {E : List (Int × Int)} {N : List Int} {i k : Nat} {x : Int} {m : Int → Int} (h : WayUp E N i x k m) (hl : upN E k x ≠ 0) (hd : upN E k x ∈ N) : WayUp E N i x (k + 1) (fun n => if n = upN E k x then x else m n) := by
  refine ⟨fun n hn => ?_, fun n => ?_, fun j hj => ?_, fun n hn => ?_⟩
  · by_cases e : n = upN E k x
    · exact .inl (if_pos e)
    · simp only [if_neg e] at hn ⊢
      exact h.old n hn
  · by_cases e : n = upN E k x
    · simp only [if_pos e, true_iff]
      exact ⟨k, by omega, e⟩
    · simp only [if_neg e]
      rw [h.mine n]
      constructor
      · rintro ⟨j, hj, rfl⟩
        exact ⟨j, by omega, rfl⟩
      · rintro ⟨j, hj, rfl⟩
        refine ⟨j, ?_, rfl⟩
        rcases Nat.lt_or_ge j k with h2 | h2
        · exact h2
        · exact absurd (by rw [show j = k by omega]) e
  · rcases Nat.lt_or_ge j k with h2 | h2
    · exact h.live j h2
    · rw [show j = k by omega]
      exact hl
  · by_cases e : n = upN E k x
    · rw [e]
      exact hd
    · simp only [if_neg e] at hn
      exact h.dom n hn
theorem WayUp.leave {E : List (Int × Int)} {N : List Int} {i k : Nat} {x : Int} {m : Int → Int} (h : WayUp E N i x k m) (hx : N[i]? = some x) (hp : ∀ y ∈ N.take i, UpEnds E y) (he : UpEnds E (upN E k x)) : WaysUp E N (i + 1) m := by
  have hxe : UpEnds E x := ends_up k he
  have ht : N.take (i + 1) = N.take i ++ [x] := by rw [List.take_add_one, hx]; rfl
  refine ⟨fun n hn => ?_, h.dom, fun y hy => ?_⟩
  · rcases h.old n hn with e | ⟨h1, h2⟩
    · obtain ⟨j, hj, rfl⟩ := (h.mine n).1 e
      refine ⟨ends_on (by omega) he, ?_⟩
      rw [ht, e]
      simp
    · exact ⟨h1, by rw [ht]; exact List.mem_append_left _ h2⟩
  · rw [ht] at hy
    rcases List.mem_append.1 hy with h1 | h1
    · exact hp y h1
    · simp only [List.mem_singleton] at h1
      rw [h1]
      exact hxe
theorem WayUp.ring {E : List (Int × Int)} {N : List Int} {i k : Nat} {x : Int} {m : Int → Int} (h : WayUp E N i x k m) (he : m (upN E k x) = x) : ¬ UpEnds E x := by
  obtain ⟨j, hj, e⟩ := (h.mine _).1 he
  exact ends_never hj e.symm h.live
/-- how many are not met -/
def unmet (N : List Int) (m : Int → Int) : Nat := N.countP fun n => m n == 0
theorem unmet_le (N : List Int) (m : Int → Int) : unmet N m ≤ N.length := List.countP_le_length
theorem unmet_lt {N : List Int} {m : Int → Int} {y x : Int} (hy : y ∈ N) (hm : m y = 0) (hx : x ≠ 0) : unmet N (fun n => if n = y then x else m n) < unmet N m := by
  have hle : ∀ L : List Int, L.countP (fun n => (if n = y then x else m n) == 0) ≤ L.countP (fun n => m n == 0) := fun L => by
    refine List.countP_mono_left fun n _ h => ?_
    by_cases e : n = y
    · rw [if_pos e] at h
      exact absurd (by simpa using h) hx
    · rw [if_neg e] at h
      exact h
  unfold unmet
  show N.countP (fun n => (if n = y then x else m n) == 0) < _
  induction N with
  | nil => cases hy
  | cons a N ih =>
    rw [List.countP_cons (l := N), List.countP_cons (l := N)]
    by_cases ha : a = y
    · subst ha
      rw [if_pos rfl, hm]
      have h1 := hle N
      have h2 : (x == 0) = false := by simpa using hx
      rw [h2]
      simp only [Bool.false_eq_true, if_false, beq_self_eq_true, if_true]
      omega
    · rw [if_neg ha]
      have h1 := ih (by rcases List.mem_cons.1 hy with h | h; exact absurd h.symm ha; exact h)
      omega
end Go.Proofs.YtcgbaiogbcodcaaGreatDoor.Pf
