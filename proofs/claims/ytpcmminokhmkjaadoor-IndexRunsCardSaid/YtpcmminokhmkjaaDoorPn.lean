/-
  Plain: the insertion sort is stable; blocks, sorted and merged pair by pair. Conditions: each law's own. No program is spoken of.
-/
import Derived.Test.YtpcmminokhmkjaaDoorPm
import Derived.Sort.WalkA
namespace Go.Proofs.YtpcmminokhmkjaaDoor.St
open Go.Sort
section
variable {α : Type} [Inhabited α] {lt : α → α → Bool} {tg : α → Nat}
theorem insInner_tag {a : Nat} : ∀ (j : Nat) (d : Array α), j < d.size → (∀ p, a ≤ p → p < j → tg d[p]! < tg d[j]!) → insInner lt a j d = insInner (lt2 lt tg) a j d
  | 0, d, _, _ => by rw [insInner_stop lt a 0 d (.inl (Nat.zero_le _)), insInner_stop (lt2 lt tg) a 0 d (.inl (Nat.zero_le _))]
  | j + 1, d, hs, h => by
    by_cases hj : a < j + 1
    · cases hl : lt d[j + 1]! d[j]! with
      | true =>
        have hl2 : lt2 lt tg d[j + 1]! d[j]! = true := by unfold lt2; rw [hl]; rfl
        rw [insInner_go lt a (j + 1) d hj (by simpa using hl), insInner_go (lt2 lt tg) a (j + 1) d hj (by simpa using hl2)]
        simp only [Nat.add_sub_cancel]
        refine insInner_tag j _ (by rw [size_swp]; omega) fun p h1 h2 => ?_
        rw [swp_other d (j + 1) j p (by omega) (by omega), swp_right d (j + 1) j (by omega)]
        exact h p h1 (by omega)
      | false =>
        have hl2 : lt2 lt tg d[j + 1]! d[j]! = false := lt2_false.2 ⟨hl, .inr (Nat.le_of_lt (h j (by omega) (by omega)))⟩
        rw [insInner_stop lt a (j + 1) d (.inr (by simpa using hl)), insInner_stop (lt2 lt tg) a (j + 1) d (.inr (by simpa using hl2))]
    · rw [insInner_stop lt a (j + 1) d (.inl (by omega)), insInner_stop (lt2 lt tg) a (j + 1) d (.inl (by omega))]
theorem insInner_perm {a b : Nat} : ∀ (j : Nat) (d : Array α), a ≤ j → j < b → b ≤ d.size → PermIn a b d (insInner lt a j d)
  | 0, d, _, _, _ => by rw [insInner_stop lt a 0 d (.inl (Nat.zero_le _))]; exact permIn_refl _ _ _
  | j + 1, d, ha, hb, hs => by
    by_cases hj : a < j + 1
    · cases hl : lt d[j + 1]! d[j]! with
      | true =>
        rw [insInner_go lt a (j + 1) d hj (by simpa using hl)]
        simp only [Nat.add_sub_cancel]
        exact permIn_trans _ _ _ _ _ (swp_permIn d a b (j + 1) j ha hb (by omega) (by omega) hs) (insInner_perm j _ (by omega) (by omega) (by rw [size_swp]; exact hs))
      | false =>
        rw [insInner_stop lt a (j + 1) d (.inr (by simpa using hl))]
        exact permIn_refl _ _ _
    · rw [insInner_stop lt a (j + 1) d (.inl (by omega))]
      exact permIn_refl _ _ _
theorem insOuter_tag {a b : Nat} : ∀ (n i : Nat) (d : Array α), b - i = n → a < i → i ≤ b → b ≤ d.size → (∀ p q, a ≤ p → p < q → i ≤ q → q < b → tg d[p]! < tg d[q]!) → insOuter lt a b i d = insOuter (lt2 lt tg) a b i d
  | 0, i, d, hn, _, _, _, _ => by rw [insOuter_stop lt a b i d (by omega), insOuter_stop (lt2 lt tg) a b i d (by omega)]
  | n + 1, i, d, hn, ha, hi, hs, H => by
    have hib : i < b := by omega
    rw [insOuter_go lt a b i d hib, insOuter_go (lt2 lt tg) a b i d hib, ← insInner_tag i d (by omega) (fun p h1 h2 => H p i h1 h2 (Nat.le_refl _) hib)]
    have hp := insInner_perm (lt := lt) (a := a) (b := i + 1) i d (by omega) (by omega) (by omega)
    refine insOuter_tag n (i + 1) _ (by omega) (by omega) (by omega) (by rw [hp.1]; exact hs) fun p q h1 h2 h3 h4 => ?_
    rw [hp.2.1 q (.inr h3)]
    rcases Nat.lt_or_ge i p with c | c
    · rw [hp.2.1 p (.inr c)]
      exact H p q h1 h2 (by omega) h4
    · obtain ⟨p', k1, k2, e⟩ := perm_from (by omega) hp h1 (by omega : p < i + 1)
      rw [e]
      exact H p' q k1 (by omega) (by omega) h4
theorem ins_stable (hS : SWO lt) (d : Array α) (a b : Nat) (hab : a ≤ b) (hb : b ≤ d.size) (ht : ∀ p q, a ≤ p → p < q → q < b → tg d[p]! < tg d[q]!) : PermIn a b d (insertionSort lt d a b) ∧ So lt tg a b (insertionSort lt d a b) := by
  have e : insertionSort lt d a b = insertionSort (lt2 lt tg) d a b := by
    unfold insertionSort
    by_cases h : a + 1 ≤ b
    · exact insOuter_tag (b - (a + 1)) (a + 1) d rfl (by omega) h hb (fun p q h1 h2 _ h4 => ht p q h1 h2 h4)
    · rw [insOuter_stop lt a b _ d (by omega), insOuter_stop (lt2 lt tg) a b _ d (by omega)]
  rw [e]
  exact insertionSort_holds (swo2 hS) d a b hab hb
/-- blocks, each sorted; what stands in one came from it -/
structure BI (lt : α → α → Bool) (tg : α → Nat) (bs n : Nat) (d : Array α) : Prop where
  so : ∀ q, So lt tg (q * bs) (min ((q + 1) * bs) n) d
  tags : ∀ q k, q * bs ≤ k → k < (q + 1) * bs → k < n → q * bs ≤ tg d[k]! ∧ tg d[k]! < (q + 1) * bs
/-- the first blocks are sorted -/
structure J1 (lt : α → α → Bool) (tg : α → Nat) (n q : Nat) (d : Array α) : Prop where
  so : ∀ r, r < q → So lt tg (r * 20) ((r + 1) * 20) d
  tags : ∀ r k, r < q → r * 20 ≤ k → k < (r + 1) * 20 → r * 20 ≤ tg d[k]! ∧ tg d[k]! < (r + 1) * 20
  rest : ∀ k, q * 20 ≤ k → k < n → tg d[k]! = k
theorem j1_next {n q : Nat} {d d' : Array α} (hn : (q + 1) * 20 ≤ n) (hd : d.size = n) (h : J1 lt tg n q d) (hp : PermIn (q * 20) ((q + 1) * 20) d d') (hs : So lt tg (q * 20) ((q + 1) * 20) d') : J1 lt tg n (q + 1) d' where
  so r hr := by
    rcases Nat.lt_or_eq_of_le (Nat.le_of_lt_succ hr) with c | rfl
    · exact so_congr (h.so r c) fun k k1 k2 => hp.2.1 k (.inl (by omega))
    · exact hs
  tags r k hr k1 k2 := by
    rcases Nat.lt_or_eq_of_le (Nat.le_of_lt_succ hr) with c | rfl
    · rw [hp.2.1 k (.inl (by omega))]
      exact h.tags r k c k1 k2
    · obtain ⟨j, j1, j2, e⟩ := perm_from (by omega) hp k1 k2
      rw [e, h.rest j j1 (by omega)]
      exact ⟨j1, j2⟩
  rest k k1 k2 := by rw [hp.2.1 k (.inr k1)]; exact h.rest k (by omega) k2
theorem j1_end {n q : Nat} {d d' : Array α} (hn : n < (q + 1) * 20) (hq : q * 20 ≤ n) (hd : d.size = n) (h : J1 lt tg n q d) (hp : PermIn (q * 20) n d d') (hs : So lt tg (q * 20) n d') : BI lt tg 20 n d' where
  so r := by
    rcases Nat.lt_trichotomy r q with c | rfl | c
    · exact so_sub (so_congr (h.so r c) fun k k1 k2 => hp.2.1 k (.inl (by omega))) (Nat.le_refl _) (Nat.min_le_left _ _)
    · exact so_sub hs (Nat.le_refl _) (Nat.min_le_right _ _)
    · exact so_one (by have := Nat.min_le_right ((r + 1) * 20) n; omega)
  tags r k k1 k2 k3 := by
    rcases Nat.lt_trichotomy r q with c | rfl | c
    · rw [hp.2.1 k (.inl (by omega))]
      exact h.tags r k c k1 k2
    · obtain ⟨j, j1, j2, e⟩ := perm_from (by omega) hp k1 k3
      rw [e, h.rest j j1 j2]
      exact ⟨j1, by omega⟩
    · omega
/-- the first pairs of blocks are merged -/
structure J2 (lt : α → α → Bool) (tg : α → Nat) (bs n q : Nat) (d : Array α) : Prop where
  so : ∀ r, r < q → So lt tg (r * (2 * bs)) ((r + 1) * (2 * bs)) d
  tags : ∀ r k, r < q → r * (2 * bs) ≤ k → k < (r + 1) * (2 * bs) → r * (2 * bs) ≤ tg d[k]! ∧ tg d[k]! < (r + 1) * (2 * bs)
  so1 : ∀ r, 2 * q ≤ r → So lt tg (r * bs) (min ((r + 1) * bs) n) d
  tags1 : ∀ r k, 2 * q ≤ r → r * bs ≤ k → k < (r + 1) * bs → k < n → r * bs ≤ tg d[k]! ∧ tg d[k]! < (r + 1) * bs
theorem j2_start {bs n : Nat} {d : Array α} (h : BI lt tg bs n d) : J2 lt tg bs n 0 d := ⟨fun _ hr => absurd hr (Nat.not_lt_zero _), fun _ _ hr => absurd hr (Nat.not_lt_zero _), fun r _ => h.so r, fun r k _ => h.tags r k⟩
theorem m2 (q bs : Nat) : q * (2 * bs) = 2 * (q * bs) := by rw [← Nat.mul_assoc, Nat.mul_comm q 2, Nat.mul_assoc]
theorem m3 (q bs : Nat) : (2 * q) * bs = 2 * (q * bs) := Nat.mul_assoc _ _ _
theorem m4 (q bs : Nat) : (2 * q + 1) * bs = 2 * (q * bs) + bs := by rw [Nat.add_mul, m3, Nat.one_mul]
theorem m5 (q bs : Nat) : (q + 1) * (2 * bs) = 2 * (q * bs) + 2 * bs := by rw [Nat.add_mul, m2, Nat.one_mul]
theorem m6 (q bs : Nat) : (2 * q + 1 + 1) * bs = 2 * (q * bs) + 2 * bs := by rw [Nat.add_mul, m4, Nat.one_mul]; omega
/-- what the next pair is, ahead of its merging: A is where it begins, m where its second block does, e where it ends -/
theorem j2_pair {bs n q A m e : Nat} {d : Array α} (hA : A = q * (2 * bs)) (hm : m = A + bs) (he : e = min (A + 2 * bs) n) (hme : m ≤ e) (h : J2 lt tg bs n q d) : So lt tg A m d ∧ So lt tg m e d ∧ Tg tg A m e d ∧ ∀ k, A ≤ k → k < e → A ≤ tg d[k]! ∧ tg d[k]! < A + 2 * bs := by
  have e2 := m2 q bs
  have e3 := m3 q bs
  have e4 := m4 q bs
  have e6 := m6 q bs
  have s1 := h.so1 (2 * q) (Nat.le_refl _)
  have s2 := h.so1 (2 * q + 1) (by omega)
  rw [e3, e4] at s1
  rw [e4, e6] at s2
  have t1 := fun k => h.tags1 (2 * q) k (Nat.le_refl _)
  have t2 := fun k => h.tags1 (2 * q + 1) k (by omega)
  rw [e3, e4] at t1
  rw [e4, e6] at t2
  refine ⟨so_sub s1 (by omega) (by omega), so_sub s2 (by omega) (by omega), fun i j i1 i2 i3 i4 => ?_, fun k k1 k2 => ?_⟩
  · have a1 := t1 i (by omega) (by omega) (by omega)
    have a2 := t2 j (by omega) (by omega) (by omega)
    omega
  · rcases Nat.lt_or_ge k m with c | c
    · have a1 := t1 k (by omega) (by omega) (by omega)
      omega
    · have a2 := t2 k (by omega) (by omega) (by omega)
      omega
theorem j2_next {bs n q A : Nat} {d d' : Array α} (hA : A = q * (2 * bs)) (hn : A + 2 * bs ≤ n) (hd : d.size = n) (h : J2 lt tg bs n q d) (hp : PermIn A (A + 2 * bs) d d') (hs : So lt tg A (A + 2 * bs) d') : J2 lt tg bs n (q + 1) d' := by
  have e2 := m2 q bs
  have e5 := m5 q bs
  obtain ⟨_, _, _, hT⟩ := j2_pair hA rfl (e := A + 2 * bs) (by omega) (by omega) h
  have lo : ∀ r, r < q → (r + 1) * (2 * bs) ≤ A := fun r hr => by rw [hA]; exact Nat.mul_le_mul_right _ hr
  have hi : ∀ r, 2 * (q + 1) ≤ r → A + 2 * bs ≤ r * bs := fun r hr => by
    have := Nat.mul_le_mul_right bs hr
    rw [show 2 * (q + 1) * bs = 2 * (q * bs) + 2 * bs by rw [Nat.mul_assoc, Nat.add_mul, Nat.one_mul]; omega] at this
    omega
  refine ⟨fun r hr => ?_, fun r k hr k1 k2 => ?_, fun r hr => ?_, fun r k hr k1 k2 k3 => ?_⟩
  · rcases Nat.lt_or_eq_of_le (Nat.le_of_lt_succ hr) with c | rfl
    · have := lo r c
      exact so_congr (h.so r c) fun k k1 k2 => hp.2.1 k (.inl (by omega))
    · exact so_sub hs (by omega) (by omega)
  · rcases Nat.lt_or_eq_of_le (Nat.le_of_lt_succ hr) with c | rfl
    · have := lo r c
      rw [hp.2.1 k (.inl (by omega))]
      exact h.tags r k c k1 k2
    · obtain ⟨j, j1, j2, e⟩ := perm_from (by omega) hp (i := k) (by omega) (by omega)
      rw [e]
      have := hT j j1 j2
      omega
  · have := hi r hr
    exact so_congr (h.so1 r (by omega)) fun k k1 k2 => hp.2.1 k (.inr (by omega))
  · have := hi r hr
    rw [hp.2.1 k (.inr (by omega))]
    exact h.tags1 r k (by omega) k1 k2 k3
theorem j2_end {bs n q A : Nat} {d d' : Array α} (hA : A = q * (2 * bs)) (_hq : A ≤ n) (hn : n < A + 2 * bs) (hd : d.size = n) (h : J2 lt tg bs n q d) (hp : PermIn A n d d') (hs : So lt tg A n d') : BI lt tg (2 * bs) n d' := by
  have e2 := m2 q bs
  have e3 := m3 q bs
  have e4 := m4 q bs
  have e5 := m5 q bs
  have e6 := m6 q bs
  have lo : ∀ r, r < q → (r + 1) * (2 * bs) ≤ A := fun r hr => by rw [hA]; exact Nat.mul_le_mul_right _ hr
  have hi : ∀ r, q < r → A + 2 * bs ≤ r * (2 * bs) := fun r hr => by
    have := Nat.mul_le_mul_right (2 * bs) (show q + 1 ≤ r from hr)
    omega
  have hT : ∀ k, A ≤ k → k < n → A ≤ tg d[k]! ∧ tg d[k]! < A + 2 * bs := fun k k1 k2 => by
    have t1 := fun k => h.tags1 (2 * q) k (Nat.le_refl _)
    have t2 := fun k => h.tags1 (2 * q + 1) k (by omega)
    rw [e3, e4] at t1
    rw [e4, e6] at t2
    rcases Nat.lt_or_ge k (A + bs) with c | c
    · have a1 := t1 k (by omega) (by omega) k2
      omega
    · have a2 := t2 k (by omega) (by omega) k2
      omega
  refine ⟨fun r => ?_, fun r k k1 k2 k3 => ?_⟩
  · rcases Nat.lt_trichotomy r q with c | rfl | c
    · have := lo r c
      exact so_sub (so_congr (h.so r c) fun k k1 k2 => hp.2.1 k (.inl (by omega))) (Nat.le_refl _) (Nat.min_le_left _ _)
    · exact so_sub hs (by omega) (Nat.min_le_right _ _)
    · have := hi r c
      exact so_one (by have := Nat.min_le_right ((r + 1) * (2 * bs)) n; omega)
  · rcases Nat.lt_trichotomy r q with c | rfl | c
    · have := lo r c
      rw [hp.2.1 k (.inl (by omega))]
      exact h.tags r k c k1 k2
    · obtain ⟨j, j1, j2, e⟩ := perm_from (by omega) hp (i := k) (by omega) k3
      rw [e]
      have := hT j j1 j2
      omega
    · have := hi r c
      omega
theorem bi_whole {bs n : Nat} {d : Array α} (hn : n ≤ bs) (h : BI lt tg bs n d) : So lt tg 0 n d := by
  have := h.so 0
  rw [Nat.zero_mul, Nat.zero_add, Nat.one_mul, Nat.min_eq_right hn] at this
  exact this
end
end Go.Proofs.YtpcmminokhmkjaaDoor.St
