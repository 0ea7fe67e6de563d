/-
  Plain: a stable sort by merging in place: the order of keys, then of places; what each step does to a row. Conditions: each law's own. No program is spoken of.
-/
import Derived.Sort.LotA
namespace Go.Proofs.YtpcmminokhmkjaaDoor.St
open Go.Sort
section
variable {α : Type} [Inhabited α]
/-- by key, then by place -/
def lt2 (lt : α → α → Bool) (tg : α → Nat) (x y : α) : Bool := lt x y || (!lt y x && decide (tg x < tg y))
variable {lt : α → α → Bool} {tg : α → Nat}
omit [Inhabited α] in
theorem lt2_false {x y : α} : lt2 lt tg x y = false ↔ lt x y = false ∧ (lt y x = true ∨ tg y ≤ tg x) := by
  unfold lt2
  cases h1 : lt x y <;> cases h2 : lt y x <;> simp
omit [Inhabited α] in
theorem swo2 (h : SWO lt) : SWO (lt2 lt tg) where
  irrefl x := lt2_false.2 ⟨h.irrefl x, .inr (Nat.le_refl _)⟩
  trans x y z h1 h2 := by
    cases h3 : lt2 lt tg x z with
    | true => rfl
    | false =>
      exfalso
      obtain ⟨k1, k2⟩ := lt2_false.1 h3
      unfold lt2 at h1 h2
      simp only [Bool.or_eq_true, Bool.and_eq_true, Bool.not_eq_true', decide_eq_true_eq] at h1 h2
      rcases h1 with h1 | ⟨h1, t1⟩ <;> rcases h2 with h2 | ⟨h2, t2⟩
      · rw [h.trans _ _ _ h1 h2] at k1; cases k1
      · rw [h.ntrans _ _ _ k1 h2] at h1; cases h1
      · rw [h.ntrans _ _ _ h1 k1] at h2; cases h2
      · rw [h.ntrans _ _ _ h2 h1] at k2
        rcases k2 with k2 | k2
        · cases k2
        · omega
  ntrans x y z h1 h2 := by
    obtain ⟨a1, a2⟩ := lt2_false.1 h1
    obtain ⟨b1, b2⟩ := lt2_false.1 h2
    refine lt2_false.2 ⟨h.ntrans _ _ _ a1 b1, ?_⟩
    cases hz : lt z x with
    | true => exact .inl rfl
    | false =>
      right
      rcases a2 with a2 | a2
      · rw [h.ntrans _ _ _ b1 hz] at a2; cases a2
      · rcases b2 with b2 | b2
        · rw [h.ntrans _ _ _ hz a1] at b2; cases b2
        · omega
omit [Inhabited α] in
theorem le_of_lt (h : SWO lt) {x y : α} (hl : lt x y = true) : lt2 lt tg y x = false := lt2_false.2 ⟨h.asymmA hl, .inl hl⟩
omit [Inhabited α] in
theorem le_of_not {x y : α} (hl : lt x y = false) (ht : tg y ≤ tg x) : lt2 lt tg x y = false := lt2_false.2 ⟨hl, .inr ht⟩
abbrev So (lt : α → α → Bool) (tg : α → Nat) (a b : Nat) (d : Array α) : Prop := SortedIn (lt2 lt tg) a b d
theorem So.ge (hS : SWO lt) {a b : Nat} {d : Array α} (h : So lt tg a b d) {i j : Nat} (ha : a ≤ i) (hij : i ≤ j) (hj : j < b) : lt2 lt tg d[j]! d[i]! = false := by
  rcases Nat.lt_or_eq_of_le hij with hh | rfl
  · exact h i j ha hh hj
  · exact (swo2 hS).irrefl _
theorem so_sub {a b a' b' : Nat} {d : Array α} (h : So lt tg a b d) (ha : a ≤ a') (hb : b' ≤ b) : So lt tg a' b' d := fun i j h1 h2 h3 => h i j (by omega) h2 (by omega)
theorem so_one {a b : Nat} {d : Array α} (h : b ≤ a + 1) : So lt tg a b d := fun i j h1 h2 h3 => by omega
theorem so_congr {a b : Nat} {d d' : Array α} (h : So lt tg a b d) (he : ∀ k, a ≤ k → k < b → d'[k]! = d[k]!) : So lt tg a b d' := fun i j h1 h2 h3 => by rw [he i h1 (by omega), he j (by omega) h3]; exact h i j h1 h2 h3
theorem so_join {a m b : Nat} {d : Array α} (h1 : So lt tg a m d) (h2 : So lt tg m b d) (hx : ∀ i j, a ≤ i → i < m → m ≤ j → j < b → lt2 lt tg d[j]! d[i]! = false) : So lt tg a b d := fun i j k1 k2 k3 => by
  rcases Nat.lt_or_ge j m with hj | hj
  · exact h1 i j k1 k2 hj
  · rcases Nat.lt_or_ge i m with hi | hi
    · exact hx i j k1 hi hj k3
    · exact h2 i j hi k2 k3
theorem perm_from {a b : Nat} {d d' : Array α} (hb : b ≤ d.size) (h : PermIn a b d d') {i : Nat} (ha : a ≤ i) (hi : i < b) : ∃ j, a ≤ j ∧ j < b ∧ d'[i]! = d[j]! :=
  permIn_all d d' a b (fun x => ∃ j, a ≤ j ∧ j < b ∧ x = d[j]!) hb h (fun j h1 h2 => ⟨j, h1, h2, rfl⟩) i ha hi
/-- the places ahead are less than those behind -/
def Tg (tg : α → Nat) (a m b : Nat) (d : Array α) : Prop := ∀ i j, a ≤ i → i < m → m ≤ j → j < b → tg d[i]! < tg d[j]!
/-- one element ahead of a sorted row -/
theorem ins_left (hS : SWO lt) {d d' : Array α} {a b i : Nat} (h1 : a + 1 ≤ i) (h2 : i ≤ b) (hs : So lt tg (a + 1) b d) (ht : ∀ j, a + 1 ≤ j → j < b → tg d[a]! < tg d[j]!)
    (f1 : i = a + 1 ∨ lt d[i - 1]! d[a]! = true) (f2 : i = b ∨ lt d[i]! d[a]! = false) (hd : ∀ k, d'[k]! = if a ≤ k ∧ k + 1 < i then d[k + 1]! else if k + 1 = i then d[a]! else d[k]!) : So lt tg a b d' := by
  have lo : ∀ k, a + 1 ≤ k → k < i → lt2 lt tg d[a]! d[k]! = false := fun k k1 k2 => by
    rcases f1 with f1 | f1
    · omega
    · exact (swo2 hS).ntrans _ _ _ (le_of_lt hS f1) (hs.ge hS k1 (by omega) (by omega))
  have hi : ∀ k, i ≤ k → k < b → lt2 lt tg d[k]! d[a]! = false := fun k k1 k2 => by
    rcases f2 with f2 | f2
    · omega
    · exact (swo2 hS).ntrans _ _ _ (hs.ge hS h1 k1 k2) (le_of_not f2 (Nat.le_of_lt (ht i h1 (by omega))))
  have v1 : ∀ k, a ≤ k → k + 1 < i → d'[k]! = d[k + 1]! := fun k k1 k2 => by rw [hd, if_pos ⟨k1, k2⟩]
  have v2 : ∀ k, k + 1 = i → d'[k]! = d[a]! := fun k k1 => by rw [hd, if_neg (fun h => by omega), if_pos k1]
  have v3 : ∀ k, i ≤ k → d'[k]! = d[k]! := fun k k1 => by rw [hd, if_neg (fun h => by omega), if_neg (by omega)]
  intro p q hp hpq hq
  rcases Nat.lt_trichotomy (p + 1) i with c1 | c1 | c1
  · rw [v1 p hp c1]
    rcases Nat.lt_trichotomy (q + 1) i with c2 | c2 | c2
    · rw [v1 q (by omega) c2]
      exact hs _ _ (by omega) (by omega) (by omega)
    · rw [v2 q c2]
      exact lo _ (by omega) (by omega)
    · rw [v3 q (by omega)]
      exact hs _ _ (by omega) (by omega) (by omega)
  · rw [v2 p c1, v3 q (by omega)]
    exact hi _ (by omega) hq
  · rw [v3 p (by omega), v3 q (by omega)]
    exact hs _ _ (by omega) (by omega) (by omega)
/-- one element behind a sorted row -/
theorem ins_right (hS : SWO lt) {d d' : Array α} {a m i : Nat} (h1 : a ≤ i) (h2 : i ≤ m) (hs : So lt tg a m d) (ht : ∀ j, a ≤ j → j < m → tg d[j]! < tg d[m]!)
    (f1 : i = a ∨ lt d[m]! d[i - 1]! = false) (f2 : i = m ∨ lt d[m]! d[i]! = true) (hd : ∀ k, d'[k]! = if k = i then d[m]! else if i < k ∧ k ≤ m then d[k - 1]! else d[k]!) : So lt tg a (m + 1) d' := by
  have lo : ∀ k, a ≤ k → k < i → lt2 lt tg d[m]! d[k]! = false := fun k k1 k2 => by
    rcases f1 with f1 | f1
    · omega
    · exact (swo2 hS).ntrans _ _ _ (le_of_not f1 (Nat.le_of_lt (ht _ (by omega) (by omega)))) (hs.ge hS k1 (by omega) (by omega))
  have hi : ∀ k, i ≤ k → k < m → lt2 lt tg d[k]! d[m]! = false := fun k k1 k2 => by
    rcases f2 with f2 | f2
    · omega
    · exact (swo2 hS).ntrans _ _ _ (hs.ge hS h1 k1 k2) (le_of_lt hS f2)
  have v1 : ∀ k, k < i → d'[k]! = d[k]! := fun k k1 => by rw [hd, if_neg (by omega), if_neg (fun h => by omega)]
  have v2 : d'[i]! = d[m]! := by rw [hd, if_pos rfl]
  have v3 : ∀ k, i < k → k ≤ m → d'[k]! = d[k - 1]! := fun k k1 k2 => by rw [hd, if_neg (by omega), if_pos ⟨k1, k2⟩]
  intro p q hp hpq hq
  rcases Nat.lt_trichotomy p i with c1 | rfl | c1
  · rw [v1 p c1]
    rcases Nat.lt_trichotomy q i with c2 | rfl | c2
    · rw [v1 q c2]
      exact hs _ _ hp hpq (by omega)
    · rw [v2]
      exact lo _ hp c1
    · rw [v3 q c2 (by omega)]
      exact hs _ _ hp (by omega) (by omega)
  · rw [v2, v3 q hpq (by omega)]
    exact hi _ (by omega) (by omega)
  · rw [v3 p c1 (by omega), v3 q (by omega) (by omega)]
    exact hs _ _ (by omega) (by omega) (by omega)
/-- two rows that are exchanged, one behind the other -/
def rotF (d : Array α) (s m e k : Nat) : α := if s ≤ k ∧ k < s + (e - m) then d[k + (m - s)]! else if s + (e - m) ≤ k ∧ k < e then d[k - (e - m)]! else d[k]!
/-- the two halves behind the rotation -/
theorem halves (hS : SWO lt) {d d1 : Array α} {a m b s e mid : Nat} (k1 : a ≤ s) (k2 : s ≤ m) (k3 : m ≤ e) (k4 : e ≤ b) (km : mid = s + (e - m)) (h1 : So lt tg a m d) (h2 : So lt tg m b d) (ht : Tg tg a m b d)
    (g1 : s = a ∨ e = b ∨ lt d[e]! d[s - 1]! = false) (g2 : s = m ∨ e = m ∨ lt d[e - 1]! d[s]! = true) (hd : ∀ k, d1[k]! = rotF d s m e k) :
    So lt tg a s d1 ∧ So lt tg s mid d1 ∧ Tg tg a s mid d1 ∧ So lt tg mid e d1 ∧ So lt tg e b d1 ∧ Tg tg mid e b d1 ∧ ∀ i j, a ≤ i → i < mid → mid ≤ j → j < b → lt2 lt tg d1[j]! d1[i]! = false := by
  have v1 : ∀ k, k < s → d1[k]! = d[k]! := fun k hk => by rw [hd, rotF, if_neg (fun h => by omega), if_neg (fun h => by omega)]
  have v2 : ∀ k, s ≤ k → k < mid → d1[k]! = d[k + (m - s)]! := fun k h1 h2 => by rw [hd, rotF, if_pos ⟨h1, by omega⟩]
  have v3 : ∀ k, mid ≤ k → k < e → d1[k]! = d[k - (e - m)]! := fun k h1 h2 => by rw [hd, rotF, if_neg (fun h => by omega), if_pos ⟨by omega, h2⟩]
  have v4 : ∀ k, e ≤ k → d1[k]! = d[k]! := fun k h1 => by rw [hd, rotF, if_neg (fun h => by omega), if_neg (fun h => by omega)]
  refine ⟨fun i j p1 p2 p3 => ?_, fun i j p1 p2 p3 => ?_, fun i j p1 p2 p3 p4 => ?_, fun i j p1 p2 p3 => ?_, fun i j p1 p2 p3 => ?_, fun i j p1 p2 p3 p4 => ?_, fun i j p1 p2 p3 p4 => ?_⟩
  · rw [v1 i (by omega), v1 j p3]
    exact h1 _ _ p1 p2 (by omega)
  · rw [v2 i p1 (by omega), v2 j (by omega) p3]
    exact h2 _ _ (by omega) (by omega) (by omega)
  · rw [v1 i p2, v2 j p3 p4]
    exact ht _ _ p1 (by omega) (by omega) (by omega)
  · rw [v3 i p1 (by omega), v3 j (by omega) p3]
    exact h1 _ _ (by omega) (by omega) (by omega)
  · rw [v4 i p1, v4 j (by omega)]
    exact h2 _ _ (by omega) p2 p3
  · rw [v3 i p1 p2, v4 j p3]
    exact ht _ _ (by omega) (by omega) (by omega) p4
  · rcases Nat.lt_or_ge i s with c1 | c1
    · rw [v1 i c1]
      rcases Nat.lt_or_ge j e with c2 | c2
      · rw [v3 j p3 c2]
        exact h1 _ _ p1 (by omega) (by omega)
      · rw [v4 j c2]
        rcases g1 with g1 | g1 | g1
        · omega
        · omega
        · exact (swo2 hS).ntrans _ _ _ (h2.ge hS k3 c2 p4) ((swo2 hS).ntrans _ _ _ (le_of_not g1 (Nat.le_of_lt (ht _ _ (by omega) (by omega) k3 (by omega)))) (h1.ge hS p1 (by omega) (by omega)))
    · rw [v2 i c1 p2]
      rcases Nat.lt_or_ge j e with c2 | c2
      · rw [v3 j p3 c2]
        rcases g2 with g2 | g2 | g2
        · omega
        · omega
        · exact (swo2 hS).ntrans _ _ _ (h1.ge hS k1 (by omega) (by omega)) ((swo2 hS).ntrans _ _ _ (le_of_lt hS g2) (h2.ge hS (by omega) (by omega) (by omega)))
      · rw [v4 j c2]
        exact h2 _ _ (by omega) (by omega) p4
/-- both halves sorted: the whole is -/
theorem whole {a mid b : Nat} {d1 d2 d3 : Array α} (_hm2 : mid ≤ b) (hb : b ≤ d1.size) (hx : ∀ i j, a ≤ i → i < mid → mid ≤ j → j < b → lt2 lt tg d1[j]! d1[i]! = false) (p2 : PermIn a mid d1 d2) (s2 : So lt tg a mid d2) (p3 : PermIn mid b d2 d3) (s3 : So lt tg mid b d3) : So lt tg a b d3 := by
  refine so_join (so_congr s2 fun k _ hk => p3.2.1 k (.inl hk)) s3 fun i j h1 h2 h3 h4 => ?_
  rw [p3.2.1 i (.inl h2)]
  obtain ⟨i', i1, i2, e1⟩ := perm_from (by omega) p2 h1 h2
  obtain ⟨j', j1, j2, e2⟩ := perm_from (by rw [p2.1]; exact hb) p3 h3 h4
  rw [e1, e2, p2.2.1 j' (.inr j1)]
  exact hx _ _ i1 i2 j1 j2
end
end Go.Proofs.YtpcmminokhmkjaaDoor.St
