/-
  Rows without twins, in order, as plain mathematics, whatever the order is; digits of bytes, there and back. No condition; nothing of the program.
-/
namespace Go.Proofs.YtcgbaiogbcodcaaGreatDoor.Sh

section
variable {α : Type} (lt : α → α → Bool)
/-- lt is an order: strict, going on, and of any two unlike ones one is less -/
structure Ords : Prop where
  irr : ∀ a, lt a a = false
  tr : ∀ a b c, lt a b = true → lt b c = true → lt a c = true
  tot : ∀ a b, a ≠ b → lt a b = true ∨ lt b a = true
/-- rising, none twice -/
def SU (l : List α) : Prop := l.Pairwise (fun a b => lt a b = true)
theorem su_nil : SU lt ([] : List α) := List.Pairwise.nil
theorem su_cons {a : α} {l : List α} : SU lt (a :: l) ↔ (∀ x ∈ l, lt a x = true) ∧ SU lt l := List.pairwise_cons
/-- how many stand ahead that are less -/
def place (x : α) : List α → Nat
  | [] => 0
  | y :: r => if lt y x = true then place x r + 1 else 0
theorem place_le (x : α) (l : List α) : place lt x l ≤ l.length := by
  induction l with
  | nil => exact Nat.le_refl _
  | cons y r ih =>
    rw [place]
    split
    · simp only [List.length_cons]; omega
    · exact Nat.zero_le _
/-- up to its place all are less -/
theorem place_lt (x : α) (l : List α) (j : Nat) (h : j < place lt x l) : ∃ y, l[j]? = some y ∧ lt y x = true := by
  induction l generalizing j with
  | nil => exact absurd h (Nat.not_lt_zero _)
  | cons y r ih =>
    rw [place] at h
    split at h
    · rename_i hy
      cases j with
      | zero => exact ⟨y, rfl, hy⟩
      | succ j => exact ih j (by omega)
    · exact absurd h (Nat.not_lt_zero _)
theorem place_at (x : α) (l : List α) (y : α) (h : l[place lt x l]? = some y) : lt y x = false := by
  induction l with
  | nil => simp at h
  | cons z r ih =>
    rw [place] at h
    split at h
    · exact ih h
    · rename_i hz
      simp only [List.getElem?_cons_zero, Option.some.injEq] at h
      subst h
      simpa using hz
/-- where a walk stands that has met only less ones so far -/
theorem place_is (x : α) (l : List α) (j : Nat) (h1 : ∀ i, i < j → ∃ y, l[i]? = some y ∧ lt y x = true) (h2 : ∀ y, l[j]? = some y → lt y x = false) : place lt x l = j := by
  rcases Nat.lt_trichotomy (place lt x l) j with h | h | h
  · obtain ⟨y, hy, hl⟩ := h1 _ h
    rw [place_at lt x l y hy] at hl
    cases hl
  · exact h
  · obtain ⟨y, hy, hl⟩ := place_lt lt x l j h
    rw [h2 y hy] at hl
    cases hl
/-- a rising row hangs on what is in it alone -/
theorem su_unique (o : Ords lt) (a b : List α) (ha : SU lt a) (hb : SU lt b) (h : ∀ x, x ∈ a ↔ x ∈ b) : a = b := by
  induction a generalizing b with
  | nil =>
    cases b with
    | nil => rfl
    | cons y s => exact absurd ((h y).2 (List.mem_cons_self)) (by simp)
  | cons x r ih =>
    cases b with
    | nil => exact absurd ((h x).1 (List.mem_cons_self)) (by simp)
    | cons y s =>
      obtain ⟨a1, a2⟩ := (su_cons lt).1 ha
      obtain ⟨b1, b2⟩ := (su_cons lt).1 hb
      have hxy : x = y := by
        rcases List.mem_cons.1 ((h x).1 List.mem_cons_self) with e | hx
        · exact e
        · rcases List.mem_cons.1 ((h y).2 List.mem_cons_self) with e | hy
          · exact e.symm
          · have := o.tr _ _ _ (b1 x hx) (a1 y hy)
            rw [o.irr] at this
            cases this
      subst hxy
      congr 1
      refine ih s a2 b2 fun z => ⟨fun hz => ?_, fun hz => ?_⟩
      · rcases List.mem_cons.1 ((h z).1 (List.mem_cons_of_mem _ hz)) with e | hz2
        · subst e
          have := a1 z hz
          rw [o.irr] at this
          cases this
        · exact hz2
      · rcases List.mem_cons.1 ((h z).2 (List.mem_cons_of_mem _ hz)) with e | hz2
        · subst e
          have := b1 z hz
          rw [o.irr] at this
          cases this
        · exact hz2
/-- neighbours rise -/
theorem su_next (s : List α) (h : SU lt s) (i : Nat) (hi : i + 1 < s.length) : lt (s[i]'(by omega)) s[i + 1] = true :=
  List.pairwise_iff_getElem.1 h i (i + 1) (by omega) hi (by omega)
/-- rising, told by neighbours -/
theorem su_of_next (o : Ords lt) (s : List α) (h : ∀ i (hi : i + 1 < s.length), lt (s[i]'(by omega)) s[i + 1] = true) : SU lt s := by
  induction s with
  | nil => exact su_nil lt
  | cons x r ih =>
    have hr := ih fun i hi => h (i + 1) (by simpa using hi)
    refine (su_cons lt).2 ⟨fun z hz => ?_, hr⟩
    cases r with
    | nil => cases hz
    | cons y s =>
      have hxy : lt x y = true := h 0 (by simp)
      rcases List.mem_cons.1 hz with rfl | hz
      · exact hxy
      · exact o.tr _ _ _ hxy (((su_cons lt).1 hr).1 z hz)
end
section
variable {α : Type} [DecidableEq α] (lt : α → α → Bool)
/-- put in where it stands, unless it is there -/
def ins (x : α) : List α → List α
  | [] => [x]
  | y :: r => if lt y x = true then y :: ins x r else if y = x then y :: r else x :: y :: r
/-- put in, told by its place -/
theorem ins_at (x : α) (l : List α) : ins lt x l = if l[place lt x l]? = some x then l else l.take (place lt x l) ++ x :: l.drop (place lt x l) := by
  induction l with
  | nil => simp [ins, place]
  | cons y r ih =>
    rw [ins, place]
    by_cases hy : lt y x = true
    · rw [if_pos hy, if_pos hy, ih]
      simp only [List.getElem?_cons_succ, List.take_succ_cons, List.drop_succ_cons, List.cons_append]
      split <;> rfl
    · rw [if_neg hy, if_neg hy]
      simp only [List.getElem?_cons_zero, Option.some.injEq, List.take_zero, List.drop_zero, List.nil_append]
theorem mem_ins (x z : α) (l : List α) : z ∈ ins lt x l ↔ z = x ∨ z ∈ l := by
  induction l with
  | nil => simp [ins]
  | cons y r ih =>
    rw [ins]
    split
    · rw [List.mem_cons, ih, List.mem_cons]
      constructor
      · rintro (h | h | h)
        · exact Or.inr (Or.inl h)
        · exact Or.inl h
        · exact Or.inr (Or.inr h)
      · rintro (h | h | h)
        · exact Or.inr (Or.inl h)
        · exact Or.inl h
        · exact Or.inr (Or.inr h)
    · split
      · rename_i h
        subst h
        simp
      · simp
theorem su_ins (o : Ords lt) (x : α) (l : List α) (h : SU lt l) : SU lt (ins lt x l) := by
  induction l with
  | nil => exact List.pairwise_singleton _ _
  | cons y r ih =>
    rw [ins]
    obtain ⟨h1, h2⟩ := (su_cons lt).1 h
    split
    · rename_i hy
      refine (su_cons lt).2 ⟨fun z hz => ?_, ih h2⟩
      rcases (mem_ins lt x z r).1 hz with rfl | hz
      · exact hy
      · exact h1 z hz
    · rename_i hy
      split
      · exact h
      · rename_i hne
        have hxy : lt x y = true := (o.tot y x hne).resolve_left hy
        refine (su_cons lt).2 ⟨fun z hz => ?_, h⟩
        rcases List.mem_cons.1 hz with rfl | hz
        · exact hxy
        · exact o.tr _ _ _ hxy (h1 z hz)
theorem ins_len (x : α) (l : List α) : (ins lt x l).length ≤ l.length + 1 := by
  induction l with
  | nil => simp [ins]
  | cons y r ih =>
    rw [ins]
    split
    · simp only [List.length_cons]; omega
    · split <;> simp only [List.length_cons] <;> omega
/-- sorted, each once -/
def sortU (l : List α) : List α := l.foldl (fun acc x => ins lt x acc) []
theorem sortU_nil : sortU lt ([] : List α) = [] := rfl
theorem sortU_app (l : List α) (x : α) : sortU lt (l ++ [x]) = ins lt x (sortU lt l) := by simp [sortU]
theorem sortU_take (l : List α) (i : Nat) (h : i < l.length) : sortU lt (l.take (i + 1)) = ins lt l[i] (sortU lt (l.take i)) := by
  rw [List.take_succ_eq_append_getElem h, sortU_app]
theorem sortU_len (l : List α) : (sortU lt l).length ≤ l.length := by
  suffices h : ∀ acc : List α, (l.foldl (fun acc x => ins lt x acc) acc).length ≤ acc.length + l.length by
    have := h []
    rw [List.length_nil, Nat.zero_add] at this
    exact this
  induction l with
  | nil => intro acc; exact Nat.le_refl _
  | cons y r ih =>
    intro acc
    have h1 := ih (ins lt y acc)
    have h2 := ins_len lt y acc
    simp only [List.foldl_cons, List.length_cons]
    omega
theorem mem_sortU (l : List α) (z : α) : z ∈ sortU lt l ↔ z ∈ l := by
  suffices h : ∀ acc : List α, z ∈ l.foldl (fun acc x => ins lt x acc) acc ↔ z ∈ acc ∨ z ∈ l from (h []).trans (by simp)
  induction l with
  | nil => intro acc; simp
  | cons y r ih =>
    intro acc
    rw [List.foldl_cons, ih, mem_ins, List.mem_cons]
    constructor
    · rintro ((h | h) | h)
      · exact Or.inr (Or.inl h)
      · exact Or.inl h
      · exact Or.inr (Or.inr h)
    · rintro (h | h | h)
      · exact Or.inl (Or.inr h)
      · exact Or.inl (Or.inl h)
      · exact Or.inr h
theorem su_sortU (o : Ords lt) (l : List α) : SU lt (sortU lt l) := by
  suffices h : ∀ acc : List α, SU lt acc → SU lt (l.foldl (fun acc x => ins lt x acc) acc) from h [] (su_nil lt)
  induction l with
  | nil => intro acc h; exact h
  | cons y r ih => intro acc h; exact ih _ (su_ins lt o y acc h)
/-- ONE ROW: rising, with just the members -/
theorem sortU_is (o : Ords lt) (l s : List α) (hs : SU lt s) (h : ∀ x, x ∈ s ↔ x ∈ l) : s = sortU lt l :=
  su_unique lt o s _ hs (su_sortU lt o l) fun x => (h x).trans (mem_sortU lt l x).symm
theorem sortU_again (o : Ords lt) (l : List α) : sortU lt (sortU lt l) = sortU lt l :=
  (sortU_is lt o (sortU lt l) _ (su_sortU lt o l) fun _ => Iff.rfl).symm
/-- the place of the first one that is k, -1 without -/
def find (k : α) : List α → Int
  | [] => -1
  | y :: r => if y = k then 0 else if find k r < 0 then -1 else find k r + 1
theorem find_pos (k : α) (l : List α) : -1 ≤ find k l := by
  induction l with
  | nil => exact Int.le_refl _
  | cons y r ih =>
    rw [find]
    split
    · omega
    · split <;> omega
theorem find_none (k : α) (l : List α) (h : k ∉ l) : find k l = -1 := by
  induction l with
  | nil => rfl
  | cons y r ih =>
    rw [find, if_neg (fun e => h (by rw [e]; exact List.mem_cons_self)), ih (fun hm => h (List.mem_cons_of_mem _ hm))]
    rfl
theorem find_first (k : α) (l : List α) (i : Nat) (hi : i < l.length) (hk : l[i] = k) (h : ∀ j (hj : j < i), l[j]'(by omega) ≠ k) : find k l = (i : Int) := by
  induction l generalizing i with
  | nil => exact absurd hi (Nat.not_lt_zero _)
  | cons y r ih =>
    rw [find]
    cases i with
    | zero =>
      have h0 : y = k := hk
      rw [if_pos h0]
      rfl
    | succ i =>
      have h0 : y ≠ k := h 0 (by omega)
      have := ih i (by simpa using hi) (by simpa using hk) fun j hj => by simpa using h (j + 1) (by omega)
      rw [if_neg h0, this, if_neg (by omega)]
      omega
theorem find_mem (k : α) (l : List α) (h : k ∈ l) : 0 ≤ find k l := by
  induction l with
  | nil => cases h
  | cons y r ih =>
    rw [find]
    split
    · exact Int.le_refl _
    · rename_i hne
      have := ih ((List.mem_cons.1 h).resolve_left (fun e => hne e.symm))
      rw [if_neg (by omega)]
      omega
end

/-- the digits of 16 -/
def dig (n : Nat) : UInt8 := if n < 10 then UInt8.ofNat (48 + n) else UInt8.ofNat (87 + n)
/-- a byte's two digits, one byte behind the other -/
def hexL (l : List UInt8) : List UInt8 := l.flatMap fun c => [dig (c.toNat / 16), dig (c.toNat % 16)]
theorem hexL_nil : hexL [] = [] := rfl
theorem hexL_cons (c : UInt8) (l : List UInt8) : hexL (c :: l) = dig (c.toNat / 16) :: dig (c.toNat % 16) :: hexL l := rfl
theorem hexL_app (l m : List UInt8) : hexL (l ++ m) = hexL l ++ hexL m := by simp [hexL]
theorem hexL_len (l : List UInt8) : (hexL l).length = 2 * l.length := by
  induction l with
  | nil => rfl
  | cons c r ih => rw [hexL_cons, List.length_cons, List.length_cons, ih, List.length_cons]; omega
theorem hexL_take (l : List UInt8) (i : Nat) (h : i < l.length) : hexL (l.take (i + 1)) = hexL (l.take i) ++ [dig (l[i].toNat / 16), dig (l[i].toNat % 16)] := by
  rw [List.take_succ_eq_append_getElem h, hexL_app]
  rfl
/-- which number a digit is; 16: none -/
def val (c : UInt8) : Nat := if 48 ≤ c.toNat ∧ c.toNat ≤ 57 then c.toNat - 48 else if 97 ≤ c.toNat ∧ c.toNat ≤ 102 then c.toNat - 87 else 16
theorem val_le (c : UInt8) : val c ≤ 16 := by
  unfold val
  split
  · omega
  · split <;> omega
theorem val_dig (n : Nat) (h : n < 16) : val (dig n) = n := by
  have : ∀ n : Fin 16, val (dig n.val) = n.val := by decide
  exact this ⟨n, h⟩
theorem dig_val (c : UInt8) (h : val c < 16) : dig (val c) = c := by
  have : ∀ n : Fin 256, val (UInt8.ofNat n.val) < 16 → dig (val (UInt8.ofNat n.val)) = UInt8.ofNat n.val := by decide +kernel
  have e : UInt8.ofNat c.toNat = c := by simp
  have := this ⟨c.toNat, c.toNat_lt⟩
  rw [e] at this
  exact this h
theorem dig_inj (m n : Nat) (hm : m < 16) (hn : n < 16) (h : dig m = dig n) : m = n := by
  rw [← val_dig m hm, ← val_dig n hn, h]
/-- the bytes of digits, two a byte -/
def unhex : List UInt8 → Option (List UInt8)
  | [] => some []
  | [_] => none
  | a :: b :: r => if val a < 16 ∧ val b < 16 then (unhex r).map (UInt8.ofNat (16 * val a + val b) :: ·) else none
theorem unhex_hexL (l : List UInt8) : unhex (hexL l) = some l := by
  induction l with
  | nil => rfl
  | cons c r ih =>
    have h1 := c.toNat_lt
    rw [hexL_cons, unhex, val_dig _ (by omega), val_dig _ (by omega), if_pos (by omega), ih, Option.map_some]
    congr 2
    rw [show 16 * (c.toNat / 16) + c.toNat % 16 = c.toNat by omega]
    simp
theorem hexL_unhex (l m : List UInt8) (h : unhex l = some m) : hexL m = l := by
  induction hn : l.length using Nat.strongRecOn generalizing l m with
  | _ n ih =>
    subst hn
    match l, h with
    | [], h => injection h with h; subst h; rfl
    | [_], h => cases h
    | a :: b :: r, h =>
      rw [unhex] at h
      split at h
      · rename_i hv
        cases hr : unhex r with
        | none => rw [hr] at h; cases h
        | some q =>
          rw [hr] at h
          injection h with h
          subst h
          have hq := ih r.length (by simp; omega) r q hr rfl
          have hx : (UInt8.ofNat (16 * val a + val b)).toNat = 16 * val a + val b := by simp; omega
          rw [hexL_cons, hx, show (16 * val a + val b) / 16 = val a by omega, show (16 * val a + val b) % 16 = val b by omega, dig_val a hv.1, dig_val b hv.2, hq]
      · cases h
theorem unhex_len (l m : List UInt8) (h : unhex l = some m) : l.length = 2 * m.length := by rw [← hexL_unhex l m h, hexL_len]
/-- the bytes of a key: 64 digits -/
def keyBytes (k : List UInt8) : Option (List UInt8) := if k.length = 64 then unhex k else none
theorem keyBytes_some (k b : List UInt8) (h : keyBytes k = some b) : b.length = 32 ∧ hexL b = k := by
  unfold keyBytes at h
  split at h
  · rename_i hl
    exact ⟨by have := unhex_len k b h; omega, hexL_unhex k b h⟩
  · cases h
theorem keyBytes_back (b : List UInt8) (h : b.length = 32) : keyBytes (hexL b) = some b := by
  rw [keyBytes, if_pos (by rw [hexL_len]; omega), unhex_hexL]
/-- the walk of the digits: what stands so far, and what is left -/
theorem unhex_step (a b : UInt8) (r : List UInt8) (h : val a < 16 ∧ val b < 16) : unhex (a :: b :: r) = (unhex r).map (UInt8.ofNat (16 * val a + val b) :: ·) := by rw [unhex, if_pos h]
theorem unhex_stop (a b : UInt8) (r : List UInt8) (h : ¬ (val a < 16 ∧ val b < 16)) : unhex (a :: b :: r) = none := by rw [unhex, if_neg h]
/-- whether all are digits -/
def allDig (k : List UInt8) : Bool := k.all fun c => decide (val c < 16)
theorem allDig_unhex (k : List UInt8) (n : Nat) (h : k.length = 2 * n) : allDig k = (unhex k).isSome := by
  induction n generalizing k with
  | zero =>
    have : k = [] := List.eq_nil_of_length_eq_zero (by omega)
    subst this
    rfl
  | succ n ih =>
    match k, h with
    | [], h => simp at h
    | [_], h => simp at h; omega
    | a :: b :: r, h =>
      have hr := ih r (by simp at h; omega)
      have e : allDig (a :: b :: r) = (decide (val a < 16) && (decide (val b < 16) && allDig r)) := by simp [allDig]
      rw [e, hr, unhex]
      by_cases h1 : val a < 16 <;> by_cases h2 : val b < 16 <;> simp [h1, h2]
theorem keyBytes_isSome (k : List UInt8) : (keyBytes k).isSome = (decide (k.length = 64) && allDig k) := by
  unfold keyBytes
  by_cases h : k.length = 64
  · rw [if_pos h, allDig_unhex k 32 (by omega)]
    simp [h]
  · rw [if_neg h]
    simp [h]
end Go.Proofs.YtcgbaiogbcodcaaGreatDoor.Sh
