/-
  Contents cut at places that the bytes ahead of them tell, as plain mathematics: whatever 'hit' says of a row of 16 bytes. No condition; nothing of the program.
-/
namespace Go.Proofs.Ytdlejcokigmcdaa.Rb

section
variable (hit : List UInt8 → Bool)
/-- the 16 bytes ahead of n -/
def ahead (b : List UInt8) (n : Nat) : List UInt8 := (b.drop (n - 16)).take 16
/-- the least place from n on, of at most k, that is hit; 2048, or all, without such -/
def firstFrom (b : List UInt8) : Nat → Nat → Nat
  | 0, _ => min b.length 2048
  | k + 1, n => if n ≤ b.length then (if hit (ahead b n) = true then n else firstFrom b k (n + 1)) else min b.length 2048
/-- the length of the first chunk -/
def first (b : List UInt8) : Nat := firstFrom hit b 1537 512

theorem firstFrom_le (b : List UInt8) (k n : Nat) (h : n + k ≤ 2049) : firstFrom hit b k n ≤ 2048 := by
  induction k generalizing n with
  | zero => exact Nat.min_le_right _ _
  | succ k ih =>
    rw [firstFrom]
    split
    · split
      · omega
      · exact ih _ (by omega)
    · exact Nat.min_le_right _ _
theorem firstFrom_len (b : List UInt8) (k n : Nat) : firstFrom hit b k n ≤ b.length := by
  induction k generalizing n with
  | zero => exact Nat.min_le_left _ _
  | succ k ih =>
    rw [firstFrom]
    split
    · split
      · assumption
      · exact ih _
    · exact Nat.min_le_left _ _
theorem firstFrom_ge (b : List UInt8) (k n : Nat) (h : n + k ≤ 2049) : min (min n 2048) b.length ≤ firstFrom hit b k n := by
  induction k generalizing n with
  | zero => rw [firstFrom]; omega
  | succ k ih =>
    rw [firstFrom]
    split
    · split
      · omega
      · have := ih (n + 1) (by omega)
        omega
    · omega
theorem first_le (b : List UInt8) : first hit b ≤ 2048 := firstFrom_le hit b _ _ (by decide)
theorem first_len (b : List UInt8) : first hit b ≤ b.length := firstFrom_len hit b _ _
theorem first_ge (b : List UInt8) : min 512 b.length ≤ first hit b := firstFrom_ge hit b 1537 512 (by decide)
theorem first_pos (b : List UInt8) (h : b ≠ []) : 0 < first hit b := by
  have := first_ge hit b
  have : b.length ≠ 0 := fun h0 => h (List.eq_nil_of_length_eq_zero h0)
  omega
theorem first_small (b : List UInt8) (h : b.length ≤ 512) : first hit b = b.length := by
  have := first_ge hit b
  have := first_len hit b
  omega
theorem first_short (b : List UInt8) (h : first hit b < 512) : first hit b = b.length := by
  have := first_ge hit b
  have := first_len hit b
  omega
theorem first_nil : first hit [] = 0 := by
  have := first_len hit []
  exact Nat.le_zero.1 this

/-- the 16 bytes ahead of a place hang on what stands ahead of it alone -/
theorem ahead_same (b c : List UInt8) (m n : Nat) (hn : n ≤ m) (h16 : 16 ≤ n) (h : b.take m = c.take m) : ahead b n = ahead c n := by
  have e : ∀ l : List UInt8, ahead l n = ((l.take m).take n).drop (n - 16) := fun l => by
    rw [List.take_take, Nat.min_eq_left hn, List.drop_take, show n - (n - 16) = 16 by omega]
    rfl
  rw [e, e, h]
/-- of two contents that begin alike, up to where the one is cut, ahead of its end, the other one is cut there -/
theorem firstFrom_same (b c : List UInt8) (k n : Nat) (hn : 512 ≤ n) (hk : n + k = 2049) (hlt : firstFrom hit b k n < b.length) (hle : firstFrom hit b k n ≤ c.length) (h : b.take (firstFrom hit b k n) = c.take (firstFrom hit b k n)) :
    firstFrom hit c k n = firstFrom hit b k n := by
  induction k generalizing n with
  | zero =>
    rw [firstFrom] at hlt hle h ⊢
    rw [firstFrom]
    omega
  | succ k ih =>
    have hge := firstFrom_ge hit b (k + 1) n (by omega)
    generalize hr : firstFrom hit b (k + 1) n = r at hlt hle h hge ⊢
    rw [firstFrom] at hr ⊢
    by_cases hnb : n ≤ b.length
    · rw [if_pos hnb] at hr
      have hnr : n ≤ r := by omega
      have ea := ahead_same b c r n hnr (by omega) h
      rw [if_pos (by omega), ← ea]
      by_cases hh : hit (ahead b n) = true
      · rw [if_pos hh] at hr ⊢
        exact hr
      · rw [if_neg hh] at hr ⊢
        have := ih (n + 1) (by omega) (by omega) (by rw [hr]; exact hlt) (by rw [hr]; exact hle) (by rw [hr]; exact h)
        rw [this, hr]
    · rw [if_neg hnb] at hr
      omega
theorem first_same (b c : List UInt8) (hlt : first hit b < b.length) (hle : first hit b ≤ c.length) (h : b.take (first hit b) = c.take (first hit b)) : first hit c = first hit b :=
  firstFrom_same hit b c 1537 512 (by decide) rfl hlt hle h

/-- the ends of all chunks, counted from a on -/
def ends (a : Nat) (b : List UInt8) : List Nat :=
  if _h : b = [] then [] else (a + first hit b) :: ends (a + first hit b) (b.drop (first hit b))
termination_by b.length
decreasing_by
  have := first_pos hit b _h
  have : b.length ≠ 0 := fun h0 => _h (List.eq_nil_of_length_eq_zero h0)
  simp
  omega
/-- the chunks -/
def chunks (b : List UInt8) : List (List UInt8) :=
  if _h : b = [] then [] else b.take (first hit b) :: chunks (b.drop (first hit b))
termination_by b.length
decreasing_by
  have := first_pos hit b _h
  have : b.length ≠ 0 := fun h0 => _h (List.eq_nil_of_length_eq_zero h0)
  simp
  omega
theorem ends_nil (a : Nat) : ends hit a [] = [] := by rw [ends, dif_pos rfl]
theorem ends_cons (a : Nat) (b : List UInt8) (h : b ≠ []) : ends hit a b = (a + first hit b) :: ends hit (a + first hit b) (b.drop (first hit b)) := by rw [ends, dif_neg h]
theorem chunks_nil : chunks hit [] = [] := by rw [chunks, dif_pos rfl]
theorem chunks_cons (b : List UInt8) (h : b ≠ []) : chunks hit b = b.take (first hit b) :: chunks hit (b.drop (first hit b)) := by rw [chunks, dif_neg h]
theorem rest_lt (b : List UInt8) (h : b ≠ []) : (b.drop (first hit b)).length < b.length := by
  have := first_pos hit b h
  have : b.length ≠ 0 := fun h0 => h (List.eq_nil_of_length_eq_zero h0)
  simp
  omega
/-- chunks put together are the content -/
theorem chunks_flatten (b : List UInt8) : (chunks hit b).flatten = b := by
  induction hn : b.length using Nat.strongRecOn generalizing b with
  | _ n ih =>
    by_cases h : b = []
    · rw [h, chunks_nil]
      rfl
    · rw [chunks_cons hit b h, List.flatten_cons, ih _ (by rw [← hn]; exact rest_lt hit b h) _ rfl, List.take_append_drop]
/-- chunks are as long as is told -/
theorem chunks_size (b : List UInt8) : ∀ (i : Nat) (c : List UInt8), (chunks hit b)[i]? = some c → 0 < c.length ∧ c.length ≤ 2048 ∧ (i + 1 < (chunks hit b).length → 512 ≤ c.length) := by
  induction hn : b.length using Nat.strongRecOn generalizing b with
  | _ n ih =>
    intro i c hc
    by_cases h : b = []
    · rw [h, chunks_nil] at hc
      simp at hc
    · rw [chunks_cons hit b h] at hc ⊢
      have h1 := first_pos hit b h
      have h2 := first_le hit b
      have h3 := first_len hit b
      cases i with
      | zero =>
        simp only [List.getElem?_cons_zero, Option.some.injEq] at hc
        subst hc
        rw [List.length_take, Nat.min_eq_left h3]
        refine ⟨h1, h2, fun hl => ?_⟩
        rcases Nat.lt_or_ge (first hit b) 512 with h5 | h5
        · have := first_short hit b h5
          rw [this, List.drop_length, chunks_nil] at hl
          simp at hl
        · exact h5
      | succ i =>
        simp only [List.getElem?_cons_succ] at hc
        obtain ⟨k1, k2, k3⟩ := ih _ (by rw [← hn]; exact rest_lt hit b h) _ rfl i c hc
        exact ⟨k1, k2, fun hl => k3 (by simpa using hl)⟩
/-- counted from another place on -/
theorem ends_shift (a : Nat) (b : List UInt8) : ends hit a b = (ends hit 0 b).map (a + ·) := by
  suffices h : ∀ c, ends hit (a + c) b = (ends hit c b).map (a + ·) from h 0
  induction hn : b.length using Nat.strongRecOn generalizing b with
  | _ n ih =>
    intro c
    by_cases h : b = []
    · rw [h, ends_nil, ends_nil]
      rfl
    · rw [ends_cons hit _ b h, ends_cons hit c b h, List.map_cons, Nat.add_assoc, ih _ (by rw [← hn]; exact rest_lt hit b h) _ rfl]
/-- ends lie behind where they are counted from, and within -/
theorem ends_bounds (a : Nat) (b : List UInt8) : ∀ e ∈ ends hit a b, a < e ∧ e ≤ a + b.length := by
  induction hn : b.length using Nat.strongRecOn generalizing a b with
  | _ n ih =>
    intro e he
    by_cases h : b = []
    · rw [h, ends_nil] at he
      cases he
    · rw [ends_cons hit a b h] at he
      have h1 := first_pos hit b h
      have h3 := first_len hit b
      rcases List.mem_cons.1 he with rfl | he
      · omega
      · obtain ⟨k1, k2⟩ := ih _ (by rw [← hn]; exact rest_lt hit b h) _ _ rfl e he
        rw [List.length_drop] at k2
        omega
/-- BEHIND A CUT IT DOES NOT MATTER WHAT STANDS AHEAD -/
theorem ends_behind (a : Nat) (b : List UInt8) (e : Nat) (he : a + e ∈ ends hit a b) : (ends hit a b).filter (fun x => decide (a + e < x)) = ends hit (a + e) (b.drop e) := by
  induction hn : b.length using Nat.strongRecOn generalizing a b e with
  | _ n ih =>
    by_cases h : b = []
    · rw [h, ends_nil] at he
      cases he
    · rw [ends_cons hit a b h] at he ⊢
      have h1 := first_pos hit b h
      rcases List.mem_cons.1 he with h2 | h2
      · have h2 : e = first hit b := by omega
        subst h2
        rw [List.filter_cons_of_neg (by simp)]
        refine List.filter_eq_self.2 fun x hx => ?_
        have := (ends_bounds hit _ _ x hx).1
        simpa using this
      · have hb := (ends_bounds hit _ _ _ h2).1
        obtain ⟨q, rfl⟩ : ∃ q, e = first hit b + q := ⟨e - first hit b, by omega⟩
        rw [List.filter_cons_of_neg (by simp)]
        rw [← Nat.add_assoc] at h2
        have := ih _ (by rw [← hn]; exact rest_lt hit b h) (a + first hit b) (b.drop (first hit b)) q h2 rfl
        rw [List.drop_drop] at this
        rw [← Nat.add_assoc]
        exact this
/-- OF A LONGER CONTENT THE FIRST CUTS ARE THE SAME, BUT THE LAST; and of one that begins alike all cuts up to where it does -/
theorem ends_alike (a : Nat) (b c : List UInt8) (m : Nat) (hm : m < b.length) (hc : m ≤ c.length) (h : b.take m = c.take m) :
    ∀ (i e : Nat), (ends hit a b)[i]? = some e → e ≤ a + m → (ends hit a c)[i]? = some e := by
  induction hn : b.length using Nat.strongRecOn generalizing a b c m with
  | _ n ih =>
    intro i e hi hle
    by_cases hb : b = []
    · rw [hb] at hm
      simp at hm
    · rw [ends_cons hit a b hb] at hi
      have h1 := first_pos hit b hb
      have hfm : first hit b ≤ m := by
        cases i with
        | zero =>
          simp only [List.getElem?_cons_zero, Option.some.injEq] at hi
          omega
        | succ i =>
          simp only [List.getElem?_cons_succ] at hi
          have := (ends_bounds hit _ _ e (List.mem_of_getElem? hi)).1
          omega
      have ht : b.take (first hit b) = c.take (first hit b) := by
        have := congrArg (List.take (first hit b)) h
        rwa [List.take_take, List.take_take, Nat.min_eq_left hfm] at this
      have hf := first_same hit b c (by omega) (by omega) ht
      have hcn : c ≠ [] := fun h0 => by
        rw [h0] at hc
        simp at hc
        omega
      rw [ends_cons hit a c hcn, hf]
      cases i with
      | zero =>
        simp only [List.getElem?_cons_zero] at hi ⊢
        exact hi
      | succ i =>
        simp only [List.getElem?_cons_succ] at hi ⊢
        refine ih _ (by rw [← hn]; exact rest_lt hit b hb) (a + first hit b) (b.drop (first hit b)) (c.drop (first hit b)) (m - first hit b) (by rw [List.length_drop]; omega) (by rw [List.length_drop]; omega) ?_ rfl i e hi (by omega)
        have := congrArg (List.drop (first hit b)) h
        rwa [List.drop_take, List.drop_take] at this
/-- noughts are cut into the longest chunks -/
theorem ahead_noughts (n m : Nat) (h16 : 16 ≤ m) (h : m ≤ n) : ahead (List.replicate n 0) m = List.replicate 16 0 := by
  rw [ahead, List.drop_replicate, List.take_replicate]
  congr 1
  omega
theorem firstFrom_noughts (h0 : hit (List.replicate 16 0) = false) (n k m : Nat) (h16 : 16 ≤ m) : firstFrom hit (List.replicate n 0) k m = min n 2048 := by
  induction k generalizing m with
  | zero => rw [firstFrom, List.length_replicate]
  | succ k ih =>
    rw [firstFrom, List.length_replicate]
    split
    · rename_i hm
      rw [ahead_noughts n m h16 hm, h0, if_neg (by decide)]
      exact ih _ (by omega)
    · rfl
theorem first_noughts (h0 : hit (List.replicate 16 0) = false) (n : Nat) : first hit (List.replicate n 0) = min n 2048 := firstFrom_noughts hit h0 n _ _ (by decide)
theorem ends_noughts (h0 : hit (List.replicate 16 0) = false) (a n : Nat) : (ends hit a (List.replicate n 0)).length = (n + 2047) / 2048 ∧ ∀ (i e : Nat), (ends hit a (List.replicate n 0))[i]? = some e → e = a + min n (2048 * (i + 1)) := by
  induction hn : n using Nat.strongRecOn generalizing a n with
  | _ k ih =>
    subst hn
    by_cases hz : n = 0
    · subst hz
      rw [List.replicate_zero, ends_nil]
      exact ⟨rfl, fun i e h => by simp at h⟩
    · have hne : (List.replicate n 0 : List UInt8) ≠ [] := by simp [hz]
      rw [ends_cons hit a _ hne, first_noughts hit h0, List.drop_replicate]
      obtain ⟨k1, k2⟩ := ih (n - min n 2048) (by omega) (a + min n 2048) (n - min n 2048) rfl
      refine ⟨by rw [List.length_cons, k1]; omega, fun i e he => ?_⟩
      cases i with
      | zero =>
        simp only [List.getElem?_cons_zero, Option.some.injEq] at he
        omega
      | succ i =>
        simp only [List.getElem?_cons_succ] at he
        have := k2 i e he
        omega
/-- the last end is where the content ends -/
theorem ends_last (a : Nat) (b : List UInt8) (h : b ≠ []) : (ends hit a b).getLast? = some (a + b.length) := by
  induction hn : b.length using Nat.strongRecOn generalizing a b with
  | _ n ih =>
    subst hn
    rw [ends_cons hit a b h]
    have h3 := first_len hit b
    by_cases hr : b.drop (first hit b) = []
    · have hl := congrArg List.length hr
      rw [List.length_drop, List.length_nil] at hl
      rw [hr, ends_nil]
      simp
      omega
    · have := ih _ (rest_lt hit b h) (a + first hit b) _ hr rfl
      rw [List.getLast?_cons, this, List.length_drop]
      simp
      omega
/-- an end that is not the last one lies ahead of the content's end -/
theorem ends_lt (a : Nat) (b : List UInt8) : ∀ (i e : Nat), (ends hit a b)[i]? = some e → i + 1 < (ends hit a b).length → e < a + b.length := by
  induction hn : b.length using Nat.strongRecOn generalizing a b with
  | _ n ih =>
    subst hn
    intro i e he hi
    by_cases h : b = []
    · rw [h, ends_nil] at he
      simp at he
    · rw [ends_cons hit a b h] at he hi
      have h3 := first_len hit b
      cases i with
      | zero =>
        simp only [List.getElem?_cons_zero, Option.some.injEq] at he
        rcases Nat.lt_or_ge (first hit b) b.length with h4 | h4
        · omega
        · exfalso
          rw [List.drop_eq_nil_of_le h4, ends_nil] at hi
          simp at hi
      | succ i =>
        simp only [List.getElem?_cons_succ] at he
        have := ih _ (rest_lt hit b h) (a + first hit b) _ rfl i e he (by simpa using hi)
        rw [List.length_drop] at this
        omega
/-- a row parted at these places -/
def parts (b : List UInt8) : Nat → List Nat → List (List UInt8)
  | _, [] => []
  | at_, e :: r => (b.drop at_).take (e - at_) :: parts b e r
theorem parts_ends (p b : List UInt8) : parts (p ++ b) p.length (ends hit p.length b) = chunks hit b := by
  induction hn : b.length using Nat.strongRecOn generalizing p b with
  | _ n ih =>
    subst hn
    by_cases h : b = []
    · rw [h, ends_nil, chunks_nil]
      rfl
    · rw [ends_cons hit _ b h, chunks_cons hit b h, parts, List.drop_left, show p.length + first hit b - p.length = first hit b by omega]
      congr 1
      have hl : (p ++ b.take (first hit b)).length = p.length + first hit b := by
        rw [List.length_append, List.length_take, Nat.min_eq_left (first_len hit b)]
      have := ih _ (rest_lt hit b h) (p ++ b.take (first hit b)) (b.drop (first hit b)) rfl
      rwa [hl, List.append_assoc, List.take_append_drop] at this
/-- the content, parted at its ends, is its chunks -/
theorem parts_chunks (b : List UInt8) : parts b 0 (ends hit 0 b) = chunks hit b := parts_ends hit [] b
theorem chunks_count (a : Nat) (b : List UInt8) : (chunks hit b).length = (ends hit a b).length := by
  induction hn : b.length using Nat.strongRecOn generalizing a b with
  | _ n ih =>
    subst hn
    by_cases h : b = []
    · rw [h, ends_nil, chunks_nil]
      rfl
    · rw [ends_cons hit _ b h, chunks_cons hit b h, List.length_cons, List.length_cons, ih _ (rest_lt hit b h) _ _ rfl]
/-- of a longer content there are as many cuts, or more -/
theorem ends_more (b m : List UInt8) : (ends hit 0 b).length ≤ (ends hit 0 (b ++ m)).length := by
  by_cases h : b = []
  · rw [h, ends_nil]
    exact Nat.zero_le _
  · have hl := ends_last hit 0 b h
    have hb : b.length ≠ 0 := fun h0 => h (List.eq_nil_of_length_eq_zero h0)
    have hne : b ++ m ≠ [] := fun h0 => h (List.append_eq_nil_iff.1 h0).1
    have hl2 := ends_last hit 0 (b ++ m) hne
    have hp : 0 < (ends hit 0 (b ++ m)).length := by
      cases he : ends hit 0 (b ++ m) with
      | nil => rw [he] at hl2; cases hl2
      | cons _ _ => simp
    rcases Nat.lt_or_ge (ends hit 0 (b ++ m)).length (ends hit 0 b).length with hlt | hge
    · exfalso
      -- the last end of the longer one would be an end of b that is not its last one
      have hk : (ends hit 0 (b ++ m)).length - 1 < (ends hit 0 b).length - 1 := by omega
      obtain ⟨e, he⟩ : ∃ e, (ends hit 0 b)[(ends hit 0 (b ++ m)).length - 1]? = some e := ⟨_, List.getElem?_eq_getElem (by omega)⟩
      have hlt2 : e < b.length := by
        have hs := ends_lt hit 0 b ((ends hit 0 (b ++ m)).length - 1) e he (by omega)
        omega
      have ha := ends_alike hit 0 b (b ++ m) e hlt2 (by simp; omega) (by rw [List.take_append_of_le_length (by omega)]) _ e he (by omega)
      rw [List.getLast?_eq_getElem?, ha] at hl2
      have := Option.some.inj hl2
      rw [List.length_append] at this
      omega
    · exact hge
end
end Go.Proofs.Ytdlejcokigmcdaa.Rb
