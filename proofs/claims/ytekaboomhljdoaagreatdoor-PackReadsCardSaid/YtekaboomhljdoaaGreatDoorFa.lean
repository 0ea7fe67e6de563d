/-
  Plain: a record's bytes, what is read at the beginning of bytes, and all that is read of them. Conditions: each law's own. No program is spoken of.
-/
import Derived.Test.YtekaboomhljdoaaGreatDoorCa
import Derived.Test.YtekaboomhljdoaaGreatDoorPn
namespace Go.Proofs.YtekaboomhljdoaaGreatDoor.Fr
open Go.Proofs.YtekaboomhljdoaaGreatDoor.Lb Go.Proofs.YtekaboomhljdoaaGreatDoor.Cr

/-- a record's bytes -/
def frL (k : UInt8) (l : List UInt8) : List UInt8 := bytesL (165 :: k :: (putL l.length ++ l))
/-- where the data begin and end, or the error: the error, the beginning, the end -/
def bndL (b : List UInt8) : Nat × Nat × Nat :=
  if (getL (b.drop 2)).2.2 = 20 then (20, 0, 0)
  else if (getL (b.drop 2)).2.2 ≠ 0 then (120, 0, 0)
  else if b.length < 2 + (getL (b.drop 2)).2.1 + (getL (b.drop 2)).1 + 4 then (20, 0, 0)
  else if 8192 < (getL (b.drop 2)).1 then (120, 0, 0)
  else (0, 2 + (getL (b.drop 2)).2.1, 2 + (getL (b.drop 2)).2.1 + (getL (b.drop 2)).1)
/-- the record at the beginning: the error, its kind, data, how many bytes -/
def nextL (b : List UInt8) : Nat × UInt8 × List UInt8 × Nat :=
  if (bndL b).1 ≠ 0 then ((bndL b).1, 0, [], 0)
  else if b.getD 0 0 ≠ 165 then (120, 0, [], 0)
  else if ¬ (1 ≤ (b.getD 1 0).toNat ∧ (b.getD 1 0).toNat ≤ 4) then (120, 0, [], 0)
  else if rightL (b.take ((bndL b).2.2 + 4)) = false then (120, 0, [], 0)
  else (0, b.getD 1 0, (b.drop (bndL b).2.1).take ((bndL b).2.2 - (bndL b).2.1), (bndL b).2.2 + 4)
theorem bnd_err (b : List UInt8) : (bndL b).1 = 0 ∨ (bndL b).1 = 20 ∨ (bndL b).1 = 120 := by
  unfold bndL
  repeat' split
  all_goals simp
theorem next_err (b : List UInt8) : (nextL b).1 = 0 ∨ (nextL b).1 = 20 ∨ (nextL b).1 = 120 := by
  have := bnd_err b
  unfold nextL
  split
  · exact this
  · repeat' split
    all_goals simp
theorem bnd_ok (b : List UInt8) (h : (bndL b).1 = 0) : 3 ≤ (bndL b).2.1 ∧ (bndL b).2.1 ≤ (bndL b).2.2 ∧ (bndL b).2.2 + 4 ≤ b.length ∧ (bndL b).2.2 ≤ (bndL b).2.1 + 8192 ∧ (bndL b).2.1 ≤ 12 := by
  unfold bndL at h ⊢
  split
  · rename_i h0; simp [h0] at h
  · rename_i h0
    rw [if_neg h0] at h
    split
    · rename_i h1; simp [h1] at h
    · rename_i h1
      rw [if_neg h1] at h
      split
      · rename_i h2; simp [h2] at h
      · rename_i h2
        rw [if_neg h2] at h
        split
        · rename_i h3; simp [h3] at h
        · rename_i h3
          have h4 := getL_again (b.drop 2) (getL (b.drop 2)).1 (getL (b.drop 2)).2.1 (by rw [Classical.not_not.1 h1 |>.symm])
          have h5 := congrArg List.length h4.2.2.2
          rw [List.length_take, Nat.min_eq_left h4.2.1] at h5
          have h6 := putL_len (getL (b.drop 2)).1
          simp only
          omega
theorem next_ok (b : List UInt8) (h : (nextL b).1 = 0) : 7 ≤ (nextL b).2.2.2 ∧ (nextL b).2.2.2 ≤ b.length ∧ (nextL b).2.2.1.length ≤ 8192 ∧ 1 ≤ (nextL b).2.1.toNat ∧ (nextL b).2.1.toNat ≤ 4 := by
  unfold nextL at h ⊢
  split
  · rename_i h0; rw [if_pos h0] at h; exact absurd h h0
  · rename_i h0
    have hb := bnd_ok b (Classical.not_not.1 h0)
    rw [if_neg h0] at h
    split
    · rename_i h1; rw [if_pos h1] at h; simp at h
    · rename_i h1
      rw [if_neg h1] at h
      split
      · rename_i h2; rw [if_pos h2] at h; simp at h
      · rename_i h2
        rw [if_neg h2] at h
        split
        · rename_i h3; rw [if_pos h3] at h; simp at h
        · simp only [List.length_take, List.length_drop]
          have := Classical.not_not.1 h2
          omega
theorem frL_len (k : UInt8) (l : List UInt8) : (frL k l).length = 2 + (putL l.length).length + l.length + 4 := by
  unfold frL
  rw [bytesL_len]
  simp
  omega
theorem frL_cons (k : UInt8) (l : List UInt8) : frL k l = 165 :: k :: (putL l.length ++ (l ++ leL (sumL (165 :: k :: (putL l.length ++ l))))) := by
  unfold frL bytesL
  simp
theorem bnd_fr (k : UInt8) (l m : List UInt8) (hl : l.length ≤ 8192) : bndL (frL k l ++ m) = (0, 2 + (putL l.length).length, 2 + (putL l.length).length + l.length) := by
  have hlen := frL_len k l
  have e : getL ((frL k l ++ m).drop 2) = (l.length, (putL l.length).length, 0) := by
    rw [frL_cons]
    simp only [List.cons_append, List.drop_succ_cons, List.drop_zero, List.append_assoc]
    exact getL_put _ (by omega) _
  unfold bndL
  rw [e]
  simp only [List.length_append]
  rw [if_neg (by omega), if_neg (by omega), if_neg (by omega), if_neg (by omega)]
theorem next_fr (k : UInt8) (l m : List UInt8) (hl : l.length ≤ 8192) (h1 : 1 ≤ k.toNat) (h4 : k.toNat ≤ 4) : nextL (frL k l ++ m) = (0, k, l, (frL k l).length) := by
  have hlen := frL_len k l
  unfold nextL
  rw [bnd_fr k l m hl]
  have g0 : (frL k l ++ m).getD 0 0 = 165 := by rw [frL_cons]; rfl
  have g1 : (frL k l ++ m).getD 1 0 = k := by rw [frL_cons]; rfl
  have ht : (frL k l ++ m).take (2 + (putL l.length).length + l.length + 4) = frL k l := by rw [← hlen, List.take_left]
  have hr : rightL (frL k l) = true := right_bytes _
  have hd : ((frL k l ++ m).drop (2 + (putL l.length).length)).take l.length = l := by
    rw [frL_cons]
    simp only [List.cons_append, List.append_assoc]
    rw [show 2 + (putL l.length).length = (putL l.length).length + 1 + 1 by omega, List.drop_succ_cons, List.drop_succ_cons, List.drop_left, List.take_left]
  simp only [g0, g1, ht, hr]
  rw [if_neg (by simp), if_neg (by simp), if_neg (by omega), if_neg (by simp), show 2 + (putL l.length).length + l.length - (2 + (putL l.length).length) = l.length by omega, hd, hlen]
theorem next_cut (k : UInt8) (l m : List UInt8) (c : Nat) (hl : l.length ≤ 8192) (hc : c < (frL k l).length) : (nextL ((frL k l ++ m).take c)).1 ≠ 0 := by
  have hlen := frL_len k l
  have hcl : ((frL k l ++ m).take c).length = c := by rw [List.length_take, List.length_append]; omega
  have hb : (bndL ((frL k l ++ m).take c)).1 ≠ 0 := by
    have hd : ((frL k l ++ m).take c).drop 2 = (putL l.length ++ (l ++ leL (sumL (165 :: k :: (putL l.length ++ l))) ++ m)).take (c - 2) := by
      rw [List.drop_take, frL_cons]
      simp
    rcases Nat.lt_or_ge (c - 2) (putL l.length).length with h | h
    · have e : getL (((frL k l ++ m).take c).drop 2) = (0, 0, 20) := by
        rw [hd, List.take_append_of_le_length (by omega)]
        exact getL_cut _ _ h
      unfold bndL
      rw [e]
      simp
    · have e : getL (((frL k l ++ m).take c).drop 2) = (l.length, (putL l.length).length, 0) := by
        rw [hd, List.take_append, List.take_of_length_le h]
        exact getL_put _ (by omega) _
      unfold bndL
      rw [e, hcl]
      simp only
      rw [if_neg (by omega), if_neg (by omega), if_pos (by omega)]
      simp
  unfold nextL
  rw [if_pos hb]
  exact hb
theorem next_nil : (nextL []).1 ≠ 0 := by decide

/-- all that is read: kinds with data, where each begins, where what was not read begins; f: at most how many -/
def scanF : Nat → Nat → List UInt8 → List (UInt8 × List UInt8) × List Int × Nat
  | 0, a, _ => ([], [], a)
  | f + 1, a, b => if (nextL b).1 = 0 then (((nextL b).2.1, (nextL b).2.2.1) :: (scanF f (a + (nextL b).2.2.2) (b.drop (nextL b).2.2.2)).1, (a : Int) :: (scanF f (a + (nextL b).2.2.2) (b.drop (nextL b).2.2.2)).2.1, (scanF f (a + (nextL b).2.2.2) (b.drop (nextL b).2.2.2)).2.2) else ([], [], a)
def scanL (b : List UInt8) : List (UInt8 × List UInt8) × List Int × Nat := scanF (b.length + 1) 0 b
theorem scanF_stop (f a : Nat) (b : List UInt8) (h : (nextL b).1 ≠ 0) : scanF f a b = ([], [], a) := by
  cases f with
  | zero => rfl
  | succ f => rw [scanF, if_neg h]
theorem scanF_next (f a : Nat) (b : List UInt8) (h : (nextL b).1 = 0) : scanF (f + 1) a b = (((nextL b).2.1, (nextL b).2.2.1) :: (scanF f (a + (nextL b).2.2.2) (b.drop (nextL b).2.2.2)).1, (a : Int) :: (scanF f (a + (nextL b).2.2.2) (b.drop (nextL b).2.2.2)).2.1, (scanF f (a + (nextL b).2.2.2) (b.drop (nextL b).2.2.2)).2.2) := by
  rw [scanF, if_pos h]
/-- what is true of whatever is read -/
theorem scanF_true (f : Nat) : ∀ (a : Nat) (b : List UInt8), (scanF f a b).2.1.length = (scanF f a b).1.length ∧ a ≤ (scanF f a b).2.2 ∧ (scanF f a b).2.2 ≤ a + b.length ∧ (∀ p ∈ (scanF f a b).2.1, (a : Int) ≤ p ∧ p < ((scanF f a b).2.2 : Nat)) ∧ (scanF f a b).2.1.Pairwise (· < ·) ∧ (∀ r ∈ (scanF f a b).1, r.2.length ≤ 8192 ∧ 1 ≤ r.1.toNat ∧ r.1.toNat ≤ 4) := by
  induction f with
  | zero => intro a b; simp [scanF]
  | succ f ih =>
    intro a b
    by_cases h : (nextL b).1 = 0
    · have hn := next_ok b h
      obtain ⟨i1, i2, i3, i4, i5, i6⟩ := ih (a + (nextL b).2.2.2) (b.drop (nextL b).2.2.2)
      rw [scanF_next f a b h]
      rw [List.length_drop] at i3
      refine ⟨by simp [i1], by simp only; omega, by simp only; omega, ?_, ?_, ?_⟩
      · intro p hp
        rcases List.mem_cons.1 hp with rfl | hp
        · simp only; omega
        · have := i4 p hp; simp only; omega
      · refine List.pairwise_cons.2 ⟨fun p hp => ?_, i5⟩
        have := i4 p hp; omega
      · intro r hr
        rcases List.mem_cons.1 hr with rfl | hr
        · exact ⟨hn.2.2.1, hn.2.2.2⟩
        · exact i6 r hr
    · rw [scanF_stop _ _ _ h]
      simp
/-- records one behind the other are read back -/
def endsL (k : UInt8) : Nat → List (List UInt8) → List Int
  | _, [] => []
  | a, l :: r => (a : Int) :: endsL k (a + (frL k l).length) r
def allL (k : UInt8) (ls : List (List UInt8)) : List UInt8 := (ls.map (frL k)).flatten
theorem allL_cons (k : UInt8) (l : List UInt8) (r : List (List UInt8)) : allL k (l :: r) = frL k l ++ allL k r := by simp [allL]
theorem scanF_all (k : UInt8) (h1 : 1 ≤ k.toNat) (h4 : k.toNat ≤ 4) (m : List UInt8) (hm : (nextL m).1 ≠ 0) (ls : List (List UInt8)) :
    ∀ (f a : Nat), (∀ l ∈ ls, l.length ≤ 8192) → ls.length < f → scanF f a (allL k ls ++ m) = (ls.map fun l => (k, l), endsL k a ls, a + (allL k ls).length) := by
  induction ls with
  | nil => intro f a _ _; rw [scanF_stop _ _ _ (by simpa [allL] using hm)]; simp [endsL, allL]
  | cons l r ih =>
    intro f a hl hf
    obtain ⟨f, rfl⟩ : ∃ g, f = g + 1 := ⟨f - 1, by simp at hf; omega⟩
    have e := next_fr k l (allL k r ++ m) (hl l (by simp)) h1 h4
    rw [allL_cons, List.append_assoc, scanF_next f a _ (by rw [e]), e]
    simp only [List.drop_left]
    rw [ih f (a + (frL k l).length) (fun x hx => hl x (by simp [hx])) (by simp at hf; omega)]
    simp [endsL, Nat.add_assoc]
theorem all_len (k : UInt8) (ls : List (List UInt8)) : 7 * ls.length ≤ (allL k ls).length := by
  induction ls with
  | nil => simp [allL]
  | cons l r ih =>
    rw [allL_cons, List.length_append, frL_len, List.length_cons]
    have := putL_len l.length
    omega
/-- the place where each record ends is at most a cut, or above it -/
theorem scan_cut (k : UInt8) (h1 : 1 ≤ k.toNat) (h4 : k.toNat ≤ 4) (ls : List (List UInt8)) (j c : Nat) (hl : ∀ l ∈ ls, l.length ≤ 8192) (hlo : (allL k (ls.take j)).length ≤ c)
    (hhi : j < ls.length → c < (allL k (ls.take (j + 1))).length) (hc : c ≤ (allL k ls).length) :
    scanL ((allL k ls).take c) = ((ls.take j).map fun l => (k, l), endsL k 0 (ls.take j), (allL k (ls.take j)).length) := by
  have hs : allL k ls = allL k (ls.take j) ++ allL k (ls.drop j) := by
    unfold allL
    rw [← List.flatten_append, ← List.map_append, List.take_append_drop]
  have ht : (allL k ls).take c = allL k (ls.take j) ++ (allL k (ls.drop j)).take (c - (allL k (ls.take j)).length) := by
    rw [hs, List.take_append, List.take_of_length_le hlo]
  have hm : (nextL ((allL k (ls.drop j)).take (c - (allL k (ls.take j)).length))).1 ≠ 0 := by
    rcases Nat.lt_or_ge j ls.length with h | h
    · have hcs : ls.drop j = ls[j] :: ls.drop (j + 1) := List.drop_eq_getElem_cons h
      have h2 := hhi h
      have hs2 : allL k (ls.take (j + 1)) = allL k (ls.take j) ++ frL k ls[j] := by
        unfold allL
        rw [List.take_succ_eq_append_getElem h, List.map_append, List.flatten_append]
        simp only [List.map_cons, List.map_nil, List.flatten_cons, List.flatten_nil, List.append_nil]
      rw [hs2, List.length_append] at h2
      rw [hcs, allL_cons]
      exact next_cut k ls[j] _ _ (hl _ (List.getElem_mem h)) (by omega)
    · rw [List.drop_eq_nil_of_le h]
      simp only [allL, List.map_nil, List.flatten_nil, List.take_nil]
      exact next_nil
  unfold scanL
  rw [List.length_take, Nat.min_eq_left hc, ht, scanF_all k h1 h4 _ hm _ _ 0 (fun l hx => hl l (List.mem_of_mem_take hx)) (by
    have := all_len k (ls.take j)
    omega)]
  simp
theorem ends_at (k : UInt8) (ls : List (List UInt8)) : ∀ (a j : Nat) (h : j < (endsL k a ls).length), (endsL k a ls)[j] = ((a + (allL k (ls.take j)).length : Nat) : Int) := by
  induction ls with
  | nil => intro a j h; simp [endsL] at h
  | cons l r ih =>
    intro a j h
    cases j with
    | zero => simp [endsL, allL]
    | succ j =>
      simp only [endsL, List.getElem_cons_succ, List.take_succ_cons, allL_cons, List.length_append]
      rw [ih _ j (by simpa [endsL] using h)]
      omega
theorem ends_len (k : UInt8) (ls : List (List UInt8)) : ∀ a, (endsL k a ls).length = ls.length := by
  induction ls with
  | nil => intro a; rfl
  | cons l r ih => intro a; simp [endsL, ih]
end Go.Proofs.YtekaboomhljdoaaGreatDoor.Fr
