/-
  The contract of what writes a record's bytes into a pack's sectors. Conditions: each law's own.
-/
import Derived.Test.YtekaboomhljdoaaGreatDoorFa
import Derived.Test.YtekaboomhljdoaaGreatDoorPkD
import Derived.Test.YtekaboomhljdoaaGreatDoorKg
import Derived.Test.YtekaboomhljdoaaGreatDoorKe
import Derived.Deep.RegionHeld3
import Derived.Laws.CopyOwn
import Derived.Test.YtekaboomhljdoaaGreatDoorWj
namespace Go.Proofs.YtekaboomhljdoaaGreatDoor.Pc
open Go.Proofs.YtekaboomhljdoaaGreatDoor.Fr Go.Proofs.YtekaboomhljdoaaGreatDoor.Lb Go.Proofs.YtekaboomhljdoaaGreatDoor.Cr

/-- sectors a to a + n - 1 -/
def flat (V : Nat → List UInt8) (a n : Nat) : List UInt8 := (List.range n).flatMap fun i => V (a + i)
theorem flat_zero (V : Nat → List UInt8) (a : Nat) : flat V a 0 = [] := rfl
theorem flat_succ (V : Nat → List UInt8) (a n : Nat) : flat V a (n + 1) = flat V a n ++ V (a + n) := by simp [flat, List.range_succ]
theorem flat_len {V : Nat → List UInt8} {a : Nat} : ∀ {n : Nat} (_ : ∀ i, i < n → (V (a + i)).length = 256), (flat V a n).length = 256 * n
  | 0, _ => rfl
  | n + 1, h => by
    rw [flat_succ, List.length_append, flat_len (fun i hi => h i (by omega)), h n (by omega)]
    omega
theorem flat_get {V : Nat → List UInt8} {a : Nat} : ∀ {n : Nat} (_ : ∀ i, i < n → (V (a + i)).length = 256) (j : Nat) (_ : j < 256 * n), (flat V a n)[j]? = (V (a + j / 256))[j % 256]?
  | 0, _, j, hj => absurd hj (by omega)
  | n + 1, h, j, hj => by
    have hl := flat_len (V := V) (a := a) (n := n) (fun i hi => h i (by omega))
    rw [flat_succ]
    rcases Nat.lt_or_ge j (256 * n) with h1 | h1
    · rw [List.getElem?_append_left (by omega)]
      exact flat_get (fun i hi => h i (by omega)) j h1
    · rw [List.getElem?_append_right (by omega), hl]
      have e1 : j / 256 = n := by omega
      have e2 : j % 256 = j - 256 * n := by omega
      rw [e1, e2]
theorem flat_eq {V V' : Nat → List UInt8} {a n : Nat} (h : ∀ i, i < n → V (a + i) = V' (a + i)) : flat V a n = flat V' a n := by
  induction n with
  | zero => rfl
  | succ n ih => rw [flat_succ, flat_succ, ih (fun i hi => h i (by omega)), h n (by omega)]
theorem flat_part {V : Nat → List UInt8} {a : Nat} (f m n : Nat) (h : ∀ i, i < n → (V (a + i)).length = 256) (hm : f + m ≤ n) : flat V (a + f) m = ((flat V a n).drop (256 * f)).take (256 * m) := by
  have l1 := flat_len (V := V) (a := a + f) (n := m) (fun i hi => by rw [Nat.add_assoc]; exact h _ (by omega))
  have l2 := flat_len h
  apply List.ext_getElem?
  intro j
  rcases Nat.lt_or_ge j (256 * m) with hj | hj
  · rw [flat_get (fun i hi => by rw [Nat.add_assoc]; exact h _ (by omega)) j hj, List.getElem?_take_of_lt hj, List.getElem?_drop, flat_get h _ (by omega)]
    have e1 : (256 * f + j) / 256 = f + j / 256 := by omega
    have e2 : (256 * f + j) % 256 = j % 256 := by omega
    rw [e1, e2, Nat.add_assoc]
  · rw [List.getElem?_eq_none (by omega), List.getElem?_eq_none (by rw [List.length_take, List.length_drop]; omega)]
/-- bytes 256 i and on, filled up with noughts -/
def secO (b : List UInt8) (i : Nat) : List UInt8 := (b.drop (256 * i)).take 256 ++ List.replicate (256 - ((b.drop (256 * i)).take 256).length) 0
theorem secO_len (b : List UInt8) (i : Nat) : (secO b i).length = 256 := by simp [secO]; omega
theorem secO_get (b : List UInt8) (i j : Nat) (hj : j < 256) : (secO b i)[j]? = some (b.getD (256 * i + j) 0) := by
  unfold secO
  have hl : ((b.drop (256 * i)).take 256).length = min 256 (b.length - 256 * i) := by simp
  rcases Nat.lt_or_ge (256 * i + j) b.length with h | h
  · rw [List.getElem?_append_left (by omega), List.getElem?_take_of_lt hj, List.getElem?_drop, List.getElem?_eq_getElem h]
    simp [List.getD, List.getElem?_eq_getElem h]
  · rw [List.getElem?_append_right (by omega), List.getElem?_replicate, if_pos (by omega)]
    simp [List.getD, List.getElem?_eq_none h]
/-- n sectors from q on are written -/
def wrV (V : Nat → List UInt8) (q : Nat) (b : List UInt8) (n : Nat) : Nat → List UInt8 := fun j => if q ≤ j ∧ j < q + n then secO b (j - q) else V j
theorem wrV_zero (V : Nat → List UInt8) (q : Nat) (b : List UInt8) : wrV V q b 0 = V := by
  funext j
  rw [wrV, if_neg (by omega)]
theorem wrV_succ (V : Nat → List UInt8) (q : Nat) (b : List UInt8) (n : Nat) (j : Nat) : wrV V q b (n + 1) j = if j = q + n then secO b n else wrV V q b n j := by
  unfold wrV
  by_cases h : j = q + n
  · subst h
    rw [if_pos (by omega), if_pos rfl, show q + n - q = n by omega]
  · rw [if_neg h]
    by_cases h2 : q ≤ j ∧ j < q + n
    · rw [if_pos h2, if_pos (by omega)]
    · rw [if_neg h2, if_neg (by omega)]
theorem wrV_len {V : Nat → List UInt8} {j : Nat} (h : (V j).length = 256) (q : Nat) (b : List UInt8) (n : Nat) : (wrV V q b n j).length = 256 := by
  unfold wrV
  split
  · exact secO_len _ _
  · exact h
/-- how many sectors are written -/
def cnt (f m : Nat) : Nat := min (m / 256 + 1) (64 - f)
/-- what an append leaves of the sectors -/
def appV (V : Nat → List UInt8) (a en : Nat) (b : List UInt8) : Nat → List UInt8 :=
  wrV V (a + en / 256) ((V (a + en / 256)).take (en % 256) ++ b) (cnt (en / 256) (en % 256 + b.length))
theorem appV_get {V : Nat → List UInt8} {a en : Nat} {b : List UInt8} (h : ∀ i, i < 64 → (V (a + i)).length = 256) (hb : b ≠ []) (_ : en + b.length ≤ 16384) (j : Nat) (hj : j < 16384) :
    (flat (appV V a en b) a 64)[j]? = if 256 * (en / 256) ≤ j ∧ j < 256 * (en / 256 + cnt (en / 256) (en % 256 + b.length)) then some (((V (a + en / 256)).take (en % 256) ++ b).getD (j - 256 * (en / 256)) 0) else (flat V a 64)[j]? := by
  have hb0 : 0 < b.length := List.length_pos_iff.2 hb
  have hl : ∀ i, i < 64 → (appV V a en b (a + i)).length = 256 := fun i hi => wrV_len (h i hi) _ _ _
  rw [flat_get hl j (by omega)]
  unfold appV wrV
  by_cases h1 : 256 * (en / 256) ≤ j ∧ j < 256 * (en / 256 + cnt (en / 256) (en % 256 + b.length))
  · rw [if_pos h1, if_pos (by omega), secO_get _ _ _ (by omega), show a + j / 256 - (a + en / 256) = j / 256 - en / 256 by omega, show 256 * (j / 256 - en / 256) + j % 256 = j - 256 * (en / 256) by omega]
  · rw [if_neg h1, if_neg (by omega), flat_get h j (by omega)]
theorem appV_pre {V : Nat → List UInt8} {a en : Nat} {b : List UInt8} (h : ∀ i, i < 64 → (V (a + i)).length = 256) (hb : b ≠ []) (he : en + b.length ≤ 16384) :
    (flat (appV V a en b) a 64).take (en + b.length) = (flat V a 64).take en ++ b := by
  have hb0 : 0 < b.length := List.length_pos_iff.2 hb
  have l1 : (flat V a 64).length = 256 * 64 := flat_len h
  have l2 : (flat (appV V a en b) a 64).length = 256 * 64 := flat_len fun i hi => wrV_len (h i hi) _ _ _
  have lt : ((flat V a 64).take en).length = en := by rw [List.length_take]; omega
  have hV : ((V (a + en / 256)).take (en % 256)).length = en % 256 := by rw [List.length_take, h _ (by omega)]; omega
  apply List.ext_getElem?
  intro j
  rcases Nat.lt_or_ge j (en + b.length) with hj | hj
  · rw [List.getElem?_take_of_lt hj, appV_get h hb he j (by omega)]
    have hc : j < 256 * (en / 256 + cnt (en / 256) (en % 256 + b.length)) := by
      unfold cnt
      rcases Nat.le_total ((en % 256 + b.length) / 256 + 1) (64 - en / 256) with h2 | h2
      · rw [Nat.min_eq_left h2]; omega
      · rw [Nat.min_eq_right h2]; omega
    rcases Nat.lt_or_ge j en with h1 | h1
    · rw [List.getElem?_append_left (by omega), List.getElem?_take_of_lt h1]
      by_cases h2 : 256 * (en / 256) ≤ j
      · rw [if_pos ⟨h2, hc⟩, List.getD, List.getElem?_append_left (by omega), List.getElem?_take_of_lt (by omega), flat_get h j (by omega)]
        have e1 : j / 256 = en / 256 := by omega
        have e2 : j % 256 = j - 256 * (en / 256) := by omega
        rw [e1, e2, List.getElem?_eq_getElem (by rw [h _ (by omega)]; omega)]
        rfl
      · rw [if_neg (by omega)]
    · rw [List.getElem?_append_right (by omega), lt, if_pos ⟨by omega, hc⟩, List.getD, List.getElem?_append_right (by omega), hV, show j - 256 * (en / 256) - en % 256 = j - en by omega, List.getElem?_eq_getElem (by omega)]
      rfl
  · rw [List.getElem?_eq_none (by rw [List.length_take]; omega), List.getElem?_eq_none (by rw [List.length_append, lt]; omega)]
theorem appV_end {V : Nat → List UInt8} {a en : Nat} {b : List UInt8} (h : ∀ i, i < 64 → (V (a + i)).length = 256) (hb : b ≠ []) (he : en + b.length < 16384) :
    (flat (appV V a en b) a 64)[en + b.length]? = some 0 := by
  have hb0 : 0 < b.length := List.length_pos_iff.2 hb
  have hV : ((V (a + en / 256)).take (en % 256)).length = en % 256 := by rw [List.length_take, h _ (by omega)]; omega
  have hc : en + b.length < 256 * (en / 256 + cnt (en / 256) (en % 256 + b.length)) := by
    unfold cnt
    rcases Nat.le_total ((en % 256 + b.length) / 256 + 1) (64 - en / 256) with h2 | h2
    · rw [Nat.min_eq_left h2]; omega
    · rw [Nat.min_eq_right h2]; omega
  rw [appV_get h hb (by omega) _ (by omega), if_pos ⟨by omega, hc⟩, List.getD, List.getElem?_eq_none (by rw [List.length_append, hV]; omega)]
  rfl
end Go.Proofs.YtekaboomhljdoaaGreatDoor.Pc
namespace Go.Proofs.YtekaboomhljdoaaGreatDoor.Pc
open Go.Proofs.YtekaboomhljdoaaGreatDoor.Fr Go.Proofs.YtekaboomhljdoaaGreatDoor.Lb Go.Proofs.YtekaboomhljdoaaGreatDoor.Cr

abbrev Rc := UInt8 × List UInt8
/-- a record's bytes -/
def recB (r : Rc) : List UInt8 := frL r.1 r.2
def allR (rs : List Rc) : List UInt8 := rs.flatMap recB
/-- where each begins -/
def offs : Nat → List Rc → List Int
  | _, [] => []
  | a, r :: rs => (a : Int) :: offs (a + (recB r).length) rs
def GoodR (r : Rc) : Prop := r.2.length ≤ 8192 ∧ 1 ≤ r.1.toNat ∧ r.1.toNat ≤ 4
theorem recB_len (r : Rc) : (recB r).length = 2 + (putL r.2.length).length + r.2.length + 4 := frL_len _ _
theorem recB_pos (r : Rc) : 7 ≤ (recB r).length := by
  have := putL_len r.2.length
  rw [recB_len]
  omega
theorem recB_ne (r : Rc) : recB r ≠ [] := fun h => by
  have := recB_pos r
  rw [h] at this
  simp at this
theorem allR_nil : allR [] = [] := rfl
theorem allR_cons (r : Rc) (rs : List Rc) : allR (r :: rs) = recB r ++ allR rs := by simp [allR]
theorem allR_app (rs qs : List Rc) : allR (rs ++ qs) = allR rs ++ allR qs := by simp [allR]
theorem allR_one (r : Rc) : allR [r] = recB r := by simp [allR]
theorem allR_many (rs : List Rc) : 7 * rs.length ≤ (allR rs).length := by
  induction rs with
  | nil => simp [allR]
  | cons r rs ih =>
    have := recB_pos r
    rw [allR_cons, List.length_append, List.length_cons]
    omega
theorem offs_len (rs : List Rc) : ∀ a, (offs a rs).length = rs.length := by
  induction rs with
  | nil => intro a; rfl
  | cons r rs ih => intro a; simp [offs, ih]
theorem offs_app (rs qs : List Rc) : ∀ a, offs a (rs ++ qs) = offs a rs ++ offs (a + (allR rs).length) qs := by
  induction rs with
  | nil => intro a; simp [offs, allR]
  | cons r rs ih =>
    intro a
    rw [List.cons_append, offs, ih, allR_cons, List.length_append, offs, List.cons_append, Nat.add_assoc]
theorem offs_get (rs : List Rc) : ∀ (a j : Nat), j < rs.length → (offs a rs)[j]? = some ((a + (allR (rs.take j)).length : Nat) : Int) := by
  induction rs with
  | nil => intro a j h; simp at h
  | cons r rs ih =>
    intro a j h
    cases j with
    | zero => simp [offs, allR]
    | succ j =>
      rw [offs, List.getElem?_cons_succ, ih _ j (by simpa using h), List.take_succ_cons, allR_cons, List.length_append, Nat.add_assoc]
theorem offs_low (rs : List Rc) : ∀ (a : Nat) (x : Int), x ∈ offs a rs → (a : Int) ≤ x := by
  induction rs with
  | nil => intro a x h; simp [offs] at h
  | cons r rs ih =>
    intro a x h
    rcases List.mem_cons.1 h with rfl | h
    · exact Int.le_refl _
    · have := ih _ x h
      omega
theorem offs_sorted (rs : List Rc) : ∀ a, (offs a rs).Pairwise (· < ·) := by
  induction rs with
  | nil => intro a; exact List.Pairwise.nil
  | cons r rs ih =>
    intro a
    refine List.pairwise_cons.2 ⟨fun x hx => ?_, ih _⟩
    have := offs_low rs _ x hx
    have := recB_pos r
    omega
theorem next_rec (r : Rc) (h : GoodR r) (m : List UInt8) : nextL (recB r ++ m) = (0, r.1, r.2, (recB r).length) := next_fr r.1 r.2 m h.1 h.2.1 h.2.2
theorem scan_pre (rs : List Rc) : ∀ (f a : Nat) (m : List UInt8), (∀ r ∈ rs, GoodR r) → rs.length ≤ f → scanF f a (allR rs ++ m) = (rs ++ (scanF (f - rs.length) (a + (allR rs).length) m).1, offs a rs ++ (scanF (f - rs.length) (a + (allR rs).length) m).2.1, (scanF (f - rs.length) (a + (allR rs).length) m).2.2) := by
  induction rs with
  | nil => intro f a m _ _; simp [allR, offs]
  | cons r rs ih =>
    intro f a m hg hf
    obtain ⟨f, rfl⟩ : ∃ g, f = g + 1 := ⟨f - 1, by simp at hf; omega⟩
    have e := next_rec r (hg r (by simp)) (allR rs ++ m)
    rw [allR_cons, List.append_assoc, scanF_next f a _ (by rw [e]), e]
    simp only [List.drop_left]
    rw [ih f (a + (recB r).length) m (fun x hx => hg x (by simp [hx])) (by simp at hf; omega)]
    simp [offs, Nat.add_assoc]
theorem scan_begins (rs : List Rc) (b : List UInt8) (hg : ∀ r ∈ rs, GoodR r) (hb : b.take (allR rs).length = allR rs) : ∃ qs, (scanL b).1 = rs ++ qs := by
  have e : b = allR rs ++ b.drop (allR rs).length := by
    conv => lhs; rw [← List.take_append_drop (allR rs).length b, hb]
  have hl : (allR rs).length ≤ b.length := by
    have := congrArg List.length hb
    rw [List.length_take] at this
    omega
  have hm := allR_many rs
  unfold scanL
  rw [e, scan_pre rs _ 0 _ hg (by rw [← e]; omega)]
  exact ⟨_, rfl⟩
theorem scan_just (rs : List Rc) (b : List UInt8) (hg : ∀ r ∈ rs, GoodR r) (hb : b.take (allR rs).length = allR rs) (h0 : (nextL (b.drop (allR rs).length)).1 ≠ 0) : scanL b = (rs, offs 0 rs, (allR rs).length) := by
  have e : b = allR rs ++ b.drop (allR rs).length := by
    conv => lhs; rw [← List.take_append_drop (allR rs).length b, hb]
  have hl : (allR rs).length ≤ b.length := by
    have := congrArg List.length hb
    rw [List.length_take] at this
    omega
  have hm := allR_many rs
  obtain ⟨m, hmm⟩ : ∃ m, m = b.drop (allR rs).length := ⟨_, rfl⟩
  rw [← hmm] at e h0
  unfold scanL
  rw [e, scan_pre rs _ 0 _ hg (by rw [← e]; omega), scanF_stop _ _ _ h0]
  simp
theorem next_nought (b : List UInt8) (h : b[0]? = some 0) : (nextL b).1 ≠ 0 := by
  unfold nextL
  split
  · assumption
  · rw [if_pos (by rw [List.getD, h]; decide)]
    simp
theorem next_empty : (nextL []).1 ≠ 0 := next_nil
theorem bnd_parts (b : List UInt8) (h : (bndL b).1 = 0) : ∃ x n, getL (b.drop 2) = (x, n, 0) ∧ bndL b = (0, 2 + n, 2 + n + x) ∧ 2 + n + x + 4 ≤ b.length ∧ x ≤ 8192 := by
  obtain ⟨x, n, e, hg⟩ : ∃ x n e, getL (b.drop 2) = (x, n, e) := ⟨_, _, _, rfl⟩
  unfold bndL at h ⊢
  rw [hg] at h ⊢
  simp only at h ⊢
  by_cases h1 : e = 20
  · rw [if_pos h1] at h; simp at h
  · rw [if_neg h1] at h ⊢
    by_cases h2 : e ≠ 0
    · rw [if_pos h2] at h; simp at h
    · rw [if_neg h2] at h ⊢
      have e0 : e = 0 := by omega
      subst e0
      by_cases h3 : b.length < 2 + n + x + 4
      · rw [if_pos h3] at h; simp at h
      · rw [if_neg h3] at h ⊢
        by_cases h4 : 8192 < x
        · rw [if_pos h4] at h; simp at h
        · rw [if_neg h4]
          exact ⟨x, n, rfl, rfl, by omega, by omega⟩
/-- what is read was written so -/
theorem next_again (b : List UInt8) (h : (nextL b).1 = 0) : b.take (nextL b).2.2.2 = recB ((nextL b).2.1, (nextL b).2.2.1) ∧ GoodR ((nextL b).2.1, (nextL b).2.2.1) ∧ (nextL b).2.2.2 = (recB ((nextL b).2.1, (nextL b).2.2.1)).length := by
  have hok := next_ok b h
  have hb0 : (bndL b).1 = 0 := by
    by_cases h1 : (bndL b).1 = 0
    · exact h1
    · rw [nextL, if_pos h1] at h; exact absurd h h1
  have h165 : b.getD 0 0 = 165 := by
    by_cases h1 : b.getD 0 0 = 165
    · exact h1
    · rw [nextL, if_neg (fun h' => h' hb0), if_pos h1] at h; simp at h
  have hk : 1 ≤ (b.getD 1 0).toNat ∧ (b.getD 1 0).toNat ≤ 4 := by
    by_cases h1 : 1 ≤ (b.getD 1 0).toNat ∧ (b.getD 1 0).toNat ≤ 4
    · exact h1
    · rw [nextL, if_neg (fun h' => h' hb0), if_neg (fun h' => h' h165), if_pos h1] at h; simp at h
  have hr : rightL (b.take ((bndL b).2.2 + 4)) = true := by
    cases h1 : rightL (b.take ((bndL b).2.2 + 4)) with
    | true => rfl
    | false => rw [nextL, if_neg (fun h' => h' hb0), if_neg (fun h' => h' h165), if_neg (fun h' => h' hk), if_pos h1] at h; simp at h
  have hn : nextL b = (0, b.getD 1 0, (b.drop (bndL b).2.1).take ((bndL b).2.2 - (bndL b).2.1), (bndL b).2.2 + 4) := by
    rw [nextL, if_neg (fun h' => h' hb0), if_neg (fun h' => h' h165), if_neg (fun h' => h' hk), if_neg (by rw [hr]; simp)]
  obtain ⟨x, n, hg, hbd, hl, hx⟩ := bnd_parts b hb0
  obtain ⟨g1, g2, g3, g4⟩ := getL_again _ x n hg
  rw [hbd] at hn hr
  simp only at hn hr
  rw [hn] at hok ⊢
  simp only at hok ⊢
  have key : b.take (2 + n + x + 4) = recB (b.getD 1 0, (b.drop (2 + n)).take (2 + n + x - (2 + n))) := by
    have hT : (b.take (2 + n + x + 4)).length = 2 + n + x + 4 := by rw [List.length_take]; omega
    have h5 := right_ref (b.take (2 + n + x + 4)) (by omega)
    rw [hr] at h5
    have h6 := (beq_iff_eq.1 h5.symm).symm
    rw [hT, show 2 + n + x + 4 - 4 = 2 + n + x by omega, List.take_take, Nat.min_eq_left (by omega)] at h6
    rw [h6]
    unfold recB frL
    congr 1
    obtain ⟨b0, b1, rest, rfl⟩ : ∃ b0 b1 rest, b = b0 :: b1 :: rest := by
      cases b with
      | nil => simp at hl
      | cons b0 r => cases r with
        | nil => simp at hl
        | cons b1 rest => exact ⟨b0, b1, rest, rfl⟩
    have e0 : b0 = 165 := by simpa using h165
    subst e0
    have hd : ((165 : UInt8) :: b1 :: rest).drop (2 + n) = rest.drop n := by rw [show 2 + n = n + 1 + 1 by omega, List.drop_succ_cons, List.drop_succ_cons]
    have hrl : n + x ≤ rest.length := by simp at hl; omega
    have g5 : putL x = rest.take n := by simpa using g4
    have hdl : ((rest.drop n).take x).length = x := by rw [List.length_take, List.length_drop]; omega
    rw [hd, show 2 + n + x - (2 + n) = x by omega, hdl, g5, show 2 + n + x = (n + x) + 1 + 1 by omega, List.take_succ_cons, List.take_succ_cons, List.take_add]
    rfl
  exact ⟨key, ⟨hok.2.2.1, hok.2.2.2⟩, by rw [← key, List.length_take]; omega⟩
/-- all that is read was written so -/
theorem scanF_again : ∀ (f a : Nat) (b : List UInt8), (scanF f a b).2.1 = offs a (scanF f a b).1 ∧ (scanF f a b).2.2 = a + (allR (scanF f a b).1).length ∧ b.take (allR (scanF f a b).1).length = allR (scanF f a b).1 ∧ ∀ r ∈ (scanF f a b).1, GoodR r
  | 0, a, b => by simp [scanF, offs, allR]
  | f + 1, a, b => by
    by_cases h : (nextL b).1 = 0
    · obtain ⟨k1, k2, k3⟩ := next_again b h
      obtain ⟨i1, i2, i3, i4⟩ := scanF_again f (a + (nextL b).2.2.2) (b.drop (nextL b).2.2.2)
      rw [scanF_next f a b h]
      generalize (scanF f (a + (nextL b).2.2.2) (b.drop (nextL b).2.2.2)) = T at *
      obtain ⟨T1, T2, T3⟩ := T
      simp only at i1 i2 i3 i4 ⊢
      refine ⟨?_, ?_, ?_, ?_⟩
      · rw [offs, ← k3, i1]
      · rw [allR_cons, List.length_append, ← k3, i2, Nat.add_assoc]
      · rw [allR_cons, List.length_append, ← k3, List.take_add, k1, i3]
      · intro r hr
        rcases List.mem_cons.1 hr with rfl | hr
        · exact k2
        · exact i4 r hr
    · rw [scanF_stop _ _ _ h]
      simp [offs, allR]
theorem scan_again (b : List UInt8) : (scanL b).2.1 = offs 0 (scanL b).1 ∧ (scanL b).2.2 = (allR (scanL b).1).length ∧ b.take (allR (scanL b).1).length = allR (scanL b).1 ∧ ∀ r ∈ (scanL b).1, GoodR r := by
  have := scanF_again (b.length + 1) 0 b
  rw [Nat.zero_add] at this
  exact this
/-- a record is read out of the sectors that it touches -/
theorem read_rec {V : Nat → List UInt8} {a : Nat} {rs : List Rc} (hV : ∀ i, i < 64 → (V (a + i)).length = 256) (hh : (flat V a 64).take (allR rs).length = allR rs) (hf : (allR rs).length ≤ 16384) (j : Nat) (r : Rc) (hr : rs[j]? = some r) (hg : GoodR r) (o : Nat) (ho : o = (allR (rs.take j)).length) :
    o + (recB r).length ≤ (allR rs).length ∧ o / 256 + (o % 256 + (recB r).length + 255) / 256 ≤ 64 ∧ nextL ((flat V (a + o / 256) ((o % 256 + (recB r).length + 255) / 256)).drop (o % 256)) = (0, r.1, r.2, (recB r).length) := by
  have hj : j < rs.length := (List.getElem?_eq_some_iff.1 hr).1
  have e0 : rs = rs.take j ++ r :: rs.drop (j + 1) := by
    have : rs.drop j = r :: rs.drop (j + 1) := by rw [List.drop_eq_getElem_cons hj, (List.getElem?_eq_some_iff.1 hr).2]
    rw [← this, List.take_append_drop]
  have e1 : allR rs = allR (rs.take j) ++ (recB r ++ allR (rs.drop (j + 1))) := by
    conv => lhs; rw [e0]
    rw [allR_app, allR_cons]
  have l1 := congrArg List.length e1
  rw [List.length_append, List.length_append, ← ho] at l1
  have hp := recB_pos r
  have hF : (flat V a 64).length = 256 * 64 := flat_len hV
  refine ⟨by omega, by omega, ?_⟩
  rw [flat_part (o / 256) _ 64 hV (by omega), List.drop_take, List.drop_drop, show 256 * (o / 256) + o % 256 = o by omega]
  have e2 : (flat V a 64).drop o = recB r ++ (flat V a 64).drop (o + (recB r).length) := by
    have h1 : ((flat V a 64).drop o).take (recB r).length = recB r := by
      have h2 : (((flat V a 64).take (allR rs).length).drop o).take (recB r).length = ((allR rs).drop o).take (recB r).length := by rw [hh]
      rw [List.drop_take, List.take_take, Nat.min_eq_left (by omega)] at h2
      rw [h2, e1, ho, List.drop_left, List.take_left]
    conv => lhs; rw [← List.take_append_drop (recB r).length ((flat V a 64).drop o)]
    rw [h1, List.drop_drop]
  rw [e2, List.take_append, List.take_of_length_le (by omega)]
  exact next_rec r hg _
end Go.Proofs.YtekaboomhljdoaaGreatDoor.Pc
namespace Go.Proofs.YtekaboomhljdoaaGreatDoor.Sh
open Go.Proofs.YtekaboomhljdoaaGreatDoor.Pc Go.RowKit Go.Lib
open Go.Proofs.YtekaboomhljdoaaGreatDoor.Dk hiding Blk made_any size_any below_chain

/-- a pack's cells -/
def pkC (g : Nat) (a : Int) (vr vp : Value) (en : Int) (sh : Bool) : List Value := [.pointer (some ⟨g, 0, none⟩), .int .i64 a, vr, vp, .int .i64 en, .bool sh]
def Pkb (w : World) (p g : Nat) (a : Int) (vr vp : Value) (en : Int) (sh : Bool) : Prop := Blk w p (pkC g a vr vp en sh) 59
section
variable {w : World} {p g : Nat} {a en : Int} {vr vp : Value} {sh : Bool}
theorem Pkb.cells (h : Pkb w p g a vr vp en sh) : w.cell? ⟨p, 0, none⟩ = some (.pointer (some ⟨g, 0, none⟩)) ∧ w.cell? ⟨p, 1, none⟩ = some (.int .i64 a) ∧ w.cell? ⟨p, 2, none⟩ = some vr ∧ w.cell? ⟨p, 3, none⟩ = some vp ∧ w.cell? ⟨p, 4, none⟩ = some (.int .i64 en) ∧ w.cell? ⟨p, 5, none⟩ = some (.bool sh) :=
  ⟨Sh.Blk.cell h 0, Sh.Blk.cell h 1, Sh.Blk.cell h 2, Sh.Blk.cell h 3, Sh.Blk.cell h 4, Sh.Blk.cell h 5⟩
set_option maxRecDepth 100000 in
theorem pmade_nil (w : World) : Calls Tryz.prog 33 #[.pointer none] w fun e w' => e = .returned (.bool false) ∧ w' = w := by
  go_enter Tryz.func33, Tryz.ntmps33
  go_wp2_with fail
  go_ret
  exact ⟨rfl, rfl⟩
set_option maxRecDepth 100000 in
theorem pmade_zero (c : w.cell? ⟨p, 0, none⟩ = some (.pointer none)) : Calls Tryz.prog 33 #[.pointer (some ⟨p, 0, none⟩)] w fun e w' => e = .returned (.bool false) ∧ w' = w := by
  go_enter Tryz.func33, Tryz.ntmps33
  go_wp2_with fail
  go_ret
  exact ⟨rfl, rfl⟩
set_option maxRecDepth 100000 in
theorem pmade_any (h : Pkb w p g a vr vp en sh) : Calls Tryz.prog 33 #[.pointer (some ⟨p, 0, none⟩)] w fun e w' => e = .returned (.bool true) ∧ w' = w := by
  obtain ⟨c0, _⟩ := h.cells
  go_enter Tryz.func33, Tryz.ntmps33
  go_wp2_with fail
  go_ret
  exact ⟨rfl, rfl⟩
set_option maxRecDepth 100000 in
theorem room_nil (w : World) : Calls Tryz.prog 20 #[.pointer none] w fun e w' => e = .returned (.int .i64 0) ∧ w' = w := by
  go_enter Tryz.func20, Tryz.ntmps20
  go_wp2_with fail
  refine (pmade_nil w).mono ?_
  rintro e w1 ⟨rfl, rfl⟩
  go_wp2_with fail
  go_ret
  exact ⟨rfl, rfl⟩
set_option maxRecDepth 100000 in
theorem room_zero (c : w.cell? ⟨p, 0, none⟩ = some (.pointer none)) : Calls Tryz.prog 20 #[.pointer (some ⟨p, 0, none⟩)] w fun e w' => e = .returned (.int .i64 0) ∧ w' = w := by
  have HM := Lib.hid (pmade_zero c)
  go_enter Tryz.func20, Tryz.ntmps20
  go_wp2_with fail
  refine HM.out.mono ?_
  rintro e w1 ⟨rfl, rfl⟩
  go_wp2_with fail
  go_ret
  exact ⟨rfl, rfl⟩
/-- how much room there is -/
def roomN (en : Int) (sh : Bool) : Int := if sh then 0 else 16384 - en
set_option maxRecDepth 100000 in
theorem room_any (h : Pkb w p g a vr vp en sh) (h0 : 0 ≤ en) (h1 : en ≤ 16384) : Calls Tryz.prog 20 #[.pointer (some ⟨p, 0, none⟩)] w fun e w' => e = .returned (.int .i64 (roomN en sh)) ∧ w' = w := by
  have HM := Lib.hid (pmade_any h)
  obtain ⟨_, _, _, _, c4, c5⟩ := h.cells
  cases sh with
  | true =>
    go_enter Tryz.func20, Tryz.ntmps20
    go_wp2_with fail
    refine HM.out.mono ?_
    rintro e w1 ⟨rfl, rfl⟩
    go_wp2_with fail
    go_ret
    exact ⟨rfl, rfl⟩
  | false =>
    go_enter Tryz.func20, Tryz.ntmps20
    go_wp2_with fail
    refine HM.out.mono ?_
    rintro e w1 ⟨rfl, rfl⟩
    go_wp2_with fail
    go_ret
    exact ⟨rfl, rfl⟩
set_option maxRecDepth 100000 in
theorem touched_any (n : Nat) (hn : n ≤ 1000000) (w : World) : Calls Tryz.prog 46 #[.int .i64 (n : Int)] w fun e w' => e = .returned (.int .i64 (((n + 255) / 256 : Nat) : Int)) ∧ w' = w := by
  have e1 : ((n : Int) + 256 - 1).tdiv 256 = (((n + 255) / 256 : Nat) : Int) := by
    rw [Int.tdiv_eq_ediv_of_nonneg (by omega)]
    omega
  have e2 : (((n + 255) / 256 : Nat) : Int) = ((n : Int) + 255) / 256 := by omega
  have i1 : (n : Int) ≤ 1000000 := by omega
  have i0 : (0 : Int) ≤ (n : Int) := by omega
  go_enter Tryz.func46, Tryz.ntmps46
  go_wp2_with fail
  go_ret
  exact ⟨by rw [e2]; rfl, rfl⟩
set_option maxRecDepth 100000 in
theorem within_nil (a : Int) (h0 : -9223372036854775808 ≤ a) (h1 : a ≤ 9223372036854775807) (w : World) : Calls Tryz.prog 30 #[.pointer none, .int .i64 a] w fun e w' => e = .returned (.bool false) ∧ w' = w := by
  have HM := Lib.hid (size_nil w)
  by_cases ha : 0 ≤ a
  · have t1 : decide (0 ≤ a) = true := by simpa using ha
    have t2 : decide (a ≤ (-64 : Int)) = false := by simp; omega
    clear ha
    go_enter Tryz.func30, Tryz.ntmps30
    go_wp2_with fail
    refine HM.out.mono ?_
    rintro e w1 ⟨rfl, rfl⟩
    go_wp2_with fail
    go_ret
    exact ⟨rfl, rfl⟩
  · have t1 : decide (0 ≤ a) = false := by simpa using ha
    clear ha
    go_enter Tryz.func30, Tryz.ntmps30
    go_wp2_with fail
    refine HM.out.mono ?_
    rintro e w1 ⟨rfl, rfl⟩
    go_wp2_with fail
    go_ret
    exact ⟨rfl, rfl⟩
variable {n c : Nat} {so : Option Addr} {low left wr : Int} {mo : Option Nat} {pw : Bool}
def withinB (n : Nat) (a : Int) : Bool := decide (0 ≤ a) && decide (a ≤ (n : Int) - 64)
set_option maxRecDepth 100000 in
theorem within_any (h : Dv w g so n c low mo pw left wr) (hn : n ≠ 0) (hn2 : n ≤ 4096) (a : Int) : Calls Tryz.prog 30 #[.pointer (some ⟨g, 0, none⟩), .int .i64 a] w fun e w' => e = .returned (.bool (withinB n a)) ∧ ∃ q, w' = w.drewN q := by
  have HM := Lib.hid (Dk.size_any h hn)
  have i1 : (n : Int) ≤ 4096 := by omega
  have i0 : (0 : Int) ≤ (n : Int) := by omega
  clear h hn hn2
  by_cases ha : 0 ≤ a
  · have t1 : decide (0 ≤ a) = true := by simpa using ha
    have e1 : withinB n a = decide (a ≤ (n : Int) - 64) := by rw [withinB, t1, Bool.true_and]
    rw [e1]
    obtain ⟨B, hB⟩ : ∃ B, decide (a ≤ (n : Int) - 64) = B := ⟨_, rfl⟩
    rw [hB]
    clear ha e1
    go_enter Tryz.func30, Tryz.ntmps30
    go_wp2_with fail
    refine HM.out.mono ?_
    rintro e w1 ⟨rfl, q, rfl⟩
    go_wp2_with fail
    go_ret
    exact ⟨rfl, q, rfl⟩
  · have t1 : decide (0 ≤ a) = false := by simpa using ha
    have e1 : withinB n a = false := by rw [withinB, t1, Bool.false_and]
    rw [e1]
    clear ha e1
    go_enter Tryz.func30, Tryz.ntmps30
    go_wp2_with fail
    refine HM.out.mono ?_
    rintro e w1 ⟨rfl, q, rfl⟩
    go_wp2_with fail
    go_ret
    exact ⟨rfl, q, rfl⟩
end
end Go.Proofs.YtekaboomhljdoaaGreatDoor.Sh
namespace Go.Proofs.YtekaboomhljdoaaGreatDoor.Sh
open Go.Proofs.YtekaboomhljdoaaGreatDoor.Pc Go.RowKit Go.Lib
open Go.Maps (atKey_of_not_has)
open Go.Proofs.YtekaboomhljdoaaGreatDoor.Dk hiding Blk made_any size_any below_chain

/-- a device whose sectors are known: V: what Read answers; S: what is in them without the cache; m: at most so many writes there were -/
structure Dev (w : World) (g sa mb : Nat) (low : Int) (N : Nat) (V : Nat → List UInt8) (S : List (List UInt8)) (pw : Bool) (m : Nat) : Prop where
  dev : ∃ (k : Nat) (D : DataW Unit) (wr : Int), DevS w g sa mb S low k D pw (-1) wr ∧ k ≤ m ∧ 0 ≤ wr ∧ wr ≤ m ∧ InD D N ∧ ∀ i, i < N → secAt D S i = some (V i)
  len : S.length = N
  n1 : 1 ≤ N
  n2 : N ≤ 4096
  vl : ∀ i, i < N → (V i).length = 256
section
variable {w : World} {g sa mb : Nat} {low : Int} {N : Nat} {V : Nat → List UInt8} {S : List (List UInt8)} {pw : Bool} {m : Nat}
theorem Dev.fr (h : Dev w g sa mb low N V S pw m) {w' : World} {L : List Nat} (hf : Fr w w' L) (h1 : g ∉ L) (h2 : sa ∉ L) (h3 : mb ∉ L) : Dev w' g sa mb low N V S pw m := by
  obtain ⟨k, D, wr, d, r⟩ := h.dev
  exact ⟨⟨k, D, wr, d.kept hf h1 h2 h3, r⟩, h.len, h.n1, h.n2, h.vl⟩
theorem Dev.mono (h : Dev w g sa mb low N V S pw m) {m2 : Nat} (hm : m ≤ m2) : Dev w g sa mb low N V S pw m2 := by
  obtain ⟨k, D, wr, d, k1, k2, k3, r⟩ := h.dev
  exact ⟨⟨k, D, wr, d, by omega, k2, by omega, r⟩, h.len, h.n1, h.n2, h.vl⟩
theorem Dev.later (h : Dev w g sa mb low N V S pw m) {w' : World} (hb : Below w.heap.size w w') : Dev w' g sa mb low N V S pw m := h.fr (fr_below hb []) (by simp) (by simp) (by simp)
theorem Dev.dv (h : Dev w g sa mb low N V S pw m) : ∃ wr, Dv w g (some ⟨sa, 0, none⟩) N N low (some mb) pw (-1) wr := by
  obtain ⟨k, D, wr, d, r⟩ := h.dev
  have := d.dv
  rw [h.len] at this
  exact ⟨wr, this⟩
theorem Dev.lt (h : Dev w g sa mb low N V S pw m) : g < w.heap.size ∧ sa < w.heap.size ∧ mb < w.heap.size := by
  obtain ⟨k, D, wr, d, r⟩ := h.dev
  refine ⟨Dk.Blk.lt d.dv, d.sec.lt, ?_⟩
  obtain ⟨es, cl, hb, F⟩ := d.map
  exact (Array.getElem?_eq_some_iff.1 hb).1
theorem found_off (h1 : 1 ≤ N) (i : Int) : foundE N false i = 91 := by
  unfold foundE awakeE
  rw [if_neg (show ¬ N = 0 by omega)]
  rfl
theorem found_on (h1 : 1 ≤ N) (i : Nat) (hi : i < N) : foundE N true (i : Int) = 0 := by
  unfold foundE awakeE
  rw [if_neg (show ¬ N = 0 by omega)]
  simp
  omega
theorem read_off (h : Dev w g sa mb low N V S false m) (i : Int) : Calls Tryz.prog 32 #[.pointer (some ⟨g, 0, none⟩), .int .i64 i] w fun e w' => e = .returned (.tuple #[.slice none 0 0, .int .i64 91]) ∧ w' = w := by
  obtain ⟨k, D, wr, d, r⟩ := h.dev
  exact read_no d i 91 (by rw [h.len]; exact found_off h.n1 i) (by decide)
theorem read_dev (h : Dev w g sa mb low N V S true m) (i : Nat) (hi : i < N) : Calls Tryz.prog 32 #[.pointer (some ⟨g, 0, none⟩), .int .i64 (i : Int)] w (GetsSec w (V i)) := by
  obtain ⟨k, D, wr, d, k1, k2, k3, hI, hV⟩ := h.dev
  have hn : S.length ≤ 4096 := by rw [h.len]; exact h.n2
  have hf : foundE S.length true (i : Int) = 0 := by rw [h.len]; exact found_on h.n1 i hi
  have hil : i < S.length := by rw [h.len]; exact hi
  have hv := hV i hi
  unfold secAt at hv
  cases hh : Maps.has D (.int .i64 (i : Int)) with
  | true =>
    obtain ⟨_, _, l, hl, ha⟩ := hI.2 (i : Int) hh
    rw [if_pos hh, ha] at hv
    injection hv with hv
    rw [← hv]
    exact read_has d i hn hf hil l hl hh (ha _)
  | false =>
    rw [if_neg (by rw [hh]; decide)] at hv
    exact read_raw d i hn hf hil _ hv hh (atKey_of_not_has hh _)
theorem dblk_byt {l : List UInt8} {b : Nat} {t : TypeId} (h : Dk.Blk w b (bs l) t) : Byt w (some ⟨b, 0, none⟩) l := Sh.Blk.byt (t := t) h
theorem own_later {w w' : World} {B : Nat} {v : Value} {l : List UInt8} (h : Own w B v l) (hb : Below w.heap.size w w') : Own w' B v l := by
  obtain ⟨h1, h2 | ⟨g, cap, cur, e, hB, hg, rest⟩⟩ := h
  · exact ⟨h1, Or.inl h2⟩
  · exact ⟨h1, Or.inr ⟨g, cap, cur, e, hB, (hb.block g (Array.getElem?_eq_some_iff.1 hg).1).trans hg, rest⟩⟩
/-- what gathers sectors answers -/
def Got (w : World) (l : List UInt8) (e : Ending) (w' : World) : Prop := Below w.heap.size w w' ∧ ∃ v, e = .returned (.tuple #[v, .int .i64 0]) ∧ Own w' w.heap.size v l
set_option maxHeartbeats 4000000 in
set_option maxRecDepth 100000 in
theorem gather_dev (h : Dev w g sa mb low N V S true m) (a n : Nat) (han : a + n ≤ N) :
    Calls Tryz.prog 40 #[.func (.func 32) #[.pointer (some ⟨g, 0, none⟩)] #[], .int .i64 (a : Int), .int .i64 (n : Int)] w (Got w (flat V a n)) := by
  have HD := Lib.hid h
  have n2 := h.n2
  have VL : Hid (∀ i, i < n → (V (a + i)).length = 256) := fun i hi => h.vl _ (by omega)
  obtain ⟨i0, hi, hz0, hz1, hz2⟩ := info_parts info5
  have hmk : ∀ W : World, (Instr.makeSlice 24 (.int .i64 0) (.int .i64 ((n : Int) * 256))).run Tryz.prog W = _ := fun W => run_make W 24 5 i0 (.int .u8 0) Tryz.underlying24 hi hz0 .i64 .i64 0 ((n : Int) * 256) (Int.le_refl _) (by omega) (by rw [hz2]; omega) (by omega)
  have e1 : ((n : Int) * 256).toNat = n * 256 := by omega
  rw [e1, hz1, Int.toNat_zero, Nat.mul_one] at hmk
  have own0 := World.ownsRow_made (e := 5) (size := 1) (base := w.heap.size) w (madeCells (Value.int .u8 0).cells (n * 256)) (n * 256) (Nat.le_refl _) (by unfold maxLen; omega) (by rw [size_madeCells, Nat.mul_one])
  generalize madeCells (Value.int .u8 0).cells (n * 256) = Z at *
  have O0 : Hid (Own (w.alloc (.cells Z 5)) w.heap.size (.slice (some ⟨w.heap.size, 0, none⟩) 0 (n * 256)) []) := own0
  clear h own0 hi hz0 hz1 hz2 e1
  go_enter Tryz.func40, Tryz.ntmps40
  go_wp2_with fail
  go_loopw [8, 16] (fun v vi wr => ∃ i : Nat, i ≤ n ∧ vi = .int .i64 i ∧ Hid (Own wr w.heap.size v (flat V a i)) ∧ Hid (Below w.heap.size w wr)) (fun _ vi _ => n - (RowKit.intOf vi).toNat)
  case atStart => exact ⟨0, by omega, rfl, O0.out, (Below.refl _ w).alloc (Nat.le_refl _) _⟩
  case round =>
    obtain ⟨i, hi, rfl, hown, hb⟩ := hrel
    by_cases hin : i < n
    · have CR := Lib.hid (read_dev (HD.out.later hb.out) (a + i) (by omega))
      have ea : (((a + i : Nat) : Int)) = (a : Int) + (i : Int) := by omega
      rw [ea] at CR
      have hl := VL.out i hin
      have FS := Lib.hid (flat_succ V a i)
      have fl := flat_len (V := V) (a := a) (n := i) (fun j hj => VL.out j (by omega))
      have FL := Lib.hid fl
      generalize V (a + i) = s at *
      obtain ⟨acc, hacc⟩ : ∃ acc, acc = flat V a i := ⟨_, rfl⟩
      have HA := Lib.hid hacc
      rw [← hacc] at hown FS FL
      clear ea fl hacc
      go_wp2_with fail
      refine CR.out.mono ?_
      rintro e w1 ⟨b1, b, rfl, hbn, hblk⟩
      have O1 := Lib.hid (own_later hown.out b1)
      have R1 := Lib.hid (dblk_byt hblk)
      have B1 := Lib.hid (Below.trans hb.out (b1.mono hb.out.size))
      have P1 := Lib.hid B1.out.size
      have LE : Hid (acc.length + 256 ≤ 140737488355328) := by have := FL.out; show _ ≤ _; omega
      have LS : Hid (s.length = 256) := hl
      clear CR b1 hbn hblk hown hb hl
      go_wp2_with (at_builtin; refine wpl_app_len (t := 24) (e := 5) rfl (.tmp 30) (.tmp 31) rfl Tryz.underlying24 info5 w.heap.size _ acc s rfl O1.out (some ⟨b, 0, none⟩) 256 256 (by rfl) R1.out (fun h => by cases h) LS LE.out P1.out ?_; intro v2 w2 O2 g2)
      have B2 := Below.grown B1.out g2 P1.out (fun k hk => (World.ownsRow.lt O1.out k hk).1)
      go_roundw
      case rel => exact ⟨i + 1, by omega, by go_num, by rw [FS.out]; exact O2, B2⟩
      case measure => simp [RowKit.intOf]; omega
    · obtain rfl : i = n := by omega
      go_wp2_with fail
      go_ret2
      exact ⟨hb.out, _, rfl, hown.out⟩
end
end Go.Proofs.YtekaboomhljdoaaGreatDoor.Sh
namespace Go.Proofs.YtekaboomhljdoaaGreatDoor.Sh
open Go.Proofs.YtekaboomhljdoaaGreatDoor.Pc Go.RowKit Go.Lib
open Go.Maps (atKey_of_not_has atKey_put_same atKey_put_other has_put_same has_put_other)
open Go.Proofs.YtekaboomhljdoaaGreatDoor.Dk hiding Blk made_any size_any below_chain

def setV (V : Nat → List UInt8) (i : Nat) (l : List UInt8) : Nat → List UInt8 := fun j => if j = i then l else V j
section
variable {w : World} {g sa mb : Nat} {low : Int} {N : Nat} {V : Nat → List UInt8} {S : List (List UInt8)} {pw : Bool} {m : Nat}
theorem write_dev (h : Dev w g sa mb low N V S true m) (i : Nat) (hi : i < N) (hl : low ≤ (i : Int)) (hm : m < 1000000) (bb c : Nat) (l : List UInt8) (hb : Byt w (some ⟨bb, 0, none⟩) l) (hlen : l.length = 256) (hbg : bb ≠ g) (hbm : bb ≠ mb) :
    Calls Tryz.prog 61 #[.pointer (some ⟨g, 0, none⟩), .int .i64 (i : Int), .slice (some ⟨bb, 0, none⟩) 256 c] w fun e w' => e = .returned (.int .i64 0) ∧ Fr w w' [g, mb] ∧ Dev w' g sa mb low N (setV V i l) S true (m + 1) := by
  obtain ⟨k, D, wr, d, k1, k2, k3, hI, hV⟩ := h.dev
  have hn : S.length ≤ 4096 := by rw [h.len]; exact h.n2
  have hf : foundE S.length true (i : Int) = 0 := by rw [h.len]; exact found_on h.n1 i hi
  have hil : i < S.length := by rw [h.len]; exact hi
  refine (write_ok d i bb 0 c l hf hil hn (by omega) hb hlen (by omega) (by decide) (by decide) (by decide) k2 (by omega) hbg hbm).mono ?_
  rintro e w' ⟨rfl, hF, hD⟩
  rw [if_neg (by decide)] at hD
  have hk : WideAt.IsKeyLit (.int .i64 (i : Int)) := by trivial
  refine ⟨rfl, hF, ⟨⟨k + 1, _, wr + 1, hD, by omega, by omega, by omega, hI.put i hi l hlen, fun j hj => ?_⟩, h.len, h.n1, h.n2, fun j hj => ?_⟩⟩
  · by_cases e : j = i
    · subst e
      rw [secAt, if_pos (has_put_same hI.1 hk _), atKey_put_same hI.1 hk, setV, if_pos rfl]
    · have hne : (j : Int) ≠ (i : Int) := by omega
      have := hV j hj
      rw [secAt] at this
      rw [secAt, has_put_other (int_ne hne), atKey_put_other (int_ne hne), setV, if_neg e]
      exact this
  · unfold setV
    split
    · exact hlen
    · exact h.vl j hj
theorem write_off (h : Dev w g sa mb low N V S false m) (i : Int) (ao : Option Addr) (n c : Nat) :
    Calls Tryz.prog 61 #[.pointer (some ⟨g, 0, none⟩), .int .i64 i, .slice ao n c] w fun e w' => e = .returned (.int .i64 91) ∧ w' = w := by
  obtain ⟨k, D, wr, d, r⟩ := h.dev
  exact write_no d i ao n c 91 (by rw [h.len]; exact found_off h.n1 i) (by decide)
/-- append to bytes that have no room left: new memory -/
theorem wpl_grow {ops : Array Oper} {rest : List Oper} {o : Oper} {a : Act} {Q : Exit → Act → World → Prop} (hgd : o.guard = none) (s x : Operand)
    (ho : o.op = .call { callee := .builtin .append, args := #[s, x], argTypes := #[24, 24] })
    (b q : Nat) (p : List UInt8) (hq : p.length = q) (hs : a.eval s = .slice (some ⟨b, 0, none⟩) q q) (hp : Byt w (some ⟨b, 0, none⟩) p)
    (ad : Option Addr) (m c : Nat) (l : List UInt8) (hx : a.eval x = .slice ad m c) (hr : Byt w ad l) (hm : l.length = m) (hm0 : 0 < m) (h47 : q + m ≤ 140737488355328) (lb : Nat) (hlb : q + m = lb)
    (h : ∀ c2 w', lb ≤ c2 → c2 ≤ 9223372036854775807 → Hid (Byt w' (some ⟨w.heap.size, 0, none⟩) (p ++ l)) → Hid (Below w.heap.size w w') → wpList Tryz.prog ops Q rest (a.put o.dst (.slice (some ⟨w.heap.size, 0, none⟩) lb c2)) w') : wpList Tryz.prog ops Q (o :: rest) a w := by
  obtain ⟨i, hi, hz0, hz1, hz2⟩ := info_parts info5
  obtain ⟨b2, o2, rfl, hb2, hc2⟩ := hr (by intro h0; rw [h0] at hm; simp at hm; omega)
  have holds : ∀ j v, (bs p)[j]? = some v → w.cell? ((⟨b, 0, none⟩ : Addr).add j) = some v := fun j v hj => by
    have hjl : j < p.length := by rw [← bs_len]; exact (List.getElem?_eq_some_iff.1 hj).1
    obtain ⟨b3, o3, e3, hb3, hc3⟩ := hp (by intro h0; rw [h0] at hjl; simp at hjl)
    cases e3
    rw [WideShapes.add_plain, hc3 j hjl]
    rw [bs_get p j hjl] at hj
    exact hj
  have hnews : ∀ j v, (bs l)[j]? = some v → w.cell? ((⟨b2, o2, none⟩ : Addr).add j) = some v := fun j v hj => by
    have hjl : j < l.length := by rw [← bs_len]; exact (List.getElem?_eq_some_iff.1 hj).1
    rw [WideShapes.add_plain, hc2 j hjl]
    rw [bs_get l j hjl] at hj
    exact hj
  have hr := run_append_grow (P := Tryz.prog) w 24 o.type 5 i (.int .u8 0) Tryz.underlying24 hi hz0 ⟨b, 0, none⟩ q q (bs p) (by rw [bs_len, hz1, hq, Nat.mul_one]) holds ⟨b2, o2, none⟩ m c (bs l) (by rw [bs_len, hz1, hm, Nat.mul_one]) hnews (by omega) (by omega) (growslice_fits (by omega) (by rw [hz2]; omega))
  refine wpList_plain hgd fun K hK => ?_
  unfold Oper.wp
  simp only [execOp, ho, resolve, invoke, builtin, Sem.run_bind, Sem.run_pure, Result.andThen_ok, List.map_toArray, List.map_cons, List.map_nil, hs, hx, hr]
  have hge := grownCap_ge w (q + m) q 5
  have hcm : grownCap w (q + m) q 5 ≤ maxLen := grownCap_le_maxLen w (q + m) q 5 (by unfold maxLen; omega)
  subst hlb
  refine hK _ _ (h _ _ hge (by unfold maxLen at hcm; omega) (fun _ => ⟨w.heap.size, 0, rfl, by simp, fun j hj => ?_⟩) ⟨rfl, rfl, rfl, by simp, fun k hk => Below.heap_alloc w.drew _ k hk⟩)
  have e : bs p ++ bs l = bs (p ++ l) := by simp [bs]
  have hbl : (w.drew.alloc (.cells ((bs p).toArray ++ (bs l).toArray ++ Builtin.zeroCells (Value.int .u8 0).cells (grownCap w (q + m) q 5 - (q + m))) 5)).heap[w.heap.size]? = some (.cells ((bs p).toArray ++ (bs l).toArray ++ Builtin.zeroCells (Value.int .u8 0).cells (grownCap w (q + m) q 5 - (q + m))) 5 (0, 0)) := heap_alloc_new w.drew _
  rw [cell_of_row _ _ _ _ _ _ hbl, Nat.zero_add, ← Array.getElem?_toList]
  simp only [Array.toList_append]
  rw [e, List.getElem?_append_left (by rw [bs_len]; exact hj), bs_get _ j hj]
end
end Go.Proofs.YtekaboomhljdoaaGreatDoor.Sh
namespace Go.Proofs.YtekaboomhljdoaaGreatDoor.Sh
open Go.Proofs.YtekaboomhljdoaaGreatDoor.Pc Go.RowKit Go.Lib
open Go.Proofs.YtekaboomhljdoaaGreatDoor.Dk hiding Blk made_any size_any below_chain

set_option maxRecDepth 100000 in
theorem slice_cut (b q : Nat) (hq : q ≤ 256) (W : World) : (Instr.slice 24 (.slice (some ⟨b, 0, none⟩) 256 256) none (some (.int .i64 (q : Int))) (some (.int .i64 (q : Int)))).run Tryz.prog W = .ok (.slice (some ⟨b, 0, none⟩) q q) W := by
  have hs := run_slice_hm (P := Tryz.prog) W 24 (some ⟨b, 0, none⟩) 256 256 (by rw [Tryz.underlying24]; rfl) .i64 .i64 (q : Int) (q : Int) (by omega) (by omega) (by omega)
  have e3 : Tryz.prog.elem 24 = 5 := by kernel_rfl
  rw [hs, e3]
  by_cases h0 : q = 0
  · subst h0
    simp [Tryz.sizeOf5, sliced, Result.andThen]
  · simp [Tryz.sizeOf5, sliced, Result.andThen, Addr.add]
section
variable {w : World} {g sa mb p : Nat} {low : Int} {N a en K : Nat} {V : Nat → List UInt8} {S : List (List UInt8)} {pw sh : Bool} {m : Nat} {vr vp : Value}
theorem noughts (k : Nat) : (madeCells (Value.int .u8 0).cells k).toList = bs (List.replicate k 0) := by
  have := made_noughts k
  rw [Nat.mul_one] at this
  rw [this, bs_rep]
theorem secO_splice (b : List UInt8) (i : Nat) : splice (bs (List.replicate 256 0)) 0 (bs ((b.drop (256 * i)).take 256)) = bs (secO b i) := by
  have hl : ((b.drop (256 * i)).take 256).length ≤ 256 := by rw [List.length_take]; omega
  have h2 := img_splice ((b.drop (256 * i)).take 256) 256
  rw [h2]
  rfl
theorem byt_fr {w w' : World} {b o : Nat} {l : List UInt8} {L : List Nat} (h : Byt w (some ⟨b, o, none⟩) l) (hf : Fr w w' L) (hb : b ∉ L) : Byt w' (some ⟨b, o, none⟩) l := fun hl => by
  obtain ⟨b2, o2, h1, h2, h3⟩ := h hl
  cases h1
  exact ⟨b, o, rfl, Nat.lt_of_lt_of_le h2 hf.size, fun j hj => (hf.cell (a := ⟨b, o + j, none⟩) h2 hb).trans (h3 j hj)⟩
theorem Pkb.fr {w w' : World} {p g : Nat} {a en : Int} {vr vp : Value} {sh : Bool} {L : List Nat} (h : Pkb w p g a vr vp en sh) (hf : Fr w w' L) (hp : p ∉ L) : Pkb w' p g a vr vp en sh := (hf.block p (Sh.Blk.lt h) hp).trans h
theorem info5s : (Tryz.prog.info? 5).map (·.size) = some 1 := by kernel_rfl
theorem setV_wrV (V : Nat → List UInt8) (q : Nat) (b : List UInt8) (i : Nat) : setV (wrV V q b i) (q + i) (secO b i) = wrV V q b (i + 1) := by
  funext j
  rw [wrV_succ, setV]
theorem write_next {V : Nat → List UInt8} {b : List UInt8} {f i : Nat} (hD : Dev w g sa mb low N (wrV V (a + f) b i) S true (m + i)) (h : a + f + i < N) (hl : low ≤ (a : Int)) (hm : m + i < 1000000) (G : Nat) (hG : Sh.Blk w G (bs (secO b i)) 5) (hg : G ≠ g) (hmb : G ≠ mb) :
    ∀ W, Below w.heap.size w W → Calls Tryz.prog 61 #[.pointer (some ⟨g, 0, none⟩), .int .i64 (IntKind.i64.wrap (IntKind.i64.wrap ((a : Int) + (f : Int)) + (i : Int))), .slice (some ⟨G, 0, none⟩) 256 256] W fun e w' => e = .returned (.int .i64 0) ∧ Fr W w' [g, mb] ∧ Dev w' g sa mb low N (wrV V (a + f) b (i + 1)) S true (m + (i + 1)) := by
  intro W hW
  have n2 := hD.n2
  have ew : IntKind.i64.wrap (IntKind.i64.wrap ((a : Int) + (f : Int)) + (i : Int)) = ((a + f + i : Nat) : Int) := by
    have e1 : IntKind.i64.wrap ((a : Int) + (f : Int)) = (a : Int) + (f : Int) := by rw [IntKind.wrap_i64]; omega
    rw [e1, IntKind.wrap_i64]
    omega
  rw [ew]
  have := write_dev (hD.later hW) (a + f + i) h (by omega) hm G 256 (secO b i) (Sh.Blk.byt (t := 5) (hG.low hW)) (secO_len _ _) hg hmb
  rw [setV_wrV] at this
  exact this
set_option maxHeartbeats 4000000 in
set_option maxRecDepth 100000 in
theorem pwrite_any (hP : Pkb w p g a vr vp en sh) (hD : Dev w g sa mb low N V S true m) (ha : a + 64 ≤ N) (hl : low ≤ (a : Int)) (hm : m ≤ 900000) (hpg : p ≠ g) (hpm : p ≠ mb)
    (ad : Option Addr) (c : Nat) (bl : List UInt8) (hb : Byt w ad bl) (hK : bl.length = K) (hK0 : 0 < K) (he : en + K ≤ 16384) :
    Calls Tryz.prog 35 #[.pointer (some ⟨p, 0, none⟩), .slice ad K c] w fun e w' => e = .returned (.int .i64 0) ∧ Fr w w' [g, mb] ∧ Dev w' g sa mb low N (appV V a en bl) S true (m + 65) := by
  have N2 := hD.n2
  obtain ⟨f, hf⟩ : ∃ f, f = en / 256 := ⟨_, rfl⟩
  obtain ⟨s, hs⟩ : ∃ s, s = en % 256 := ⟨_, rfl⟩
  have q1 : (en : Int) / 256 = (f : Int) := by omega
  have q2 : (en : Int) % 256 = (s : Int) := by omega
  have q0 : (0 : Int) ≤ (en : Int) := by omega
  have f63 : f ≤ 63 := by omega
  have s255 : s ≤ 255 := by omega
  have HF := Lib.hid hf
  have HS := Lib.hid hs
  obtain ⟨_, _, _, _, c4, _⟩ := hP.cells
  have hP1 : Hid (Pkb w.drew p g a vr vp en sh) := hP
  have hD1 : Hid (Dev w.drew g sa mb low N V S true m) := hD.later (Below.refl _ w).drew
  have hb1 : Hid (Byt w.drew ad bl) := hb
  have BW := Lib.hid (Below.refl w.heap.size w).drew
  have HKL := Lib.hid hK
  clear hP hD hb hs hf hK
  go_enter Tryz.func35, Tryz.ntmps35
  go_wp2_with fail
  go_region
  generalize w.drew = w1 at *
  obtain ⟨k0, k1, _, _, _, _⟩ := hP1.out.cells
  have i1 : (a : Int) + (f : Int) ≤ 5000 := by omega
  have i0 : (0 : Int) ≤ (a : Int) + (f : Int) := by omega
  have CR : Hid (∀ W, Below w1.heap.size w1 W → Calls Tryz.prog 32 #[.pointer (some ⟨g, 0, none⟩), .int .i64 (IntKind.i64.wrap ((a : Int) + (f : Int)))] W (GetsSec W (V (a + f)))) := by
    intro W hW
    rw [show IntKind.i64.wrap ((a : Int) + (f : Int)) = ((a + f : Nat) : Int) by rw [IntKind.wrap_i64]; omega]
    exact read_dev (hD1.out.later hW) (a + f) (by omega)
  have BQ := Lib.hid (Below.refl w1.heap.size w1).drew
  go_wp2_with fail
  go_region_held3 (fun w' => w'.cell? ⟨p, 0, none⟩ = some (.pointer (some ⟨g, 0, none⟩)) ∧ w'.cell? ⟨p, 1, none⟩ = some (.int .i64 (a : Int)))
    (first | go_keep | exact ⟨k0, k1⟩)
    ((go_at_call 32; (with_reducible refine (CR.out _ BQ.out).mono ?_); rintro e w5 ⟨b5, b, rfl, hbn, hblk⟩; obtain ⟨k0, k1, _, _, _, _⟩ := Pkb.cells (hP1.out.drew.low b5)))
  have B5 := Lib.hid (below_chain BQ.out b5)
  obtain ⟨ah, hah⟩ : ∃ ah, ah = V (a + f) := ⟨_, rfl⟩
  have HAH := Lib.hid hah
  rw [← hah] at hblk
  have hal : ah.length = 256 := by rw [hah]; exact hD1.out.vl _ (by omega)
  have R5 := Lib.hid ((dblk_byt hblk).take s)
  have RL5 := Lib.hid (hb1.out.below B5.out)
  have TL : Hid ((ah.take s).length = s) := by show _ = _; rw [List.length_take]; omega
  obtain ⟨pre, hpre⟩ : ∃ pre, pre = ah.take s := ⟨_, rfl⟩
  have HPRE := Lib.hid hpre
  rw [← hpre] at R5 TL
  obtain ⟨lb, hlb⟩ : ∃ lb, s + K = lb := ⟨_, rfl⟩
  have HLB := Lib.hid hlb
  obtain ⟨x, hx⟩ : ∃ x, x = lb / 256 := ⟨_, rfl⟩
  obtain ⟨n, hn⟩ : ∃ n, n = cnt f lb := ⟨_, rfl⟩
  have HN := Lib.hid hn
  have hn2 : n ≤ x + 1 ∧ f + n ≤ 64 := by unfold cnt at hn; omega
  have q3 : (lb : Int) / 256 = (x : Int) := by omega
  have q4 : min ((x : Int) + 1) (64 - (f : Int)) = (n : Int) := by unfold cnt at hn; omega
  have lb1 : lb ≤ 20000 := by omega
  have x1 : 256 * x ≤ lb := by omega
  have SC := slice_cut b s (by omega)
  have K47 : Hid (s + K ≤ 140737488355328) := by show _ ≤ _; omega
  have HK0 := Lib.hid hK0
  clear hah hpre hx hn hblk hal hbn b5 CR
  go_wp2_with (at_builtin; refine wpl_grow rfl (.tmp 43) (.tmp 44) rfl b s pre TL.out rfl R5.out ad K c bl rfl RL5.out HKL.out HK0.out K47.out lb HLB.out ?_; intro c2 w6 hc2 hc3 R6 B6)
  have FW := Lib.hid ((fr_below BW.out [g, mb]).trans ((fr_below B5.out [g, mb]).trans (fr_below B6.out [g, mb])))
  have P6 : Hid (Pkb w6 p g a vr vp en sh) := (hP1.out.low B5.out).low B6.out
  have D6 := Lib.hid ((hD1.out.later B5.out).later B6.out)
  have VQ := Lib.hid (show appV V a en bl = wrV V (a + f) (pre ++ bl) n by
    unfold appV
    rw [← HF.out, ← HS.out, ← HAH.out, ← HPRE.out, HKL.out, HLB.out, ← HN.out])
  have BL : Hid ((pre ++ bl).length = lb) := by show _ = _; rw [List.length_append, TL.out, HKL.out]; exact HLB.out
  generalize pre ++ bl = b' at *
  have dlt := (hD1.out.later B5.out).lt
  have GG : Hid (w5.heap.size ≠ g ∧ w5.heap.size ≠ mb) := ⟨by omega, by omega⟩
  clear dlt
  obtain ⟨G6, hG6⟩ : ∃ G6, G6 = w5.heap.size := ⟨_, rfl⟩
  rw [← hG6] at R6 GG ⊢
  clear B6 R5 RL5 hP1 hD1 hb1 BW BQ B5 SC hG6 HAH HPRE HF HS
  go_loopw [54] (fun vi wr => ∃ i : Nat, i ≤ n ∧ vi = .int .i64 i ∧ Hid (Fr w6 wr [g, mb]) ∧ Hid (Dev wr g sa mb low N (wrV V (a + f) b' i) S true (m + i))) (fun vi _ => n - (RowKit.intOf vi).toNat)
  case atStart => exact ⟨0, by omega, rfl, Fr.refl _ _, by show Dev _ _ _ _ _ _ _ _ _ _; rw [wrV_zero]; exact D6.out⟩
  case round =>
    obtain ⟨i, hi, rfl, hfr, hdv⟩ := hrel
    by_cases hin : i < n
    · have lbi : i * 256 ≤ lb := by omega
      obtain ⟨ao', sl, by', nn'⟩ := slice_from (some ⟨G6, 0, none⟩) lb c2 (i * 256) b' lbi BL.out.symm (fun h => by cases h) hc2
      have esl : (((i * 256 : Nat)) : Int) = (i : Int) * 256 := by omega
      rw [esl] at sl
      obtain ⟨i0, hi0, hz0, hz1, hz2⟩ := info_parts info5
      have hmk : ∀ W : World, (Instr.makeSlice 24 (.int .i64 256) (.int .i64 256)).run Tryz.prog W = _ := fun W => run_make W 24 5 i0 (.int .u8 0) Tryz.underlying24 hi0 hz0 .i64 .i64 256 256 (by decide) (by decide) (by rw [hz2]; omega) (by decide)
      rw [hz1] at hmk
      have hZ := Lib.hid (noughts 256)
      have eZ : (256 : Int).toNat * 1 = 256 := rfl
      rw [eZ] at hmk
      generalize madeCells (Value.int .u8 0).cells 256 = Z at *
      have HZ : Hid (Z = (bs (List.replicate 256 0)).toArray) := by show _ = _; rw [← hZ.out]
      obtain ⟨G, hG⟩ : ∃ G, G = wr.heap.size := ⟨_, rfl⟩
      have BZ : Hid ((wr.alloc (.cells Z 5)).heap[G]? = some (.cells (bs (List.replicate 256 0)).toArray 5 (0, 0))) := by
        show _ = _
        rw [hG, HZ.out]
        exact heap_alloc_new wr _
      have BA := Lib.hid ((Below.refl wr.heap.size wr).alloc (Nat.le_refl _) (.cells Z 5))
      have R6r : Hid (Byt (wr.alloc (.cells Z 5)) ao' ((b'.drop (i * 256)).take 256)) := by
        have := (by' _ (byt_fr R6.out hfr.out (by simp; exact GG.out))).take 256
        exact this.below BA.out
      obtain ⟨cs, hcs⟩ : ∃ cs, cs = (b'.drop (256 * i)).take 256 := ⟨_, rfl⟩
      have csl : Hid ((bs cs).length = Nat.min (lb - i * 256) 256) := by
        show _ = _
        rw [bs_len, hcs, List.length_take, List.length_drop, BL.out]
        show min _ _ = min _ _
        omega
      have csf : Hid (0 + (bs cs).length ≤ (bs (List.replicate 256 0)).length) := by
        show _ ≤ _
        rw [bs_len, bs_len, hcs, List.length_replicate, List.length_take]
        omega
      have cpos : Hid (0 < (bs cs).length → ∃ ad, ao' = some ad ∧ ∀ j v, (bs cs)[j]? = some v → (wr.alloc (.cells Z 5)).cell? (ad.add j) = some v) := by
        intro h0
        rw [show i * 256 = 256 * i by omega, ← hcs] at R6r
        obtain ⟨b3, o3, e3, h3, h4⟩ := R6r.out (by intro h1; rw [h1] at h0; simp [bs] at h0)
        refine ⟨_, e3, fun j v hj => ?_⟩
        have hjl : j < cs.length := by rw [← bs_len]; exact (List.getElem?_eq_some_iff.1 hj).1
        rw [WideShapes.add_plain, h4 j hjl]
        rw [bs_get cs j hjl] at hj
        exact hj
      have SP := Lib.hid (secO_splice b' i)
      rw [← hcs] at SP
      have HMK : (Instr.makeSlice 24 (.int .i64 256) (.int .i64 256)).run Tryz.prog wr = .ok (.slice (some ⟨G, 0, none⟩) 256 256) (wr.alloc (.cells Z 5)) := by rw [hG]; exact hmk wr
      have cone := Lib.hid (bs_one cs)
      have GB : Hid (wr.heap.size ≤ G) := by show _ ≤ _; omega
      have iaf : (a : Int) + (f : Int) ≤ 5000 := i1
      have hinI : (i : Int) < (n : Int) := by omega
      have lbI : (i : Int) * 256 ≤ (lb : Int) := by omega
      clear hmk eZ hZ HZ R6r esl by' hcs hi0 hz0 hz1 hz2 hG nn'
      go_wp2_with (refine wpList_copy_splice rfl (.tmp 58) (.tmp 62) 24 24 rfl 5 Tryz.underlying24 info5s (some ⟨G, 0, none⟩) ao' 256 256 (lb - i * 256) (c2 - i * 256) rfl rfl G 0 (bs (List.replicate 256 0)) 5 BZ.out (bs cs) csl.out (fun h => ⟨rfl, cpos.out h⟩) csf.out cone.out wr.heap.size wr BA.out GB.out ?_; intro w8 hg8 hb8)
      have PF : p ∉ [g, mb] := by simp; exact ⟨hpg, hpm⟩
      have P8 : Hid (Pkb w8 p g a vr vp en sh) := (P6.out.fr hfr.out PF).low hb8
      have D8 := Lib.hid (hdv.out.later hb8)
      have F8 := Lib.hid (hfr.out.trans (fr_below hb8 [g, mb]))
      have gl := hdv.out.lt
      have BG : Hid (Sh.Blk w8 G (bs (secO b' i)) 5) := by
        have := hg8.out
        rw [SP.out] at this
        exact this
      have gg : G ≠ g ∧ G ≠ mb := by have := GB.out; omega
      have af64 : a + f + i < N := by omega
      have mi : m + i < 1000000 := by omega
      have CW := Lib.hid (write_next D8.out af64 hl mi G BG.out gg.1 gg.2)
      have B9 := Lib.hid (Below.refl w8.heap.size w8).drew
      obtain ⟨k0, k1, _, _, _, _⟩ := P8.out.cells
      clear SP csl csf cpos cone GB gl BG
      go_region_held3 (fun w' => w'.cell? ⟨p, 0, none⟩ = some (.pointer (some ⟨g, 0, none⟩)) ∧ w'.cell? ⟨p, 1, none⟩ = some (.int .i64 (a : Int)))
        (first | go_keep | exact ⟨k0, k1⟩)
        ((go_at_call 61; (with_reducible refine (CW.out _ B9.out).mono ?_); rintro e w9 ⟨rfl, hF9, hD9⟩; obtain ⟨k0, k1, _, _, _, _⟩ := Pkb.cells (Pkb.fr (w := w8.drew) P8.out hF9 PF)))
      all_goals
        have F9 := Lib.hid (F8.out.trans ((fr_below B9.out [g, mb]).trans hF9))
        have D9 := Lib.hid hD9
        clear hF9 hD9 CW
        go_wp2_with fail
        go_roundw
        case rel => exact ⟨i + 1, by omega, by go_num, F9.out, D9.out⟩
        case measure => simp [RowKit.intOf]; omega
    · obtain rfl : i = n := by omega
      go_wp2_with fail
      go_ret
      exact ⟨rfl, FW.out.trans hfr.out, by rw [VQ.out]; exact hdv.out.mono (by omega)⟩
end
end Go.Proofs.YtekaboomhljdoaaGreatDoor.Sh
