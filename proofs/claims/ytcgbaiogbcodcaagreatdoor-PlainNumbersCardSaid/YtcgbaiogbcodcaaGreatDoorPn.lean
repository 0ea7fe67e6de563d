/-
  Plain: a number's bytes in LEB128, and the number at the beginning of bytes. Conditions: a number is below 2^64 where it says so.
-/
namespace Go.Proofs.YtcgbaiogbcodcaaGreatDoor.Lb

/-- a number's bytes, with fuel -/
def putF : Nat → Nat → List UInt8
  | 0, x => [x.toUInt8]
  | f + 1, x => if x < 128 then [x.toUInt8] else (x % 128 + 128).toUInt8 :: putF f (x / 128)
/-- a number's bytes -/
def putL (x : Nat) : List UInt8 := putF 9 x
/-- the number that digits are -/
def valL : List UInt8 → Nat
  | [] => 0
  | c :: r => c.toNat % 128 + 128 * valL r
/-- where the first byte below 128 stands -/
def firstI : List UInt8 → Option Nat
  | [] => none
  | c :: r => if c.toNat < 128 then some 0 else (firstI r).map (· + 1)
/-- digits that are none -/
def badB (l : List UInt8) : Bool :=
  decide (10 < l.length) || (decide (l.length = 10) && decide (1 < (l.getD (l.length - 1) 0).toNat)) || (decide (1 < l.length) && decide ((l.getD (l.length - 1) 0).toNat = 0))
/-- what Get answers -/
def getL (l : List UInt8) : Nat × Nat × Nat :=
  match firstI l with
  | none => (0, 0, 20)
  | some i => if badB (l.take (i + 1)) then (0, 0, 21) else (valL (l.take (i + 1)), i + 1, 0)

theorem u8_nat (n : Nat) (h : n < 256) : n.toUInt8.toNat = n := by simp; omega
theorem u8_self (c : UInt8) : c.toNat.toUInt8 = c := by simp
theorem u8_eq {a b : UInt8} (h : a.toNat = b.toNat) : a = b := UInt8.toNat_inj.1 h

theorem putF_ne (f x : Nat) : putF f x ≠ [] := by
  cases f with
  | zero => simp [putF]
  | succ f => rw [putF]; split <;> simp
theorem putF_len (f x : Nat) : 1 ≤ (putF f x).length ∧ (putF f x).length ≤ f + 1 := by
  induction f generalizing x with
  | zero => simp [putF]
  | succ f ih =>
    rw [putF]
    split
    · simp
    · have := ih (x / 128)
      simp only [List.length_cons]
      omega
/-- how many bytes: just as many as are needed -/
theorem putF_pow (f x : Nat) (h : x < 128 ^ (f + 1)) : x < 128 ^ (putF f x).length ∧ (1 < (putF f x).length → 128 ^ ((putF f x).length - 1) ≤ x) := by
  induction f generalizing x with
  | zero => simp [putF]; simpa using h
  | succ f ih =>
    rw [putF]
    split
    · rename_i hx
      exact ⟨by simpa using hx, by simp⟩
    · rename_i hx
      have hl := putF_len f (x / 128)
      have hd : x / 128 < 128 ^ (f + 1) := by rw [Nat.div_lt_iff_lt_mul (by decide), ← Nat.pow_succ]; exact h
      have hi := ih (x / 128) hd
      simp only [List.length_cons]
      obtain ⟨n, hn⟩ : ∃ n, (putF f (x / 128)).length = n + 1 := ⟨(putF f (x / 128)).length - 1, by omega⟩
      rw [hn] at hi ⊢
      refine ⟨?_, fun _ => ?_⟩
      · have h1 := hi.1
        rw [Nat.pow_succ]
        rw [Nat.div_lt_iff_lt_mul (by decide)] at h1
        exact h1
      · show 128 ^ (n + 1) ≤ x
        rcases Nat.eq_zero_or_pos n with h0 | h0
        · subst h0; simp; omega
        · have h2 := hi.2 (by omega)
          simp only [Nat.add_sub_cancel] at h2
          rw [Nat.le_div_iff_mul_le (by decide)] at h2
          rw [Nat.pow_succ]
          exact h2
theorem putL_len (x : Nat) : 1 ≤ (putL x).length ∧ (putL x).length ≤ 10 := putF_len 9 x
theorem two64 : (18446744073709551616 : Nat) ≤ 128 ^ 10 := by decide
theorem putL_pow (x : Nat) (h : x < 18446744073709551616) : x < 128 ^ (putL x).length ∧ (1 < (putL x).length → 128 ^ ((putL x).length - 1) ≤ x) :=
  putF_pow 9 x (Nat.lt_of_lt_of_le h two64)
/-- the value of a number's bytes, whatever stands behind -/
theorem valF_put (f x : Nat) (h : x < 128 ^ (f + 1)) : valL (putF f x) = x := by
  induction f generalizing x with
  | zero =>
    have hx : x < 128 := by simpa using h
    rw [putF, valL, valL, u8_nat _ (by omega)]
    omega
  | succ f ih =>
    rw [putF]
    split
    · rename_i hx
      rw [valL, valL, u8_nat _ (by omega)]
      omega
    · have hd : x / 128 < 128 ^ (f + 1) := by rw [Nat.div_lt_iff_lt_mul (by decide), ← Nat.pow_succ]; exact h
      rw [valL, ih _ hd, u8_nat _ (by omega)]
      omega
theorem firstF_put (f x : Nat) (h : x < 128 ^ (f + 1)) (l : List UInt8) : firstI (putF f x ++ l) = some ((putF f x).length - 1) := by
  induction f generalizing x with
  | zero =>
    have hx : x < 128 := by simpa using h
    simp only [putF, List.cons_append, List.nil_append, firstI]
    rw [if_pos (by rw [u8_nat _ (by omega)]; exact hx)]
    rfl
  | succ f ih =>
    rw [putF]
    split
    · rename_i hx
      simp only [List.cons_append, List.nil_append, firstI]
      rw [if_pos (by rw [u8_nat _ (by omega)]; exact hx)]
      rfl
    · have hd : x / 128 < 128 ^ (f + 1) := by rw [Nat.div_lt_iff_lt_mul (by decide), ← Nat.pow_succ]; exact h
      simp only [List.cons_append, firstI]
      rw [if_neg (by rw [u8_nat _ (by omega)]; omega), ih _ hd]
      have := putF_len f (x / 128)
      simp only [Option.map_some, List.length_cons, Option.some.injEq]
      omega
/-- a beginning of a number's bytes has no last byte -/
theorem firstF_cut (f x : Nat) (n : Nat) (hn : n < (putF f x).length) : firstI ((putF f x).take n) = none := by
  induction f generalizing x n with
  | zero =>
    obtain rfl : n = 0 := by simp [putF] at hn; exact hn
    rfl
  | succ f ih =>
    rw [putF] at hn ⊢
    split at hn
    · rename_i hx
      obtain rfl : n = 0 := by simp at hn; exact hn
      rfl
    · rename_i hx
      rw [if_neg hx]
      cases n with
      | zero => rfl
      | succ n =>
        simp only [List.take_succ_cons, firstI]
        rw [if_neg (by rw [u8_nat _ (by omega)]; omega), ih _ n (by simpa using hn)]
        rfl
theorem lastF_put (f x : Nat) (h : x < 128 ^ (f + 1)) : ((putF f x).getD ((putF f x).length - 1) 0).toNat = x / 128 ^ ((putF f x).length - 1) := by
  induction f generalizing x with
  | zero =>
    have hx : x < 128 := by simpa using h
    simp [putF]
    omega
  | succ f ih =>
    rw [putF]
    split
    · rename_i hx
      simp
      omega
    · have hd : x / 128 < 128 ^ (f + 1) := by rw [Nat.div_lt_iff_lt_mul (by decide), ← Nat.pow_succ]; exact h
      have hi := ih _ hd
      have hl := putF_len f (x / 128)
      obtain ⟨n, hn⟩ : ∃ n, (putF f (x / 128)).length = n + 1 := ⟨(putF f (x / 128)).length - 1, by omega⟩
      rw [List.length_cons]
      rw [hn] at hi ⊢
      simp only [Nat.add_sub_cancel] at hi ⊢
      rw [List.getD_cons_succ, hi, Nat.div_div_eq_div_mul, Nat.pow_succ, Nat.mul_comm]
/-- a byte that is not the last one -/
theorem putF_at (f x j : Nat) (h : j + 1 < (putF f x).length) : (putF f x).getD j 0 = (x / 128 ^ j % 128 + 128).toUInt8 := by
  induction f generalizing x j with
  | zero => simp [putF] at h
  | succ f ih =>
    rw [putF] at h ⊢
    split at h
    · simp at h
    · rename_i hx
      rw [if_neg hx]
      cases j with
      | zero => simp
      | succ j =>
        rw [List.getD_cons_succ, ih _ j (by simpa using h), Nat.div_div_eq_div_mul, Nat.pow_succ, Nat.mul_comm (128 ^ j)]
theorem putL_at (x j : Nat) (h : j + 1 < (putL x).length) : (putL x).getD j 0 = (x / 128 ^ j % 128 + 128).toUInt8 := putF_at 9 x j h
theorem badB_put (x : Nat) (h : x < 18446744073709551616) : badB (putL x) = false := by
  have hl := putL_len x
  have hp := putL_pow x h
  have hv : ((putL x).getD ((putL x).length - 1) 0).toNat = x / 128 ^ ((putL x).length - 1) := lastF_put 9 x (Nat.lt_of_lt_of_le h two64)
  unfold badB
  rw [hv]
  have h1 : decide (10 < (putL x).length) = false := by simp; omega
  have h2 : (decide ((putL x).length = 10) && decide (1 < x / 128 ^ ((putL x).length - 1))) = false := by
    rw [Bool.and_eq_false_iff]
    by_cases h10 : (putL x).length = 10
    · right
      rw [h10]
      simp only [decide_eq_false_iff_not, Nat.not_lt]
      show x / 128 ^ 9 ≤ 1
      have : x / 128 ^ 9 < 2 := by rw [Nat.div_lt_iff_lt_mul (by decide)]; exact Nat.lt_of_lt_of_le h (by decide)
      omega
    · left
      simpa using h10
  have h3 : (decide (1 < (putL x).length) && decide (x / 128 ^ ((putL x).length - 1) = 0)) = false := by
    rw [Bool.and_eq_false_iff]
    by_cases h10 : 1 < (putL x).length
    · right
      have := hp.2 h10
      have hpos : 0 < x / 128 ^ ((putL x).length - 1) := Nat.div_pos this (Nat.pow_pos (by decide))
      simp only [decide_eq_false_iff_not]
      omega
    · left
      simpa using h10
  rw [h1, h2, h3]
  rfl
/-- GET OF PUT -/
theorem getL_put (x : Nat) (h : x < 18446744073709551616) (l : List UInt8) : getL (putL x ++ l) = (x, (putL x).length, 0) := by
  have hf : firstI (putL x ++ l) = some ((putL x).length - 1) := firstF_put 9 x (Nat.lt_of_lt_of_le h two64) l
  have hl := putL_len x
  unfold getL
  rw [hf]
  simp only
  rw [show (putL x).length - 1 + 1 = (putL x).length by omega, List.take_left, badB_put x h]
  have hv : valL (putL x) = x := valF_put 9 x (Nat.lt_of_lt_of_le h two64)
  rw [hv]
  rfl
/-- A BEGINNING IS SHORT -/
theorem getL_cut (x n : Nat) (hn : n < (putL x).length) : getL ((putL x).take n) = (0, 0, 20) := by
  have hf : firstI ((putL x).take n) = none := firstF_cut 9 x n hn
  unfold getL
  rw [hf]

/-- digits: all but the last have 128 -/
theorem firstI_some (l : List UInt8) (i : Nat) (h : firstI l = some i) : i < l.length ∧ (∀ j, j < i → 128 ≤ (l.getD j 0).toNat) ∧ (l.getD i 0).toNat < 128 := by
  induction l generalizing i with
  | nil => cases h
  | cons c r ih =>
    rw [firstI] at h
    split at h
    · rename_i hc
      obtain rfl := Option.some.inj h
      exact ⟨by simp, fun j hj => by omega, by simpa using hc⟩
    · rename_i hc
      cases hr : firstI r with
      | none => rw [hr] at h; cases h
      | some k =>
        rw [hr] at h
        obtain rfl : k + 1 = i := Option.some.inj h
        obtain ⟨a, b, d⟩ := ih k hr
        refine ⟨by simp; omega, fun j hj => ?_, by rw [List.getD_cons_succ]; exact d⟩
        cases j with
        | zero => simp; omega
        | succ j => rw [List.getD_cons_succ]; exact b j (by omega)
theorem firstI_none (l : List UInt8) (h : firstI l = none) : ∀ j, j < l.length → 128 ≤ (l.getD j 0).toNat := by
  induction l with
  | nil => intro j hj; simp at hj
  | cons c r ih =>
    rw [firstI] at h
    split at h
    · cases h
    · rename_i hc
      cases hr : firstI r with
      | some k => rw [hr] at h; cases h
      | none =>
        intro j hj
        cases j with
        | zero => simp; omega
        | succ j => rw [List.getD_cons_succ]; exact ih hr j (by simpa using hj)
theorem valL_lt (l : List UInt8) : valL l < 128 ^ l.length := by
  induction l with
  | nil => simp [valL]
  | cons c r ih =>
    rw [valL, List.length_cons, Nat.pow_succ]
    omega
theorem valL_snoc (l : List UInt8) (c : UInt8) : valL (l ++ [c]) = valL l + (c.toNat % 128) * 128 ^ l.length := by
  induction l with
  | nil => simp [valL]
  | cons a r ih =>
    rw [List.cons_append, valL, valL, ih, List.length_cons, Nat.pow_succ, Nat.mul_add, ← Nat.add_assoc]
    congr 1
    rw [Nat.mul_comm 128, Nat.mul_assoc]
/-- WHAT IS READ IS WRITTEN AS IT WAS -/
theorem putF_val (f : Nat) (l : List UInt8) (hl : l.length ≤ f + 1) (hne : l ≠ []) (ha : ∀ j, j + 1 < l.length → 128 ≤ (l.getD j 0).toNat) (hb : (l.getD (l.length - 1) 0).toNat < 128) (hc : 1 < l.length → (l.getD (l.length - 1) 0).toNat ≠ 0) :
    putF f (valL l) = l := by
  induction f generalizing l with
  | zero =>
    match l, hne, hl with
    | [c], _, _ =>
      simp only [List.length_singleton, Nat.sub_self, List.getD_cons_zero] at hb
      rw [putF, valL, valL, Nat.mul_zero, Nat.add_zero, Nat.mod_eq_of_lt hb, u8_self]
  | succ f ih =>
    match l, hne with
    | c :: r, _ =>
      rcases r with _ | ⟨d, r⟩
      · simp only [List.length_singleton, Nat.sub_self, List.getD_cons_zero] at hb
        rw [putF, valL, valL, Nat.mul_zero, Nat.add_zero, Nat.mod_eq_of_lt hb, if_pos hb, u8_self]
      · have h0 : 128 ≤ c.toNat := by simpa using ha 0 (by simp)
        have hr := ih (d :: r) (by simpa using hl) (by simp)
          (fun j hj => by have := ha (j + 1) (by simpa using hj); rwa [List.getD_cons_succ] at this)
          (by simpa using hb) (fun _ => by simpa using hc (by simp))
        have hpos : 0 < valL (d :: r) := by
          rcases Nat.eq_zero_or_pos (valL (d :: r)) with hz | hz
          · exfalso
            rw [hz] at hr
            have h1 : putF f 0 = [0] := by cases f <;> rfl
            rw [h1] at hr
            obtain ⟨rfl, rfl⟩ : d = 0 ∧ r = [] := by
              injection hr with e1 e2
              exact ⟨e1.symm, e2.symm⟩
            exact hc (by simp) (by simp)
          · exact hz
        have hc256 := c.toNat_lt
        rw [putF, valL, if_neg (by omega), show (c.toNat % 128 + 128 * valL (d :: r)) / 128 = valL (d :: r) by omega, hr,
          show (c.toNat % 128 + 128 * valL (d :: r)) % 128 + 128 = c.toNat by omega, u8_self]
theorem take_getD (l : List UInt8) (n j : Nat) (h : j < n) : (l.take n).getD j 0 = l.getD j 0 := by
  simp [List.getD_eq_getElem?_getD, h]
/-- ONE WAY -/
theorem getL_again (l : List UInt8) (x n : Nat) (h : getL l = (x, n, 0)) : 1 ≤ n ∧ n ≤ l.length ∧ x < 18446744073709551616 ∧ putL x = l.take n := by
  unfold getL at h
  cases hf : firstI l with
  | none => rw [hf] at h; simp at h
  | some i =>
    rw [hf] at h
    simp only at h
    obtain ⟨h1, h2, h3⟩ := firstI_some l i hf
    cases hb : badB (l.take (i + 1)) with
    | true => rw [hb] at h; simp at h
    | false =>
      rw [hb, if_neg (by simp)] at h
      injection h with e1 e2
      injection e2 with e2 e3
      subst e1
      subst e2
      have hlen : (l.take (i + 1)).length = i + 1 := by rw [List.length_take]; omega
      unfold badB at hb
      rw [hlen, Nat.add_sub_cancel, take_getD _ _ _ (by omega)] at hb
      simp only [Bool.or_eq_false_iff, Bool.and_eq_false_iff, decide_eq_false_iff_not] at hb
      obtain ⟨⟨k1, k2⟩, k3⟩ := hb
      refine ⟨by omega, by omega, ?_, ?_⟩
      · have hv := valL_lt (l.take (i + 1))
        rw [hlen] at hv
        by_cases h9 : i = 9
        · subst h9
          have e : l.take (9 + 1) = l.take 9 ++ [l.getD 9 0] := by
            rw [List.take_succ_eq_append_getElem (by omega)]
            simp [List.getD_eq_getElem?_getD, h1]
          rw [e, valL_snoc, List.length_take, Nat.min_eq_left (by omega)]
          have hv9 := valL_lt (l.take 9)
          rw [List.length_take, Nat.min_eq_left (by omega)] at hv9
          have : (l.getD 9 0).toNat ≤ 1 := by omega
          have h128 : (l.getD 9 0).toNat % 128 ≤ 1 := by omega
          have hm : (l.getD 9 0).toNat % 128 * 128 ^ 9 ≤ 1 * 128 ^ 9 := Nat.mul_le_mul_right _ h128
          have e9 : (128 : Nat) ^ 9 = 9223372036854775808 := by decide
          rw [e9] at hm hv9 ⊢
          omega
        · refine Nat.lt_of_lt_of_le hv (Nat.le_trans (Nat.pow_le_pow_right (by decide) (show i + 1 ≤ 9 by omega)) (by decide))
      · refine putF_val 9 _ (by omega) (by intro h0; rw [h0] at hlen; simp at hlen) (fun j hj => ?_) ?_ (fun h => ?_)
        · rw [hlen] at hj
          rw [take_getD _ _ _ (by omega)]
          exact h2 j (by omega)
        · rw [hlen, Nat.add_sub_cancel, take_getD _ _ _ (by omega)]
          exact h3
        · rw [hlen] at h ⊢
          rw [Nat.add_sub_cancel, take_getD _ _ _ (by omega)]
          omega
theorem getL_err (l : List UInt8) (h : (getL l).2.2 ≠ 0) : (getL l).1 = 0 ∧ (getL l).2.1 = 0 := by
  unfold getL at h ⊢
  cases hf : firstI l with
  | none => exact ⟨rfl, rfl⟩
  | some i =>
    rw [hf] at h
    simp only at h ⊢
    split
    · exact ⟨rfl, rfl⟩
    · rename_i hb
      rw [if_neg hb] at h
      exact absurd rfl h
end Go.Proofs.YtcgbaiogbcodcaaGreatDoor.Lb
