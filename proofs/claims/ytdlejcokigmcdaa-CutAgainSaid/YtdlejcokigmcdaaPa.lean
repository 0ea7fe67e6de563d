/-
  Fingerprints as plain mathematics: what is left of a number by the divisor, over Nat and exclusive or; windows; rolled windows. No condition; nothing of the program.
-/
namespace Go.Proofs.Ytdlejcokigmcdaa.Rb

/-- the divisor -/
def D : Nat := 2147483657
/-- bit 31 + k taken away -/
def red (k x : Nat) : Nat := if x.testBit (31 + k) then x ^^^ D <<< k else x
/-- bits 31 + k - 1 to 31 taken away -/
def md : Nat → Nat → Nat
  | 0, x => x
  | k + 1, x => md k (red k x)
def modN (x : Nat) : Nat := md 33 x

theorem xlc (a b c : Nat) : a ^^^ (b ^^^ c) = b ^^^ (a ^^^ c) := by rw [← Nat.xor_assoc, Nat.xor_comm a b, Nat.xor_assoc]
theorem red_xor (k x y : Nat) : red k (x ^^^ y) = red k x ^^^ red k y := by
  unfold red
  rw [Nat.testBit_xor]
  cases x.testBit (31 + k) <;> cases y.testBit (31 + k)
  · rfl
  · exact Nat.xor_assoc _ _ _
  · show x ^^^ y ^^^ D <<< k = x ^^^ D <<< k ^^^ y
    rw [Nat.xor_assoc, Nat.xor_assoc, Nat.xor_comm y]
  · show x ^^^ y = x ^^^ D <<< k ^^^ (y ^^^ D <<< k)
    rw [Nat.xor_assoc, xlc (D <<< k), Nat.xor_self, Nat.xor_zero]
theorem md_xor (k x y : Nat) : md k (x ^^^ y) = md k x ^^^ md k y := by
  induction k generalizing x y with
  | zero => rfl
  | succ k ih => rw [md, md, md, red_xor, ih]
theorem red_small (k x : Nat) (h : x < 2 ^ (31 + k)) : red k x = x := by
  unfold red
  rw [Nat.testBit_lt_two_pow h]
  rfl
theorem md_small (k x : Nat) (h : x < 2147483648) : md k x = x := by
  induction k with
  | zero => rfl
  | succ k ih => rw [md, red_small k x (Nat.lt_of_lt_of_le h (by rw [Nat.pow_add]; exact Nat.le_mul_of_pos_right _ (Nat.pow_pos (by decide)))), ih]
theorem md_more (k j x : Nat) (h : x < 2 ^ (31 + k)) : md (k + j) x = md k x := by
  induction j with
  | zero => rfl
  | succ j ih =>
    show md (k + j) (red (k + j) x) = _
    rw [red_small (k + j) x (Nat.lt_of_lt_of_le h (Nat.pow_le_pow_right (by decide) (by omega))), ih]
theorem D_bits (j : Nat) : D.testBit j = (decide (j = 0) || decide (j = 3) || decide (j = 31)) := by
  rcases Nat.lt_or_ge j 32 with h | h
  · revert j
    decide
  · rw [Nat.testBit_lt_two_pow (Nat.lt_of_lt_of_le (show D < 2 ^ 32 by decide) (Nat.pow_le_pow_right (by decide) h))]
    simp
    omega
theorem red_lt (k x : Nat) (h : x < 2 ^ (32 + k)) : red k x < 2 ^ (31 + k) := by
  apply Nat.lt_pow_two_of_testBit
  intro i hi
  unfold red
  cases hb : x.testBit (31 + k) with
  | false =>
    simp only [Bool.false_eq_true, if_false]
    rcases Nat.lt_or_ge i (32 + k) with h2 | h2
    · obtain rfl : i = 31 + k := by omega
      exact hb
    · exact Nat.testBit_lt_two_pow (Nat.lt_of_lt_of_le h (Nat.pow_le_pow_right (by decide) h2))
  | true =>
    simp only [if_true]
    rw [Nat.testBit_xor, Nat.testBit_shiftLeft, D_bits]
    rcases Nat.lt_or_ge i (32 + k) with h2 | h2
    · obtain rfl : i = 31 + k := by omega
      rw [hb]
      simp
    · rw [Nat.testBit_lt_two_pow (Nat.lt_of_lt_of_le h (Nat.pow_le_pow_right (by decide) h2))]
      simp
      omega
theorem md_lt (k x : Nat) (h : x < 2 ^ (31 + k)) : md k x < 2147483648 := by
  induction k generalizing x with
  | zero => exact h
  | succ k ih => exact ih _ (red_lt k x (by rw [show 32 + k = 31 + (k + 1) by omega]; exact h))
theorem modN_lt (x : Nat) (h : x < 18446744073709551616) : modN x < 2147483648 := md_lt 33 x h
theorem modN_small (x : Nat) (h : x < 2147483648) : modN x = x := md_small 33 x h
theorem modN_xor (x y : Nat) : modN (x ^^^ y) = modN x ^^^ modN y := md_xor 33 x y
theorem modN_few (k x : Nat) (hk : k ≤ 33) (h : x < 2 ^ (31 + k)) : modN x = md k x := by
  have := md_more k (33 - k) x h
  rwa [show k + (33 - k) = 33 by omega] at this
theorem modN_div (k : Nat) (h : k < 33) : modN (D <<< k) = 0 := by
  revert k
  decide +kernel

/-- a byte more -/
def push (f b : Nat) : Nat := modN (modN f * 256 + b)
theorem mul_add_xor (x b : Nat) (hb : b < 256) : x * 256 + b = x <<< 8 ^^^ b := by
  apply Nat.eq_of_testBit_eq
  intro i
  rw [Nat.testBit_xor, Nat.testBit_shiftLeft, show x * 256 + b = 2 ^ 8 * x + b by omega, Nat.testBit_two_pow_mul_add _ hb]
  rcases Nat.lt_or_ge i 8 with h | h
  · simp [h, Nat.not_le.2 h]
  · rw [if_neg (by omega), Nat.testBit_lt_two_pow (x := b) (Nat.lt_of_lt_of_le hb (show 2 ^ 8 ≤ 2 ^ i from Nat.pow_le_pow_right (by decide) h))]
    simp [h]
theorem push_eq (f b : Nat) (hb : b < 256) : push f b = modN (modN f <<< 8) ^^^ b := by
  rw [push, mul_add_xor _ _ hb, modN_xor, modN_small b (by omega)]
theorem xor_lt256 {a b : Nat} (ha : a < 256) (hb : b < 256) : a ^^^ b < 256 := Nat.xor_lt_two_pow (n := 8) ha hb
theorem shl_xor (x y n : Nat) : (x ^^^ y) <<< n = x <<< n ^^^ y <<< n := by
  apply Nat.eq_of_testBit_eq
  intro i
  simp only [Nat.testBit_xor, Nat.testBit_shiftLeft]
  cases decide (i ≥ n) <;> simp
theorem xor4 (a b c d : Nat) : (a ^^^ b) ^^^ (c ^^^ d) = (a ^^^ c) ^^^ (b ^^^ d) := by
  rw [Nat.xor_assoc, Nat.xor_assoc, xlc b c d]
theorem push_xor (f g a b : Nat) (ha : a < 256) (hb : b < 256) : push (f ^^^ g) (a ^^^ b) = push f a ^^^ push g b := by
  rw [push_eq _ _ (xor_lt256 ha hb), push_eq _ _ ha, push_eq _ _ hb, modN_xor, shl_xor, modN_xor, xor4]
theorem push_lt (f b : Nat) (hf : f < 18446744073709551616) (hb : b < 256) : push f b < 2147483648 := by
  refine modN_lt _ ?_
  have := modN_lt f hf
  omega

theorem push_one (c : Nat) (h : c < 256) : push 0 c = c := by
  rw [push, modN_small 0 (by decide), modN_small _ (by omega)]
  omega
/-- bytes, pushed one by one -/
def win (f : Nat) (l : List UInt8) : Nat := l.foldl (fun g c => push g c.toNat) f
def window (l : List UInt8) : Nat := win 0 l
theorem win_cons (f : Nat) (c : UInt8) (l : List UInt8) : win f (c :: l) = win (push f c.toNat) l := rfl
theorem win_app (f : Nat) (l m : List UInt8) : win f (l ++ m) = win (win f l) m := by simp [win]
theorem win_one (f : Nat) (l : List UInt8) (c : UInt8) : win f (l ++ [c]) = push (win f l) c.toNat := by simp [win]
theorem win_lt (f : Nat) (l : List UInt8) (hf : f < 2147483648) : win f l < 2147483648 := by
  induction l generalizing f with
  | nil => exact hf
  | cons c r ih => exact ih _ (push_lt _ _ (by omega) c.toNat_lt)
theorem window_lt (l : List UInt8) : window l < 2147483648 := win_lt 0 l (by decide)
def xorL (a b : List UInt8) : List UInt8 := List.zipWith (· ^^^ ·) a b
theorem win_xor (a b : List UInt8) (f g : Nat) (h : a.length = b.length) : win (f ^^^ g) (xorL a b) = win f a ^^^ win g b := by
  induction a generalizing b f g with
  | nil =>
    cases b with
    | nil => rfl
    | cons _ _ => cases h
  | cons x r ih =>
    cases b with
    | nil => cases h
    | cons y s =>
      show win (push (f ^^^ g) (x ^^^ y).toNat) (xorL r s) = _
      rw [UInt8.toNat_xor, push_xor _ _ _ _ x.toNat_lt y.toNat_lt, ih _ _ _ (by simpa using h)]
      rfl
theorem window_xor (a b : List UInt8) (h : a.length = b.length) : window (xorL a b) = window a ^^^ window b := win_xor a b 0 0 h
theorem win_zeros (n : Nat) (l : List UInt8) : window (List.replicate n 0 ++ l) = window l := by
  induction n with
  | zero => rfl
  | succ n ih =>
    rw [List.replicate_succ]
    rw [window, List.cons_append, win_cons, show (0 : UInt8).toNat = 0 from rfl, push_one 0 (by decide)]
    exact ih
/-- what is left of a byte that is carried over -/
def T (t : Nat) : Nat := modN (t <<< 31)
theorem T_xor (s t : Nat) : T (s ^^^ t) = T s ^^^ T t := by rw [T, shl_xor, modN_xor]; rfl
theorem T_lt (t : Nat) (h : t < 256) : T t < 2147483648 := by
  refine modN_lt _ ?_
  rw [Nat.shiftLeft_eq]
  omega
/-- one byte of the program's own walk -/
theorem step_eq (f b : Nat) (hf : f < 2147483648) (hb : b < 256) : (f * 256 + b) % 2147483648 ^^^ T (f / 8388608) = push f b := by
  rw [push, modN_small f hf]
  have e : f * 256 + b = (f * 256 + b) % 2147483648 ^^^ (f / 8388608) <<< 31 := by
    apply Nat.eq_of_testBit_eq
    intro i
    rw [Nat.testBit_xor, show (2147483648 : Nat) = 2 ^ 31 from rfl, Nat.testBit_mod_two_pow, Nat.testBit_shiftLeft]
    rcases Nat.lt_or_ge i 31 with h | h
    · simp [h, Nat.not_le.2 h]
    · simp only [Nat.not_lt.2 h, decide_false, Bool.false_and, Bool.false_xor, ge_iff_le, h, decide_true, Bool.true_and]
      have : f / 8388608 = (f * 256 + b) / 2 ^ 31 := by omega
      rw [this, Nat.testBit_div_two_pow]
      congr 1
      omega
  conv => rhs; rw [e]
  rw [modN_xor, modN_small ((f * 256 + b) % 2147483648) (Nat.mod_lt _ (by decide))]
  rfl
theorem T_eq (t : Nat) (h : t < 256) : T t = t ^^^ t * 8 := by
  have : ∀ t : Fin 256, T t.val = t.val ^^^ t.val * 8 := by decide +kernel
  exact this ⟨t, h⟩
/-- a byte times x^128 -/
def away (b : Nat) : Nat := win b (List.replicate 16 0)
def gone (b : Nat) : Nat := b <<< 16 ^^^ b <<< 4
def st (f : Nat) : Nat := (f * 256) % 2147483648 ^^^ (f / 8388608 ^^^ f / 8388608 * 8)
def sts : Nat → Nat → Nat
  | 0, f => f
  | n + 1, f => sts n (st f)
theorem st_eq (f : Nat) (h : f < 2147483648) : push f 0 = st f := by
  rw [← step_eq f 0 h (by decide), T_eq _ (by omega), st, Nat.add_zero]
theorem sts_eq (n f : Nat) (h : f < 2147483648) : win f (List.replicate n 0) = sts n f := by
  induction n generalizing f with
  | zero => rfl
  | succ n ih =>
    rw [List.replicate_succ, win_cons]
    rw [show (0 : UInt8).toNat = 0 from rfl, ih _ (push_lt _ _ (by omega) (by decide)), st_eq f h, sts]
theorem away_gone (b : Nat) (h : b < 256) : away b = gone b := by
  have : ∀ b : Fin 256, sts 16 b.val = gone b.val := by decide +kernel
  rw [away, sts_eq 16 b (by omega)]
  exact this ⟨b, h⟩
theorem xor_zeros (l : List UInt8) : xorL l (List.replicate l.length 0) = l := by
  induction l with
  | nil => rfl
  | cons c r ih =>
    show (c ^^^ 0) :: xorL r (List.replicate r.length 0) = _
    rw [ih]
    simp
/-- a window of 16 bytes, one byte on: what is rolled -/
theorem roll_eq (x c : UInt8) (l : List UInt8) (h : l.length = 15) : push (window (x :: l)) c.toNat ^^^ gone x.toNat = window (l ++ [c]) := by
  rw [window, ← win_one 0 (x :: l) c]
  show win 0 (x :: (l ++ [c])) ^^^ _ = _
  have e : l ++ [c] = xorL (l ++ [c]) (List.replicate 16 0) := by
    have := xor_zeros (l ++ [c])
    rw [List.length_append, h] at this
    exact this.symm
  rw [win_cons, push_one _ x.toNat_lt]
  conv => lhs; lhs; rw [show x.toNat = 0 ^^^ x.toNat by simp, e]
  rw [win_xor _ _ _ _ (by simp [h])]
  show window (l ++ [c]) ^^^ away x.toNat ^^^ gone x.toNat = _
  rw [away_gone _ x.toNat_lt, Nat.xor_assoc, Nat.xor_self, Nat.xor_zero]

end Go.Proofs.Ytdlejcokigmcdaa.Rb
