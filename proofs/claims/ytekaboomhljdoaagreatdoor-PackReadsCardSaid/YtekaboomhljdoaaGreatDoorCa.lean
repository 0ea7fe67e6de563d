/-
  Plain mathematics of the checksum: a step of one bit is linear and undone at no loss, so a burst of at most 32 bits is told. No program is spoken of; no condition.
-/
namespace Go.Proofs.YtekaboomhljdoaaGreatDoor.Cr

/-- one bit out -/
def tb (x : Nat) : Nat := if x % 2 = 1 then x / 2 ^^^ 3988292384 else x / 2
def tbs : Nat → Nat → Nat
  | 0, x => x
  | n + 1, x => tb (tbs n x)
def stepB (c : Nat) (b : UInt8) : Nat := tbs 8 (c ^^^ b.toNat)
def regL (r : Nat) (l : List UInt8) : Nat := l.foldl stepB r
def moreL (s : Nat) (l : List UInt8) : Nat := 4294967295 - regL (4294967295 - s) l
def sumL (l : List UInt8) : Nat := moreL 0 l
def leL (s : Nat) : List UInt8 := [(s % 256).toUInt8, (s / 256 % 256).toUInt8, (s / 65536 % 256).toUInt8, (s / 16777216 % 256).toUInt8]
def bytesL (l : List UInt8) : List UInt8 := l ++ leL (sumL l)
def rightL (l : List UInt8) : Bool := decide (4 ≤ l.length) && (l.drop (l.length - 4) == leL (sumL (l.take (l.length - 4))))

theorem xor_half (a b : Nat) : (a ^^^ b) / 2 = a / 2 ^^^ b / 2 := by
  apply Nat.eq_of_testBit_eq
  intro i
  simp only [Nat.testBit_div_two, Nat.testBit_xor]
theorem xor_par (a b : Nat) : (a ^^^ b) % 2 = (a + b) % 2 := by
  have h := @Nat.xor_mod_two_eq_one a b
  by_cases h1 : a % 2 = 1 <;> by_cases h2 : b % 2 = 1 <;> simp only [h1, h2, iff_true, iff_false, not_true_eq_false, not_false_eq_true] at h <;> omega
theorem xor_zero' {a b : Nat} (h : a ^^^ b = 0) : a = b := by
  have h2 : (a ^^^ b) ^^^ b = b := by rw [h, Nat.zero_xor]
  rwa [Nat.xor_assoc, Nat.xor_self, Nat.xor_zero] at h2
theorem tb_xor (a b : Nat) : tb (a ^^^ b) = tb a ^^^ tb b := by
  have hp := xor_par a b
  have hh := xor_half a b
  unfold tb
  by_cases h1 : a % 2 = 1 <;> by_cases h2 : b % 2 = 1
  · rw [if_neg (by omega), if_pos h1, if_pos h2, hh]
    apply Nat.eq_of_testBit_eq; intro i
    simp only [Nat.testBit_xor]
    cases (a / 2).testBit i <;> cases (b / 2).testBit i <;> cases Nat.testBit 3988292384 i <;> rfl
  · rw [if_pos (by omega), if_pos h1, if_neg h2, hh]
    apply Nat.eq_of_testBit_eq; intro i
    simp only [Nat.testBit_xor]
    cases (a / 2).testBit i <;> cases (b / 2).testBit i <;> cases Nat.testBit 3988292384 i <;> rfl
  · rw [if_pos (by omega), if_neg h1, if_pos h2, hh]
    apply Nat.eq_of_testBit_eq; intro i
    simp only [Nat.testBit_xor]
    cases (a / 2).testBit i <;> cases (b / 2).testBit i <;> cases Nat.testBit 3988292384 i <;> rfl
  · rw [if_neg (by omega), if_neg h1, if_neg h2, hh]
theorem tb_zero : tb 0 = 0 := by decide
theorem tbs_zero (n : Nat) : tbs n 0 = 0 := by
  induction n with
  | zero => rfl
  | succ n ih => rw [tbs, ih, tb_zero]
theorem tbs_xor (n a b : Nat) : tbs n (a ^^^ b) = tbs n a ^^^ tbs n b := by
  induction n with
  | zero => rfl
  | succ n ih => simp only [tbs, ih, tb_xor]
theorem tb_two (a : Nat) : tb (2 * a) = a := by
  unfold tb
  rw [if_neg (by omega)]
  omega
theorem tbs_first (n x : Nat) : tbs (n + 1) x = tbs n (tb x) := by
  induction n with
  | zero => rfl
  | succ n ih => rw [tbs, ih, tbs]
theorem tbs_add (n m x : Nat) : tbs (n + m) x = tbs m (tbs n x) := by
  induction m with
  | zero => rfl
  | succ m ih => rw [← Nat.add_assoc, tbs, ih, tbs]
theorem tbs_shift (n a : Nat) : tbs n (a * 2 ^ n) = a := by
  induction n generalizing a with
  | zero => simp [tbs]
  | succ n ih => rw [tbs_first, show a * 2 ^ (n + 1) = 2 * (a * 2 ^ n) by rw [Nat.pow_succ]; ac_rfl, tb_two, ih]
theorem tb_lt (x : Nat) (h : x < 4294967296) : tb x < 4294967296 := by
  unfold tb
  split
  · exact Nat.xor_lt_two_pow (n := 32) (by omega) (by decide)
  · omega
theorem tbs_lt (n x : Nat) (h : x < 4294967296) : tbs n x < 4294967296 := by
  induction n with
  | zero => exact h
  | succ n ih => exact tb_lt _ ih
theorem tb_eq0 (x : Nat) (h : x < 4294967296) (h0 : tb x = 0) : x = 0 := by
  unfold tb at h0
  by_cases h1 : x % 2 = 1
  · rw [if_pos h1] at h0
    have : x / 2 = 3988292384 := xor_zero' h0
    omega
  · rw [if_neg h1] at h0
    omega
theorem tbs_eq0 (n x : Nat) (h : x < 4294967296) (h0 : tbs n x = 0) : x = 0 := by
  induction n with
  | zero => exact h0
  | succ n ih => exact ih (tb_eq0 _ (tbs_lt n x h) h0)
theorem tbs_inj (n x y : Nat) (hx : x < 4294967296) (hy : y < 4294967296) (h : tbs n x = tbs n y) : x = y := by
  have h1 : tbs n (x ^^^ y) = 0 := by rw [tbs_xor, h, Nat.xor_self]
  exact xor_zero' (tbs_eq0 n _ (Nat.xor_lt_two_pow (n := 32) hx hy) h1)

theorem stepB_lt (c : Nat) (b : UInt8) (h : c < 4294967296) : stepB c b < 4294967296 :=
  tbs_lt 8 _ (Nat.xor_lt_two_pow (n := 32) h (Nat.lt_of_lt_of_le b.toNat_lt (by decide)))
theorem regL_lt (l : List UInt8) : ∀ (r : Nat), r < 4294967296 → regL r l < 4294967296 := by
  induction l with
  | nil => intro r h; exact h
  | cons b l ih => intro r h; exact ih _ (stepB_lt r b h)
theorem moreL_lt (s : Nat) (l : List UInt8) : moreL s l < 4294967296 := by unfold moreL; omega
theorem regL_app (r : Nat) (a b : List UInt8) : regL r (a ++ b) = regL (regL r a) b := List.foldl_append
theorem more_sum (a b : List UInt8) : moreL (sumL a) b = sumL (a ++ b) := by
  have h := regL_lt a 4294967295 (by decide)
  simp only [sumL, moreL, Nat.sub_zero, regL_app]
  rw [show 4294967295 - (4294967295 - regL 4294967295 a) = regL 4294967295 a by omega]

/-- linear, byte by byte -/
theorem xor4 (a b c d : Nat) : (a ^^^ b) ^^^ (c ^^^ d) = (a ^^^ c) ^^^ (b ^^^ d) := by ac_rfl
theorem stepB_xor (r s : Nat) (a b : UInt8) : stepB (r ^^^ s) (a ^^^ b) = stepB r a ^^^ stepB s b := by
  unfold stepB
  rw [UInt8.toNat_xor, xor4, tbs_xor]
theorem regL_xor (a : List UInt8) : ∀ (b : List UInt8) (r s : Nat), a.length = b.length → regL (r ^^^ s) (List.zipWith (· ^^^ ·) a b) = regL r a ^^^ regL s b := by
  induction a with
  | nil => intro b r s h; cases b with
    | nil => rfl
    | cons _ _ => simp at h
  | cons x a ih =>
    intro b r s h
    cases b with
    | nil => simp at h
    | cons y b =>
      have := ih b (stepB r x) (stepB s y) (by simpa using h)
      simpa [regL, ← stepB_xor] using this
theorem not_xor (a : Nat) (h : a < 4294967296) : 4294967295 - a = 4294967295 ^^^ a := by
  apply Nat.eq_of_testBit_eq
  intro i
  have h2 := Nat.testBit_two_pow_sub_succ (n := 32) (x := a) (by omega) i
  rw [show (2 : Nat) ^ 32 - (a + 1) = 4294967295 - a by omega] at h2
  rw [h2, Nat.testBit_xor]
  by_cases hi : i < 32
  · have : Nat.testBit 4294967295 i = true := by
      have := Nat.testBit_two_pow_sub_one 32 i
      simpa [hi] using this
    simp [hi, this]
  · have h3 : Nat.testBit 4294967295 i = false := by
      have := Nat.testBit_two_pow_sub_one 32 i
      simpa [hi] using this
    have h4 : a.testBit i = false := Nat.testBit_lt_two_pow (Nat.lt_of_lt_of_le h (Nat.pow_le_pow_right (n := 2) (by decide) (show 32 ≤ i by omega)))
    simp [hi, h3, h4]
/-- three texts of one length -/
theorem sums3 (a b c : List UInt8) (h1 : a.length = b.length) (h2 : a.length = c.length) :
    sumL (List.zipWith (· ^^^ ·) (List.zipWith (· ^^^ ·) a b) c) = sumL a ^^^ sumL b ^^^ sumL c := by
  have e := regL_xor (List.zipWith (· ^^^ ·) a b) c 0 4294967295 (by simp; omega)
  have e2 := regL_xor a b 4294967295 4294967295 h1
  rw [Nat.xor_self] at e2
  rw [Nat.zero_xor, e2] at e
  have la := regL_lt a 4294967295 (by decide)
  have lb := regL_lt b 4294967295 (by decide)
  have lc := regL_lt c 4294967295 (by decide)
  simp only [sumL, moreL, Nat.sub_zero, e]
  rw [not_xor _ la, not_xor _ lb, not_xor _ lc, not_xor _ (Nat.xor_lt_two_pow (n := 32) (Nat.xor_lt_two_pow (n := 32) la lb) lc)]
  rw [show (4294967295 ^^^ regL 4294967295 a) ^^^ (4294967295 ^^^ regL 4294967295 b) = regL 4294967295 a ^^^ regL 4294967295 b by
    rw [xor4, Nat.xor_self, Nat.zero_xor]]
  ac_rfl

/-- bits, one by one -/
def procN (f : Nat → Bool) : Nat → Nat → Nat
  | 0, r => r
  | n + 1, r => tb (procN f n r ^^^ (f n).toNat)
def valN (f : Nat → Bool) (n : Nat) : Nat → Nat
  | 0 => 0
  | m + 1 => valN f n m ^^^ (f (n + m)).toNat * 2 ^ m
theorem bit_shift (b : Bool) (m i : Nat) : (b.toNat * 2 ^ m).testBit i = (b && decide (i = m)) := by
  cases b with
  | false => simp
  | true =>
    rw [Bool.toNat_true, Nat.one_mul, Nat.testBit_two_pow]
    simp [eq_comm]
theorem valN_bit (f : Nat → Bool) (n m i : Nat) : (valN f n m).testBit i = (decide (i < m) && f (n + i)) := by
  induction m with
  | zero => simp [valN]
  | succ m ih =>
    rw [valN, Nat.testBit_xor, ih, bit_shift]
    by_cases h : i = m
    · subst h; simp
    · by_cases h2 : i < m
      · simp [h, h2, show i < m + 1 by omega]
      · simp [h, h2, show ¬ i < m + 1 by omega]
theorem valN_lt (f : Nat → Bool) (n m : Nat) : valN f n m < 2 ^ m := by
  apply Nat.lt_pow_two_of_testBit
  intro i hi
  rw [valN_bit]
  simp [show ¬ i < m by omega]
theorem procN_add (f : Nat → Bool) (n m r : Nat) : procN f (n + m) r = tbs m (procN f n r ^^^ valN f n m) := by
  induction m with
  | zero => simp [valN, tbs]
  | succ m ih =>
    rw [← Nat.add_assoc, procN, ih, valN, tbs, ← Nat.xor_assoc, tbs_xor m _ ((f (n + m)).toNat * 2 ^ m), tbs_shift]
theorem procN_xor (f g : Nat → Bool) (n r s : Nat) : procN (fun k => (f k).xor (g k)) n (r ^^^ s) = procN f n r ^^^ procN g n s := by
  induction n with
  | zero => rfl
  | succ n ih =>
    simp only [procN, ih]
    rw [← tb_xor]
    congr 1
    have : ((f n).xor (g n)).toNat = (f n).toNat ^^^ (g n).toNat := by cases f n <;> cases g n <;> rfl
    rw [this]
    ac_rfl
theorem procN_congr (f g : Nat → Bool) (n r : Nat) (h : ∀ k, k < n → f k = g k) : procN f n r = procN g n r := by
  induction n with
  | zero => rfl
  | succ n ih => rw [procN, procN, ih (fun k hk => h k (by omega)), h n (by omega)]

/-- bit k of bytes -/
def bitAt (l : List UInt8) (k : Nat) : Bool := (l.getD (k / 8) 0).toNat.testBit (k % 8)
theorem byte_val (f : Nat → Bool) (n : Nat) (c : UInt8) (h : ∀ i, i < 8 → f (n + i) = c.toNat.testBit i) : valN f n 8 = c.toNat := by
  apply Nat.eq_of_testBit_eq
  intro i
  rw [valN_bit]
  by_cases hi : i < 8
  · simp [hi, h i hi]
  · have : c.toNat.testBit i = false := Nat.testBit_lt_two_pow (Nat.lt_of_lt_of_le c.toNat_lt (Nat.pow_le_pow_right (n := 2) (by decide) (show 8 ≤ i by omega)))
    simp [hi, this]
theorem snoc_cases (l : List UInt8) (n : Nat) (h : l.length = n + 1) : ∃ m c, l = m ++ [c] ∧ m.length = n :=
  ⟨l.dropLast, l.getLast (by intro h0; rw [h0] at h; simp at h), by rw [List.dropLast_concat_getLast], by simp; omega⟩
theorem regL_bits (n : Nat) : ∀ (l : List UInt8) (r : Nat), l.length = n → regL r l = procN (bitAt l) (8 * n) r := by
  induction n with
  | zero =>
    intro l r h
    obtain rfl := List.eq_nil_of_length_eq_zero h
    rfl
  | succ n ih =>
    intro l r h
    obtain ⟨m, c, rfl, hm⟩ := snoc_cases l n h
    rw [regL_app, ih m r hm, show 8 * (n + 1) = 8 * n + 8 by omega, procN_add]
    have e1 : valN (bitAt (m ++ [c])) (8 * n) 8 = c.toNat := byte_val _ _ _ fun i hi => by
      unfold bitAt
      rw [show (8 * n + i) / 8 = n by omega, show (8 * n + i) % 8 = i by omega, List.getD_eq_getElem?_getD, List.getElem?_append_right (by omega), hm]
      simp
    have e2 : procN (bitAt (m ++ [c])) (8 * n) r = procN (bitAt m) (8 * n) r := procN_congr _ _ _ _ fun k hk => by
      unfold bitAt
      rw [List.getD_eq_getElem?_getD, List.getD_eq_getElem?_getD, List.getElem?_append_left (by omega)]
    rw [e1, e2]
    rfl
theorem procN_false (g : Nat → Bool) (n m r : Nat) (h : ∀ k, n ≤ k → k < n + m → g k = false) : procN g (n + m) r = tbs m (procN g n r) := by
  rw [procN_add]
  have : valN g n m = 0 := by
    apply Nat.eq_of_testBit_eq
    intro i
    rw [valN_bit]
    by_cases hi : i < m
    · simp [h (n + i) (by omega) (by omega)]
    · simp [hi]
  rw [this, Nat.xor_zero]
/-- a burst of at most 32 bits is told -/
theorem burst (g : Nat → Bool) (a m N : Nat) (hm : m ≤ 32) (hN : a + m ≤ N) (h : ∀ k, k < N → g k = true → a ≤ k ∧ k < a + m) (h0 : procN g N 0 = 0) : ∀ k, k < N → g k = false := by
  have hf : ∀ k, k < N → ¬ (a ≤ k ∧ k < a + m) → g k = false := fun k hk hn => by
    cases hg : g k with
    | false => rfl
    | true => exact absurd (h k hk hg) hn
  have e1 := procN_false g 0 a 0 (fun k _ hk => hf k (by omega) (by omega))
  rw [Nat.zero_add] at e1
  have e2 : procN g a 0 = 0 := by rw [e1]; exact tbs_zero a
  have e3 := procN_add g a m 0
  rw [e2, Nat.zero_xor] at e3
  have e4 := procN_false g (a + m) (N - (a + m)) 0 (fun k h1 h2 => hf k (by omega) (by omega))
  rw [show a + m + (N - (a + m)) = N by omega, h0, e3] at e4
  have hv : valN g a m < 4294967296 := Nat.lt_of_lt_of_le (valN_lt g a m) (Nat.pow_le_pow_right (n := 2) (by decide) hm)
  have z1 := tbs_eq0 _ _ (tbs_lt m _ hv) e4.symm
  have z2 := tbs_eq0 _ _ hv z1
  intro k hk
  by_cases hin : a ≤ k ∧ k < a + m
  · have := valN_bit g a m (k - a)
    rw [z2, show a + (k - a) = k by omega] at this
    simpa [show k - a < m by omega] using this.symm
  · exact hf k hk hin

/-- right bytes are those that leave one and the same rest -/
def leVal (l : List UInt8) : Nat := (l.getD 0 0).toNat + (l.getD 1 0).toNat * 256 + (l.getD 2 0).toNat * 65536 + (l.getD 3 0).toNat * 16777216
theorem le_val (s : Nat) (h : s < 4294967296) : leVal (leL s) = s := by
  simp [leVal, leL]
  omega
theorem u8_of (n : Nat) (c : UInt8) (h : c.toNat = n) : n.toUInt8 = c := by
  apply UInt8.toNat_inj.1
  have := c.toNat_lt
  simp
  omega
theorem val_le (l : List UInt8) (h : l.length = 4) : leL (leVal l) = l := by
  obtain ⟨a, l, rfl⟩ := List.exists_cons_of_length_eq_add_one h
  obtain ⟨b, l, rfl⟩ := List.exists_cons_of_length_eq_add_one (by simpa using h)
  obtain ⟨c, l, rfl⟩ := List.exists_cons_of_length_eq_add_one (by simpa using h)
  obtain ⟨d, l, rfl⟩ := List.exists_cons_of_length_eq_add_one (by simpa using h)
  obtain rfl : l = [] := List.eq_nil_of_length_eq_zero (by simpa using h)
  have ha := a.toNat_lt
  have hb := b.toNat_lt
  have hc := c.toNat_lt
  have hd := d.toNat_lt
  simp only [leL, leVal, List.getD_cons_zero, List.getD_cons_succ]
  rw [u8_of _ a (by omega), u8_of _ b (by omega), u8_of _ c (by omega), u8_of _ d (by omega)]
theorem leVal_lt (l : List UInt8) : leVal l < 4294967296 := by
  have ha := (l.getD 0 0).toNat_lt
  have hb := (l.getD 1 0).toNat_lt
  have hc := (l.getD 2 0).toNat_lt
  have hd := (l.getD 3 0).toNat_lt
  unfold leVal
  omega
theorem add_xor (v c m : Nat) (hv : v < 2 ^ m) : v ^^^ c * 2 ^ m = v + c * 2 ^ m := by
  have h := Nat.two_pow_add_eq_or_of_lt hv c
  rw [Nat.mul_comm c, Nat.add_comm, h]
  apply Nat.eq_of_testBit_eq
  intro i
  rw [Nat.testBit_xor, Nat.testBit_or, Nat.testBit_two_pow_mul]
  by_cases hi : m ≤ i
  · have : v.testBit i = false := Nat.testBit_lt_two_pow (Nat.lt_of_lt_of_le hv (Nat.pow_le_pow_right (n := 2) (by decide) hi))
    simp [this]
  · simp [hi]
theorem four (r : Nat) (l : List UInt8) (h : l.length = 4) : regL r l = tbs 32 (r ^^^ leVal l) := by
  obtain ⟨a, l, rfl⟩ := List.exists_cons_of_length_eq_add_one h
  obtain ⟨b, l, rfl⟩ := List.exists_cons_of_length_eq_add_one (by simpa using h)
  obtain ⟨c, l, rfl⟩ := List.exists_cons_of_length_eq_add_one (by simpa using h)
  obtain ⟨d, l, rfl⟩ := List.exists_cons_of_length_eq_add_one (by simpa using h)
  obtain rfl : l = [] := List.eq_nil_of_length_eq_zero (by simpa using h)
  have ha := a.toNat_lt
  have hb := b.toNat_lt
  have hc := c.toNat_lt
  have hd := d.toNat_lt
  simp only [leVal, List.getD_cons_zero, List.getD_cons_succ]
  rw [show (65536 : Nat) = 2 ^ 16 by rfl, show (16777216 : Nat) = 2 ^ 24 by rfl, show (256 : Nat) = 2 ^ 8 by rfl]
  rw [← add_xor _ d.toNat 24 (by omega), ← add_xor _ c.toNat 16 (by omega), ← add_xor _ b.toNat 8 (by omega)]
  show stepB (stepB (stepB (stepB r a) b) c) d = _
  unfold stepB
  have h1 := tbs_xor
  have h2 := fun n m x => (tbs_add n m x).symm
  have h3 := tbs_shift
  obtain ⟨T, hT⟩ : ∃ T, T = tbs := ⟨_, rfl⟩
  rw [← hT] at h1 h2 h3 ⊢
  clear hT
  have e1 : T 32 (b.toNat * 2 ^ 8) = T 24 b.toNat := by rw [show 32 = 8 + 24 by rfl, ← h2, h3]
  have e2 : T 32 (c.toNat * 2 ^ 16) = T 16 c.toNat := by rw [show 32 = 16 + 16 by rfl, ← h2, h3]
  have e3 : T 32 (d.toNat * 2 ^ 24) = T 8 d.toNat := by rw [show 32 = 24 + 8 by rfl, ← h2, h3]
  simp only [h1, e1, e2, e3, h2, Nat.reduceAdd]
  simp only [Nat.xor_assoc]
theorem split4 (l : List UInt8) (h : 4 ≤ l.length) : (l.drop (l.length - 4)).length = 4 := by simp; omega
theorem right_rest (l : List UInt8) (h : 4 ≤ l.length) : rightL l = decide (regL 4294967295 l = tbs 32 4294967295) := by
  have h4 := split4 l h
  obtain ⟨t, ht⟩ : ∃ t, t = l.take (l.length - 4) := ⟨_, rfl⟩
  obtain ⟨d, hd⟩ : ∃ d, d = l.drop (l.length - 4) := ⟨_, rfl⟩
  have hl : l = t ++ d := by rw [ht, hd, List.take_append_drop]
  have hr : rightL l = (d == leL (sumL t)) := by
    unfold rightL
    rw [← ht, ← hd]
    simp [h]
  rw [← hd] at h4
  rw [hr, hl, regL_app, four _ d h4]
  have lt := regL_lt t 4294967295 (by decide)
  have hs : sumL t = 4294967295 ^^^ regL 4294967295 t := by rw [← not_xor _ lt]; rfl
  have ld := leVal_lt d
  have hs2 : sumL t < 4294967296 := moreL_lt 0 t
  by_cases he : d = leL (sumL t)
  · have e : leVal d = sumL t := by rw [he, le_val _ hs2]
    rw [e, hs, ← Nat.xor_assoc, Nat.xor_comm _ 4294967295, Nat.xor_assoc, Nat.xor_self, Nat.xor_zero, ← hs]
    simp [he]
  · have hn : ¬ tbs 32 (regL 4294967295 t ^^^ leVal d) = tbs 32 4294967295 := fun hc => by
      have e := tbs_inj 32 _ _ (Nat.xor_lt_two_pow (n := 32) lt ld) (by decide) hc
      have e2 : leVal d = sumL t := by
        have h1 : regL 4294967295 t ^^^ (regL 4294967295 t ^^^ leVal d) = leVal d := by rw [← Nat.xor_assoc, Nat.xor_self, Nat.zero_xor]
        rw [hs, ← h1, e, Nat.xor_comm]
      exact he (by rw [← e2, val_le d h4])
    simp [he, hn]
theorem leL_len (s : Nat) : (leL s).length = 4 := rfl
theorem bytesL_len (l : List UInt8) : (bytesL l).length = l.length + 4 := by simp [bytesL, leL_len]
theorem right_bytes (l : List UInt8) : rightL (bytesL l) = true := by
  unfold rightL
  rw [bytesL_len, show l.length + 4 - 4 = l.length by omega]
  simp [bytesL]
/-- the other spelling -/
theorem right_ref (l : List UInt8) (h : 4 ≤ l.length) : rightL l = (bytesL (l.take (l.length - 4)) == l) := by
  unfold rightL bytesL
  obtain ⟨t, ht⟩ : ∃ t, t = l.take (l.length - 4) := ⟨_, rfl⟩
  obtain ⟨d, hd⟩ : ∃ d, d = l.drop (l.length - 4) := ⟨_, rfl⟩
  have hl : l = t ++ d := by rw [ht, hd, List.take_append_drop]
  rw [← ht, ← hd]
  by_cases he : d = leL (sumL t)
  · have : t ++ leL (sumL t) = l := by rw [hl, ← he]
    rw [this, decide_eq_true h, beq_iff_eq.2 he, beq_iff_eq.2 rfl]
    rfl
  · have : ¬ t ++ leL (sumL t) = l := fun hc => he (by rw [hl] at hc; exact (List.append_cancel_left hc).symm)
    rw [beq_eq_false_iff_ne.2 he, beq_eq_false_iff_ne.2 this, Bool.and_false]

/-- bits turned -/
def flip (l : List UInt8) (k : Nat) : List UInt8 := l.set (k / 8) (l.getD (k / 8) 0 ^^^ (2 ^ (k % 8)).toUInt8)
def flipN (a bits : Nat) : Nat → List UInt8 → List UInt8
  | 0, l => l
  | i + 1, l => if bits / 2 ^ i % 2 = 1 then flip (flipN a bits i l) (a + i) else flipN a bits i l
theorem flip_len (l : List UInt8) (k : Nat) : (flip l k).length = l.length := by simp [flip]
theorem flipN_len (a bits i : Nat) (l : List UInt8) : (flipN a bits i l).length = l.length := by
  induction i with
  | zero => rfl
  | succ i ih =>
    rw [flipN]
    split
    · rw [flip_len, ih]
    · exact ih
theorem pow8 (s : Nat) (h : s < 8) : ((2 ^ s : Nat).toUInt8).toNat = 2 ^ s := by
  have : 2 ^ s < 2 ^ 8 := Nat.pow_lt_pow_right (by decide) h
  simp
  omega
theorem flip_bit (l : List UInt8) (p k : Nat) (hp : p < 8 * l.length) : bitAt (flip l p) k = (bitAt l k).xor (decide (k = p)) := by
  unfold bitAt flip
  by_cases hb : k / 8 = p / 8
  · rw [hb, List.getD_eq_getElem?_getD, List.getElem?_set_self (by omega), Option.getD_some, UInt8.toNat_xor, Nat.testBit_xor, pow8 _ (by omega), Nat.testBit_two_pow]
    congr 1
    by_cases h : k = p
    · subst h; simp
    · rw [show decide (k = p) = false by simpa using h]
      simp
      omega
  · rw [List.getD_eq_getElem?_getD, List.getElem?_set_ne (fun h => hb h.symm), ← List.getD_eq_getElem?_getD, decide_eq_false (p := k = p) (fun h => hb (by rw [h]))]
    simp
theorem flipN_bit (a bits : Nat) (l : List UInt8) (i k : Nat) (hi : a + i ≤ 8 * l.length) : bitAt (flipN a bits i l) k = (bitAt l k).xor (decide (a ≤ k ∧ k < a + i) && bits.testBit (k - a)) := by
  induction i with
  | zero =>
    rw [flipN, show decide (a ≤ k ∧ k < a + 0) = false by simp]
    simp
  | succ i ih =>
    have ih := ih (by omega)
    have ht : bits.testBit i = decide (bits / 2 ^ i % 2 = 1) := Nat.testBit_eq_decide_div_mod_eq
    rw [flipN]
    by_cases hk : k = a + i
    · subst hk
      have d1 : decide (a ≤ a + i ∧ a + i < a + i) = false := by simp
      have d2 : decide (a ≤ a + i ∧ a + i < a + (i + 1)) = true := by simp
      rw [d1, Bool.false_and, Bool.xor_false] at ih
      rw [d2, show a + i - a = i by omega, ht]
      split
      · next h => rw [flip_bit _ _ _ (by rw [flipN_len]; omega), ih]; simp [h]
      · next h => rw [ih]; simp [h]
    · have hd : decide (a ≤ k ∧ k < a + (i + 1)) = decide (a ≤ k ∧ k < a + i) := by
        congr 1
        simp only [eq_iff_iff]
        omega
      rw [hd, ← ih]
      split
      · rw [flip_bit _ _ _ (by rw [flipN_len]; omega)]
        simp [hk]
      · rfl
theorem bits_ext (l m : List UInt8) (hl : l.length = m.length) (h : ∀ k, k < 8 * l.length → bitAt l k = bitAt m k) : l = m := by
  apply List.ext_getElem hl
  intro j h1 h2
  apply UInt8.toNat_inj.1
  apply Nat.eq_of_testBit_eq
  intro i
  by_cases hi : i < 8
  · have := h (8 * j + i) (by omega)
    unfold bitAt at this
    rw [show (8 * j + i) / 8 = j by omega, show (8 * j + i) % 8 = i by omega, List.getD_eq_getElem?_getD, List.getD_eq_getElem?_getD, List.getElem?_eq_getElem h1, List.getElem?_eq_getElem h2] at this
    exact this
  · have e : ∀ c : UInt8, c.toNat.testBit i = false := fun c => Nat.testBit_lt_two_pow (Nat.lt_of_lt_of_le c.toNat_lt (Nat.pow_le_pow_right (n := 2) (by decide) (show 8 ≤ i by omega)))
    rw [e, e]
/-- THE BURST, of bytes and their sum -/
theorem tells (b : List UInt8) (a bits m : Nat) (hm : m ≤ 32) (hN : a + m ≤ 8 * (bytesL b).length) :
    rightL (flipN a bits m (bytesL b)) = decide (bytesL b = flipN a bits m (bytesL b)) := by
  obtain ⟨x, hx⟩ : ∃ x, x = bytesL b := ⟨_, rfl⟩
  have h4 : 4 ≤ x.length := by rw [hx, bytesL_len]; omega
  have hr := right_rest x h4
  rw [hx, right_bytes, ← hx] at hr
  rw [← hx] at hN ⊢
  have hrx : regL 4294967295 x = tbs 32 4294967295 := of_decide_eq_true hr.symm
  obtain ⟨y, hy⟩ : ∃ y, y = flipN a bits m x := ⟨_, rfl⟩
  have hyl : y.length = x.length := by rw [hy, flipN_len]
  have hb : ∀ k, bitAt y k = (bitAt x k).xor (decide (a ≤ k ∧ k < a + m) && bits.testBit (k - a)) := fun k => by rw [hy]; exact flipN_bit a bits x m k hN
  rw [← hy, right_rest y (by omega)]
  rw [regL_bits x.length y _ hyl, procN_congr _ (fun k => (bitAt x k).xor (decide (a ≤ k ∧ k < a + m) && bits.testBit (k - a))) _ _ (fun k _ => hb k)]
  have hx2 := procN_xor (bitAt x) (fun k => decide (a ≤ k ∧ k < a + m) && bits.testBit (k - a)) (8 * x.length) 4294967295 0
  rw [Nat.xor_zero, ← regL_bits x.length x _ rfl, hrx] at hx2
  rw [hx2]
  by_cases h0 : procN (fun k => decide (a ≤ k ∧ k < a + m) && bits.testBit (k - a)) (8 * x.length) 0 = 0
  · have hz := burst _ a m (8 * x.length) hm hN (fun k _ hk => by simp at hk; exact hk.1) h0
    have hxy : x = y := bits_ext x y hyl.symm (fun k hk => by rw [hb k, hz k hk]; simp)
    rw [h0, Nat.xor_zero, decide_eq_true rfl, decide_eq_true hxy]
  · have hxy : ¬ x = y := fun hc => h0 (by
      have hz : ∀ k, (decide (a ≤ k ∧ k < a + m) && bits.testBit (k - a)) = false := fun k => by
        have := hb k
        rw [← hc] at this
        generalize (decide (a ≤ k ∧ k < a + m) && bits.testBit (k - a)) = G at this ⊢
        generalize bitAt x k = B at this
        cases B <;> cases G <;> simp at this ⊢
      have e := procN_false (fun k => decide (a ≤ k ∧ k < a + m) && bits.testBit (k - a)) 0 (8 * x.length) 0 (fun k _ _ => hz k)
      rw [Nat.zero_add] at e
      rw [e]
      exact tbs_zero _)
    rw [decide_eq_false hxy]
    simp only [decide_eq_false_iff_not]
    intro hc
    apply h0
    have : tbs 32 4294967295 ^^^ (tbs 32 4294967295 ^^^ procN (fun k => decide (a ≤ k ∧ k < a + m) && bits.testBit (k - a)) (8 * x.length) 0) = 0 := by rw [hc, Nat.xor_self]
    rwa [← Nat.xor_assoc, Nat.xor_self, Nat.zero_xor] at this

end Go.Proofs.YtekaboomhljdoaaGreatDoor.Cr
