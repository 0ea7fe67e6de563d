/-
  A superblock's bytes as plain mathematics: eight bytes of a number, the bits of a row of packs, what a sector says, which of two counts. No condition; of the program nothing is spoken of.
-/
import Derived.Test.YtlpbkjonicjccaaDoorCa
import Derived.Test.YtlpbkjonicjccaaDoorPk
import Derived.Test.YtlpbkjonicjccaaDoorKg
namespace Go.Proofs.YtlpbkjonicjccaaDoor.Sh

/-- the order of ints -/
def ltI (a b : Int) : Bool := decide (a < b)
theorem ords_I : Ords ltI := by
  constructor <;> simp only [ltI, decide_eq_true_eq, decide_eq_false_iff_not] <;> intros <;> omega

/-- a number's eight bytes, the lowest first -/
def le8 (x : Nat) : List UInt8 := (List.range 8).map fun i => (x / 2 ^ (8 * i) % 256).toUInt8
theorem le8_len (x : Nat) : (le8 x).length = 8 := by simp [le8]
theorem le8_get (x i : Nat) (h : i < 8) : (le8 x)[i]'(by rw [le8_len]; exact h) = (x / 2 ^ (8 * i) % 256).toUInt8 := by simp [le8]
theorem le8_take (x i : Nat) (h : i < 8) : (le8 x).take (i + 1) = (le8 x).take i ++ [(x / 2 ^ (8 * i) % 256).toUInt8] := by
  rw [List.take_succ_eq_append_getElem (by rw [le8_len]; exact h), le8_get x i h]
/-- the number whose bytes these are -/
def numL : List UInt8 → Nat
  | [] => 0
  | c :: l => c.toNat + 256 * numL l
theorem numL_app (l m : List UInt8) : numL (l ++ m) = numL l + 256 ^ l.length * numL m := by
  induction l with
  | nil => simp [numL]
  | cons c l ih =>
    simp only [List.cons_append, numL, ih, List.length_cons, Nat.pow_succ]
    rw [Nat.mul_add, ← Nat.mul_assoc, Nat.mul_comm (256 ^ l.length) 256]
    omega
theorem numL_lt (l : List UInt8) : numL l < 256 ^ l.length := by
  induction l with
  | nil => simp [numL]
  | cons c l ih =>
    have := c.toNat_lt
    simp only [numL, List.length_cons, Nat.pow_succ]
    omega
theorem numL_lt8 (l : List UInt8) (h : l.length = 8) : numL l < 18446744073709551616 := by
  have := numL_lt l
  rw [h] at this
  exact this
theorem u8_mod (x : Nat) : (x % 256).toUInt8.toNat = x % 256 := by simp
theorem numL_le8 (x : Nat) (h : x < 18446744073709551616) : numL (le8 x) = x := by
  have e : le8 x = [(x % 256).toUInt8, (x / 256 % 256).toUInt8, (x / 65536 % 256).toUInt8, (x / 16777216 % 256).toUInt8, (x / 4294967296 % 256).toUInt8, (x / 1099511627776 % 256).toUInt8, (x / 281474976710656 % 256).toUInt8, (x / 72057594037927936 % 256).toUInt8] := by
    simp [le8, List.range_succ]
  rw [e]
  simp only [numL, u8_mod]
  omega
theorem le8_numL (l : List UInt8) (h : l.length = 8) : le8 (numL l) = l := by
  match l, h with
  | [a, b, c, d, e, f, g, i], _ =>
    have ha := a.toNat_lt; have hb := b.toNat_lt; have hc := c.toNat_lt; have hd := d.toNat_lt; have he := e.toNat_lt; have hf := f.toNat_lt; have hg := g.toNat_lt; have hi := i.toNat_lt
    simp only [numL, le8, List.range_succ, List.range_zero, List.nil_append, List.map_cons, List.map_nil, List.cons_append]
    have u : ∀ (x : Nat) (y : UInt8), x % 256 = y.toNat → (x % 256).toUInt8 = y := fun x y hx => UInt8.toNat_inj.1 (by rw [u8_mod, hx])
    have e8 : ∀ k (_ : k < 8), 2 ^ (8 * k) = ([1, 256, 65536, 16777216, 4294967296, 1099511627776, 281474976710656, 72057594037927936] : List Nat).getD k 0 := by decide
    rw [e8 0 (by decide), e8 1 (by decide), e8 2 (by decide), e8 3 (by decide), e8 4 (by decide), e8 5 (by decide), e8 6 (by decide), e8 7 (by decide)]
    simp only [List.getD_cons_zero, List.getD_cons_succ]
    rw [u _ a (by omega), u _ b (by omega), u _ c (by omega), u _ d (by omega), u _ e (by omega), u _ f (by omega), u _ g (by omega), u _ i (by omega)]

/-- packs that may be from least on: rising, each once -/
def riseL : Int → List Int → Bool
  | _, [] => true
  | least, q :: p => !decide (q < least) && decide (q < 62) && riseL (q + 1) p
theorem riseL_cons (least q : Int) (p : List Int) : riseL least (q :: p) = true ↔ least ≤ q ∧ q < 62 ∧ riseL (q + 1) p = true := by
  simp [riseL, and_assoc]
theorem riseL_low (p : List Int) : ∀ a b : Int, a ≤ b → riseL b p = true → riseL a p = true := by
  cases p with
  | nil => intros; rfl
  | cons q p =>
    intro a b hab h
    rw [riseL_cons] at h ⊢
    exact ⟨by omega, h.2⟩
theorem riseL_su (p : List Int) : ∀ least : Int, riseL least p = true ↔ SU ltI p ∧ ∀ q ∈ p, least ≤ q ∧ q < 62 := by
  induction p with
  | nil => intro least; simp [riseL, su_nil]
  | cons q p ih =>
    intro least
    rw [riseL_cons, ih, su_cons]
    constructor
    · rintro ⟨h1, h2, h3, h4⟩
      refine ⟨⟨fun x hx => by have := h4 x hx; simp [ltI]; omega, h3⟩, fun x hx => ?_⟩
      rcases List.mem_cons.1 hx with rfl | hx
      · exact ⟨h1, h2⟩
      · have := h4 x hx
        exact ⟨by omega, this.2⟩
    · rintro ⟨⟨h1, h2⟩, h3⟩
      have := h3 q (List.mem_cons_self)
      refine ⟨this.1, this.2, h2, fun x hx => ?_⟩
      have a1 := h1 x hx
      have a2 := h3 x (List.mem_cons_of_mem _ hx)
      simp [ltI] at a1
      exact ⟨by omega, a2.2⟩
/-- a number of which each pack has a bit -/
def orF (x : Nat) (q : Int) : Nat := x ||| 2 ^ q.toNat
def orL (p : List Int) : Nat := p.foldl orF 0
theorem orL_take (p : List Int) (i : Nat) (h : i < p.length) : orL (p.take (i + 1)) = orL (p.take i) ||| 2 ^ (p[i]).toNat := by
  rw [List.take_succ_eq_append_getElem h, orL, List.foldl_append]
  rfl
theorem orL_bit (p : List Int) (i : Nat) : ∀ x : Nat, (p.foldl orF x).testBit i = (x.testBit i || p.any fun q => decide (q.toNat = i)) := by
  induction p with
  | nil => intro x; simp
  | cons q p ih =>
    intro x
    rw [List.foldl_cons, ih, orF, Nat.testBit_or, Nat.testBit_two_pow, List.any_cons, Bool.or_assoc]
theorem orL_has (p : List Int) (i : Nat) : (orL p).testBit i = p.any fun q => decide (q.toNat = i) := by
  rw [orL, orL_bit]
  simp
theorem orL_lt (p : List Int) (h : ∀ q ∈ p, 0 ≤ q ∧ q < 62) : orL p < 4611686018427387904 := by
  refine Nat.lt_pow_two_of_testBit (n := 62) _ fun i hi => ?_
  rw [orL_has, List.any_eq_false]
  intro q hq
  have := h q hq
  simp
  omega
/-- the packs that have their bit in a number -/
def packsL (x : Nat) : List Int := ((List.range 62).filter fun i => x.testBit i).map fun (i : Nat) => (i : Int)
def packsTo (x n : Nat) : List Int := ((List.range n).filter fun i => x.testBit i).map fun (i : Nat) => (i : Int)
theorem packsTo_succ (x n : Nat) : packsTo x (n + 1) = if x.testBit n then packsTo x n ++ [(n : Int)] else packsTo x n := by
  rw [packsTo, List.range_succ, List.filter_append, List.map_append]
  by_cases h : x.testBit n
  · simp [h, packsTo]
  · simp [h, packsTo]
theorem packsTo_len (x n : Nat) : (packsTo x n).length ≤ n := by
  rw [packsTo, List.length_map]
  exact Nat.le_trans (List.length_filter_le _ _) (by simp)
theorem mem_packs (x : Nat) (q : Int) : q ∈ packsL x ↔ 0 ≤ q ∧ q < 62 ∧ x.testBit q.toNat = true := by
  simp only [packsL, List.mem_map, List.mem_filter, List.mem_range]
  constructor
  · rintro ⟨i, ⟨h1, h2⟩, rfl⟩
    exact ⟨by omega, by omega, by simpa using h2⟩
  · rintro ⟨h1, h2, h3⟩
    exact ⟨q.toNat, ⟨by omega, h3⟩, by omega⟩
theorem su_packs (x : Nat) : SU ltI (packsL x) := by
  unfold SU packsL
  rw [List.pairwise_map]
  refine List.Pairwise.filter _ ?_
  refine List.Pairwise.imp ?_ (List.pairwise_lt_range)
  intro a b h
  simp [ltI]
  exact h
theorem rise_packs (x : Nat) : riseL 0 (packsL x) = true := by
  rw [riseL_su]
  exact ⟨su_packs x, fun q hq => by have := (mem_packs x q).1 hq; exact ⟨this.1, this.2.1⟩⟩
theorem packs_or (p : List Int) (h : riseL 0 p = true) : packsL (orL p) = p := by
  rw [riseL_su] at h
  refine su_unique ltI ords_I _ _ (su_packs _) h.1 fun q => ?_
  rw [mem_packs, orL_has, List.any_eq_true]
  constructor
  · rintro ⟨h1, h2, y, hy, h3⟩
    have := h.2 y hy
    simp at h3
    rwa [show q = y by omega]
  · intro hq
    have := h.2 q hq
    exact ⟨this.1, this.2, q, hq, by simp⟩
theorem or_packs (x : Nat) (h : x < 4611686018427387904) : orL (packsL x) = x := by
  apply Nat.eq_of_testBit_eq
  intro i
  rw [orL_has]
  by_cases hi : i < 62
  · by_cases hx : x.testBit i = true
    · rw [hx, List.any_eq_true]
      exact ⟨(i : Int), (mem_packs x i).2 ⟨by omega, by omega, by simpa using hx⟩, by simp⟩
    · rw [Bool.not_eq_true] at hx
      rw [hx, List.any_eq_false]
      intro q hq
      have := (mem_packs x q).1 hq
      simp
      intro h0
      rw [h0] at this
      rw [this.2.2] at hx
      cases hx
  · rw [Nat.testBit_lt_two_pow (show x < 2 ^ i from Nat.lt_of_lt_of_le h (Nat.pow_le_pow_right (n := 2) (by decide) (show 62 ≤ i by omega))), List.any_eq_false]
    intro q hq
    have := (mem_packs x q).1 hq
    simp
    omega
theorem or_packs_lt (x : Nat) : orL (packsL x) < 4611686018427387904 := orL_lt _ fun q hq => by have := (mem_packs x q).1 hq; exact ⟨this.1, this.2.1⟩

/-- a superblock -/
structure SP where
  g : Int
  r : ByteArray
  p : List Int
def okP (s : SP) : Bool := decide (1 ≤ s.g) && decide (s.g ≤ 4611686018427387903) && (keyBytes s.r.data.toList).isSome && riseL 0 s.p
/-- what stands ahead of the sum -/
def headL (g : Nat) (m : List UInt8) (x : Nat) : List UInt8 := [80, 76, 77, 80] ++ le8 g ++ m ++ le8 x
def secOf (g : Nat) (m : List UInt8) (x : Nat) : List UInt8 := Cr.bytesL (headL g m x) ++ List.replicate 200 0
/-- the sector of one that may be -/
def secL (s : SP) : List UInt8 := secOf s.g.toNat ((keyBytes s.r.data.toList).getD []) (orL s.p)
theorem headL_len (g : Nat) (m : List UInt8) (x : Nat) (h : m.length = 32) : (headL g m x).length = 52 := by simp [headL, le8_len, h]
theorem secOf_len (g : Nat) (m : List UInt8) (x : Nat) (h : m.length = 32) : (secOf g m x).length = 256 := by rw [secOf, List.length_append, Cr.bytesL_len, headL_len g m x h, List.length_replicate]
/-- what a sector's fields say -/
def gOf (l : List UInt8) : Nat := numL ((l.drop 4).take 8)
def mOf (l : List UInt8) : List UInt8 := (l.drop 12).take 32
def xOf (l : List UInt8) : Nat := numL ((l.drop 44).take 8)
def spOf (l : List UInt8) : SP := ⟨IntKind.i64.wrap (gOf l : Int), ⟨(hexL (mOf l)).toArray⟩, packsL (xOf l)⟩
def okL (l : List UInt8) : Bool := decide (l.length = 256) && okP (spOf l) && (secL (spOf l) == l)
def getL (l : List UInt8) : Option SP := if okL l then some (spOf l) else none
theorem mOf_len (l : List UInt8) (h : l.length = 256) : (mOf l).length = 32 := by simp [mOf, h]
theorem key_mOf (l : List UInt8) (h : l.length = 256) : keyBytes (hexL (mOf l)) = some (mOf l) := keyBytes_back _ (mOf_len l h)
theorem okP_key {s : SP} (h : okP s = true) : ∃ m, keyBytes s.r.data.toList = some m ∧ m.length = 32 ∧ (⟨(hexL m).toArray⟩ : ByteArray) = s.r ∧ 1 ≤ s.g ∧ s.g ≤ 4611686018427387903 ∧ riseL 0 s.p = true ∧ secL s = secOf s.g.toNat m (orL s.p) := by
  simp only [okP, Bool.and_eq_true, decide_eq_true_eq] at h
  obtain ⟨⟨⟨h1, h2⟩, h3⟩, h4⟩ := h
  obtain ⟨m, hm⟩ := Option.isSome_iff_exists.1 h3
  obtain ⟨k1, k2⟩ := keyBytes_some _ _ hm
  exact ⟨m, hm, k1, by rw [k2], h1, h2, h4, by rw [secL, hm]; rfl⟩
theorem secL_len {s : SP} (h : okP s = true) : (secL s).length = 256 := by
  obtain ⟨m, _, hm, _, _, _, _, e⟩ := okP_key h
  rw [e, secOf_len _ _ _ hm]
theorem gOf_sec (g x : Nat) (m : List UInt8) (hg : g < 18446744073709551616) : gOf (secOf g m x) = g := by
  have : ((secOf g m x).drop 4).take 8 = le8 g := by
    simp only [secOf, Cr.bytesL, headL, List.append_assoc]
    rw [show ([80, 76, 77, 80] : List UInt8) ++ (le8 g ++ (m ++ (le8 x ++ (Cr.leL (Cr.sumL ([80, 76, 77, 80] ++ (le8 g ++ (m ++ le8 x)))) ++ List.replicate 200 0)))) = [80, 76, 77, 80] ++ (le8 g ++ (m ++ (le8 x ++ (Cr.leL (Cr.sumL ([80, 76, 77, 80] ++ (le8 g ++ (m ++ le8 x)))) ++ List.replicate 200 0)))) from rfl]
    rw [List.drop_left' (by rfl), List.take_left' (le8_len g)]
  rw [gOf, this, numL_le8 g hg]
theorem mOf_sec (g x : Nat) (m : List UInt8) (hm : m.length = 32) : mOf (secOf g m x) = m := by
  simp only [mOf, secOf, Cr.bytesL, headL, List.append_assoc]
  rw [← List.append_assoc [80, 76, 77, 80] (le8 g), List.drop_left' (by simp [le8_len]), List.take_left' hm]
theorem xOf_sec (g x : Nat) (m : List UInt8) (hm : m.length = 32) (hx : x < 18446744073709551616) : xOf (secOf g m x) = x := by
  have : ((secOf g m x).drop 44).take 8 = le8 x := by
    simp only [secOf, Cr.bytesL, headL]
    rw [List.append_assoc ([80, 76, 77, 80] ++ le8 g ++ m) (le8 x), List.append_assoc ([80, 76, 77, 80] ++ le8 g ++ m), List.append_assoc (le8 x), List.drop_left' (by simp [le8_len, hm]), List.take_left' (le8_len x)]
  rw [xOf, this, numL_le8 x hx]
theorem wrap_low (n : Nat) (h : n < 9223372036854775808) : IntKind.i64.wrap (n : Int) = (n : Int) := IntWalk.i64_in _ (by omega)
/-- what is written is read as it was -/
theorem get_sec {s : SP} (h : okP s = true) : getL (secL s) = some s := by
  obtain ⟨m, hm, hl, hr, h1, h2, h3, e⟩ := okP_key h
  have hp := (riseL_su _ _).1 h3
  have hx := orL_lt s.p hp.2
  have es : spOf (secL s) = s := by
    rw [spOf, e, gOf_sec _ _ _ (by omega), mOf_sec _ _ _ hl, xOf_sec _ _ _ hl (by omega), wrap_low _ (by omega), packs_or _ h3, hr]
    have eg : ((s.g.toNat : Nat) : Int) = s.g := by omega
    rw [eg]
  rw [getL, okL, es, secL_len h, h]
  simp
theorem getL_some {l : List UInt8} {s : SP} (h : getL l = some s) : okP s = true ∧ secL s = l ∧ l.length = 256 := by
  unfold getL okL at h
  split at h
  · rename_i h0
    simp only [Bool.and_eq_true, decide_eq_true_eq, beq_iff_eq] at h0
    cases h
    exact ⟨h0.1.2, h0.2, h0.1.1⟩
  · cases h
end Go.Proofs.YtlpbkjonicjccaaDoor.Sh
