/-
  SHA-256 as plain mathematics: turns, sums, the words made of a block, rounds, a block gone into H, bytes fed piece by piece. No condition; nothing of the program.
-/
namespace Go.Proofs.YtpcmminokhmkjaaDoor.Sh

/-- x turned to the right by n -/
def rt (n : Nat) (x : UInt32) : UInt32 := UInt32.ofNat (x.toNat / 2 ^ n + x.toNat % 2 ^ n * 2 ^ (32 - n))
def sr (n : Nat) (x : UInt32) : UInt32 := UInt32.ofNat (x.toNat / 2 ^ n)
def sgA (x : UInt32) : UInt32 := rt 2 x ^^^ rt 13 x ^^^ rt 22 x
def sgE (x : UInt32) : UInt32 := rt 6 x ^^^ rt 11 x ^^^ rt 25 x
def far (x : UInt32) : UInt32 := rt 7 x ^^^ rt 18 x ^^^ sr 3 x
def near (x : UInt32) : UInt32 := rt 17 x ^^^ rt 19 x ^^^ sr 10 x
def ch (e f g : UInt32) : UInt32 := e &&& f ||| ~~~e &&& g
def mj (a b c : UInt32) : UInt32 := a &&& b ||| a &&& c ||| b &&& c
structure St where
  a : UInt32
  b : UInt32
  c : UInt32
  d : UInt32
  e : UInt32
  f : UInt32
  g : UInt32
  h : UInt32
def tee (s : St) (k w : UInt32) : UInt32 := s.h + sgE s.e + ch s.e s.f s.g + k + w
def you (s : St) : UInt32 := sgA s.a + mj s.a s.b s.c
def rnd (s : St) (k w : UInt32) : St := { a := tee s k w + you s, b := s.a, c := s.b, d := s.c, e := s.d + tee s k w, f := s.e, g := s.f, h := s.g }

def startL : List UInt32 := [1779033703, 3144134277, 1013904242, 2773480762, 1359893119, 2600822924, 528734635, 1541459225]
def stepsL : List UInt32 := [1116352408, 1899447441, 3049323471, 3921009573, 961987163, 1508970993, 2453635748, 2870763221, 3624381080, 310598401, 607225278, 1426881987, 1925078388, 2162078206, 2614888103, 3248222580, 3835390401, 4022224774, 264347078, 604807628, 770255983, 1249150122, 1555081692, 1996064986, 2554220882, 2821834349, 2952996808, 3210313671, 3336571891, 3584528711, 113926993, 338241895, 666307205, 773529912, 1294757372, 1396182291, 1695183700, 1986661051, 2177026350, 2456956037, 2730485921, 2820302411, 3259730800, 3345764771, 3516065817, 3600352804, 4094571909, 275423344, 430227734, 506948616, 659060556, 883997877, 958139571, 1322822218, 1537002063, 1747873779, 1955562222, 2024104815, 2227730452, 2361852424, 2428436474, 2756734187, 3204031479, 3329325298]
theorem startL_len : startL.length = 8 := rfl
theorem stepsL_len : stepsL.length = 64 := rfl

def byte (l : List UInt8) (j : Nat) : Nat := (l.getD j 0).toNat
theorem byte_lt (l : List UInt8) (j : Nat) : byte l j < 256 := (l.getD j 0).toNat_lt
/-- the first j bytes of word i, put together -/
def part (l : List UInt8) (i : Nat) : Nat → Nat
  | 0 => 0
  | j + 1 => part l i j * 256 + byte l (4 * i + j)
def word (l : List UInt8) (i : Nat) : UInt32 := UInt32.ofNat (part l i 4)
theorem part_lt (l : List UInt8) (i j : Nat) : part l i j < 256 ^ j := by
  induction j with
  | zero => simp [part]
  | succ j ih =>
    have := byte_lt l (4 * i + j)
    rw [part, Nat.pow_succ]
    omega
def nextW (l : List UInt32) (n : Nat) : UInt32 := l.getD (n - 16) 0 + l.getD (n - 7) 0 + far (l.getD (n - 15) 0) + near (l.getD (n - 2) 0)
/-- the first n words that are made of a block -/
def sched (blk : List UInt8) : Nat → List UInt32
  | 0 => []
  | n + 1 => sched blk n ++ [if n < 16 then word blk n else nextW (sched blk n) n]
theorem sched_len (blk : List UInt8) (n : Nat) : (sched blk n).length = n := by
  induction n with
  | zero => rfl
  | succ n ih => simp [sched, ih]
def stOf (H : List UInt32) : St := ⟨H.getD 0 0, H.getD 1 0, H.getD 2 0, H.getD 3 0, H.getD 4 0, H.getD 5 0, H.getD 6 0, H.getD 7 0⟩
def rnds (W : List UInt32) (s : St) : Nat → St
  | 0 => s
  | n + 1 => rnd (rnds W s n) (stepsL.getD n 0) (W.getD n 0)
def St.row (s : St) : List UInt32 := [s.a, s.b, s.c, s.d, s.e, s.f, s.g, s.h]
theorem row_len (s : St) : s.row.length = 8 := rfl
theorem row_of (H : List UInt32) (h : H.length = 8) : (stOf H).row = H := by
  match H, h with
  | [a, b, c, d, e, f, g, i], _ => rfl
/-- H with a block gone into it -/
def into (H : List UInt32) (blk : List UInt8) : List UInt32 := List.zipWith (· + ·) H (rnds (sched blk 64) (stOf H) 64).row
theorem into_len (H : List UInt32) (blk : List UInt8) (h : H.length = 8) : (into H blk).length = 8 := by simp [into, h, row_len]
/-- bytes, 64 at a time, into H; what is left -/
def feed (H : List UInt32) (l : List UInt8) : List UInt32 × List UInt8 :=
  if 64 ≤ l.length then feed (into H (l.take 64)) (l.drop 64) else (H, l)
termination_by l.length
decreasing_by simp; omega
theorem feed_lt (H : List UInt32) (l : List UInt8) (h : l.length < 64) : feed H l = (H, l) := by
  rw [feed, if_neg (by omega)]
theorem feed_ge (H : List UInt32) (l : List UInt8) (h : 64 ≤ l.length) : feed H l = feed (into H (l.take 64)) (l.drop 64) := by
  rw [feed, if_pos h]
theorem feed_rest (H : List UInt32) (l : List UInt8) : (feed H l).2.length = l.length % 64 := by
  induction hn : l.length using Nat.strongRecOn generalizing H l with
  | _ n ih =>
    by_cases h : 64 ≤ l.length
    · rw [feed_ge H l h, ih (l.length - 64) (by omega) _ (l.drop 64) (by simp)]
      omega
    · rw [feed_lt H l (by omega)]
      show l.length = _
      omega
theorem feed_len (H : List UInt32) (l : List UInt8) (hH : H.length = 8) : (feed H l).1.length = 8 := by
  induction hn : l.length using Nat.strongRecOn generalizing H l with
  | _ n ih =>
    by_cases h : 64 ≤ l.length
    · rw [feed_ge H l h]
      exact ih (l.length - 64) (by omega) _ (l.drop 64) (into_len H _ hH) (by simp)
    · rw [feed_lt H l (by omega)]
      exact hH
theorem feed_app (H : List UInt32) (l m : List UInt8) : feed H (l ++ m) = feed (feed H l).1 ((feed H l).2 ++ m) := by
  induction hn : l.length using Nat.strongRecOn generalizing H l with
  | _ n ih =>
    by_cases h : 64 ≤ l.length
    · rw [feed_ge H l h, feed_ge H (l ++ m) (by simp; omega), List.take_append_of_le_length h, List.drop_append_of_le_length h]
      exact ih (l.length - 64) (by omega) _ (l.drop 64) (by simp)
    · rw [feed_lt H l (by omega)]

/-- a digest on its way -/
structure Sha where
  H : List UInt32
  B : List UInt8
  N : Nat
def chk (s : Sha) : Bool := decide (s.H.length = 8) && decide (s.B.length = s.N % 64)
def newS : Sha := ⟨startL, [], 0⟩
def wr (s : Sha) (b : List UInt8) : Sha :=
  if chk s = true then ⟨(feed s.H (s.B ++ b)).1, (feed s.H (s.B ++ b)).2, (s.N + b.length) % 18446744073709551616⟩ else s
def be4 (n : Nat) : List UInt8 := [(n / 16777216 % 256).toUInt8, (n / 65536 % 256).toUInt8, (n / 256 % 256).toUInt8, (n % 256).toUInt8]
def be8 (n : Nat) : List UInt8 := be4 (n / 4294967296) ++ be4 (n % 4294967296)
def beL (l : List UInt32) : List UInt8 := l.flatMap fun x => be4 x.toNat
/-- what is written behind n bytes -/
def ending (n : Nat) : List UInt8 := [128] ++ List.replicate ((119 - n % 64) % 64) 0 ++ be8 (8 * n % 18446744073709551616)
def dn (s : Sha) : List UInt8 := if chk s = true then beL (wr s (ending s.N)).H else []
def sumS (b : List UInt8) : List UInt8 := dn (wr newS b)

theorem be4_len (n : Nat) : (be4 n).length = 4 := rfl
theorem be8_len (n : Nat) : (be8 n).length = 8 := rfl
theorem beL_len (l : List UInt32) : (beL l).length = 4 * l.length := by
  induction l with
  | nil => rfl
  | cons x r ih =>
    have : beL (x :: r) = be4 x.toNat ++ beL r := rfl
    rw [this, List.length_append, ih, be4_len, List.length_cons]
    omega
theorem beL_app (l m : List UInt32) : beL (l ++ m) = beL l ++ beL m := by simp [beL]
theorem ending_len (n : Nat) : (ending n).length = 9 + (119 - n % 64) % 64 := by
  simp [ending, be8_len]
  omega
theorem chk_new : chk newS = true := rfl
theorem chk_iff (s : Sha) : chk s = true ↔ s.H.length = 8 ∧ s.B.length = s.N % 64 := by simp [chk]
theorem wr_chk (s : Sha) (b : List UInt8) (h : chk s = true) : chk (wr s b) = true := by
  obtain ⟨h1, h2⟩ := (chk_iff s).1 h
  rw [wr, if_pos h, chk_iff]
  refine ⟨feed_len _ _ h1, ?_⟩
  rw [feed_rest, List.length_append, h2]
  show (s.N % 64 + b.length) % 64 = (s.N + b.length) % 18446744073709551616 % 64
  omega
theorem wr_nil (s : Sha) (h : chk s = true) (hN : s.N < 18446744073709551616) : wr s [] = s := by
  obtain ⟨h1, h2⟩ := (chk_iff s).1 h
  rw [wr, if_pos h, List.append_nil, feed_lt _ _ (by omega)]
  obtain ⟨H, B, N⟩ := s
  simp only [List.length_nil, Nat.add_zero, Sha.mk.injEq, true_and]
  exact Nat.mod_eq_of_lt hN
theorem wr_app (s : Sha) (l m : List UInt8) (h : chk s = true) : wr (wr s l) m = wr s (l ++ m) := by
  have h2 := wr_chk s l h
  have e : wr s l = ⟨(feed s.H (s.B ++ l)).1, (feed s.H (s.B ++ l)).2, (s.N + l.length) % 18446744073709551616⟩ := by rw [wr, if_pos h]
  rw [wr, if_pos h2, e]
  simp only
  rw [← feed_app, wr, if_pos h, List.append_assoc, List.length_append]
  congr 1
  omega
theorem dn_len (s : Sha) (h : chk s = true) : (dn s).length = 32 := by
  have h2 := (chk_iff _).1 (wr_chk s (ending s.N) h)
  rw [dn, if_pos h, beL_len, h2.1]
theorem wr_new_N (l : List UInt8) : (wr newS l).N = l.length % 18446744073709551616 := by
  rw [wr, if_pos chk_new]
  show (0 + l.length) % _ = _
  rw [Nat.zero_add]
end Go.Proofs.YtpcmminokhmkjaaDoor.Sh
