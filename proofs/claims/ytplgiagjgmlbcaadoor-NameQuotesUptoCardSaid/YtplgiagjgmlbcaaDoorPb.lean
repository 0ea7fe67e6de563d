/-
  name.Quote, plain: what a text is quoted as, rune by rune. No program in it, no condition.
-/
import Derived.Test.YtplgiagjgmlbcaaDoorPa
namespace Go.Proofs.YtplgiagjgmlbcaaDoor.Nm
open Go.Lib

def digs : List UInt8 := [48, 49, 50, 51, 52, 53, 54, 55, 56, 57, 97, 98, 99, 100, 101, 102]
/-- a number's digits of 16, fuel f -/
def hexF : Nat → Nat → List UInt8
  | 0, n => [digs.getD (n % 16) 0]
  | f + 1, n => if n < 16 then [digs.getD (n % 16) 0] else hexF f (n / 16) ++ [digs.getD (n % 16) 0]
theorem hexF_len : ∀ f n, 1 ≤ (hexF f n).length ∧ (hexF f n).length ≤ f + 1
  | 0, n => by simp [hexF]
  | f + 1, n => by
    have := hexF_len f (n / 16)
    unfold hexF
    split
    · simp
    · simp; omega

/-- what one rune, or one byte that is none of UTF-8's, is quoted as -/
def quoteOne (l : List UInt8) : List UInt8 :=
  if strayL l then [92, 120] ++ hexF 5 (l.getD 0 0).toNat
  else if (decodeL l).1 = 34 ∨ (decodeL l).1 = 92 then 92 :: encodeRune ((decodeL l).1 : Nat)
  else if 32 ≤ (decodeL l).1 ∧ (decodeL l).1 ≤ 126 then encodeRune ((decodeL l).1 : Nat)
  else [92, 117, 123] ++ hexF 5 (decodeL l).1 ++ [125]
def quoteB : Nat → List UInt8 → List UInt8
  | 0, _ => []
  | f + 1, l => if l = [] then [] else quoteOne l ++ quoteB f (l.drop (decodeL l).2)
def quoteL (l : List UInt8) : List UInt8 := 34 :: (quoteB l.length l ++ [34])
theorem quoteB_nil (f : Nat) : quoteB f [] = [] := by cases f <;> simp [quoteB]
theorem quoteB_cons (f : Nat) (l : List UInt8) (h : l ≠ []) : quoteB (f + 1) l = quoteOne l ++ quoteB f (l.drop (decodeL l).2) := by rw [quoteB, if_neg h]
theorem encodeRune_len (r : Int) : 1 ≤ (encodeRune r).length ∧ (encodeRune r).length ≤ 4 := by
  have := runeCells_le r
  rw [runeCells_length] at this
  exact this
theorem quoteOne_len (l : List UInt8) : (quoteOne l).length ≤ 16 := by
  unfold quoteOne
  have h1 := (hexF_len 5 (l.getD 0 0).toNat).2
  have h2 := (hexF_len 5 (decodeL l).1).2
  have h3 := (encodeRune_len ((decodeL l).1 : Nat)).2
  repeat' split
  all_goals (try simp only [List.length_append, List.length_cons, List.length_nil]); omega
theorem quoteOne_stray (l : List UInt8) (h : strayL l = true) : quoteOne l = [92, 120] ++ hexF 5 (l.getD 0 0).toNat := by rw [quoteOne, if_pos h]
theorem quoteOne_mark (l : List UInt8) (h : strayL l = false) (h1 : (decodeL l).1 = 34 ∨ (decodeL l).1 = 92) : quoteOne l = 92 :: encodeRune ((decodeL l).1 : Nat) := by
  rw [quoteOne, h, if_neg (by simp), if_pos h1]
theorem quoteOne_seen (l : List UInt8) (h : strayL l = false) (h1 : ¬ ((decodeL l).1 = 34 ∨ (decodeL l).1 = 92)) (h2 : 32 ≤ (decodeL l).1 ∧ (decodeL l).1 ≤ 126) : quoteOne l = encodeRune ((decodeL l).1 : Nat) := by
  rw [quoteOne, h, if_neg (by simp), if_neg h1, if_pos h2]
theorem quoteOne_hex (l : List UInt8) (h : strayL l = false) (h1 : ¬ ((decodeL l).1 = 34 ∨ (decodeL l).1 = 92)) (h2 : ¬ (32 ≤ (decodeL l).1 ∧ (decodeL l).1 ≤ 126)) : quoteOne l = [92, 117, 123] ++ hexF 5 (decodeL l).1 ++ [125] := by
  rw [quoteOne, h, if_neg (by simp), if_neg h1, if_neg h2]
theorem app_list (a b : List UInt8) : ((⟨a.toArray⟩ : ByteArray) ++ (⟨b.toArray⟩ : ByteArray)).data.toList = a ++ b := by
  simp
theorem cells_app (acc : List UInt8) (x : ByteArray) : byteCells acc ++ strCells x = byteCells (acc ++ x.data.toList) := by
  rw [strCells_eq, byteCells_append]
theorem drop_getD (s : ByteArray) (pos : Nat) (h : pos < s.size) : (s.data.toList.drop pos).getD 0 0 = s[pos]'h := by
  have hl : pos < s.data.toList.length := by rw [← size_eq]; exact h
  simp [List.getD, List.getElem?_drop, List.getElem?_eq_getElem hl]
  rfl
end Go.Proofs.YtplgiagjgmlbcaaDoor.Nm
