/-
  name.Split, name.Join and rows of texts, plain. No program in it, no condition.
-/
import Derived.Test.YtplgiagjgmlbcaaDoorPc
import Derived.Lib.Split
namespace Go.Proofs.YtplgiagjgmlbcaaDoor.Nm
open Go.Lib

/-- the names among pieces, or why there are none -/
def goN (acc : List ByteArray) : List ByteArray → List ByteArray × Int
  | [] => (acc, 0)
  | n :: r => if n.data.toList = [] ∨ n.data.toList = [46] then goN acc r
    else if n.data.toList = [46, 46] then goN (acc ++ [n]) r
    else if checkL n.data.toList = 0 then goN (acc ++ [n]) r else ([], checkL n.data.toList)
/-- name.Split -/
def splitN (s : ByteArray) : List ByteArray × Bool × Int :=
  if s.data.toList = [] then ([], false, 206) else if 1000 < s.size then ([], false, 208) else if s.data.toList.getD 0 0 ≠ 47 then ([], false, 206)
  else if (goN [] (splitB ⟨#[47]⟩ 0 (countB s ⟨#[47]⟩) s)).2 = 0 then ((goN [] (splitB ⟨#[47]⟩ 0 (countB s ⟨#[47]⟩) s)).1, hasSuffix s.data.toList [47] || hasSuffix s.data.toList [47, 46], 0)
  else ([], false, (goN [] (splitB ⟨#[47]⟩ 0 (countB s ⟨#[47]⟩) s)).2)
/-- name.Join -/
def joinL : List ByteArray → List UInt8
  | [] => []
  | n :: r => 47 :: (n.data.toList ++ joinL r)
def joinN (l : List ByteArray) : List UInt8 := if l = [] then [47] else joinL l
theorem goN_skip (acc r : List ByteArray) (n : ByteArray) (h : n.data.toList = [] ∨ n.data.toList = [46]) : goN acc (n :: r) = goN acc r := by rw [goN, if_pos h]
theorem goN_up (acc r : List ByteArray) (n : ByteArray) (h : n.data.toList = [46, 46]) : goN acc (n :: r) = goN (acc ++ [n]) r := by
  rw [goN, if_neg (by rw [h]; simp), if_pos h]
theorem goN_name (acc r : List ByteArray) (n : ByteArray) (h : ¬ (n.data.toList = [] ∨ n.data.toList = [46])) (h1 : ¬ n.data.toList = [46, 46]) (h2 : checkL n.data.toList = 0) : goN acc (n :: r) = goN (acc ++ [n]) r := by
  rw [goN, if_neg h, if_neg h1, if_pos h2]
theorem goN_bad (acc r : List ByteArray) (n : ByteArray) (h : ¬ (n.data.toList = [] ∨ n.data.toList = [46])) (h1 : ¬ n.data.toList = [46, 46]) (h2 : ¬ checkL n.data.toList = 0) : goN acc (n :: r) = ([], checkL n.data.toList) := by
  rw [goN, if_neg h, if_neg h1, if_neg h2]
end Go.Proofs.YtplgiagjgmlbcaaDoor.Nm
