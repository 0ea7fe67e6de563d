/-
  The contract of the laws' own heads. Conditions: frame's sentinels, sha's tables and errors.errorType stand in memory.
-/
import Derived.Test.YtekaboomhljdoaaGreatDoorGb
namespace Go.Proofs.YtekaboomhljdoaaGreatDoor.Sh
open Lb Go.RowKit Go.Lib

theorem kb_one : kb 1 = 1 := rfl
theorem toList_inj {a b : ByteArray} (h : a.toList = b.toList) : a = b := by
  rw [toList_data, toList_data] at h
  cases a
  cases b
  simp only [ByteArray.mk.injEq]
  exact Array.toList_inj.1 h
theorem keyS_size (k : Int) (l : List UInt8) : (keyS k l).size = 64 := by
  show (hexL (sumS (kb k :: l))).toArray.size = 64
  simp [hexL_len, sumS_len]
theorem key_none (k : Int) (l : List UInt8) : ((⟨#[]⟩ : ByteArray).toList == (keyS k l).toList) = false := by
  cases h : ((⟨#[]⟩ : ByteArray).toList == (keyS k l).toList) with
  | false => rfl
  | true =>
    have := toList_inj (eq_of_beq h)
    have h2 := keyS_size k l
    rw [← this] at h2
    exact absurd h2 (by decide)
theorem put_made (k : Int) (d : List UInt8) (h1 : kindB k = true) (h2 : d.length ≤ 8192) : putE k (keyS k d) d = 0 := putE_ok h1 h2 (by simp)
theorem put1_len : (putL 1).length = 1 := by decide
theorem fr15_len : (Fr.frL 1 [5]).length = 8 := by rw [Fr.frL_len]; simp [put1_len]
theorem fr15_scan : Fr.scanL (Fr.frL 1 [5] ++ [0, 0]) = ([(1, [5])], [0], 8) := by
  have h := Fr.scanF_all 1 (by decide) (by decide) [0, 0] (by decide) [[5]] ((Fr.frL 1 [5] ++ [0, 0]).length + 1) 0 (by simp) (by simp)
  have e : Fr.allL 1 [[5]] = Fr.frL 1 [5] := by simp [Fr.allL]
  rw [e] at h
  unfold Fr.scanL
  rw [h, fr15_len]
  rfl
theorem fr15_next : (Fr.nextL ((Fr.frL 1 [5]).take 4)).1 = 20 := by
  have e : (Fr.frL 1 [5]).take 4 = [165, 1, 1, 5] := by
    rw [Fr.frL_cons]
    have : putL ([5] : List UInt8).length = [1] := by decide
    rw [this]
    rfl
  rw [e]
  decide
end Go.Proofs.YtekaboomhljdoaaGreatDoor.Sh
