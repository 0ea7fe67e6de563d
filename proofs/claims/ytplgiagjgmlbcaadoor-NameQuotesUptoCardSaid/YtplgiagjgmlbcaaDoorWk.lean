/-
  The contract of the statements' own heads: it returns true. Conditions: the library's tables and variables as their texts lay them.
-/
import Derived.Test.YtplgiagjgmlbcaaDoorWt
import Derived.Test.YtplgiagjgmlbcaaDoorWu
import Derived.Test.YtplgiagjgmlbcaaDoorWo
namespace Go.Proofs.YtplgiagjgmlbcaaDoor.Nm
open Go.RowKit Go.Lib

theorem v_split1 : splitN ⟨#[47, 97, 47, 47, 46, 47, 98, 47]⟩ = ([⟨#[97]⟩, ⟨#[98]⟩], true, 0) := by decide +kernel
theorem v_split2 : splitN ⟨#[97]⟩ = ([], false, 206) := by decide +kernel
theorem v_unq1 : unqL [34, 92, 117, 123, 101, 57, 125, 92, 117, 123, 57, 125, 34] = some [195, 169, 9] := by decide +kernel
theorem v_unq2 : unqL [34, 92, 117, 123, 52, 49, 125, 34] = none := by decide +kernel
theorem v_count : countL 3 [195, 169, 120] = 2 := by decide +kernel
theorem v_order : orderL [97] [98] = -1 := by decide +kernel
theorem v_check1 : checkL [46, 46] = 206 := by decide +kernel
theorem v_check2 : checkL [120] = 0 := by decide +kernel
theorem v_join : joinN [⟨#[97]⟩, ⟨#[98]⟩] = [47, 97, 47, 98] := by decide +kernel

theorem strs_two (w : World) (a b : ByteArray) : Strs (w.alloc (.cells #[.string a, .string b] 9)) (.slice (some ⟨w.heap.size, 0, none⟩) 2 2) [a, b] := by
  refine ⟨_, 2, rfl, fun _ => ⟨w.heap.size, 0, rfl, by simp, fun j hj => ?_⟩⟩
  rw [World.cell?_alloc_new]
  match j, hj with
  | 0, _ => rfl
  | 1, _ => rfl

set_option maxHeartbeats 1000000 in
set_option maxRecDepth 100000 in
theorem heads_any (w : World) (hg : Glob w) :
    Calls Tryd.prog 11 #[] w fun e w' => e = .returned (.bool true) ∧ Below w.heap.size w w' := by
  have c1 := fun W (h : Glob W) => split_any ⟨#[47, 97, 47, 47, 46, 47, 98, 47]⟩ W h
  rw [v_split1] at c1
  have c2 := fun W (h : Glob W) => split_any ⟨#[97]⟩ W h
  rw [v_split2] at c2
  have c3 := fun W (h : Glob W) => unquote_any ⟨#[34, 92, 117, 123, 101, 57, 125, 92, 117, 123, 57, 125, 34]⟩ W h (by decide)
  have c4 := fun W (h : Glob W) => unquote_any ⟨#[34, 92, 117, 123, 52, 49, 125, 34]⟩ W h (by decide)
  simp only [v_unq1] at c3
  simp only [v_unq2] at c4
  have C1 := Lib.hid c1
  have C2 := Lib.hid c2
  have C3 := Lib.hid c3
  have C4 := Lib.hid c4
  clear c1 c2 c3 c4
  have HG := Lib.hid hg
  go_enter Tryd.func11, Tryd.ntmps11
  go_wp2_with fail
  refine (C1.out _ hg).mono ?_
  rintro e w1 ⟨b1, v, rfl, s1⟩
  have S1 := Lib.hid s1
  have g1 := hg.below b1
  clear s1
  go_wp2_with fail
  refine (C2.out _ g1).mono ?_
  rintro e w2 ⟨b2, v2, rfl, _⟩
  have g2 := g1.below b2
  go_wp2_with fail
  refine (C3.out _ g2).mono ?_
  rintro e w3 ⟨b3, he3⟩
  simp only at he3
  subst he3
  have g3 := g2.below b3
  go_wp2_with fail
  refine (C4.out _ g3).mono ?_
  rintro e w4 ⟨b4, he4⟩
  simp only at he4
  subst he4
  have g4 := g3.below b4
  go_wp2_with fail
  have b14 : Below w1.heap.size w1 w4 := (b2.trans (b3.mono b2.size)).trans (b4.mono (Nat.le_trans b2.size b3.size))
  have s4 : Strs (w4.alloc (.cells #[.string ⟨#[97]⟩, .string ⟨#[98]⟩] 9)) v [⟨#[97]⟩, ⟨#[98]⟩] := strs_below S1.out (b14.alloc b14.size _)
  have ct := texts_any v _ _ _ _ (by decide) s4 (strs_two w4 ⟨#[97]⟩ ⟨#[98]⟩)
  rw [decide_eq_true rfl] at ct
  have S4 := Lib.hid s4
  clear s4
  refine ct.mono ?_
  rintro e w5 ⟨rfl, b5⟩
  have s5 := strs_below S4.out b5
  have g5 := (g4.alloc _).below b5
  have cj := join_any v [⟨#[97]⟩, ⟨#[98]⟩] w5 s5 (by decide) (by decide)
  rw [v_join] at cj
  have CJ := Lib.hid cj
  clear cj s5 ct
  go_wp2_with fail
  refine CJ.out.mono ?_
  rintro e w6 ⟨rfl, b6⟩
  have g6 := g5.below b6
  have cc := count_any ⟨#[195, 169, 120]⟩ w6 (by decide)
  rw [show countL (⟨#[195, 169, 120]⟩ : ByteArray).size (⟨#[195, 169, 120]⟩ : ByteArray).data.toList = 2 from v_count] at cc
  have CC := Lib.hid cc
  clear cc
  go_wp2_with fail
  refine CC.out.mono ?_
  rintro e w7 ⟨rfl, b7⟩
  have g7 := g6.below b7
  have co := order_any ⟨#[97]⟩ ⟨#[98]⟩ w7 g7
  rw [show orderL (⟨#[97]⟩ : ByteArray).data.toList (⟨#[98]⟩ : ByteArray).data.toList = -1 from v_order] at co
  have CO := Lib.hid co
  clear co
  go_wp2_with fail
  refine CO.out.mono ?_
  rintro e w8 ⟨rfl, b8⟩
  have g8 := g7.below b8
  have ck := check_any ⟨#[46, 46]⟩ w8
  rw [show checkL (⟨#[46, 46]⟩ : ByteArray).data.toList = 206 from v_check1] at ck
  have CK := Lib.hid ck
  clear ck
  go_wp2_with fail
  refine CK.out.mono ?_
  rintro e w9 ⟨rfl, b9⟩
  have g9 := g8.below b9
  have ck := check_any ⟨#[120]⟩ w9
  rw [show checkL (⟨#[120]⟩ : ByteArray).data.toList = 0 from v_check2] at ck
  have CL := Lib.hid ck
  clear ck
  go_wp2_with fail
  refine CL.out.mono ?_
  rintro e w10 ⟨rfl, b10⟩
  go_wp2_with fail
  go_ret
  have l1 := b1.size
  have l4 : w1.heap.size ≤ w4.heap.size := b14.size
  have l5 := b5.size
  have l6 := b6.size
  have l7 := b7.size
  have l8 := b8.size
  have l9 := b9.size
  simp only [World.size_alloc] at l5
  refine ⟨rfl, ?_⟩
  have t4 : Below w.heap.size w w4 := b1.trans (b14.mono l1)
  have t5 : Below w.heap.size w w5 := (t4.alloc (by omega) _).trans (b5.mono (by simp; omega))
  have t6 := t5.trans (b6.mono (by omega))
  have t7 := t6.trans (b7.mono (by omega))
  have t8 := t7.trans (b8.mono (by omega))
  have t9 := t8.trans (b9.mono (by omega))
  exact t9.trans (b10.mono (by omega))
end Go.Proofs.YtplgiagjgmlbcaaDoor.Nm
