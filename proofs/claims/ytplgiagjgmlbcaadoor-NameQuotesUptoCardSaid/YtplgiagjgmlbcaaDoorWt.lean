/-
  Contracts of the document's page's Texts, of name.Join, and of name.Split for every text. Conditions: the library's tables and variables as their texts lay them; what is joined takes at most 2^40 bytes.
-/
import Derived.Test.YtplgiagjgmlbcaaDoorWs
import Derived.Test.YtplgiagjgmlbcaaDoorWq
import Derived.Lib.SplitLaws
import Derived.Deep.QuietTactic
import Derived.BigQuiet
namespace Go.Proofs.YtplgiagjgmlbcaaDoor.Nm
open Go.RowKit Go.Lib

/-- name.Split -/
theorem split_any (s : ByteArray) (w : World) (hg : Glob w) :
    Calls Tryd.prog 16 #[.string s] w (SPost (splitN s) w) := by
  have ht : s.toList = s.data.toList := toList_data s
  unfold splitN
  by_cases h0 : s.data.toList = []
  · rw [if_pos h0]
    exact (split_empty s w (by rw [ht, h0]; rfl)).mono fun e w' ⟨he, hw⟩ => by subst hw; exact ⟨Below.refl _ _, _, he, strs_nil _⟩
  rw [if_neg h0]
  have he : s.toList.isEmpty = false := by rw [ht]; simpa using h0
  by_cases h1 : 1000 < s.size
  · rw [if_pos h1]
    exact (split_long s w he h1).mono fun e w' ⟨he, hw⟩ => by subst hw; exact ⟨Below.refl _ _, _, he, strs_nil _⟩
  rw [if_neg h1]
  have hp : 0 < s.size := by
    rw [size_eq]
    exact List.length_pos_iff.2 h0
  have hd := drop_getD s 0 hp
  rw [List.drop_zero] at hd
  by_cases h2 : s.data.toList.getD 0 0 ≠ 47
  · rw [if_pos h2]
    have hb : (((s[0]'hp).toNat : Int) != 47) = true := by
      rw [bne_iff_ne]
      intro h
      exact h2 (by rw [hd]; exact (byte_eq (n := 47) (by omega)).symm)
    exact (split_head s w he h1 hp hb).mono fun e w' ⟨he, hw⟩ => by subst hw; exact ⟨Below.refl _ _, _, he, strs_nil _⟩
  rw [if_neg h2]
  have hb : (((s[0]'hp).toNat : Int) != 47) = false := by
    rw [← hd, Classical.not_not.1 h2]; rfl
  obtain ⟨ns, er, hgo⟩ : ∃ ns er, goN [] (splitB ⟨#[47]⟩ 0 (countB s ⟨#[47]⟩) s) = (ns, er) := ⟨_, _, rfl⟩
  have hlen := splitB_all ⟨#[47]⟩ (by decide) 0 _ s rfl
  have hcl := countB_le ⟨#[47]⟩ (by decide) s.size s (Nat.le_refl _)
  have hc := split_in s w hg he h1 hp hb _ rfl hlen (by rw [hlen]; omega) ns er hgo _ _ rfl rfl
  rw [hgo]
  exact hc

theorem below_drews {B : Nat} {a w : World} (h : Below B a w) (n : Nat) : Below B a (w.drewN n) := ⟨h.os, h.tape, h.output, h.size, h.block⟩
theorem bytes_inj {x y : ByteArray} (h : x.toList = y.toList) : x = y := by
  rw [toList_data, toList_data] at h
  cases x; cases y
  simp only at h
  congr 1
  exact Array.toList_inj.1 h

set_option maxRecDepth 100000 in
/-- Texts of two rows -/
theorem texts_any (v1 v2 : Value) (l1 l2 : List ByteArray) (w : World) (hl : l1.length ≤ 9223372036854775806) (h1 : Strs w v1 l1) (h2 : Strs w v2 l2) :
    Calls Tryd.prog 19 #[v1, v2] w fun e w' => e = .returned (.bool (decide (l1 = l2))) ∧ Below w.heap.size w w' := by
  obtain ⟨a1, c1, rfl, k1⟩ := h1
  obtain ⟨a2, c2, rfl, k2⟩ := h2
  by_cases hlen : l1.length = l2.length
  · obtain ⟨z, hz⟩ : ∃ z, z = decide (l1 = l2) := ⟨_, rfl⟩
    rw [← hz]
    have HZ := Lib.hid hz
    have K1 := Lib.hid k1
    have K2 := Lib.hid k2
    have hlb : ((l1.length : Int) != (l2.length : Int)) = false := by simp [hlen]
    have HL := Lib.hid hlen
    clear hz k1 k2 hlen
    go_enter Tryd.func19, Tryd.ntmps19
    go_wp2_with fail
    go_loopw [5] (fun i wr => ∃ k : Nat, i = .int .i64 k ∧ k ≤ l1.length ∧ Below w.heap.size w wr ∧ Hid (l1.take k = l2.take k)) (fun i _ => l1.length - (RowKit.intOf i).toNat)
    case atStart => exact ⟨0, rfl, Nat.zero_le _, Below.refl _ _, by simp [Hid]⟩
    case round =>
      obtain ⟨k, rfl, hk, hb, hs⟩ := hrel
      by_cases hkn : k < l1.length
      · have hk2 : k < l2.length := by have := HL.out; omega
        obtain ⟨b1, o1, rfl, hb1, q1⟩ := K1.out (by intro h; rw [h] at hkn; simp at hkn)
        obtain ⟨b2, o2, rfl, hb2, q2⟩ := K2.out (by intro h; rw [h] at hk2; simp at hk2)
        have d1 : wr.cell? ⟨b1, o1 + k, none⟩ = some (.string l1[k]) := (hb.cell (p := ⟨b1, o1 + k, none⟩) hb1).trans (q1 k hkn)
        have d2 : wr.cell? ⟨b2, o2 + k, none⟩ = some (.string l2[k]) := (hb.cell (p := ⟨b2, o2 + k, none⟩) hb2).trans (q2 k hk2)
        obtain ⟨x, hx⟩ : ∃ x, x = l1[k] := ⟨_, rfl⟩
        obtain ⟨y, hy⟩ : ∃ y, y = l2[k] := ⟨_, rfl⟩
        rw [← hx] at d1
        rw [← hy] at d2
        have HX := Lib.hid hx
        have HY := Lib.hid hy
        clear q1 q2 hx hy
        have hk2' : (k : Int) < (l2.length : Int) := by omega
        have hk1' : (k : Int) < (l1.length : Int) := by omega
        by_cases hxy : x.toList = y.toList
        · have hne : (x.toList == y.toList) = true := by simp [hxy]
          have HT : Hid (l1.take (k + 1) = l2.take (k + 1)) := by
            show _ = _
            rw [List.take_succ_eq_append_getElem hkn, List.take_succ_eq_append_getElem hk2, hs.out, ← HX.out, ← HY.out, bytes_inj hxy]
          clear hxy
          go_wp2_with fail
          go_quiet (fail)
          go_wp2_with fail
          go_roundw
          case rel => exact ⟨k + 1, by go_num, by omega, below_drews hb _, HT⟩
          case measure => simp [RowKit.intOf]; omega
        · have hne : (x.toList == y.toList) = false := by simp [hxy]
          have HF : Hid (z = false) := by
            show z = false
            rw [HZ.out]
            apply decide_eq_false
            intro h
            apply hxy
            rw [HX.out, HY.out]
            subst h
            rfl
          clear hxy
          go_wp2_with fail
          go_quiet (fail)
          go_wp2_with fail
          go_ret
          rw [HF.out]
          exact ⟨rfl, below_drews hb _⟩
      · have HF : Hid (z = true) := by
          show z = true
          rw [HZ.out]
          apply decide_eq_true
          have h1 := hs.out
          rw [List.take_of_length_le (by omega), List.take_of_length_le (by have := HL.out; omega)] at h1
          exact h1
        go_wp2_with fail
        go_ret
        rw [HF.out]
        exact ⟨rfl, hb⟩
  · have hlb : ((l1.length : Int) != (l2.length : Int)) = true := by simp; omega
    have hz : decide (l1 = l2) = false := decide_eq_false (fun h => hlen (by rw [h]))
    rw [hz]
    clear hz hlen k1 k2
    go_enter Tryd.func19, Tryd.ntmps19
    go_wp2_with fail
    go_ret
    exact ⟨rfl, Below.refl _ _⟩

set_option maxHeartbeats 1000000 in
set_option maxRecDepth 100000 in
/-- name.Join -/
theorem join_any (v : Value) (l : List ByteArray) (w : World) (h : Strs w v l) (hl : l.length ≤ 9223372036854775806) (hj : (joinL l).length ≤ 1099511627776) :
    Calls Tryd.prog 25 #[v] w fun e w' => e = .returned (.string ⟨(joinN l).toArray⟩) ∧ Below w.heap.size w w' := by
  obtain ⟨ao, c, rfl, k1⟩ := h
  unfold joinN
  by_cases h0 : l = []
  · rw [if_pos h0]
    have hz : ((l.length : Int) == 0) = true := by simp [h0]
    clear h0 k1 hj
    go_enter Tryd.func25, Tryd.ntmps25
    go_wp2_with fail
    go_ret
    exact ⟨rfl, Below.refl _ _⟩
  · rw [if_neg h0]
    obtain ⟨b1, o1, rfl, hb1, q1⟩ := k1 h0
    have hz : ((l.length : Int) == 0) = false := by simp; intro h; exact h0 h
    have Q1 := Lib.hid q1
    clear h0 q1
    have hI0 : Lib.IsBuilderF 46 5 w.heap.size w.heap.size (Lib.byteCells []) (w.alloc (.cells #[.pointer none, .slice none 0 0] 46)) := Lib.IsBuilderF.of (Lib.fresh_isBuilder 46 5 w)
    have hb0 : Below w.heap.size w (w.alloc (.cells #[.pointer none, .slice none 0 0] 46)) := (Below.refl _ w).alloc (Nat.le_refl _) _
    go_enter Tryd.func25, Tryd.ntmps25
    go_wp2_with fail
    go_loopw [11] (fun i wr => ∃ (k : Nat) (acc : List UInt8), i = .int .i64 k ∧ k ≤ l.length ∧ IsBuilderF 46 5 w.heap.size w.heap.size (byteCells acc) wr ∧ Below w.heap.size w wr ∧ Hid (acc ++ joinL (l.drop k) = joinL l)) (fun i _ => l.length - (RowKit.intOf i).toNat)
    case atStart => exact ⟨0, [], rfl, Nat.zero_le _, hI0, hb0, by simp [Hid]⟩
    case round =>
      obtain ⟨k, acc, rfl, hk, hI, hb, hs⟩ := hrel
      clear hI0 hb0
      have hwz := hb.size
      have hacc : acc.length + (joinL (l.drop k)).length ≤ 1099511627776 := by
        have := congrArg List.length hs.out
        rw [List.length_append] at this
        omega
      by_cases hkn : k < l.length
      · have d1 : wr.cell? ⟨b1, o1 + k, none⟩ = some (.string l[k]) := (hb.cell (p := ⟨b1, o1 + k, none⟩) hb1).trans (Q1.out k hkn)
        have hdr : l.drop k = l[k] :: l.drop (k + 1) := List.drop_eq_getElem_cons hkn
        obtain ⟨x, hx⟩ : ∃ x, x = l[k] := ⟨_, rfl⟩
        rw [← hx] at d1 hdr
        have HS : Hid ((acc ++ [47] ++ x.data.toList) ++ joinL (l.drop (k + 1)) = joinL l) := by
          show _ = _
          rw [← hs.out, hdr, joinL]
          simp
        rw [hdr, joinL] at hacc
        simp only [List.length_cons, List.length_append] at hacc
        rw [← size_eq] at hacc
        clear hdr hx hs
        have hbc : (byteCells acc).length = acc.length := Lib.byteCells_length _
        have hlb : (byteCells acc).length + 1 ≤ 140737488355328 := by rw [hbc]; omega
        clear hbc
        go_wp2_with fail
        refine (Tryd.Builder_WriteByte_k w.heap.size w.heap.size _ 47 _ hI hlb hwz).mono ?_
        rintro e w2 ⟨rfl, h2, b2, k2⟩
        have hI2 : IsBuilderF 46 5 w.heap.size w.heap.size (byteCells (acc ++ [47])) w2 := by rw [byteCells_append]; exact Or.inr h2
        have hz2 : w.heap.size ≤ w2.heap.size := Nat.le_trans hwz b2.size
        have hlb2 : (byteCells (acc ++ [47])).length + x.size ≤ 140737488355328 := by rw [Lib.byteCells_length]; simp; omega
        clear h2
        go_wp2_with fail
        refine (Tryd.Builder_WriteString_k w.heap.size w.heap.size _ x _ hI2 hlb2 hz2).mono ?_
        rintro e w3 ⟨rfl, h3, b3, k3⟩
        go_wp2_with fail
        go_roundw
        case rel =>
          refine ⟨k + 1, acc ++ [47] ++ x.data.toList, by go_num, by omega, ?_, (hb.trans b2).trans b3, HS⟩
          rw [byteCells_append, ← strCells_eq]
          exact Or.inr h3
        case measure => simp [RowKit.intOf]; omega
      · have HS : Hid (acc = joinL l) := by
          show _ = _
          rw [← hs.out, List.drop_eq_nil_of_le (by omega), joinL, List.append_nil]
        clear hs
        go_wp2_with fail
        refine (Tryd.Builder_String_any_k w.heap.size w.heap.size acc _ hI hwz).mono ?_
        rintro e w2 ⟨rfl, _, b2, _⟩
        go_wp2_with fail
        go_ret
        rw [← HS.out]
        exact ⟨rfl, hb.trans b2⟩
end Go.Proofs.YtplgiagjgmlbcaaDoor.Nm
