/-
  The contracts of leb.errno, number and Get: for every slice of bytes. Condition: the library's variable errors.errorType is as its text lays it.
-/
import Derived.Test.YtojhlhpbhoeplaaGreatDoorWf
namespace Go.Proofs.YtojhlhpbhoeplaaGreatDoor.Sh
open Go.RowKit Go.Lib Lb

/-- an error of the package, or none -/
def errV (n : Nat) : Value := if n = 0 then .nilIface else Flt n
theorem errV_zero : errV 0 = .nilIface := rfl
theorem errV_pos {n : Nat} (h : n ≠ 0) : errV n = .iface 153 (.agg #[.int .i64 n]) := by unfold errV; rw [if_neg h]; rfl

theorem errno_nil (w : World) : Calls Tryz.prog 74 #[.nilIface] w fun e w' => e = .returned (.int .i64 0) ∧ Below w.heap.size w w' := by
  go_enter Tryz.func74, Tryz.ntmps74
  go_wp2_with fail
  refine (as_nil _ _).mono ?_
  rintro e w' ⟨rfl, rfl⟩
  go_wp2_with fail
  go_ret
  exact ⟨rfl, (Below.refl _ w).alloc (Nat.le_refl _) _⟩
set_option maxHeartbeats 1000000 in
theorem errno_flt (n : Int) (w : World) (hg : ErrT w) : Calls Tryz.prog 74 #[.iface 153 (.agg #[.int .i64 n])] w fun e w' => e = .returned (.int .i64 n) ∧ Below w.heap.size w w' := by
  have ca := as_hit n ⟨w.heap.size, 0, none⟩ (.int .i64 0) (w.alloc (.cells #[.int .i64 0] 153)) (hg.alloc _) (by simp) (by simp)
  have CA := Lib.hid ca
  clear ca
  go_enter Tryz.func74, Tryz.ntmps74
  go_wp2_with fail
  refine CA.out.mono ?_
  rintro e w' ⟨rfl, rfl⟩
  go_wp2_with fail
  go_ret
  refine ⟨rfl, ?_⟩
  first | exact (((((Below.refl _ w).alloc (Nat.le_refl _) _).alloc (by simp) _).alloc (by simp; omega) _).alloc (by simp; omega) _).alloc (by simp; omega) _ | skip
theorem errno_any (n : Nat) (w : World) (hg : ErrT w) : Calls Tryz.prog 74 #[errV n] w fun e w' => e = .returned (.int .i64 n) ∧ Below w.heap.size w w' := by
  by_cases h : n = 0
  · subst h
    exact errno_nil w
  · rw [errV_pos h]
    exact errno_flt n w hg

theorem value_any (b o c i : Nat) (l : List UInt8) (w : World) (hf : firstI l = some i) (hl : l.length ≤ 9223372036854775807)
    (hc : ∀ j (h : j < l.length), w.cell? ⟨b, o + j, none⟩ = some (.int .u8 (l[j]).toNat)) :
    Calls Tryz.prog 87 #[.slice (some ⟨b, o, none⟩) (i + 1) c] w fun e w' => e = .returned (.tuple #[.int .u64 (getL l).1, errV (getL l).2.2]) ∧ w = w' := by
  obtain ⟨f1, f2, f3⟩ := firstI_some l i hf
  have hlen : (l.take (i + 1)).length = i + 1 := by rw [List.length_take]; omega
  have hget : getL l = if badB (l.take (i + 1)) then (0, 0, 21) else (valL (l.take (i + 1)), i + 1, 0) := by unfold getL; rw [hf]
  have hz : w.cell? ⟨b, o + i, none⟩ = some (.int .u8 (l[i]).toNat) := hc i f1
  have hlast : (l.take (i + 1)).getD (i + 1 - 1) 0 = l[i] := by rw [Nat.add_sub_cancel, take_getD _ _ _ (by omega), getD_at l i f1]
  have hct : ∀ j (h : j < (l.take (i + 1)).length), w.cell? ⟨b, o + j, none⟩ = some (.int .u8 ((l.take (i + 1))[j]).toNat) := fun j hj => by
    rw [hlen] at hj
    rw [hc j (by omega), List.getElem_take]
  rw [hget]
  cases hb : badB (l.take (i + 1)) with
  | true =>
    rw [if_pos rfl]
    unfold badB at hb
    rw [hlen, hlast] at hb
    simp only [Bool.or_eq_true, Bool.and_eq_true, decide_eq_true_eq] at hb
    by_cases h10 : 10 < i + 1
    · have h := value_long b o c (l.take (i + 1)) w (by omega) (by omega)
      rw [hlen] at h
      exact h
    · by_cases ht : i + 1 = 10 ∧ 1 < (l[i]).toNat
      · exact value_top b o c (i + 1) l[i] w ht.1 (by rw [Nat.add_sub_cancel]; exact hz) ht.2
      · have hn : 1 < i + 1 ∧ (l[i]).toNat = 0 := by omega
        exact value_nought b o c (i + 1) w (by omega) hn.1 (by rw [Nat.add_sub_cancel, hz, hn.2]; rfl)
  | false =>
    rw [if_neg (by simp)]
    unfold badB at hb
    rw [hlen, hlast] at hb
    simp only [Bool.or_eq_false_iff, Bool.and_eq_false_iff, decide_eq_false_iff_not] at hb
    have h := value_ok b o c (l.take (i + 1)) w (by omega) (by omega) l[i] (by rw [hlen, Nat.add_sub_cancel]; exact hz) hct (by rw [hlen]; omega) (by rw [hlen]; omega)
    rw [hlen] at h
    exact h

set_option maxHeartbeats 1000000 in
set_option maxRecDepth 100000 in
theorem number_any (ao : Option Addr) (l : List UInt8) (c : Nat) (w : World) (h : Byt w ao l) (hc : l.length ≤ c) (hl : c ≤ 9223372036854775807) :
    Calls Tryz.prog 73 #[.slice ao l.length c] w fun e w' => e = .returned (.tuple #[.int .u64 (getL l).1, .int .i64 (getL l).2.1, errV (getL l).2.2]) ∧ w = w' := by
  cases hf : firstI l with
  | none =>
    have c1 := first_none ao l c w h hc hl hf
    have hget : getL l = (0, 0, 20) := by unfold getL; rw [hf]
    rw [hget]
    have C1 := Lib.hid c1
    clear c1 hget hf
    go_enter Tryz.func73, Tryz.ntmps73
    go_wp2_with fail
    refine C1.out.mono ?_
    rintro e w' ⟨rfl, rfl⟩
    unfold Flt
    go_wp2_with fail
    go_ret3
    exact ⟨rfl, rfl⟩
  | some i =>
    have c1 := first_some ao l c i w h hc hl hf
    obtain ⟨f1, f2, f3⟩ := firstI_some l i hf
    obtain ⟨b, o, rfl, hb, hcell⟩ := h (by intro h0; rw [h0] at f1; simp at f1)
    have c2 := value_any b o (i + 1) i l w hf (by omega) hcell
    have hget : getL l = if badB (l.take (i + 1)) then (0, 0, 21) else (valL (l.take (i + 1)), i + 1, 0) := by unfold getL; rw [hf]
    rw [hget] at c2 ⊢
    have C1 := Lib.hid c1
    clear c1 hget hf hcell f2 f3
    cases hb : badB (l.take (i + 1)) with
    | true =>
      rw [hb, if_pos rfl] at c2
      rw [if_pos rfl]
      have C2 := Lib.hid c2
      clear c2 hb
      go_enter Tryz.func73, Tryz.ntmps73
      go_wp2_with fail
      refine C1.out.mono ?_
      rintro e w' ⟨rfl, rfl⟩
      go_wp2_with fail
      refine C2.out.mono ?_
      rintro e w' ⟨rfl, rfl⟩
      rw [errV_pos (by decide)]
      go_wp2_with fail
      go_ret3
      exact ⟨rfl, rfl⟩
    | false =>
      rw [hb, if_neg (by simp)] at c2
      rw [if_neg (by simp)]
      have C2 := Lib.hid c2
      clear c2 hb
      go_enter Tryz.func73, Tryz.ntmps73
      go_wp2_with fail
      refine C1.out.mono ?_
      rintro e w' ⟨rfl, rfl⟩
      go_wp2_with fail
      refine C2.out.mono ?_
      rintro e w' ⟨rfl, rfl⟩
      rw [errV_zero]
      go_wp2_with fail
      go_ret3
      exact ⟨rfl, rfl⟩

/-- leb.Get -/
theorem get_any (ao : Option Addr) (l : List UInt8) (c : Nat) (w : World) (hg : ErrT w) (h : Byt w ao l) (hc : l.length ≤ c) (hl : c ≤ 9223372036854775807) :
    Calls Tryz.prog 53 #[.slice ao l.length c] w fun e w' => e = .returned (.tuple #[.int .u64 (getL l).1, .int .i64 (getL l).2.1, .int .i64 (getL l).2.2]) ∧ Below w.heap.size w w' := by
  have c1 := number_any ao l c w h hc hl
  have c2 := errno_any (getL l).2.2 w hg
  obtain ⟨x, hx⟩ : ∃ x, x = (getL l).1 := ⟨_, rfl⟩
  obtain ⟨n, hn⟩ : ∃ x, x = (getL l).2.1 := ⟨_, rfl⟩
  obtain ⟨q, hq⟩ : ∃ x, x = (getL l).2.2 := ⟨_, rfl⟩
  rw [← hx, ← hn, ← hq] at c1 ⊢
  rw [← hq] at c2
  have C1 := Lib.hid c1
  have C2 := Lib.hid c2
  clear c1 c2 hx hn hq
  go_enter Tryz.func53, Tryz.ntmps53
  go_wp2_with fail
  refine C1.out.mono ?_
  rintro e w' ⟨rfl, rfl⟩
  go_wp2_with fail
  refine C2.out.mono ?_
  rintro e w' ⟨rfl, hb⟩
  go_wp2_with fail
  go_ret3
  exact ⟨rfl, hb⟩
end Go.Proofs.YtojhlhpbhoeplaaGreatDoor.Sh
