/-
  The contracts of the document's own within, Root and PutRoot. Conditions: each law's own.
-/
import Derived.Test.YtpjgkboafmebbaaGreatDoorRe
import Derived.Test.YtpjgkboafmebbaaGreatDoorKs
namespace Go.Proofs.YtpjgkboafmebbaaGreatDoor.Sh
open Go.RowKit Go.Lib Lb

set_option maxRecDepth 100000 in
theorem within_any (x lo hi : Int) (w : World) : Calls Tryz.prog 82 #[.int .i64 x, .int .i64 lo, .int .i64 hi] w fun e w' => e = .returned (.bool (decide (within x lo hi))) ∧ w' = w := by
  by_cases h1 : lo ≤ x
  · have t1 : decide (lo ≤ x) = true := by simpa using h1
    have hr : Hid (decide (within x lo hi) = decide (x ≤ hi)) := by show _ = _; unfold within; simp [h1]
    clear h1
    cases t2 : decide (x ≤ hi) with
    | true =>
      go_enter Tryz.func82, Tryz.ntmps82
      go_wp2_with fail
      go_ret
      exact ⟨by rw [hr.out, t2]; rfl, rfl⟩
    | false =>
      go_enter Tryz.func82, Tryz.ntmps82
      go_wp2_with fail
      go_ret
      exact ⟨by rw [hr.out, t2]; rfl, rfl⟩
  · have t1 : decide (lo ≤ x) = false := by simpa using h1
    have hr : Hid (decide (within x lo hi) = false) := by show _ = _; unfold within; simp [h1]
    clear h1
    go_enter Tryz.func82, Tryz.ntmps82
    go_wp2_with fail
    go_ret
    exact ⟨by rw [hr.out]; rfl, rfl⟩
theorem srw_cell {w : World} {ao : Option Addr} {l : List ByteArray} (h : Srw w ao l) (i : Nat) (hi : i < l.length) : ∃ b o x, ao = some ⟨b, o, none⟩ ∧ b < w.heap.size ∧ l[i]? = some x ∧ w.cell? ⟨b, o + i, none⟩ = some (.string x) := by
  obtain ⟨b, o, h1, h2, h3⟩ := h (by intro h0; rw [h0] at hi; simp at hi)
  exact ⟨b, o, l[i], h1, h2, List.getElem?_eq_getElem hi, h3 i hi⟩
theorem below_chain {w W W' : World} (h : Below w.heap.size w W) (hb : Below W.heap.size W W') : Below w.heap.size w W' := h.trans (hb.mono h.size)
theorem below_alloc {w W : World} (h : Below w.heap.size w W) (o : Obj) : Below w.heap.size w (W.alloc o) := h.alloc h.size o
/-- a row of keys: each may be, as far as i -/
def KeysTo (l : List ByteArray) (i : Nat) : Prop := ∀ k ∈ l.take i, keyOk k
theorem keysTo_more {l : List ByteArray} {i : Nat} {k : ByteArray} (h : KeysTo l i) (hk : l[i]? = some k) (ho : keyOk k) : KeysTo l (i + 1) := by
  intro x hx
  rw [List.take_add_one, hk] at hx
  simp only [Option.toList_some, List.mem_append, List.mem_singleton] at hx
  rcases hx with hx | rfl
  · exact h x hx
  · exact ho
/-- a bool that tells whether -/
def Tells (w : World) (p : Prop) (e : Ending) (w' : World) : Prop := (∃ b : Bool, e = .returned (.bool b) ∧ (b = true ↔ p)) ∧ Below w.heap.size w w'
set_option maxHeartbeats 2000000 in
set_option maxRecDepth 100000 in
theorem rootok_any (nx : Int) (ao : Option Addr) (l : List ByteArray) (n c : Nat) (w : World) (h : Srw w ao l) (hln : l.length = n) (hc : n ≤ c) (hcc : c ≤ 9223372036854775807) (hsz : ∀ s ∈ l, s.size ≤ 9223372036854775807) :
    Calls Tryz.prog 56 #[.agg #[.int .i64 nx, .slice ao n c]] w (Tells w (OkRoot ⟨nx, l⟩)) := by
  have H := Lib.hid h
  have HL := Lib.hid hln
  have HZ := Lib.hid hsz
  have WI := Lib.hid (fun W => within_any nx 1 1025 W)
  have B0 : Hid (Below w.heap.size w (w.alloc (.cells #[.int .i64 nx, .slice ao n c] 35))) := (Below.refl _ w).alloc (Nat.le_refl _) _
  have K0 : Hid (Blk (w.alloc (.cells #[.int .i64 nx, .slice ao n c] 35)) w.heap.size [.int .i64 nx, .slice ao n c] 35) := Blk.new w [.int .i64 nx, .slice ao n c] 35 _ rfl
  have c0 := K0.out.cell 0
  have c1 := K0.out.cell 1
  simp only [List.getElem?_cons_zero, List.getElem?_cons_succ] at c0 c1
  clear h hln hsz
  by_cases hw : within nx 1 1025
  · have t1 : decide (within nx 1 1025) = true := by simpa using hw
    rw [t1] at WI
    have HW := Lib.hid hw
    clear hw t1
    by_cases h64 : 64 < n
    · have t2 : decide ((64 : Int) < (n : Int)) = true := by simp; omega
      have t3 : decide (64 < n) = true := by simp; omega
      have HF : Hid (¬ OkRoot ⟨nx, l⟩) := fun h0 => by have := h0.most; have := HL.out; simp only at *; omega
      clear h64
      go_enter Tryz.func56, Tryz.ntmps56
      go_wp2_with fail
      refine (WI.out _).mono ?_
      rintro e w1 ⟨rfl, rfl⟩
      go_wp2_with fail
      go_ret
      exact ⟨⟨false, rfl, by simp [HF.out]⟩, B0.out⟩
    · have t2 : decide ((64 : Int) < (n : Int)) = false := by simp; omega
      have t3 : decide (64 < n) = false := by simp; omega
      have H64 := Lib.hid (Nat.le_of_not_lt h64)
      clear h64
      go_enter Tryz.func56, Tryz.ntmps56
      go_wp2_with fail
      refine (WI.out _).mono ?_
      rintro e w1 ⟨rfl, rfl⟩
      go_wp2_with fail
      generalize w.alloc (.cells #[.int .i64 nx, .slice ao n c] 35) = wa at *
      go_loopw [3] (fun vi wr => ∃ i : Nat, i ≤ n ∧ vi = .int .i64 i ∧ Hid (Below w.heap.size w wr) ∧ Hid (Blk wr w.heap.size [.int .i64 nx, .slice ao n c] 35) ∧ Hid (KeysTo l i)) (fun vi _ => n - (RowKit.intOf vi).toNat)
      case atStart => exact ⟨0, by omega, rfl, B0.out, K0.out, fun k hk => by simp at hk⟩
      case round =>
        obtain ⟨i, hi, rfl, hB, hK, hT⟩ := hrel
        have c0 := hK.out.cell 0
        have c1 := hK.out.cell 1
        simp only [List.getElem?_cons_zero, List.getElem?_cons_succ] at c0 c1
        by_cases hin : i < n
        · obtain ⟨b, o, x, rfl, hb, hx, hcell⟩ := srw_cell H.out i (by have := HL.out; omega)
          have HX := Lib.hid hx
          have d1 : wr.cell? ⟨b, o + i, none⟩ = some (.string x) := (hB.out.cell (p := ⟨b, o + i, none⟩) hb).trans hcell
          have CK := Lib.hid (refcheck_key x wr (HZ.out x (List.mem_of_getElem? hx)))
          have q1 : (0 : Int) ≤ (i : Int) := by omega
          have q2 : (i : Int) < (n : Int) := by omega
          clear hx hcell hb
          go_wp2_with fail
          refine CK.out.mono ?_
          rintro e w1 ⟨rfl, hb1⟩
          have HB1 := Lib.hid hb1
          have hB2 : Hid (Below w.heap.size w w1) := below_chain hB.out hb1
          clear hb1
          cases hkb : (keyBytes x.data.toList).isSome with
          | true =>
            have hT2 : Hid (KeysTo l (i + 1)) := keysTo_more hT.out HX.out hkb
            go_wp2_with fail
            go_roundw
            case rel => exact ⟨i + 1, by omega, by go_num, hB2, hK.out.low HB1.out, hT2⟩
            case measure => simp [RowKit.intOf]; omega
          | false =>
            have HF : Hid (¬ OkRoot ⟨nx, l⟩) := fun h0 => by
              have := h0.keys x (List.mem_of_getElem? HX.out)
              unfold keyOk at this
              rw [hkb] at this
              cases this
            go_wp2_with fail
            go_ret
            exact ⟨⟨false, rfl, by simp [HF.out]⟩, hB2.out⟩
        · obtain rfl : i = n := by omega
          go_wp2_with fail
          go_ret
          exact ⟨⟨true, rfl, by
            simp only [true_iff]
            exact ⟨HW.out, by have := HL.out; have := H64.out; simp only; omega, fun k hk => hT.out k (by rw [← HL.out, List.take_length]; exact hk)⟩⟩, hB.out⟩
  · have t1 : decide (within nx 1 1025) = false := by simpa using hw
    rw [t1] at WI
    have HF : Hid (¬ OkRoot ⟨nx, l⟩) := fun h0 => hw h0.next
    clear hw t1
    go_enter Tryz.func56, Tryz.ntmps56
    go_wp2_with fail
    refine (WI.out _).mono ?_
    rintro e w1 ⟨rfl, rfl⟩
    go_wp2_with fail
    go_ret
    exact ⟨⟨false, rfl, by simp [HF.out]⟩, B0.out⟩
end Go.Proofs.YtpjgkboafmebbaaGreatDoor.Sh
