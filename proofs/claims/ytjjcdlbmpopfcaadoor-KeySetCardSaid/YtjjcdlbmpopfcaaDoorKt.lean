/-
  The contracts of the document's own Same, Find and of key's Find with slices.Index, over rows of texts. Conditions: each law's own.
-/
import Derived.Test.YtjjcdlbmpopfcaaDoorKs
import Derived.Test.YtjjcdlbmpopfcaaDoorPl
namespace Go.Proofs.YtjjcdlbmpopfcaaDoor.Sh
open Go.ChangeShapes Go.WideShapes Go.ChangeAt Go.RowKit Go.Lib Go.ChangeMaps

theorem srw_cell {w : World} {ao : Option Addr} {l : List ByteArray} (h : Srw w ao l) (i : Nat) (hi : i < l.length) : ∃ b o x, ao = some ⟨b, o, none⟩ ∧ b < w.heap.size ∧ l[i]? = some x ∧ w.cell? ⟨b, o + i, none⟩ = some (.string x) := by
  obtain ⟨b, o, h1, h2, h3⟩ := h (by intro h0; rw [h0] at hi; simp at hi)
  exact ⟨b, o, l[i], h1, h2, List.getElem?_eq_getElem hi, h3 i hi⟩
theorem take_more {a b : List ByteArray} {i : Nat} {x y : ByteArray} (ht : a.take i = b.take i) (ha : a[i]? = some x) (hb : b[i]? = some y) (h : (x.toList == y.toList) = true) : a.take (i + 1) = b.take (i + 1) := by
  rw [List.take_add_one, List.take_add_one, ht, ha, hb, toList_inj (eq_of_beq h)]
theorem not_same {a b : List ByteArray} {i : Nat} {x y : ByteArray} (ha : a[i]? = some x) (hb : b[i]? = some y) (h : (x.toList == y.toList) = false) : a ≠ b := by
  rintro rfl
  rw [ha] at hb
  injection hb with hb
  subst hb
  simp at h

theorem beq_sym {a b : List UInt8} {c : Bool} (h : (a == b) = c) : (b == a) = c := by rw [BEq.comm]; exact h
set_option maxHeartbeats 2000000 in
set_option maxRecDepth 100000 in
theorem same_any (ao bo : Option Addr) (a b : List ByteArray) (ca cb : Nat) (w : World) (ha : Srw w ao a) (hb : Srw w bo b) (hca : a.length ≤ ca) (hcc : ca ≤ 9223372036854775807) (hcb : b.length ≤ cb) (_ : cb ≤ 9223372036854775807) :
    Calls Tryd.prog 18 #[.slice ao a.length ca, .slice bo b.length cb] w fun e w' => e = .returned (.bool (decide (a = b))) ∧ ∃ n, w' = w.drewN n := by
  have HA := Lib.hid ha
  have HB := Lib.hid hb
  obtain ⟨n, hn⟩ : ∃ n, n = a.length := ⟨_, rfl⟩
  obtain ⟨m, hm⟩ : ∃ m, m = b.length := ⟨_, rfl⟩
  have HN := Lib.hid hn
  have HM := Lib.hid hm
  rw [← hn] at hca ⊢
  rw [← hm] at hcb ⊢
  clear ha hb hn hm
  by_cases hnm : n = m
  · subst hnm
    go_enter Tryd.func18, Tryd.ntmps18
    go_wp2_with fail
    go_loopw [5] (fun vi wr => ∃ i k : Nat, i ≤ n ∧ vi = .int .i64 i ∧ Hid (wr = w.drewN k) ∧ Hid (a.take i = b.take i)) (fun vi _ => n - (RowKit.intOf vi).toNat)
    case atStart => exact ⟨0, 0, by omega, rfl, rfl, rfl⟩
    case round =>
      obtain ⟨i, k, hi, rfl, hw, ht⟩ := hrel
      by_cases hin : i < n
      · obtain ⟨x1, o1, x, rfl, hx1, gx, e1⟩ := srw_cell HA.out i (by have := HN.out; omega)
        obtain ⟨x2, o2, y, rfl, hx2, gy, e2⟩ := srw_cell HB.out i (by have := HM.out; omega)
        rw [show w = w.drewN 0 from rfl] at e1 e2
        have e1 : wr.cell? ⟨x1, o1 + i, none⟩ = some (.string x) := by rw [hw.out]; exact e1
        have e2 : wr.cell? ⟨x2, o2 + i, none⟩ = some (.string y) := by rw [hw.out]; exact e2
        have GX := Lib.hid gx
        have GY := Lib.hid gy
        have q1 : (0 : Int) ≤ (i : Int) := by omega
        have q2 : (i : Int) < (n : Int) := by omega
        clear gx gy
        cases hxy : (x.toList == y.toList) with
        | false =>
          go_wp2_with fail
          go_quiet (fail)
          go_wp2_with fail
          go_ret
          exact ⟨by rw [decide_eq_false (not_same GX.out GY.out hxy)]; rfl, k + nq, by rw [hw.out, World.drewN_drewN]⟩
        | true =>
          go_wp2_with fail
          go_quiet (fail)
          go_wp2_with fail
          go_roundw
          case rel => exact ⟨i + 1, k + nq, by omega, by go_num, by show _ = _; rw [hw.out, World.drewN_drewN], take_more ht.out GX.out GY.out hxy⟩
          case measure => simp [RowKit.intOf]; omega
      · obtain rfl : i = n := by omega
        go_wp2_with fail
        go_ret
        have hab : a = b := by
          have := ht.out
          rwa [List.take_of_length_le (by have := HN.out; omega), List.take_of_length_le (by have := HM.out; omega)] at this
        exact ⟨by rw [decide_eq_true hab]; rfl, k, hw.out⟩
  · go_enter Tryd.func18, Tryd.ntmps18
    go_wp2_with fail
    go_ret
    have hab : a ≠ b := fun h => hnm (by rw [HN.out, HM.out, h])
    exact ⟨by rw [decide_eq_false hab]; rfl, 0, rfl⟩

/-- the first place of k: how far a walk has come -/
theorem find_step (k : ByteArray) (l : List ByteArray) (i : Nat) (x : ByteArray) (hx : l[i]? = some x) (h : ∀ y ∈ l.take i, y ≠ k) (he : (x.toList == k.toList) = true) : find k l = (i : Int) := by
  have hi : i < l.length := (List.getElem?_eq_some_iff.1 hx).1
  refine find_first k l i hi ?_ fun j hj => h _ ?_
  · rw [List.getElem?_eq_getElem hi] at hx
    injection hx with hx
    rw [hx, toList_inj (eq_of_beq he)]
  · rw [List.mem_take_iff_getElem]
    exact ⟨j, by omega, rfl⟩
theorem find_more (k : ByteArray) (l : List ByteArray) (i : Nat) (x : ByteArray) (hx : l[i]? = some x) (h : ∀ y ∈ l.take i, y ≠ k) (he : (x.toList == k.toList) = false) : ∀ y ∈ l.take (i + 1), y ≠ k := by
  intro y hy
  rw [List.take_add_one, hx] at hy
  simp only [Option.toList_some, List.mem_append, List.mem_singleton] at hy
  rcases hy with hy | rfl
  · exact h y hy
  · intro e
    rw [e] at he
    simp at he

set_option maxHeartbeats 2000000 in
set_option maxRecDepth 100000 in
theorem reffind_any (ao : Option Addr) (a : List ByteArray) (ca : Nat) (x : ByteArray) (w : World) (ha : Srw w ao a) (hca : a.length ≤ ca) (hcc : ca ≤ 9223372036854775807) :
    Calls Tryd.prog 22 #[.slice ao a.length ca, .string x] w fun e w' => e = .returned (.int .i64 (find x a)) ∧ w' = w := by
  have HA := Lib.hid ha
  obtain ⟨n, hn⟩ : ∃ n, n = a.length := ⟨_, rfl⟩
  have HN := Lib.hid hn
  rw [← hn] at hca ⊢
  clear ha hn
  go_enter Tryd.func22, Tryd.ntmps22
  go_wp2_with fail
  go_loopw [5] (fun vi wr => ∃ i : Nat, i ≤ n ∧ vi = .int .i64 i ∧ wr = w ∧ Hid (∀ y ∈ a.take i, y ≠ x)) (fun vi _ => n - (RowKit.intOf vi).toNat)
  case atStart => exact ⟨0, by omega, rfl, rfl, by intro y hy; simp at hy⟩
  case round =>
    obtain ⟨i, hi, rfl, rfl, ht⟩ := hrel
    by_cases hin : i < n
    · obtain ⟨x1, o1, y, rfl, hx1, gx, e1⟩ := srw_cell HA.out i (by have := HN.out; omega)
      have GX := Lib.hid gx
      have q1 : (0 : Int) ≤ (i : Int) := by omega
      have q2 : (i : Int) < (n : Int) := by omega
      clear gx
      cases hxy : (y.toList == x.toList) with
      | true =>
        go_wp2_with fail
        go_ret
        exact ⟨by rw [find_step x a i y GX.out ht.out hxy]; rfl, rfl⟩
      | false =>
        go_wp2_with fail
        go_roundw
        case rel => exact ⟨i + 1, by omega, by go_num, trivial, find_more x a i y GX.out ht.out hxy⟩
        case measure => simp [RowKit.intOf]; omega
    · obtain rfl : i = n := by omega
      go_wp2_with fail
      go_ret
      have hab := ht.out
      rw [List.take_of_length_le (by have := HN.out; omega)] at hab
      exact ⟨by rw [find_none x a fun hm => hab _ hm rfl]; rfl, rfl⟩

set_option maxHeartbeats 2000000 in
set_option maxRecDepth 100000 in
theorem index_any (ao : Option Addr) (a : List ByteArray) (ca : Nat) (x : ByteArray) (w : World) (ha : Srw w ao a) (hca : a.length ≤ ca) (hcc : ca ≤ 9223372036854775807) :
    Calls Tryd.prog 32 #[.slice ao a.length ca, .string x] w fun e w' => e = .returned (.int .i64 (find x a)) ∧ w' = w := by
  have HA := Lib.hid ha
  obtain ⟨n, hn⟩ : ∃ n, n = a.length := ⟨_, rfl⟩
  have HN := Lib.hid hn
  rw [← hn] at hca ⊢
  clear ha hn
  go_enter Tryd.func32, Tryd.ntmps32
  go_wp2_with fail
  go_loopw [8] (fun vi wr => ∃ i : Nat, i ≤ n ∧ vi = .int .i64 i ∧ wr = w ∧ Hid (∀ y ∈ a.take i, y ≠ x)) (fun vi _ => n - (RowKit.intOf vi).toNat)
  case atStart => exact ⟨0, by omega, rfl, rfl, by intro y hy; simp at hy⟩
  case round =>
    obtain ⟨i, hi, rfl, rfl, ht⟩ := hrel
    by_cases hin : i < n
    · obtain ⟨x1, o1, y, rfl, hx1, gx, e1⟩ := srw_cell HA.out i (by have := HN.out; omega)
      have GX := Lib.hid gx
      have q1 : (0 : Int) ≤ (i : Int) := by omega
      have q2 : (i : Int) < (n : Int) := by omega
      clear gx
      cases hxy : (x.toList == y.toList) with
      | true =>
        go_wp2_with fail
        go_ret
        exact ⟨by rw [find_step x a i y GX.out ht.out (beq_sym hxy)]; rfl, rfl⟩
      | false =>
        go_wp2_with fail
        go_roundw
        case rel => exact ⟨i + 1, by omega, by go_num, trivial, find_more x a i y GX.out ht.out (beq_sym hxy)⟩
        case measure => simp [RowKit.intOf]; omega
    · obtain rfl : i = n := by omega
      go_wp2_with fail
      go_ret
      have hab := ht.out
      rw [List.take_of_length_le (by have := HN.out; omega)] at hab
      exact ⟨by rw [find_none x a fun hm => hab _ hm rfl]; rfl, rfl⟩

theorem find_any (ao : Option Addr) (a : List ByteArray) (ca : Nat) (x : ByteArray) (w : World) (ha : Srw w ao a) (hca : a.length ≤ ca) (hcc : ca ≤ 9223372036854775807) :
    Calls Tryd.prog 21 #[.slice ao a.length ca, .string x] w fun e w' => e = .returned (.int .i64 (find x a)) ∧ w' = w := by
  have C := Lib.hid (index_any ao a ca x w ha hca hcc)
  clear ha
  go_enter Tryd.func21, Tryd.ntmps21
  go_wp2_with fail
  refine C.out.mono ?_
  rintro e w1 ⟨rfl, rfl⟩
  go_wp2_with fail
  go_ret
  exact ⟨rfl, rfl⟩
end Go.Proofs.YtjjcdlbmpopfcaaDoor.Sh
