/-
  The contracts of slices.Index, slices.Contains at bools, of space's filled and place. Conditions: each law's own.
-/
import Derived.Test.YtojmohlefbkkdaaWa
namespace Go.Proofs.Ytojmohlefbkkdaa.Sp
open Go.RowKit Go.Lib Go.WideShapes Go.ChangeAt

set_option maxHeartbeats 1000000 in
set_option maxRecDepth 100000 in
theorem index_any (ao : Option Addr) (l : List Bool) (n c : Nat) (x : Bool) (w : World) (h : Bol w ao l) (hl : l.length = n) (hc : n ≤ c) (hcc : c ≤ 9223372036854775807) :
    Calls Try.prog 18 #[.slice ao n c, .bool x] w fun e w' => ∃ r : Int, e = .returned (.int .i64 r) ∧ (0 ≤ r ↔ x ∈ l) ∧ w' = w := by
  have H := Lib.hid h
  have HL := Lib.hid hl
  clear h hl
  go_enter Try.func18, Try.ntmps18
  go_wp2_with fail
  go_loop [8] (fun vi => ∃ i : Nat, i ≤ n ∧ vi = .int .i64 i ∧ Hid (∀ y ∈ l.take i, y ≠ x)) (fun vi => n - (RowKit.intOf vi).toNat)
  case atStart => exact ⟨0, by omega, rfl, by intro y hy; simp at hy⟩
  case round =>
    obtain ⟨i, hi, rfl, hT⟩ := hrel
    by_cases hin : i < n
    · obtain ⟨b, o, rfl, hb, hcell⟩ := bol_cell H.out i (by have := HL.out; omega)
      obtain ⟨y, hy⟩ : ∃ y, l[i]? = some y := ⟨_, List.getElem?_eq_getElem (by have := HL.out; omega)⟩
      have HY := Lib.hid hy
      have d1 := hcell i y hy
      have q1 : (0 : Int) ≤ (i : Int) := by omega
      have q2 : (i : Int) < (n : Int) := by omega
      clear hy hcell hb
      by_cases hxy : x = y
      · have t : (x == y) = true := by simpa using hxy
        have HM : Hid (x ∈ l) := by show _ ∈ _; rw [hxy]; exact List.mem_of_getElem? HY.out
        clear hxy
        go_wp2_with fail
        go_ret
        exact ⟨_, rfl, ⟨fun _ => HM.out, fun _ => by omega⟩, rfl⟩
      · have t : (x == y) = false := by simpa using hxy
        have HM : Hid (∀ z ∈ l.take (i + 1), z ≠ x) := by
          intro z hz
          rw [List.take_add_one, HY.out] at hz
          simp only [Option.toList_some, List.mem_append, List.mem_singleton] at hz
          rcases hz with hz | rfl
          · exact hT.out z hz
          · exact fun h => hxy h.symm
        clear hxy
        go_wp2_with fail
        go_round
        case rel => exact ⟨i + 1, by omega, by go_num, HM⟩
        case measure => simp [RowKit.intOf]; omega
    · obtain rfl : i = n := by omega
      go_wp2_with fail
      go_ret
      refine ⟨-1, rfl, ⟨fun h => absurd h (by decide), fun h => absurd rfl (hT.out x (by rw [List.take_of_length_le (by rw [HL.out]; exact Nat.le_refl _)]; exact h))⟩, rfl⟩
set_option maxRecDepth 100000 in
theorem contains_any (ao : Option Addr) (l : List Bool) (n c : Nat) (x : Bool) (w : World) (h : Bol w ao l) (hl : l.length = n) (hc : n ≤ c) (hcc : c ≤ 9223372036854775807) :
    Calls Try.prog 17 #[.slice ao n c, .bool x] w fun e w' => e = .returned (.bool (decide (x ∈ l))) ∧ w' = w := by
  have CI := Lib.hid (index_any ao l n c x w h hl hc hcc)
  clear h hl hc hcc
  go_enter Try.func17, Try.ntmps17
  go_wp2_with fail
  refine CI.out.mono ?_
  rintro e w1 ⟨r, rfl, hr, rfl⟩
  have E : Hid (decide (0 ≤ r) = decide (x ∈ l)) := by show _ = _; simp [hr]
  clear hr
  go_wp2_with fail
  go_ret
  exact ⟨ret_bool E.out, rfl⟩

/-- the row, but the n slots from p on are t -/
def fil (l : List Bool) (p n : Nat) (t : Bool) : List Bool := (List.range n).foldl (fun m i => m.set (p + i) t) l
theorem fil_zero (l : List Bool) (p : Nat) (t : Bool) : fil l p 0 t = l := rfl
theorem fil_more (l : List Bool) (p n : Nat) (t : Bool) : fil l p (n + 1) t = (fil l p n t).set (p + n) t := by
  simp [fil, List.range_succ]
theorem fil_len (l : List Bool) (p n : Nat) (t : Bool) : (fil l p n t).length = l.length := by
  induction n with
  | zero => rfl
  | succ n ih => rw [fil_more, List.length_set, ih]
theorem fil_get (l : List Bool) (p n : Nat) (t : Bool) (j : Nat) (hp : p + n ≤ l.length) : (fil l p n t)[j]? = if p ≤ j ∧ j < p + n then some t else l[j]? := by
  induction n with
  | zero => rw [fil_zero, if_neg (by omega)]
  | succ n ih =>
    rw [fil_more, List.getElem?_set, ih (by omega), fil_len]
    by_cases h : p + n = j
    · rw [if_pos h, if_pos (by omega), if_pos (by omega)]
    · rw [if_neg h]
      by_cases h2 : p ≤ j ∧ j < p + n
      · rw [if_pos h2, if_pos (by omega)]
      · rw [if_neg h2, if_neg (by omega)]
set_option maxHeartbeats 1000000 in
set_option maxRecDepth 100000 in
theorem filled_any (ao : Option Addr) (l : List Bool) (m c p n : Nat) (x : Bool) (w : World) (h : Bol w ao l) (hn : ao = none → c = 0) (hl : l.length = m) (hl2 : m ≤ 140737488355328) (hp : p + n ≤ m) (hn1 : 1 ≤ n) :
    Calls Try.prog 15 #[.slice ao m c, .int .i64 p, .int .i64 n, .bool x] w fun e w' => Below w.heap.size w w' ∧ ∃ v, e = .returned v ∧ Own w' w.heap.size v (fil l p n x) := by
  have C1 := Lib.hid (clone_any ao l m c w h hn hl hl2)
  have HL := Lib.hid hl
  clear h hn hl
  go_enter Try.func15, Try.ntmps15
  go_wp2_with fail
  refine C1.out.mono ?_
  rintro e w1 ⟨hb1, v, rfl, hown⟩
  obtain ⟨g, cc, rfl, hg1, hg2, hg3, hg4⟩ := Own.block hown (by intro h0; have := HL.out; rw [h0] at this; simp at this; omega)
  rw [HL.out] at hown hg3
  rw [HL.out]
  have HB := Lib.hid hb1
  have HO := Lib.hid hown
  clear hb1 hown
  go_wp2_with fail
  go_loopw [10, 14] (fun _ vi wr => ∃ i : Nat, i ≤ n ∧ vi = .int .i64 i ∧ Hid (Below w.heap.size w wr) ∧ Hid (Own wr w.heap.size (.slice (some ⟨g, 0, none⟩) m cc) (fil l p i x))) (fun _ vi _ => n - (RowKit.intOf vi).toNat)
  case atStart => exact ⟨0, by omega, rfl, HB, HO⟩
  case round =>
    obtain ⟨i, hi, rfl, hB, hO⟩ := hrel
    by_cases hin : i < n
    · have d1 := Own.frozen hO.out (p + i)
      have hlt := (hO.out.lt g rfl)
      obtain ⟨y, hy⟩ : ∃ y, wr.cell? ⟨g, p + i, none⟩ = some (.bool y) := ⟨_, Own.get hO.out (p + i) (by rw [fil_len, HL.out]; omega)⟩
      have q1 : (0 : Int) ≤ (i : Int) := by omega
      have q2 : (0 : Int) ≤ (p : Int) + (i : Int) := by omega
      have q3 : (p : Int) + (i : Int) < (m : Int) := by omega
      have w1 : IntKind.i64.wrap ((p : Int) + (i : Int)) = (p : Int) + (i : Int) := IntWalk.i64_in _ (by omega)
      have e1 : ((p : Int) + (i : Int)).toNat = p + i := by omega
      have HO2 : Hid (Own (wr.setCell ⟨g, p + i, none⟩ (.bool x)) w.heap.size (.slice (some ⟨g, 0, none⟩) m cc) (fil l p (i + 1) x)) := by
        show Own _ _ _ _
        rw [fil_more]
        exact Own.set hO.out (p + i) x
      clear hlt
      go_wp2_with fail
      go_roundw
      case rel => exact ⟨i + 1, by omega, by go_num, Lib.hid (hB.out.setCell hg1 _), HO2⟩
      case measure => simp [RowKit.intOf]; omega
    · obtain rfl : i = n := by omega
      go_wp2_with fail
      go_ret
      exact ⟨hB.out, _, rfl, hO.out⟩
end Go.Proofs.Ytojmohlefbkkdaa.Sp
