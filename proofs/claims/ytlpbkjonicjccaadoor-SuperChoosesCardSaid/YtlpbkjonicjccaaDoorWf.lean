/-
  The contracts of slices.Clone, slices.Grow of nil and slices.Concat at bytes (and Clone at words), of sha's written and ending. Conditions: what is made is at most 2^47 bytes.
-/
import Derived.Test.YtlpbkjonicjccaaDoorKd
import Derived.Lib.AppendZerosOnto
import Derived.Lib.SliceRun
import Derived.Lib.Walk
import Derived.WalkSpells
namespace Go.Proofs.YtlpbkjonicjccaaDoor.Sh
open Go.RowKit Go.Lib

set_option maxHeartbeats 1000000 in
set_option maxRecDepth 100000 in
theorem grow_nil (n : Nat) (h1 : 1 ≤ n) (h2 : n ≤ 140737488355328) (w : World) :
    Calls Tryd.prog 48 #[.slice none 0 0, .int .i64 n] w fun e w' => Below w.heap.size w w' ∧ ∃ v, e = .returned v ∧ Own w' w.heap.size v [] := by
  obtain ⟨i0, hi, hz0, hz1, hz2⟩ := info_parts info5
  have hr : ∀ ty, (Builtin.append_ #[26, 3] ty #[.slice none 0 0, .int .i64 (n : Int)]).run Tryd.prog w = _ := fun ty =>
    Lib.run_append_grow_zeros w 26 3 ty 5 i0 (.int .u8 0) .i64 .i64 Tryd.underlying26 Tryd.underlying3 hi hz0 none 0 0 [] (run_firstCells_none _ _ _ _ _) n (by omega) (by rw [hz1]; omega) (by omega) (by omega)
      (by rw [hz2]; omega) (by rw [hz2]; exact growslice_fits (by omega) (by omega))
  rw [Nat.zero_add] at hr
  have hge := grownCap_ge w n 0 5
  have hcm := grownCap_le_maxLen w n 0 5 (by unfold maxLen; omega)
  obtain ⟨G, hG⟩ : ∃ G, G = grownCap w n 0 5 := ⟨_, rfl⟩
  obtain ⟨O, hO⟩ : ∃ O, O = Obj.cells ((([] : List Value).toArray ++ Builtin.zeroCells (Value.int .u8 0).cells n) ++ Builtin.zeroCells (Value.int .u8 0).cells (G - n)) 5 := ⟨_, rfl⟩
  rw [← hG] at hr hge hcm
  rw [← hO] at hr
  have hown : Hid (Own (w.drew.alloc O) w.heap.size (.slice (some ⟨w.heap.size, 0, none⟩) 0 G) []) := by
    refine ⟨by simp [bs], Or.inr ⟨w.heap.size, G, _, rfl, Nat.le_refl _, by rw [hO]; exact heap_alloc_new w.drew _, Nat.zero_le _, hcm, ?_, by simp [bs]⟩⟩
    have hz1 : (Value.int IntKind.u8 0).cells.size = 1 := rfl
    simp only [Array.size_append, List.size_toArray, size_zeroCells, hz1, List.length_nil]
    omega
  have hb : Hid (Below w.heap.size w (w.drew.alloc O)) := (Below.refl _ w).drew.alloc (Nat.le_refl _) _
  unfold maxLen at hcm
  clear hO hG
  go_enter Tryd.func48, Tryd.ntmps48
  go_wp2_with (at_builtin; refine Lib.wpList_append_run _ rfl _ _ _ _ rfl _ _ rfl rfl _ _ (hr _) ?_)
  all_goals (go_ret; exact ⟨hb.out, _, rfl, hown.out⟩)

/-- rows of bytes, cell by cell of a block -/
def Rws (w : World) (k : Nat) (rows : List (List UInt8)) : Prop :=
  ∀ (j : Nat) (h : j < rows.length), ∃ ao c, w.cell? ⟨k, j, none⟩ = some (.slice ao (rows[j]).length c) ∧ Byt w ao rows[j] ∧ (ao = none → c = 0)
theorem rows_take (rows : List (List UInt8)) (i : Nat) (h : i < rows.length) : (rows.take (i + 1)).flatten = (rows.take i).flatten ++ rows[i] := by
  rw [List.take_succ_eq_append_getElem h, List.flatten_append, List.flatten_cons, List.flatten_nil, List.append_nil]
theorem rows_len (rows : List (List UInt8)) (i : Nat) : (rows.take i).flatten.length ≤ rows.flatten.length := by
  have h := congrArg List.length (congrArg List.flatten (List.take_append_drop i rows))
  rw [List.flatten_append, List.length_append] at h
  omega
set_option maxHeartbeats 4000000 in
set_option maxRecDepth 100000 in
/-- rows, one behind the other -/
theorem concat_any (k N : Nat) (rows : List (List UInt8)) (w : World) (h : Rws w k rows) (hN : rows.length = N) (hN2 : N ≤ 9223372036854775807) (hk : k < w.heap.size) (hpos : 1 ≤ rows.flatten.length) (hbig : rows.flatten.length ≤ 140737488355328) :
    Calls Tryd.prog 31 #[.slice (some ⟨k, 0, none⟩) N N] w fun e w' => Below w.heap.size w w' ∧ ∃ v, e = .returned v ∧ Own w' w.heap.size v rows.flatten := by
  have HR := Lib.hid h
  have HN := Lib.hid hN
  have hle := fun i => rows_len rows i
  have HLE := Lib.hid hle
  have C1 := Lib.hid (grow_nil rows.flatten.length hpos hbig w)
  obtain ⟨T, hT⟩ : ∃ T, T = rows.flatten.length := ⟨_, rfl⟩
  rw [← hT] at C1 hpos hbig
  have HT := Lib.hid hT
  clear h hN hle hT
  go_enter Tryd.func31, Tryd.ntmps31
  go_wp2_with fail
  go_loop [3, 11] (fun vs vi => ∃ (i s : Nat), i ≤ N ∧ vi = .int .i64 i ∧ vs = .int .i64 s ∧ Hid (s = (rows.take i).flatten.length)) (fun _ vi => N - (RowKit.intOf vi).toNat)
  case atStart => exact ⟨0, 0, by omega, rfl, rfl, rfl⟩
  case round =>
    obtain ⟨i, s, hi, rfl, rfl, hs⟩ := hrel
    by_cases hiN : i < N
    · obtain ⟨ao, c, e0, _, _⟩ := HR.out i (by rw [HN.out]; exact hiN)
      have hnx := congrArg List.length (rows_take rows i (by rw [HN.out]; exact hiN))
      have hl2 := HLE.out (i + 1)
      rw [hnx, ← HT.out] at hl2
      rw [List.length_append, ← hs.out] at hnx hl2
      have HX := Lib.hid hnx
      generalize (rows[i]'(by rw [HN.out]; exact hiN)).length = p at *
      clear hnx
      have q1 : (0 : Int) ≤ (i : Int) := by omega
      go_wp2_with fail
      go_round
      case rel => exact ⟨i + 1, s + p, by omega, by go_num, by go_num, HX.out.symm⟩
      case measure => simp [RowKit.intOf]; omega
    · obtain rfl : i = N := by omega
      have hsT : s = T := by
        have := hs.out
        rw [List.take_of_length_le (by rw [HN.out]; exact Nat.le_refl _), ← HT.out] at this
        exact this
      subst hsT
      clear hs
      go_wp2_with fail
      refine C1.out.mono ?_
      rintro e w1 ⟨hb1, v0, rfl, hown0⟩
      go_wp2_with fail
      go_loopw [6, 27] (fun v vi wr => ∃ (j : Nat), j ≤ i ∧ vi = .int .i64 j ∧ Own wr w.heap.size v (rows.take j).flatten ∧ Below w.heap.size w wr) (fun _ vi _ => i - (RowKit.intOf vi).toNat)
      case atStart => exact ⟨0, by omega, rfl, by simpa using hown0, hb1⟩
      case round =>
        obtain ⟨j, hj, rfl, hown, hb⟩ := hrel
        have hbz := hb.size
        by_cases hji : j < i
        · obtain ⟨ao, c, e0, hr, hn⟩ := HR.out j (by rw [HN.out]; exact hji)
          have f0 := (hb.cell (p := ⟨k, j, none⟩) hk).trans e0
          have hrb := hr.below hb
          have hnx := rows_take rows j (by rw [HN.out]; exact hji)
          have hl2 := HLE.out (j + 1)
          rw [hnx, ← HT.out, List.length_append] at hl2
          obtain ⟨l, hl⟩ : ∃ l, l = rows[j]'(by rw [HN.out]; exact hji) := ⟨_, rfl⟩
          rw [← hl] at f0 hrb hl2 hnx
          obtain ⟨p, hp⟩ : ∃ p, p = l.length := ⟨_, rfl⟩
          rw [← hp] at f0 hl2
          have HP : Hid (l.length = p) := hp.symm
          have HX := Lib.hid hnx
          obtain ⟨acc, hacc⟩ : ∃ acc, acc = (rows.take j).flatten := ⟨_, rfl⟩
          rw [← hacc] at hown hl2 HX
          have p1 : acc.length + p ≤ 140737488355328 := by omega
          have OWN := Lib.hid hown
          have BB := Lib.hid hb
          have RB := Lib.hid hrb
          have q1 : (0 : Int) ≤ (j : Int) := by omega
          clear hown hb hrb hnx hl hp hacc hr e0 hl2
          go_wp2_with (at_builtin; refine wpl_app_len (t := 26) (e := 5) rfl (.tmp 31) (.tmp 32) rfl Tryd.underlying26 info5 w.heap.size _ acc l rfl OWN.out ao p c rfl RB.out hn HP p1 hbz ?_; intro v' w' hown' hgrow)
          have hb' : Below w.heap.size w w' := BB.out.grown hgrow hbz (fun k hk => (OWN.out.lt k hk).1)
          go_wp2_with fail
          go_roundw
          case rel => exact ⟨j + 1, by omega, by go_num, by rw [HX.out]; exact hown', hb'⟩
          case measure => simp [RowKit.intOf]; omega
        · obtain rfl : j = i := by omega
          rw [List.take_of_length_le (by rw [HN.out]; exact Nat.le_refl _)] at hown
          go_wp2_with fail
          go_ret
          exact ⟨hb, _, rfl, hown⟩

end Go.Proofs.YtlpbkjonicjccaaDoor.Sh
