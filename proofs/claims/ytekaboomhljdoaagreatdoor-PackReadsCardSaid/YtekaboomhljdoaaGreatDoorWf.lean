/-
  The contracts of slices.Clone, slices.Grow of nil and slices.Concat at bytes (and Clone at words), of sha's written and ending. Conditions: what is made is at most 2^47 bytes.
-/
import Derived.Test.YtekaboomhljdoaaGreatDoorWc
import Derived.Lib.AppendZerosOnto
import Derived.Lib.SliceRun
import Derived.Lib.Walk
import Derived.WalkSpells
namespace Go.Proofs.YtekaboomhljdoaaGreatDoor.Sh
open Go.RowKit Go.Lib

set_option maxHeartbeats 1000000 in
set_option maxRecDepth 100000 in
theorem grow_nil (n : Nat) (h1 : 1 ≤ n) (h2 : n ≤ 140737488355328) (w : World) :
    Calls Tryz.prog 78 #[.slice none 0 0, .int .i64 n] w fun e w' => Below w.heap.size w w' ∧ ∃ v, e = .returned v ∧ Own w' w.heap.size v [] := by
  obtain ⟨i0, hi, hz0, hz1, hz2⟩ := info_parts info5
  have hr : ∀ ty, (Builtin.append_ #[24, 3] ty #[.slice none 0 0, .int .i64 (n : Int)]).run Tryz.prog w = _ := fun ty =>
    Lib.run_append_grow_zeros w 24 3 ty 5 i0 (.int .u8 0) .i64 .i64 Tryz.underlying24 Tryz.underlying3 hi hz0 none 0 0 [] (run_firstCells_none _ _ _ _ _) n (by omega) (by rw [hz1]; omega) (by omega) (by omega)
      (by rw [hz2]; omega) (by rw [hz2]; exact growslice_fits (by omega) (by omega))
  rw [Nat.zero_add] at hr
  have hge := grownCap_ge w n 0 5
  have hcm := grownCap_le_maxLen w n 0 5 (by unfold maxLen; omega)
  obtain ⟨G, hG⟩ : ∃ G, G = grownCap w n 0 5 := ⟨_, rfl⟩
  obtain ⟨O, hO⟩ : ∃ O, O = Obj.cells ((([] : List Value).toArray ++ Builtin.zeroCells (Value.int .u8 0).cells n) ++ Builtin.zeroCells (Value.int .u8 0).cells (G - n)) 5 := ⟨_, rfl⟩
  rw [← hG] at hr hge hcm
  rw [← hO] at hr
  have hown : Hid (Own (w.drew.alloc O) w.heap.size (.slice (some ⟨w.heap.size, 0, none⟩) 0 G) []) := by
    refine ⟨by simp [bs], Or.inr ⟨w.heap.size, G, _, rfl, Nat.le_refl _, by rw [hO]; exact heap_alloc_new w.drew _, Nat.zero_le _, hcm, ?_, by simp [bs]⟩⟩
    have hz1 : (Value.int IntKind.u8 0).cells.size = 1 := rfl
    simp only [Array.size_append, List.size_toArray, size_zeroCells, hz1, List.length_nil]
    omega
  have hb : Hid (Below w.heap.size w (w.drew.alloc O)) := (Below.refl _ w).drew.alloc (Nat.le_refl _) _
  unfold maxLen at hcm
  clear hO hG
  go_enter Tryz.func78, Tryz.ntmps78
  go_wp2_with (at_builtin; refine Lib.wpList_append_run _ rfl _ _ _ _ rfl _ _ rfl rfl _ _ (hr _) ?_)
  all_goals (go_ret; exact ⟨hb.out, _, rfl, hown.out⟩)

/-- rows of bytes, cell by cell of a block -/
def Rws (w : World) (k : Nat) (rows : List (List UInt8)) : Prop :=
  ∀ (j : Nat) (h : j < rows.length), ∃ ao c, w.cell? ⟨k, j, none⟩ = some (.slice ao (rows[j]).length c) ∧ Byt w ao rows[j] ∧ (ao = none → c = 0)
theorem rows_take (rows : List (List UInt8)) (i : Nat) (h : i < rows.length) : (rows.take (i + 1)).flatten = (rows.take i).flatten ++ rows[i] := by
  rw [List.take_succ_eq_append_getElem h, List.flatten_append, List.flatten_cons, List.flatten_nil, List.append_nil]
theorem rows_len (rows : List (List UInt8)) (i : Nat) : (rows.take i).flatten.length ≤ rows.flatten.length := by
  have h := congrArg List.length (congrArg List.flatten (List.take_append_drop i rows))
  rw [List.flatten_append, List.length_append] at h
  omega
set_option maxHeartbeats 4000000 in
set_option maxRecDepth 100000 in
/-- rows, one behind the other -/
theorem concat_any (k N : Nat) (rows : List (List UInt8)) (w : World) (h : Rws w k rows) (hN : rows.length = N) (hN2 : N ≤ 9223372036854775807) (hk : k < w.heap.size) (hpos : 1 ≤ rows.flatten.length) (hbig : rows.flatten.length ≤ 140737488355328) :
    Calls Tryz.prog 59 #[.slice (some ⟨k, 0, none⟩) N N] w fun e w' => Below w.heap.size w w' ∧ ∃ v, e = .returned v ∧ Own w' w.heap.size v rows.flatten := by
  have HR := Lib.hid h
  have HN := Lib.hid hN
  have hle := fun i => rows_len rows i
  have HLE := Lib.hid hle
  have C1 := Lib.hid (grow_nil rows.flatten.length hpos hbig w)
  obtain ⟨T, hT⟩ : ∃ T, T = rows.flatten.length := ⟨_, rfl⟩
  rw [← hT] at C1 hpos hbig
  have HT := Lib.hid hT
  clear h hN hle hT
  go_enter Tryz.func59, Tryz.ntmps59
  go_wp2_with fail
  go_loop [3, 11] (fun vs vi => ∃ (i s : Nat), i ≤ N ∧ vi = .int .i64 i ∧ vs = .int .i64 s ∧ Hid (s = (rows.take i).flatten.length)) (fun _ vi => N - (RowKit.intOf vi).toNat)
  case atStart => exact ⟨0, 0, by omega, rfl, rfl, rfl⟩
  case round =>
    obtain ⟨i, s, hi, rfl, rfl, hs⟩ := hrel
    by_cases hiN : i < N
    · obtain ⟨ao, c, e0, _, _⟩ := HR.out i (by rw [HN.out]; exact hiN)
      have hnx := congrArg List.length (rows_take rows i (by rw [HN.out]; exact hiN))
      have hl2 := HLE.out (i + 1)
      rw [hnx, ← HT.out] at hl2
      rw [List.length_append, ← hs.out] at hnx hl2
      have HX := Lib.hid hnx
      generalize (rows[i]'(by rw [HN.out]; exact hiN)).length = p at *
      clear hnx
      have q1 : (0 : Int) ≤ (i : Int) := by omega
      go_wp2_with fail
      go_round
      case rel => exact ⟨i + 1, s + p, by omega, by go_num, by go_num, HX.out.symm⟩
      case measure => simp [RowKit.intOf]; omega
    · obtain rfl : i = N := by omega
      have hsT : s = T := by
        have := hs.out
        rw [List.take_of_length_le (by rw [HN.out]; exact Nat.le_refl _), ← HT.out] at this
        exact this
      subst hsT
      clear hs
      go_wp2_with fail
      refine C1.out.mono ?_
      rintro e w1 ⟨hb1, v0, rfl, hown0⟩
      go_wp2_with fail
      go_loopw [6, 27] (fun v vi wr => ∃ (j : Nat), j ≤ i ∧ vi = .int .i64 j ∧ Own wr w.heap.size v (rows.take j).flatten ∧ Below w.heap.size w wr) (fun _ vi _ => i - (RowKit.intOf vi).toNat)
      case atStart => exact ⟨0, by omega, rfl, by simpa using hown0, hb1⟩
      case round =>
        obtain ⟨j, hj, rfl, hown, hb⟩ := hrel
        have hbz := hb.size
        by_cases hji : j < i
        · obtain ⟨ao, c, e0, hr, hn⟩ := HR.out j (by rw [HN.out]; exact hji)
          have f0 := (hb.cell (p := ⟨k, j, none⟩) hk).trans e0
          have hrb := hr.below hb
          have hnx := rows_take rows j (by rw [HN.out]; exact hji)
          have hl2 := HLE.out (j + 1)
          rw [hnx, ← HT.out, List.length_append] at hl2
          obtain ⟨l, hl⟩ : ∃ l, l = rows[j]'(by rw [HN.out]; exact hji) := ⟨_, rfl⟩
          rw [← hl] at f0 hrb hl2 hnx
          obtain ⟨p, hp⟩ : ∃ p, p = l.length := ⟨_, rfl⟩
          rw [← hp] at f0 hl2
          have HP : Hid (l.length = p) := hp.symm
          have HX := Lib.hid hnx
          obtain ⟨acc, hacc⟩ : ∃ acc, acc = (rows.take j).flatten := ⟨_, rfl⟩
          rw [← hacc] at hown hl2 HX
          have p1 : acc.length + p ≤ 140737488355328 := by omega
          have OWN := Lib.hid hown
          have BB := Lib.hid hb
          have RB := Lib.hid hrb
          have q1 : (0 : Int) ≤ (j : Int) := by omega
          clear hown hb hrb hnx hl hp hacc hr e0 hl2
          go_wp2_with (at_builtin; refine wpl_app_len (t := 24) (e := 5) rfl (.tmp 31) (.tmp 32) rfl Tryz.underlying24 info5 w.heap.size _ acc l rfl OWN.out ao p c rfl RB.out hn HP p1 hbz ?_; intro v' w' hown' hgrow)
          have hb' : Below w.heap.size w w' := BB.out.grown hgrow hbz (fun k hk => (OWN.out.lt k hk).1)
          go_wp2_with fail
          go_roundw
          case rel => exact ⟨j + 1, by omega, by go_num, by rw [HX.out]; exact hown', hb'⟩
          case measure => simp [RowKit.intOf]; omega
        · obtain rfl : j = i := by omega
          rw [List.take_of_length_le (by rw [HN.out]; exact Nat.le_refl _)] at hown
          go_wp2_with fail
          go_ret
          exact ⟨hb, _, rfl, hown⟩

set_option maxHeartbeats 1000000 in
set_option maxRecDepth 100000 in
theorem clone_any (ao : Option Addr) (l : List UInt8) (c : Nat) (w : World) (h : Byt w ao l) (hn : ao = none → c = 0) (hl : l.length ≤ 140737488355328) :
    Calls Tryz.prog 107 #[.slice ao l.length c] w fun e w' => Below w.heap.size w w' ∧ ∃ v, e = .returned v ∧ Own w' w.heap.size v l := by
  have H := Lib.hid h
  have k0 := fun (W : World) (a : Option Addr) (n c : Nat) => Lib.run_eql_slice_nil (P := Tryz.prog) W 24 5 a n c 0 0 Tryz.underlying24
  cases ao with
  | none =>
    have hl0 : l = [] := by
      cases l with
      | nil => rfl
      | cons x r =>
        obtain ⟨b, o, h0, _⟩ := h (by simp)
        cases h0
    subst hl0
    clear h
    go_enter Tryz.func107, Tryz.ntmps107
    go_wp2_with fail
    go_ret
    exact ⟨Below.refl _ _, _, rfl, World.ownsRow_nil _ _ _ _⟩
  | some ad =>
    have lit := own_lit w [] w.heap.size (Nat.le_refl _) (by simp)
    have ba := (Below.refl _ w).alloc (Nat.le_refl _) (.cells #[] 5)
    have h1 : Byt (w.alloc (.cells #[] 5)) (some ad) l := h.below ba
    obtain ⟨n, hnn⟩ : ∃ n, n = l.length := ⟨_, rfl⟩
    rw [← hnn] at hl ⊢
    have p1 : ([] : List UInt8).length + n ≤ 140737488355328 := by simpa using hl
    have p2 : w.heap.size ≤ (w.alloc (.cells #[] 5)).heap.size := by simp
    have LIT := Lib.hid lit
    have BA := Lib.hid ba
    have H1 := Lib.hid h1
    have HL : Hid (l.length = n) := hnn.symm
    clear h lit ba h1 hnn
    go_enter Tryz.func107, Tryz.ntmps107
    go_wp2_with (at_builtin; refine wpl_app_len (t := 24) (e := 5) rfl (.tmp 5) (.tmp 6) rfl Tryz.underlying24 info5 w.heap.size (.slice (some ⟨w.heap.size, 0, none⟩) 0 0) [] l rfl LIT.out (some ad) n c rfl H1.out (fun h => by cases h) HL p1 p2 ?_; intro v' w' hown' hgrow)
    have hb' : Below w.heap.size w w' := BA.out.grown hgrow p2 (fun k hk => (LIT.out.lt k hk).1)
    go_wp2_with fail
    go_ret
    exact ⟨hb', _, rfl, hown'⟩
set_option maxHeartbeats 1000000 in
set_option maxRecDepth 100000 in
theorem clonew_any (ao : Option Addr) (l : List UInt32) (c : Nat) (w : World) (h : Wrd w ao l) (hn : ao = none → c = 0) (hl : l.length * 4 ≤ 140737488355328) :
    Calls Tryz.prog 106 #[.slice ao l.length c] w fun e w' => Below w.heap.size w w' ∧ ∃ v, e = .returned v ∧ OwnW w' w.heap.size v l := by
  have H := Lib.hid h
  have k0 := fun (W : World) (a : Option Addr) (n c : Nat) => Lib.run_eql_slice_nil (P := Tryz.prog) W 113 118 a n c 0 0 Tryz.underlying113
  cases ao with
  | none =>
    have hl0 : l = [] := by
      cases l with
      | nil => rfl
      | cons x r =>
        obtain ⟨b, o, h0, _⟩ := h (by simp)
        cases h0
    subst hl0
    clear h
    go_enter Tryz.func106, Tryz.ntmps106
    go_wp2_with fail
    go_ret
    exact ⟨Below.refl _ _, _, rfl, World.ownsRow_nil _ _ _ _⟩
  | some ad =>
    have lit := ownw_lit w [] w.heap.size (Nat.le_refl _) (by simp)
    have ba := (Below.refl _ w).alloc (Nat.le_refl _) (.cells #[] 118)
    have h1 : Wrd (w.alloc (.cells #[] 118)) (some ad) l := h.below ba
    obtain ⟨n, hnn⟩ : ∃ n, n = l.length := ⟨_, rfl⟩
    rw [← hnn] at hl ⊢
    have p1 : (([] : List UInt32).length + n) * 4 ≤ 140737488355328 := by simpa using hl
    have p2 : w.heap.size ≤ (w.alloc (.cells #[] 118)).heap.size := by simp
    have LIT := Lib.hid lit
    have BA := Lib.hid ba
    have H1 := Lib.hid h1
    have HL : Hid (l.length = n) := hnn.symm
    clear h lit ba h1 hnn
    go_enter Tryz.func106, Tryz.ntmps106
    go_wp2_with (at_builtin; refine wpl_appw_len (t := 113) (e := 118) rfl (.tmp 5) (.tmp 6) rfl Tryz.underlying113 info118 w.heap.size (.slice (some ⟨w.heap.size, 0, none⟩) 0 0) [] l rfl LIT.out (some ad) n c rfl H1.out (fun h => by cases h) HL p1 p2 ?_; intro v' w' hown' hgrow)
    have hb' : Below w.heap.size w w' := BA.out.grown hgrow p2 (fun k hk => (LIT.out.lt k hk).1)
    go_wp2_with fail
    go_ret
    exact ⟨hb', _, rfl, hown'⟩

theorem beL_take (l : List UInt32) (i : Nat) (h : i < l.length) : beL (l.take (i + 1)) = beL (l.take i) ++ be4 (l[i]).toNat := by
  rw [List.take_succ_eq_append_getElem h, beL_app]
  simp [beL]
theorem be4_lit (W : World) (x : UInt32) (a b c d : Int) (h : a = ((x.toNat / 16777216 % 256 : Nat) : Int) ∧ b = ((x.toNat / 65536 % 256 : Nat) : Int) ∧ c = ((x.toNat / 256 % 256 : Nat) : Int) ∧ d = ((x.toNat % 256 : Nat) : Int)) :
    Byt (W.alloc (.cells #[.int .u8 a, .int .u8 b, .int .u8 c, .int .u8 d] 5)) (some ⟨W.heap.size, 0, none⟩) (be4 x.toNat) := fun _ => by
  obtain ⟨rfl, rfl, rfl, rfl⟩ := h
  refine ⟨W.heap.size, 0, rfl, by simp, fun j hj => ?_⟩
  rw [Nat.zero_add, World.cell?_alloc_new]
  rw [be4_len] at hj
  have hj' : j = 0 ∨ j = 1 ∨ j = 2 ∨ j = 3 := by omega
  rcases hj' with rfl | rfl | rfl | rfl <;> simp only [be4, List.getElem_cons_zero, List.getElem_cons_succ, u8_nat _ (Nat.mod_lt _ (show 0 < 256 by decide))] <;> rfl
set_option maxHeartbeats 2000000 in
set_option maxRecDepth 100000 in
theorem written_any (ao : Option Addr) (l : List UInt32) (n c : Nat) (w : World) (h : Wrd w ao l) (hln : l.length = n) (hc : n ≤ c) (hl : n * 4 ≤ 140737488355328) :
    Calls Tryz.prog 104 #[.slice ao n c] w fun e w' => Below w.heap.size w w' ∧ ∃ v, e = .returned v ∧ Own w' w.heap.size v (beL l) := by
  have H := Lib.hid h
  have HL := Lib.hid hln
  obtain ⟨i0, hi, hz0, hz1, hz2⟩ := info_parts info5
  have hmk : ∀ W : World, (Instr.makeSlice 24 (.int .i64 0) (.int .i64 (4 * (n : Int)))).run Tryz.prog W = _ := fun W => run_make W 24 5 i0 (.int .u8 0) Tryz.underlying24 hi hz0 .i64 .i64 0 (4 * (n : Int)) (Int.le_refl _) (by omega) (by rw [hz2]; omega) (by omega)
  have e1 : (4 * (n : Int)).toNat = 4 * n := by omega
  rw [e1, hz1, Int.toNat_zero, Nat.mul_one] at hmk
  have own0 := World.ownsRow_made (e := 5) (size := 1) (base := w.heap.size) w (madeCells (Value.int .u8 0).cells (4 * n)) (4 * n) (Nat.le_refl _) (by unfold maxLen; omega) (by rw [size_madeCells, Nat.mul_one])
  generalize madeCells (Value.int .u8 0).cells (4 * n) = Z at *
  have O0 : Hid (Own (w.alloc (.cells Z 5)) w.heap.size (.slice (some ⟨w.heap.size, 0, none⟩) 0 (4 * n)) []) := own0
  have hcap : 4 * n ≤ 9223372036854775807 := by omega
  clear h hln own0 hi hz0 hz1 hz2 e1
  go_enter Tryz.func104, Tryz.ntmps104
  go_wp2_with fail
  go_loopw [3, 12] (fun v vi wr => ∃ i : Nat, i ≤ n ∧ vi = .int .i64 i ∧ Own wr w.heap.size v (beL (l.take i)) ∧ Below w.heap.size w wr) (fun _ vi _ => n - (RowKit.intOf vi).toNat)
  case atStart => exact ⟨0, by omega, rfl, O0.out, (Below.refl _ w).alloc (Nat.le_refl _) _⟩
  case round =>
    obtain ⟨i, hi, rfl, hown, hb⟩ := hrel
    have hbz := hb.size
    by_cases hin : i < n
    · have l1 := HL.out
      obtain ⟨bb, oo, rfl, hlt, hcell⟩ := H.out (by intro h0; rw [h0] at l1; simp at l1; omega)
      have d1 := (hb.cell (p := ⟨bb, oo + i, none⟩) hlt).trans (hcell i (by omega))
      have hnx := beL_take l i (by omega)
      have hll := beL_len (l.take i)
      rw [List.length_take, Nat.min_eq_left (by omega)] at hll
      generalize l[i]'(by omega) = x at *
      obtain ⟨acc, hacc⟩ : ∃ acc, acc = beL (l.take i) := ⟨_, rfl⟩
      rw [← hacc] at hown hnx hll
      have lits := fun W => be4_lit W x ((x.toNat : Int) / 16777216) ((x.toNat : Int) / 65536 % 256) ((x.toNat : Int) / 256 % 256) ((x.toNat : Int) % 256) (by have := x.toNat_lt; omega)
      have own1 := World.ownsRow.alloc hown (.cells #[.int .u8 ((x.toNat : Int) / 16777216), .int .u8 ((x.toNat : Int) / 65536 % 256), .int .u8 ((x.toNat : Int) / 256 % 256), .int .u8 ((x.toNat : Int) % 256)] 5)
      have b1 := hb.alloc hbz (.cells #[.int .u8 ((x.toNat : Int) / 16777216), .int .u8 ((x.toNat : Int) / 65536 % 256), .int .u8 ((x.toNat : Int) / 256 % 256), .int .u8 ((x.toNat : Int) % 256)] 5)
      have p1 : acc.length + 4 ≤ 140737488355328 := by omega
      have p2 := b1.size
      have HX := Lib.hid hnx
      have LT := Lib.hid (lits wr)
      have O1 := Lib.hid own1
      have B1 := Lib.hid b1
      have HF : Hid ((be4 x.toNat).length = 4) := rfl
      have q1 : (0 : Int) ≤ (i : Int) := by omega
      have xl := x.toNat_lt
      clear hnx lits own1 b1 hown hb hacc hll hcell l1
      go_wp2_with (at_builtin; refine wpl_app_len (t := 24) (e := 5) rfl (.tmp 16) (.tmp 28) rfl Tryz.underlying24 info5 w.heap.size _ acc (be4 x.toNat) rfl O1.out (some ⟨wr.heap.size, 0, none⟩) 4 4 rfl LT.out (fun h => by cases h) HF p1 p2 ?_; intro v' w' hown' hgrow)
      have hb' : Below w.heap.size w w' := B1.out.grown hgrow p2 (fun k hk => (O1.out.lt k hk).1)
      go_wp2_with fail
      go_roundw
      case rel => exact ⟨i + 1, by omega, by go_num, by rw [HX.out]; exact hown', hb'⟩
      case measure => simp [RowKit.intOf]; omega
    · obtain rfl : i = n := by omega
      rw [List.take_of_length_le (by rw [HL.out]; exact Nat.le_refl _)] at hown
      go_wp2_with fail
      go_ret
      exact ⟨hb, _, rfl, hown⟩
end Go.Proofs.YtekaboomhljdoaaGreatDoor.Sh
