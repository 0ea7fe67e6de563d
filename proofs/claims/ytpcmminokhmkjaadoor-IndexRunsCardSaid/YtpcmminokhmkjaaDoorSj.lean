/-
  The contract of slices' Concat at entries. Conditions: each law's own.
-/
import Derived.Test.YtpcmminokhmkjaaDoorSi
namespace Go.Proofs.YtpcmminokhmkjaaDoor.St
open Go.Shelf Go.RowKit Go.Lib Go.Sort
theorem own_nil (w : World) (B : Nat) : OwnE w B (.slice none 0 0) [] := ⟨rfl, Or.inl ⟨rfl, rfl⟩⟩
theorem grow_any (n : Nat) (h2 : n ≤ 1099511627776) (w : World) :
    Calls Tryd.prog 34 #[.slice none 0 0, .int .i64 n] w fun e w' => Below w.heap.size w w' ∧ ∃ v, e = .returned v ∧ OwnE w' w.heap.size v [] := by
  rcases Nat.eq_zero_or_pos n with rfl | h
  · refine (grow_none w).mono ?_
    rintro e w' ⟨rfl, rfl⟩
    exact ⟨Below.refl _ _, _, rfl, own_nil _ _⟩
  · exact grow_nil n h h2 w
/-- rows of entries, cell by cell of a block -/
def Rws (w : World) (k o : Nat) (rows : List (List Ent)) : Prop :=
  ∀ (j : Nat) (h : j < rows.length), ∃ ao c, w.cell? ⟨k, o + j, none⟩ = some (.slice ao (rows[j]).length c) ∧ Erw w ao rows[j] ∧ (ao = none → c = 0)
theorem Rws.below {w w' : World} {k o : Nat} {rows : List (List Ent)} (h : Rws w k o rows) (hk : k < w.heap.size) (hb : Below w.heap.size w w') : Rws w' k o rows := fun j hj => by
  obtain ⟨ao, c, h1, h2, h3⟩ := h j hj
  exact ⟨ao, c, (hb.cell (p := ⟨k, o + j, none⟩) hk).trans h1, h2.below hb, h3⟩
theorem rows_take (rows : List (List Ent)) (i : Nat) (h : i < rows.length) : (rows.take (i + 1)).flatten = (rows.take i).flatten ++ rows[i] := by
  rw [List.take_succ_eq_append_getElem h, List.flatten_append, List.flatten_cons, List.flatten_nil, List.append_nil]
theorem rows_len (rows : List (List Ent)) (i : Nat) : (rows.take i).flatten.length ≤ rows.flatten.length := by
  have h := congrArg List.length (congrArg List.flatten (List.take_append_drop i rows))
  rw [List.flatten_append, List.length_append] at h
  omega
set_option maxHeartbeats 4000000 in
set_option maxRecDepth 100000 in
/-- rows, one behind the other -/
theorem concat_any (k o N cap : Nat) (rows : List (List Ent)) (w : World) (h : Rws w k o rows) (hN : rows.length = N) (hN2 : N ≤ 9223372036854775807) (hk : k < w.heap.size) (hbig : rows.flatten.length ≤ 1099511627776) :
    Calls Tryd.prog 18 #[.slice (some ⟨k, o, none⟩) N cap] w fun e w' => Below w.heap.size w w' ∧ ∃ v, e = .returned v ∧ OwnE w' w.heap.size v rows.flatten := by
  have HR := Lib.hid h
  have HN := Lib.hid hN
  have hle := fun i => rows_len rows i
  have HLE := Lib.hid hle
  have C1 := Lib.hid (grow_any rows.flatten.length hbig w)
  obtain ⟨T, hT⟩ : ∃ T, T = rows.flatten.length := ⟨_, rfl⟩
  rw [← hT] at C1 hbig
  have HT := Lib.hid hT
  clear h hN hle hT
  go_enter Tryd.func18, Tryd.ntmps18
  go_wp2_with fail
  go_loop [3, 11] (fun vs vi => ∃ (i s : Nat), i ≤ N ∧ vi = .int .i64 i ∧ vs = .int .i64 s ∧ Hid (s = (rows.take i).flatten.length)) (fun _ vi => N - (RowKit.intOf vi).toNat)
  case atStart => exact ⟨0, 0, by omega, rfl, rfl, rfl⟩
  case round =>
    obtain ⟨i, s, hi, rfl, rfl, hs⟩ := hrel
    by_cases hiN : i < N
    · obtain ⟨ao, c, e0, _, _⟩ := HR.out i (by rw [HN.out]; exact hiN)
      have hnx := congrArg List.length (rows_take rows i (by rw [HN.out]; exact hiN))
      have hl2 := HLE.out (i + 1)
      rw [hnx, ← HT.out] at hl2
      rw [List.length_append, ← hs.out] at hnx hl2
      have HX := Lib.hid hnx
      generalize (rows[i]'(by rw [HN.out]; exact hiN)).length = p at *
      clear hnx
      have q1 : (0 : Int) ≤ (i : Int) := by omega
      go_wp2_with fail
      go_round
      case rel => exact ⟨i + 1, s + p, by omega, by go_num, by go_num, HX.out.symm⟩
      case measure => simp [RowKit.intOf]; omega
    · obtain rfl : i = N := by omega
      have hsT : s = T := by
        have := hs.out
        rw [List.take_of_length_le (by rw [HN.out]; exact Nat.le_refl _), ← HT.out] at this
        exact this
      subst hsT
      clear hs
      go_wp2_with fail
      refine C1.out.mono ?_
      rintro e w1 ⟨hb1, v0, rfl, hown0⟩
      go_wp2_with fail
      go_loopw [6, 27] (fun v vi wr => ∃ (j : Nat), j ≤ i ∧ vi = .int .i64 j ∧ OwnE wr w.heap.size v (rows.take j).flatten ∧ Below w.heap.size w wr) (fun _ vi _ => i - (RowKit.intOf vi).toNat)
      case atStart => exact ⟨0, by omega, rfl, by simpa using hown0, hb1⟩
      case round =>
        obtain ⟨j, hj, rfl, hown, hb⟩ := hrel
        have hbz := hb.size
        by_cases hji : j < i
        · obtain ⟨ao, c, e0, hr, hn⟩ := HR.out j (by rw [HN.out]; exact hji)
          have f0 := (hb.cell (p := ⟨k, o + j, none⟩) hk).trans e0
          have hrb := hr.below hb
          have hnx := rows_take rows j (by rw [HN.out]; exact hji)
          have hl2 := HLE.out (j + 1)
          rw [hnx, ← HT.out, List.length_append] at hl2
          obtain ⟨l, hl⟩ : ∃ l, l = rows[j]'(by rw [HN.out]; exact hji) := ⟨_, rfl⟩
          rw [← hl] at f0 hrb hl2 hnx
          obtain ⟨p, hp⟩ : ∃ p, p = l.length := ⟨_, rfl⟩
          rw [← hp] at f0 hl2
          have HP : Hid (l.length = p) := hp.symm
          have HX := Lib.hid hnx
          obtain ⟨acc, hacc⟩ : ∃ acc, acc = (rows.take j).flatten := ⟨_, rfl⟩
          rw [← hacc] at hown hl2 HX
          have p1 : acc.length + p ≤ 1099511627776 := by omega
          have OWN := Lib.hid hown
          have BB := Lib.hid hb
          have RB := Lib.hid hrb
          have q1 : (0 : Int) ≤ (j : Int) := by omega
          clear hown hb hrb hnx hl hp hacc hr e0 hl2
          go_wp2_with (at_builtin; refine wpl_appE rfl (.tmp 31) (.tmp 32) rfl w.heap.size _ acc l rfl OWN.out ao p c rfl RB.out hn HP p1 hbz ?_; intro v' w' hown' hgrow)
          have hb' : Below w.heap.size w w' := BB.out.grown hgrow hbz (fun k hk => (OWN.out.lt k hk).1)
          go_wp2_with fail
          go_roundw
          case rel => exact ⟨j + 1, by omega, by go_num, by rw [HX.out]; exact hown', hb'⟩
          case measure => simp [RowKit.intOf]; omega
        · obtain rfl : j = i := by omega
          rw [List.take_of_length_le (by rw [HN.out]; exact Nat.le_refl _)] at hown
          go_wp2_with fail
          go_ret
          exact ⟨hb, _, rfl, hown⟩
set_option maxHeartbeats 1000000 in
set_option maxRecDepth 100000 in
theorem concat_none (p : Option Addr) (cap : Nat) (w : World) :
    Calls Tryd.prog 18 #[.slice p 0 cap] w fun e w' => w' = w ∧ e = .returned (.slice none 0 0) := by
  have C1 := Lib.hid (grow_none w)
  go_enter Tryd.func18, Tryd.ntmps18
  go_wp2
  refine wp_loop_rounds 1 ?_
  rw [rounds_succ]
  go_wp2_with (go_at_call 34; refine C1.out.mono ?_; rintro e w' ⟨rfl, rfl⟩)
  refine wp_loop_rounds 1 ?_
  rw [rounds_succ]
  go_wp2
  go_ret
  exact ⟨rfl, rfl⟩
end Go.Proofs.YtpcmminokhmkjaaDoor.St
