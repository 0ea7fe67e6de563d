/-
  The contracts of crc's written and Bytes, of slices.Equal, slices.Grow and slices.Concat at bytes, and of the document's own Bytes and Same. Conditions: bytes are at most 2^47 - 4.
-/
import Derived.Test.YtekaboomhljdoaaGreatDoorCb
import Derived.Laws.MakeOwn
import Derived.Lib.AppendZerosOnto
import Derived.Lib.SliceRun
import Derived.Lib.Walk
namespace Go.Proofs.YtekaboomhljdoaaGreatDoor.Cr
open Go.RowKit Go.Lib Go.Proofs.YtekaboomhljdoaaGreatDoor.Sh

theorem make4 : ∀ w, (Instr.makeSlice 24 (.int .i64 4) (.int .i64 4)).run Tryz.prog w = .ok (.slice (some ⟨w.heap.size, 0, none⟩) 4 4) (w.alloc (.cells #[.int .u8 0, .int .u8 0, .int .u8 0, .int .u8 0] 5)) := fun _ => by kernel_rfl

set_option maxHeartbeats 1000000 in
set_option maxRecDepth 100000 in
theorem written_any (s : Nat) (hs : s < 4294967296) (w : World) :
    Calls Tryz.prog 76 #[.int .u32 s] w fun e w' => e = .returned (.slice (some ⟨w.heap.size, 0, none⟩) 4 4) ∧ w.alloc (.cells (bs (leL s)).toArray 5) = w' := by
  have hmk := make4
  go_enter Tryz.func76, Tryz.ntmps76
  go_wp2_with fail
  go_loopw [6] (fun vi wr => ∃ (i : Nat) (a b c d : Int), i ≤ 4 ∧ vi = .int .i64 i ∧ wr = w.alloc (.cells #[.int .u8 a, .int .u8 b, .int .u8 c, .int .u8 d] 5) ∧ Hid ((0 < i → a = (s % 256 : Nat)) ∧ (1 < i → b = (s / 256 % 256 : Nat)) ∧ (2 < i → c = (s / 65536 % 256 : Nat)) ∧ (3 < i → d = (s / 16777216 % 256 : Nat)))) (fun vi _ => 4 - (RowKit.intOf vi).toNat)
  case atStart => exact ⟨0, 0, 0, 0, 0, by omega, rfl, rfl, by show _ ∧ _ ∧ _ ∧ _; omega⟩
  case round =>
    obtain ⟨i, a, b, c, d, hi, rfl, rfl, hh⟩ := hrel
    by_cases hi4 : i < 4
    · have hc : i = 0 ∨ i = 1 ∨ i = 2 ∨ i = 3 := by omega
      have ex : ∀ {A B : Prop}, A → B → A ∧ B := fun h1 h2 => ⟨h1, h2⟩
      rcases hc with rfl | rfl | rfl | rfl
      · have hn : Hid ((0 < 1 → ((s : Int) % 256) = (s % 256 : Nat)) ∧ (1 < 1 → b = (s / 256 % 256 : Nat)) ∧ (2 < 1 → c = (s / 65536 % 256 : Nat)) ∧ (3 < 1 → d = (s / 16777216 % 256 : Nat))) := by show _ ∧ _ ∧ _ ∧ _; omega
        clear hh
        go_wp2_with fail
        go_roundw
        case rel => exact ⟨1, _, b, c, d, by omega, by go_num, rfl, hn⟩
        case measure => simp [RowKit.intOf]
      · have hn : Hid ((0 < 2 → a = (s % 256 : Nat)) ∧ (1 < 2 → ((s : Int) / 256 % 256) = (s / 256 % 256 : Nat)) ∧ (2 < 2 → c = (s / 65536 % 256 : Nat)) ∧ (3 < 2 → d = (s / 16777216 % 256 : Nat))) := by have := hh.out; show _ ∧ _ ∧ _ ∧ _; omega
        clear hh
        go_wp2_with fail
        go_roundw
        case rel => exact ⟨2, a, _, c, d, by omega, by go_num, rfl, hn⟩
        case measure => simp [RowKit.intOf]
      · have hn : Hid ((0 < 3 → a = (s % 256 : Nat)) ∧ (1 < 3 → b = (s / 256 % 256 : Nat)) ∧ (2 < 3 → ((s : Int) / 65536 % 256) = (s / 65536 % 256 : Nat)) ∧ (3 < 3 → d = (s / 16777216 % 256 : Nat))) := by have := hh.out; show _ ∧ _ ∧ _ ∧ _; omega
        clear hh
        go_wp2_with fail
        go_roundw
        case rel => exact ⟨3, a, b, _, d, by omega, by go_num, rfl, hn⟩
        case measure => simp [RowKit.intOf]
      · have hn : Hid ((0 < 4 → a = (s % 256 : Nat)) ∧ (1 < 4 → b = (s / 256 % 256 : Nat)) ∧ (2 < 4 → c = (s / 65536 % 256 : Nat)) ∧ (3 < 4 → ((s : Int) / 16777216) = (s / 16777216 % 256 : Nat))) := by have := hh.out; show _ ∧ _ ∧ _ ∧ _; omega
        clear hh
        go_wp2_with fail
        go_roundw
        case rel => exact ⟨4, a, b, c, _, by omega, by go_num, rfl, hn⟩
        case measure => simp [RowKit.intOf]
    · obtain rfl : i = 4 := by omega
      have hn : Hid (w.alloc (.cells (bs (leL s)).toArray 5) = w.alloc (.cells #[.int .u8 a, .int .u8 b, .int .u8 c, .int .u8 d] 5)) := by
        obtain ⟨h1, h2, h3, h4⟩ := hh.out
        show _ = _
        rw [h1 (by omega), h2 (by omega), h3 (by omega), h4 (by omega)]
        simp only [bs, leL, List.map_cons, List.map_nil, u8_nat _ (Nat.mod_lt _ (show 0 < 256 by decide))]
      clear hh
      go_wp2_with fail
      go_ret
      exact ⟨rfl, hn.out⟩

set_option maxHeartbeats 1000000 in
set_option maxRecDepth 100000 in
theorem grow_nil (n : Nat) (h1 : 1 ≤ n) (h2 : n ≤ 140737488355328) (w : World) :
    Calls Tryz.prog 78 #[.slice none 0 0, .int .i64 n] w fun e w' => Below w.heap.size w w' ∧ ∃ v, e = .returned v ∧ Own w' w.heap.size v [] := by
  obtain ⟨i0, hi, hz0, hz1, hz2⟩ := info_parts info5
  have hr : ∀ ty, (Builtin.append_ #[24, 3] ty #[.slice none 0 0, .int .i64 (n : Int)]).run Tryz.prog w = _ := fun ty =>
    Lib.run_append_grow_zeros w 24 3 ty 5 i0 (.int .u8 0) .i64 .i64 Tryz.underlying24 Tryz.underlying3 hi hz0 none 0 0 [] (run_firstCells_none _ _ _ _ _) n (by omega) (by rw [hz1]; omega) (by omega) (by omega)
      (by rw [hz2]; omega) (by rw [hz2]; exact growslice_fits (by omega) (by omega))
  rw [Nat.zero_add] at hr
  have hge := grownCap_ge w n 0 5
  have hcm := grownCap_le_maxLen w n 0 5 (by unfold maxLen; omega)
  obtain ⟨G, hG⟩ : ∃ G, G = grownCap w n 0 5 := ⟨_, rfl⟩
  obtain ⟨O, hO⟩ : ∃ O, O = Obj.cells ((([] : List Value).toArray ++ Builtin.zeroCells (Value.int .u8 0).cells n) ++ Builtin.zeroCells (Value.int .u8 0).cells (G - n)) 5 := ⟨_, rfl⟩
  rw [← hG] at hr hge hcm
  rw [← hO] at hr
  have hown : Hid (Own (w.drew.alloc O) w.heap.size (.slice (some ⟨w.heap.size, 0, none⟩) 0 G) []) := by
    refine ⟨by simp [bs], Or.inr ⟨w.heap.size, G, _, rfl, Nat.le_refl _, by rw [hO]; exact heap_alloc_new w.drew _, Nat.zero_le _, hcm, ?_, by simp [bs]⟩⟩
    have hz1 : (Value.int IntKind.u8 0).cells.size = 1 := rfl
    simp only [Array.size_append, List.size_toArray, size_zeroCells, hz1, List.length_nil]
    omega
  have hb : Hid (Below w.heap.size w (w.drew.alloc O)) := (Below.refl _ w).drew.alloc (Nat.le_refl _) _
  unfold maxLen at hcm
  clear hO hG
  go_enter Tryz.func78, Tryz.ntmps78
  go_wp2_with (at_builtin; refine Lib.wpList_append_run _ rfl _ _ _ _ rfl _ _ rfl rfl _ _ (hr _) ?_)
  all_goals (go_ret; exact ⟨hb.out, _, rfl, hown.out⟩)


set_option maxHeartbeats 2000000 in
set_option maxRecDepth 100000 in
/-- two rows, one behind the other -/
theorem concat_any (k : Nat) (ao bo : Option Addr) (l m : List UInt8) (c d : Nat) (w : World) (h1 : Byt w ao l) (h2 : Byt w bo m) (n1 : ao = none → c = 0) (n2 : bo = none → d = 0)
    (e0 : w.cell? ⟨k, 0, none⟩ = some (.slice ao l.length c)) (e1 : w.cell? ⟨k, 1, none⟩ = some (.slice bo m.length d)) (hk : k < w.heap.size) (hpos : 1 ≤ l.length + m.length) (hbig : l.length + m.length ≤ 140737488355328) :
    Calls Tryz.prog 59 #[.slice (some ⟨k, 0, none⟩) 2 2] w fun e w' => Below w.heap.size w w' ∧ ∃ v, e = .returned v ∧ Own w' w.heap.size v (l ++ m) := by
  have H1 := Lib.hid h1
  have H2 := Lib.hid h2
  obtain ⟨p, hp⟩ : ∃ p, p = l.length := ⟨_, rfl⟩
  obtain ⟨q, hq⟩ : ∃ q, q = m.length := ⟨_, rfl⟩
  rw [← hp] at e0 hpos hbig
  rw [← hq] at e1 hpos hbig
  have HP := Lib.hid hp
  have HQ := Lib.hid hq
  clear h1 h2 hp hq
  have CG := Lib.hid (grow_nil (p + q) hpos hbig w)
  go_enter Tryz.func59, Tryz.ntmps59
  go_wp2_with fail
  go_loop [3, 11] (fun vs vi => ∃ (i s : Nat), i ≤ 2 ∧ vi = .int .i64 i ∧ vs = .int .i64 s ∧ s ≤ 140737488355328 ∧ Hid ((i = 0 → s = 0) ∧ (i = 1 → s = p) ∧ (i = 2 → s = p + q))) (fun _ vi => 2 - (RowKit.intOf vi).toNat)
  case atStart => exact ⟨0, 0, by omega, rfl, rfl, by omega, by show _ ∧ _ ∧ _; omega⟩
  case round =>
    obtain ⟨i, s, hi, rfl, rfl, hs, hh⟩ := hrel
    by_cases hi2 : i < 2
    · have hc : i = 0 ∨ i = 1 := by omega
      rcases hc with rfl | rfl
      · obtain rfl : s = 0 := hh.out.1 rfl
        clear hh
        go_wp2_with fail
        go_round
        case rel => exact ⟨1, p, by omega, by go_num, by go_num, by omega, by show _ ∧ _ ∧ _; omega⟩
        case measure => simp [RowKit.intOf]
      · obtain rfl : s = p := hh.out.2.1 rfl
        clear hh
        go_wp2_with fail
        go_round
        case rel => exact ⟨2, s + q, by omega, by go_num, by go_num, by omega, by show _ ∧ _ ∧ _; omega⟩
        case measure => simp [RowKit.intOf]
    · obtain rfl : i = 2 := by omega
      obtain rfl : s = p + q := hh.out.2.2 rfl
      clear hh
      go_wp2_with fail
      refine CG.out.mono ?_
      rintro e w1 ⟨hb1, v0, rfl, hown0⟩
      go_wp2_with fail
      go_loopw [6, 27] (fun v vi wr => ∃ (i : Nat) (acc : List UInt8), i ≤ 2 ∧ vi = .int .i64 i ∧ Own wr w.heap.size v acc ∧ Below w.heap.size w wr ∧ Hid ((i = 0 → acc = []) ∧ (i = 1 → acc = l) ∧ (i = 2 → acc = l ++ m))) (fun _ vi _ => 2 - (RowKit.intOf vi).toNat)
      case atStart => exact ⟨0, [], by omega, rfl, hown0, hb1, by show _ ∧ _ ∧ _; simp⟩
      case round =>
        obtain ⟨i, acc, hi, rfl, hown, hb, hh⟩ := hrel
        have hbz := hb.size
        have f0 := (hb.cell (p := ⟨k, 0, none⟩) hk).trans e0
        have f1 := (hb.cell (p := ⟨k, 1, none⟩) hk).trans e1
        by_cases hi2 : i < 2
        · have hc : i = 0 ∨ i = 1 := by omega
          rcases hc with rfl | rfl
          · obtain rfl : acc = [] := hh.out.1 rfl
            clear hh
            have hr := H1.out.below hb
            have hlp : Hid (l.length = p) := HP.out.symm
            go_wp2_with (at_builtin; refine wpl_app_len (t := 24) (e := 5) rfl (.tmp 31) (.tmp 32) rfl Tryz.underlying24 info5 w.heap.size _ [] l rfl hown ao p c rfl hr n1 hlp (by simp; omega) hbz ?_; intro v' w' hown' hgrow)
            have hb' : Below w.heap.size w w' := hb.grown hgrow hbz (fun k hk => (hown.lt k hk).1)
            go_wp2_with fail
            go_roundw
            case rel => exact ⟨1, l, by omega, by go_num, by simpa [Own] using hown', hb', by show _ ∧ _ ∧ _; simp⟩
            case measure => simp [RowKit.intOf]
          · have hal := hh.out.2.1 rfl
            have hap : acc.length = p := by rw [hal]; exact HP.out.symm
            have HA := Lib.hid hal
            clear hh hal
            have hr := H2.out.below hb
            have hlp : Hid (m.length = q) := HQ.out.symm
            go_wp2_with (at_builtin; refine wpl_app_len (t := 24) (e := 5) rfl (.tmp 31) (.tmp 32) rfl Tryz.underlying24 info5 w.heap.size _ acc m rfl hown bo q d rfl hr n2 hlp (by omega) hbz ?_; intro v' w' hown' hgrow)
            have hb' : Below w.heap.size w w' := hb.grown hgrow hbz (fun k hk => (hown.lt k hk).1)
            have HN : Hid (acc ++ m = l ++ m) := by show _ = _; rw [HA.out]
            go_wp2_with fail
            go_roundw
            case rel => exact ⟨2, acc ++ m, by omega, by go_num, hown', hb', by show _ ∧ _ ∧ _; exact ⟨by omega, by omega, fun _ => HN.out⟩⟩
            case measure => simp [RowKit.intOf]
        · obtain rfl : i = 2 := by omega
          have hz := Lib.hid (hh.out.2.2 rfl)
          clear hh
          go_wp2_with fail
          go_ret
          exact ⟨hb, _, rfl, by rw [← hz.out]; exact hown⟩
end Go.Proofs.YtekaboomhljdoaaGreatDoor.Cr
