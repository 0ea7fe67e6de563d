/-
  The law of the statement DiskNobody. No other condition.
-/
import Derived.Test.YtohmdcbfffgheaaXe
namespace Go.Proofs.Ytohmdcbfffgheaa.Dk
open Go.RowKit Go.Lib Go.Maps
theorem Nob.later {w w' : World} {p : Option Addr} (h : Nob w p) (hb : Below w.heap.size w w') : Nob w' p := by
  rcases h with rfl | ⟨g, rfl, hd⟩
  · exact .inl rfl
  · exact .inr ⟨g, rfl, Blk.low hd hb⟩
set_option maxHeartbeats 4000000 in
set_option maxRecDepth 100000 in
theorem nobody_law (x : Int) (w : World) : Calls Try.prog 7 #[.int .i64 x] w fun e w' => e = .returned (.bool true) ∧ Below w.heap.size w w' := by
  have B0 : Below w.heap.size w ((w.alloc (.cells (dvC none 0 0 0 none false 0 0).toArray 61)).alloc (.cells #[.pointer none, .pointer (some ⟨w.heap.size, 0, none⟩)] 23)) := ((Below.refl w.heap.size w).alloc (Nat.le_refl _) _).alloc (by simp) _
  have D0 : Dv ((w.alloc (.cells (dvC none 0 0 0 none false 0 0).toArray 61)).alloc (.cells #[.pointer none, .pointer (some ⟨w.heap.size, 0, none⟩)] 23)) w.heap.size none 0 0 0 none false 0 0 := (Blk.new w _ 61 w.heap.size rfl).alloc _
  have L0 : Blk ((w.alloc (.cells (dvC none 0 0 0 none false 0 0).toArray 61)).alloc (.cells #[.pointer none, .pointer (some ⟨w.heap.size, 0, none⟩)] 23)) (w.heap.size + 1) [.pointer none, .pointer (some ⟨w.heap.size, 0, none⟩)] 23 := Blk.new (w.alloc (.cells (dvC none 0 0 0 none false 0 0).toArray 61)) _ 23 _ (by simp)
  have HB0 := Lib.hid B0
  have HD0 := Lib.hid D0
  have HL0 := Lib.hid L0
  clear B0 D0 L0
  go_enter Try.func7, Try.ntmps7
  go_wp2_with fail
  change Hid (Below _ _ ((w.alloc (.cells #[.slice none 0 0, .int .i64 0, .map none, .bool false, .int .i64 0, .int .i64 0] 61)).alloc (.cells #[.pointer none, .pointer (some ⟨w.heap.size, 0, none⟩)] 23))) at HB0
  change Hid (Dv ((w.alloc (.cells #[.slice none 0 0, .int .i64 0, .map none, .bool false, .int .i64 0, .int .i64 0] 61)).alloc (.cells #[.pointer none, .pointer (some ⟨w.heap.size, 0, none⟩)] 23)) _ _ _ _ _ _ _ _ _) at HD0
  change Hid (Blk ((w.alloc (.cells #[.slice none 0 0, .int .i64 0, .map none, .bool false, .int .i64 0, .int .i64 0] 61)).alloc (.cells #[.pointer none, .pointer (some ⟨w.heap.size, 0, none⟩)] 23)) _ _ _) at HL0
  generalize (w.alloc (.cells #[.slice none 0 0, .int .i64 0, .map none, .bool false, .int .i64 0, .int .i64 0] 61)).alloc (.cells #[.pointer none, .pointer (some ⟨w.heap.size, 0, none⟩)] 23) = W0 at *
  go_loopw [5] (fun vi wr => ∃ i : Nat, i ≤ 2 ∧ vi = .int .i64 i ∧ Hid (Below W0.heap.size W0 wr)) (fun vi _ => 2 - (RowKit.intOf vi).toNat)
  case atStart => exact ⟨0, by omega, rfl, Below.refl _ _⟩
  case round =>
    obtain ⟨i, hi, rfl, hB⟩ := hrel
    by_cases hin : i < 2
    · have hL := HL0.out.low hB.out
      obtain ⟨p, hp, hn⟩ : ∃ p, wr.cell? ⟨w.heap.size + 1, i, none⟩ = some (.pointer p) ∧ Nob wr p := by
        rcases (show i = 0 ∨ i = 1 by omega) with rfl | rfl
        · exact ⟨none, hL.cell 0, .inl rfl⟩
        · exact ⟨some ⟨w.heap.size, 0, none⟩, hL.cell 1, .inr ⟨w.heap.size, rfl, HD0.out.low hB.out⟩⟩
      have HN := Lib.hid hn
      have q1 : (0 : Int) ≤ (i : Int) := by omega
      have q2 : (i : Int) < 2 := by omega
      have AL := Lib.hid ((Below.refl wr.heap.size wr).alloc (Nat.le_refl _) (.cells #[.int .i64 x] 3))
      have HN2 := Lib.hid (hn.later AL.out)
      have hpl : w.heap.size + 1 < wr.heap.size := hL.lt
      have HP2 := Lib.hid ((AL.out.cell (p := ⟨w.heap.size + 1, i, none⟩) hpl).trans hp)
      clear hL hn hpl
      go_wp2_with fail
      refine (read_nob HN.out x).mono ?_
      rintro e w1 ⟨rfl, rfl⟩
      go_wp2_with fail
      refine (size_nob HN.out).mono ?_
      rintro e w2 ⟨rfl, rfl⟩
      go_wp2_with fail
      refine (write_nob HN.out x none 0 0).mono ?_
      rintro e w3 ⟨rfl, rfl⟩
      go_wp2_with fail
      refine (flush_nob HN.out).mono ?_
      rintro e w4 ⟨rfl, rfl⟩
      go_wp2_with fail
      refine (cached_nob HN.out).mono ?_
      rintro e w5 ⟨rfl, rfl⟩
      go_wp2_with fail
      refine (image_nob HN.out).mono ?_
      rintro e w6 ⟨rfl, rfl⟩
      go_wp2_with fail
      refine (writes_nob HN.out).mono ?_
      rintro e w7 ⟨rfl, rfl⟩
      go_wp2_with fail
      refine (arm_nob HN.out x).mono ?_
      rintro e w8 ⟨rfl, rfl⟩
      go_wp2_with fail
      refine (crash_nob HN2.out (some ⟨w8.heap.size, 0, none⟩) 1 1).mono ?_
      rintro e w9 ⟨rfl, rfl⟩
      have hp2 := HP2.out
      generalize w8.alloc (.cells #[.int .i64 x] 3) = w9 at *
      go_wp2_with fail
      refine (start_nob HN2.out).mono ?_
      rintro e w10 ⟨rfl, rfl⟩
      go_wp2_with fail
      go_roundw
      case rel => exact ⟨i + 1, by omega, by go_num, Lib.hid (below_chain hB.out AL.out)⟩
      case measure => simp [RowKit.intOf]; omega
    · obtain rfl : i = 2 := by omega
      go_wp2_with fail
      refine (heads_any wr).mono ?_
      rintro e w1 ⟨rfl, hb⟩
      have HB1 := Lib.hid (below_chain (below_chain HB0.out hB.out) hb)
      clear hb
      go_wp2_with fail
      go_ret
      exact ⟨rfl, HB1.out⟩
end Go.Proofs.Ytohmdcbfffgheaa.Dk
