/-
  The contract of the law's own sector (f12). Conditions: each law's own.
-/
import Derived.Test.YtohmdcbfffgheaaWa
namespace Go.Proofs.Ytohmdcbfffgheaa.Dk
open Go.RowKit Go.Lib
/-- the bytes of a sector, as the law fills it -/
def secTo (f : UInt8) (k : Nat) : List UInt8 := (List.range k).map fun i => f + UInt8.ofNat i
theorem secTo_len (f : UInt8) (k : Nat) : (secTo f k).length = k := by simp [secTo]
theorem secTo_succ (f : UInt8) (k : Nat) : secTo f (k + 1) = secTo f k ++ [f + UInt8.ofNat k] := by simp [secTo, List.range_succ]
def secL (f : UInt8) (n : Int) : List UInt8 := secTo f (min n.toNat 300)
theorem wrap_u8 (n : Nat) : IntKind.u8.wrap (n : Int) = ((n % 256 : Nat) : Int) := by
  simp [IntKind.wrap, IntKind.signed, IntKind.bits]
set_option maxHeartbeats 1000000 in
set_option maxRecDepth 100000 in
theorem sector_any (f : UInt8) (n : Int) (w : World) : Calls Try.prog 12 #[.int .u8 (f.toNat : Int), .int .i64 n] w fun e w' => Below w.heap.size w w' ∧ ∃ v, e = .returned v ∧ Own w' w.heap.size v (secL f n) := by
  have B0 := Lib.hid (Below.refl w.heap.size w)
  go_enter Try.func12, Try.ntmps12
  go_wp2_with fail
  go_loopw [5, 6] (fun vb vi wr => ∃ i : Nat, vi = .int .i64 (i : Nat) ∧ i ≤ min n.toNat 300 ∧ Hid (Below w.heap.size w wr) ∧ Hid (Own wr w.heap.size vb (secTo f i))) (fun _ vi _ => min n.toNat 300 - (RowKit.intOf vi).toNat)
  case atStart => exact ⟨0, rfl, by omega, B0.out, World.ownsRow_nil _ _ _ _⟩
  case round =>
    obtain ⟨i, rfl, hi, hB, hO⟩ := hrel
    have hf : f.toNat < 256 := f.toNat_lt
    by_cases hin : (i : Int) < n
    · have t1 : decide ((i : Int) < n) = true := by simpa using hin
      by_cases h3 : i < 300
      · have t2 : decide ((i : Int) < 300) = true := by simp; omega
        have t3 : decide (i < 300) = true := by simpa using h3
        have e2 : ((f.toNat : Int) + (i : Int)) % 256 = (((f + UInt8.ofNat i).toNat : Nat) : Int) := by
          have h1 : (f + UInt8.ofNat i).toNat = (f.toNat + i) % 256 := by simp [UInt8.toNat_add]
          rw [h1]
          simp
        have hsz := hB.out.size
        have HN : Hid (i + 1 ≤ min n.toNat 300) := by show _ ≤ _; omega
        have p1 : (secTo f i).length + ([f + UInt8.ofNat i] : List UInt8).length ≤ 140737488355328 := by rw [secTo_len]; simp; omega
        obtain ⟨c, hc⟩ : ∃ c : UInt8, c = f + UInt8.ofNat i := ⟨_, rfl⟩
        rw [← hc] at e2 p1
        have HC := Lib.hid hc
        have HO2 : Hid (Own (wr.alloc (.cells #[.int .u8 (c.toNat : Int)] 5)) w.heap.size u5 (secTo f i)) := World.ownsRow.alloc hO.out _
        have HB2 := Lib.hid (hB.out.alloc hsz (.cells #[.int .u8 (c.toNat : Int)] 5))
        have BY := Lib.hid (byt_one wr c c.toNat rfl)
        have pb : w.heap.size ≤ (wr.alloc (.cells #[.int .u8 (c.toNat : Int)] 5)).heap.size := by simp; omega
        rw [← e2] at HO2 HB2 BY pb
        clear hc hO e2
        go_wp2_with (at_builtin; refine wpl_app (t := 29) (e := 5) rfl (.tmp 16) (.tmp 21) rfl Try.underlying29 info5 w.heap.size u5 (secTo f i) [c] rfl HO2.out (some ⟨wr.heap.size, 0, none⟩) 1 rfl BY.out (fun h => by cases h) p1 pb ?_; intro v' w' hown' hgrow)
        have O3 : Hid (Own w' w.heap.size v' (secTo f (i + 1))) := by show Own _ _ _ _; rw [secTo_succ, ← HC.out]; exact hown'
        have B3 := Lib.hid (HB2.out.grown hgrow HB2.out.size (fun k hk => (HO2.out.lt k hk).1))
        clear hown' hgrow p1 pb HO2 HB2 BY
        go_wp2_with fail
        go_roundw
        case rel => exact ⟨i + 1, by go_num, HN.out, B3, O3⟩
        case measure => have := HN.out; simp [RowKit.intOf]; omega
      · have t2 : decide ((i : Int) < 300) = false := by simp; omega
        have t3 : decide (i < 300) = false := by simpa using h3
        have HN : Hid (min n.toNat 300 = i) := by show _ = _; omega
        go_wp2_with fail
        go_ret
        exact ⟨hB.out, _, rfl, by rw [secL, HN.out]; exact hO.out⟩
    · have t1 : decide ((i : Int) < n) = false := by simpa using hin
      have HN : Hid (min n.toNat 300 = i) := by show _ = _; omega
      go_wp2_with fail
      go_ret
      exact ⟨hB.out, _, rfl, by rw [secL, HN.out]; exact hO.out⟩
end Go.Proofs.Ytohmdcbfffgheaa.Dk
