/-
  The walks of the statements CrcSums and CrcCuts. Conditions: bytes are at most 2^47 - 4.
-/
import Derived.Test.YtjfnjpjkpkpohaaWf
namespace Go.Proofs.Ytjfnjpjkpkpohaa.Cr
open Go.RowKit Go.Lib

set_option maxHeartbeats 4000000 in
set_option maxRecDepth 100000 in
theorem sums_law (ao : Option Addr) (l : List UInt8) (c s : Nat) (hs : s < 4294967296) (w : World) (h : Byt w ao l) (hn : ao = none → c = 0) (hc : l.length ≤ c) (hc2 : c ≤ 9223372036854775807) (hl : l.length ≤ 140737488351232) :
    Calls Try.prog 4 #[.slice ao l.length c, .int .u32 s] w fun e w' => e = .returned (.bool true) ∧ Below w.heap.size w w' := by
  have c7 := sum_any ao l c w h hc hc2
  have c9 := refsum_any ao l c w h hc hc2
  have c10 := more_any s hs ao l c w h hc hc2
  have c11 := refmore_any s hs ao l c w h hc hc2
  have c13 := bytes_any ao l c w h hn hc hc2 (by omega)
  obtain ⟨p, hp⟩ : ∃ p, p = sumL l := ⟨_, rfl⟩
  obtain ⟨q, hq⟩ : ∃ q, q = moreL s l := ⟨_, rfl⟩
  rw [← hp] at c7 c9
  rw [← hq] at c10 c11
  have C7 := Lib.hid c7
  have C9 := Lib.hid c9
  have C10 := Lib.hid c10
  have C11 := Lib.hid c11
  have C13 := Lib.hid c13
  have H := Lib.hid h
  clear c7 c9 c10 c11 c13 hp hq h
  go_enter Try.func4, Try.ntmps4
  go_wp2_with fail
  refine C7.out.mono ?_
  rintro e w' ⟨rfl, rfl⟩
  go_wp2_with fail
  refine C9.out.mono ?_
  rintro e w' ⟨rfl, rfl⟩
  go_wp2_with fail
  refine C10.out.mono ?_
  rintro e w' ⟨rfl, rfl⟩
  go_wp2_with fail
  refine C11.out.mono ?_
  rintro e w' ⟨rfl, rfl⟩
  go_wp2_with fail
  refine C13.out.mono ?_
  rintro e w1 ⟨b1, v1, rfl, o1⟩
  obtain ⟨a1, d1, rfl, x1, x2, r1, n1⟩ := own_byt o1
  have C14 := Lib.hid (refbytes_any ao l c w1 (H.out.below b1) hn hc hc2 (by omega))
  go_wp2_with fail
  refine C14.out.mono ?_
  rintro e w2 ⟨b2, v2, rfl, o2⟩
  obtain ⟨a2, d2, rfl, y1, y2, r2, n2⟩ := own_byt o2
  have cs := same_any a1 a2 (bytesL l) (bytesL l) d1 d2 w2 (r1.below b2) r2 n1 n2
  rw [decide_eq_true rfl] at cs
  have CS := Lib.hid cs
  have q2 : Below w.heap.size w w2 := b1.trans (b2.mono b1.size)
  have C15 := Lib.hid (right_any ao l c w2 (H.out.below q2) hc hc2)
  have Q2 := Lib.hid q2
  clear cs q2 r1 r2 o1 o2 b1 b2
  go_wp2_with fail
  refine CS.out.mono ?_
  rintro e w' ⟨rfl, rfl⟩
  go_wp2_with fail
  refine C15.out.mono ?_
  rintro e w3 ⟨rfl, b3⟩
  have q3 := Q2.out.trans (b3.mono Q2.out.size)
  have C16 := Lib.hid (refright_any ao l c w3 (H.out.below q3) hc hc2 (by omega))
  have Q3 := Lib.hid q3
  clear q3 b3
  obtain ⟨B, hB⟩ : ∃ B, B = rightL l := ⟨_, rfl⟩
  rw [← hB] at C16 ⊢
  clear hB
  go_wp2_with fail
  refine C16.out.mono ?_
  rintro e w4 ⟨rfl, b4⟩
  have q4 := Q3.out.trans (b4.mono Q3.out.size)
  have C8 := Lib.hid (heads_any w4)
  have Q4 := Lib.hid q4
  clear q4 b4
  go_wp2_with fail
  refine C8.out.mono ?_
  rintro e w5 ⟨rfl, b5⟩
  go_wp2_with fail
  go_ret
  exact ⟨rfl, Q4.out.trans (b5.mono Q4.out.size)⟩
end Go.Proofs.Ytjfnjpjkpkpohaa.Cr
