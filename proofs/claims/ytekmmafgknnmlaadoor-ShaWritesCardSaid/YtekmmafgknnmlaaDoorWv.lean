/-
  The contract of the law's own heads: abc's digest is what it is, whether it is written at once or in two pieces. Nothing but that the tables stand.
-/
import Derived.Test.YtekmmafgknnmlaaDoorWu
import Derived.Test.YtekmmafgknnmlaaDoorPb
import Derived.Lib.SlBytesConst
namespace Go.Proofs.YtekmmafgknnmlaaDoor.Sh
open Go.RowKit Go.Lib

theorem wr_a : wr newS [97] = ⟨startL, [97], 1⟩ := by
  rw [wr, if_pos (show chk newS = true by decide), show newS.H = startL from rfl, show newS.B = [] from rfl, feed_lt _ _ (by decide)]
  rfl
theorem wr_bc : wr (wr newS [97]) [98, 99] = wr newS [97, 98, 99] := by
  rw [wr_a, wr, if_pos (show chk ⟨startL, [97], 1⟩ = true by decide), wr, if_pos (show chk newS = true by decide), show newS.H = startL from rfl, show newS.B = [] from rfl, feed_lt _ _ (by decide), feed_lt _ _ (by decide)]
  rfl
theorem wr_abc : wr newS [97, 98, 99] = ⟨startL, [97, 98, 99], 3⟩ := by
  rw [wr, if_pos (show chk newS = true by decide), show newS.H = startL from rfl, show newS.B = [] from rfl, feed_lt _ _ (by decide)]
  rfl
theorem dn_abc : dn ⟨startL, [97, 98, 99], 3⟩ = beL [0xba7816bf, 0x8f01cfea, 0x414140de, 0x5dae2223, 0xb00361a3, 0x96177a9c, 0xb410ff61, 0xf20015ad] := by
  rw [← sum_abc, sumS, wr_abc]
theorem zero_sha (W : World) : ShaV W (.agg #[.slice none 0 0, .slice none 0 0, .int .u64 0]) ⟨[], [], 0⟩ none 0 none 0 :=
  ⟨rfl, fun h => absurd rfl h, fun _ => rfl, Nat.le_refl _, by decide, fun h => absurd rfl h, fun _ => rfl, Nat.le_refl _, by decide, by decide⟩
theorem byt_mark (W : World) (l : List UInt8) (f : Nat × Nat) : Byt (W.alloc (.cells (bs l).toArray 5 f)) (some ⟨W.heap.size, 0, none⟩) l := fun _ => by
  refine ⟨W.heap.size, 0, rfl, by simp, fun j hj => ?_⟩
  rw [cell_mark]
  simp [bs, hj]

set_option maxHeartbeats 4000000 in
set_option maxRecDepth 100000 in
theorem heads_any (w : World) (hl : Lay w) : Calls Tryd.prog 8 #[] w fun e w' => e = .returned (.bool true) ∧ Below w.heap.size w w' := by
  have HL := Lib.hid hl
  have C18 : Hid (∀ W bo, Below w.heap.size w W → Byt W (some bo) [97, 98, 99] → Calls Tryd.prog 18 #[.slice (some bo) 3 3] W (Row W (sumS [97, 98, 99]))) := fun W bo hb hy => sum_any _ _ 3 3 W (hl.below hb) hy (fun h => by cases h) rfl (by decide) (by decide) (by decide)
  have C16 := Lib.hid (fun W (hb : Below w.heap.size w W) => new_any W (hl.below hb))
  have C10 : Hid (∀ W v hx cx bo, Below w.heap.size w W → ShaV W v newS hx cx none 0 → Byt W (some bo) [97] → Calls Tryd.prog 10 #[v, .slice (some bo) 1 1] W (Ans W (wr newS [97]))) := fun W v hx cx bo hB h hy => write_any v newS hx cx none 0 [97] _ 1 1 W (hl.below hB) h hy (fun h => by cases h) rfl (by decide) (by decide) ⟨by decide, by decide, by decide⟩
  have C10b : Hid (∀ W v hx cx bx dx bo, Below w.heap.size w W → ShaV W v (wr newS [97]) hx cx bx dx → Byt W (some bo) [98, 99] → Calls Tryd.prog 10 #[v, .slice (some bo) 2 2] W (Ans W (wr (wr newS [97]) [98, 99]))) := fun W v hx cx bx dx bo hB h hy => write_any v _ hx cx bx dx [98, 99] _ 2 2 W (hl.below hB) h hy (fun h => by cases h) rfl (by decide) (by decide) ⟨by rw [wr_a]; decide, by rw [wr_a]; decide, by decide⟩
  have BL : Hid (∀ o, Below w.heap.size w (w.alloc o)) := fun o => (Below.refl _ w).alloc (Nat.le_refl _) o
  clear hl
  have kc := fun (w : World) (C : Array Value) (n c : Nat) => Lib.run_convert_bytes_const (P := Tryd.prog) w 23 5 C n c Tryd.underlying23 Tryd.underlying5
  go_enter Tryd.func8, Tryd.ntmps8
  go_wp2_with fail
  have R1 := Lib.hid (byt_mark w [97, 98, 99] (3, 4))
  refine (C18.out _ _ (BL.out _) R1.out).mono ?_
  rintro e w1 ⟨b1, v1, rfl, o1⟩
  rw [sum_abc] at o1
  have B1 := Lib.hid (below_chain (BL.out _) b1)
  have O1 := Lib.hid o1
  clear b1 o1
  go_wp2_with fail
  refine (C16.out _ B1.out).mono ?_
  rintro e w2 ⟨b2, v2, h2x, c2x, rfl, h2⟩
  have B2 := Lib.hid (below_chain B1.out b2)
  have B12 := Lib.hid b2
  have H2 := Lib.hid h2
  clear b2 h2
  go_wp2_with fail
  have R2 := Lib.hid (byt_mark w2 [97] (1, 2))
  refine (C10.out _ _ _ _ _ (below_alloc B2.out _) (H2.out.below ((Below.refl _ w2).alloc (Nat.le_refl _) _)) R2.out).mono ?_
  rintro e w3 ⟨b3, v3, h3x, c3x, b3x, d3x, rfl, h3⟩
  have B13 := Lib.hid (below_chain (below_alloc B12.out _) b3)
  have B3 := Lib.hid (below_chain (below_alloc B2.out _) b3)
  have H3 := Lib.hid h3
  clear b3 h3
  go_wp2_with fail
  have R3 := Lib.hid (byt_mark w3 [98, 99] (2, 3))
  refine (C10b.out _ _ _ _ _ _ _ (below_alloc B3.out _) (H3.out.below ((Below.refl _ w3).alloc (Nat.le_refl _) _)) R3.out).mono ?_
  rintro e w4 ⟨b4, v4, h4x, c4x, b4x, d4x, rfl, h4⟩
  rw [wr_bc, wr_abc] at h4
  have B14 := Lib.hid (below_chain (below_alloc B13.out _) b4)
  have B4 := Lib.hid (below_chain (below_alloc B3.out _) b4)
  have h4v : v4 = .agg #[.slice h4x 8 c4x, .slice b4x 3 d4x, .int .u64 3] := h4.val
  subst h4v
  have H4 := Lib.hid h4
  clear b4 h4
  obtain ⟨gb, gc, rfl, k1, k2, k3, k4, kB, _⟩ := own_byt8 O1.out (n := 32) rfl (by decide)
  have RB := Lib.hid (fun W (hb : Below w4.heap.size w4 W) => kB.below (below_chain B14.out hb))
  have CB : Hid (∀ W, Below w4.heap.size w4 W → W.cell? ⟨gb, 0, none⟩ = some (.int .u8 186) ∧ W.cell? ⟨gb, 1, none⟩ = some (.int .u8 120) ∧ W.cell? ⟨gb, 31, none⟩ = some (.int .u8 173)) := fun W hb => by
    obtain ⟨bb, oo, hh, hlt, hcell⟩ := RB.out W hb (fun h0 => by cases h0)
    cases hh
    exact ⟨hcell 0 (by decide), hcell 1 (by decide), hcell 31 (by decide)⟩
  have AL := Lib.hid (fun o => (Below.refl w4.heap.size w4).alloc (Nat.le_refl _) o)
  have c0 := fun o => (CB.out _ (AL.out o)).1
  have c1 := fun o => (CB.out _ (AL.out o)).2.1
  have c31 := fun o => (CB.out _ (AL.out o)).2.2
  have C9 : Hid (∀ W, Below w4.heap.size w4 W → Calls Tryd.prog 9 #[.agg #[.slice h4x 8 c4x, .slice b4x 3 d4x, .int .u64 3]] W (Row W (beL [0xba7816bf, 0x8f01cfea, 0x414140de, 0x5dae2223, 0xb00361a3, 0x96177a9c, 0xb410ff61, 0xf20015ad]))) := fun W hb => by
    have := done_any _ _ _ _ _ _ W ((HL.out.below B4.out).below hb) (H4.out.below hb)
    rw [dn_abc] at this
    exact this
  have C12 : Hid (∀ W g5 c5, Below w4.heap.size w4 W → Byt W (some ⟨g5, 0, none⟩) (beL [0xba7816bf, 0x8f01cfea, 0x414140de, 0x5dae2223, 0xb00361a3, 0x96177a9c, 0xb410ff61, 0xf20015ad]) → Calls Tryd.prog 12 #[.slice (some ⟨g5, 0, none⟩) 32 c5, .slice (some ⟨gb, 0, none⟩) 32 gc] W fun e w' => e = .returned (.bool true) ∧ W = w') :=
    fun W g5 c5 hb hy => by
      have hrb := RB.out W hb
      have hlen : (beL [0xba7816bf, 0x8f01cfea, 0x414140de, 0x5dae2223, 0xb00361a3, 0x96177a9c, 0xb410ff61, 0xf20015ad]).length = 32 := by rw [beL_len]; rfl
      generalize (beL [0xba7816bf, 0x8f01cfea, 0x414140de, 0x5dae2223, 0xb00361a3, 0x96177a9c, 0xb410ff61, 0xf20015ad]) = l at hy hrb hlen
      have := same_bytes _ _ l c5 gc W hy hrb (fun h => by cases h) (fun h => by cases h)
      rw [hlen] at this
      exact this
  have C7 : Hid (∀ W, Below w4.heap.size w4 W → Calls Tryd.prog 7 #[.agg #[.slice h4x 8 c4x, .slice b4x 3 d4x, .int .u64 3]] W fun e w' => e = .returned (.bool true) ∧ Below W.heap.size W w') := fun W hb => check_any _ _ _ _ _ _ W (H4.out.below hb)
  have C7z : Hid (∀ W, Calls Tryd.prog 7 #[.agg #[.slice none 0 0, .slice none 0 0, .int .u64 0]] W fun e w' => e = .returned (.bool false) ∧ Below W.heap.size W w') := fun W => check_any _ _ _ _ _ _ W (zero_sha W)
  have C9z : Hid (∀ W, Calls Tryd.prog 9 #[.agg #[.slice none 0 0, .slice none 0 0, .int .u64 0]] W fun e w' => Below W.heap.size W w' ∧ e = .returned (.slice none 0 0)) := fun W => done_bad none 0 none 0 ⟨[], [], 0⟩ W (zero_sha W) rfl
  have KK := Lib.hid (fun cs W (hb : Below (w4.heap.size + 1) (w4.alloc (.cells cs 26)) W) j => box1 w4 cs 26 W hb j)
  clear kB
  go_wp2_with fail
  refine (C9.out _ (AL.out _)).mono ?_
  rintro e w5 ⟨b5, v5, rfl, o5⟩
  obtain ⟨g5, c5, rfl, _, _, _, _, y5, _⟩ := own_byt8 o5 (n := 32) rfl (by decide)
  have A5 := Lib.hid (below_chain (AL.out _) b5)
  have b5' : Below (w4.heap.size + 1) (w4.alloc (.cells #[.slice h4x 8 c4x, .slice b4x 3 d4x, .int .u64 3] 26)) w5 := by
    have : (w4.alloc (.cells #[.slice h4x 8 c4x, .slice b4x 3 d4x, .int .u64 3] 26)).heap.size = w4.heap.size + 1 := by simp
    rw [this] at b5
    exact b5
  have Y5 := Lib.hid y5
  have f0 := KK.out _ w5 b5' 0
  have f1 := KK.out _ w5 b5' 1
  have f2 := KK.out _ w5 b5' 2
  simp only [List.getElem?_toArray, List.getElem?_cons_zero, List.getElem?_cons_succ] at f0 f1 f2
  clear b5 o5 y5 b5'
  go_wp2_with fail
  refine (C12.out _ _ _ A5.out Y5.out).mono ?_
  rintro e w6 ⟨rfl, rfl⟩
  go_wp2_with fail
  refine (C7.out _ A5.out).mono ?_
  rintro e w7 ⟨rfl, b7⟩
  go_wp2_with fail
  refine (C7z.out _).mono ?_
  rintro e w8 ⟨rfl, b8⟩
  go_wp2_with fail
  refine (C9z.out _).mono ?_
  rintro e w9 ⟨b9, rfl⟩
  have BF := Lib.hid (below_chain (below_chain (below_chain (below_chain B4.out A5.out) b7) b8) b9)
  clear b7 b8 b9
  go_wp2_with fail
  go_ret
  exact ⟨rfl, BF.out⟩
end Go.Proofs.YtekmmafgknnmlaaDoor.Sh
