/-
  The contract of sha's Write where no block is full. Conditions: the digest may be, and has with the bytes less than 64.
-/
import Derived.Test.YtekaboomhljdoaaGreatDoorWm
namespace Go.Proofs.YtekaboomhljdoaaGreatDoor.Sh
open Go.RowKit Go.Lib

set_option maxHeartbeats 4000000 in
set_option maxRecDepth 100000 in
theorem write_short_f (ha : Option Addr) (hc : Nat) (ba : Option Addr) (m bc N : Nat) (H : List UInt32) (B b : List UInt8) (bo : Option Addr) (p c : Nat) (w : World)
    (hW : Wrd w ha H) (hH : H.length = 8) (hB : Byt w ba B) (hBn : ba = none → bc = 0) (hm : B.length = m) (hN : m = N % 64) (hN2 : N < 18446744073709551616)
    (hb : Byt w bo b) (hbn : bo = none → c = 0) (hp : b.length = p) (hpc : p ≤ c) (hcc : c ≤ 9223372036854775807) (hg : m + p < 64) :
    Calls Tryz.prog 98 #[.agg #[.slice ha 8 hc, .slice ba m bc, .int .u64 (N : Int)], .slice bo p c] w fun e w' => Below w.heap.size w w' ∧
      ∃ v hx cx bx dx, e = .returned v ∧ ShaV w' v ⟨(feed H (B ++ b)).1, (feed H (B ++ b)).2, (N + p) % 18446744073709551616⟩ hx cx bx dx ∧ (∀ b o, hx = some ⟨b, o, none⟩ → w.heap.size ≤ b) ∧ (∀ b o, bx = some ⟨b, o, none⟩ → w.heap.size ≤ b) := by
  obtain ⟨hb1, ho1, rfl, hlt1, _⟩ := hW (by intro h0; rw [h0] at hH; simp at hH)
  obtain ⟨x0, x1, x2, x3, x4, x5, x6, x7, rfl⟩ := list8 hH
  have C7 := fun W => check_num 8 m N hc bc (some ⟨hb1, ho1, none⟩) ba W (by omega) hN2
  have e7 : (decide (8 = 8) && decide (m = N % 64)) = true := by simp [← hN]
  rw [e7] at C7
  have c7 := Lib.hid C7
  have HW := Lib.hid hW
  have HH := Lib.hid hH
  have HB := Lib.hid hB
  have HBn := Lib.hid hBn
  have HM := Lib.hid hm
  have Hb := Lib.hid hb
  have Hbn := Lib.hid hbn
  have HP := Lib.hid hp
  have hm64 : m < 64 := by omega
  have HN := Lib.hid hN
  clear hN C7 e7 hW hH hB hBn hm hb hbn hp
  have k43 := s2a43
  have bx0 := bx_start w (some ⟨hb1, ho1, none⟩) 8 hc ba m bc N
  go_enter Tryz.func98, Tryz.ntmps98
  go_wp2_with fail
  refine (c7.out _).mono ?_
  rintro e w1 ⟨rfl, b1⟩
  have BX1 := bx0.next b1
  have f0 := BX1.c0
  have f1 := BX1.c1
  have f2 := BX1.c2
  have W1 := HW.out.below BX1.low
  have hc' := fun j (hj : j < 8) => wrd_at W1 j (by simpa using hj)
  have r0 := hc' 0 (by decide)
  have r1 := hc' 1 (by decide)
  have r2 := hc' 2 (by decide)
  have r3 := hc' 3 (by decide)
  have r4 := hc' 4 (by decide)
  have r5 := hc' 5 (by decide)
  have r6 := hc' 6 (by decide)
  have r7 := hc' 7 (by decide)
  rw [Nat.add_zero] at r0
  simp only [List.getD_cons_zero, List.getD_cons_succ] at r0 r1 r2 r3 r4 r5 r6 r7
  have hq : w.heap.size + 1 < w1.heap.size := BX1.out.lt
  have hlt2 : w.heap.size < w1.heap.size := by omega
  have f1' : ∀ o, (w1.alloc o).cell? ⟨w.heap.size, 1, none⟩ = some (.slice ba m bc) := fun o => (World.cell?_alloc_lt w1 o ⟨w.heap.size, 1, none⟩ hlt2).trans f1
  have q1 : Hid (Blk (w1.alloc (.cells #[.int .u32 (x0.toNat : Int), .int .u32 (x1.toNat : Int), .int .u32 (x2.toNat : Int), .int .u32 (x3.toNat : Int), .int .u32 (x4.toNat : Int), .int .u32 (x5.toNat : Int), .int .u32 (x6.toNat : Int), .int .u32 (x7.toNat : Int)] 156)) w1.heap.size (us [x0, x1, x2, x3, x4, x5, x6, x7]) 156) := Blk.new w1 (us [x0, x1, x2, x3, x4, x5, x6, x7]) 156 _ rfl
  have BX2 := Lib.hid (BX1.next ((Below.refl _ w1).alloc (Nat.le_refl _) (.cells #[.int .u32 (x0.toNat : Int), .int .u32 (x1.toNat : Int), .int .u32 (x2.toNat : Int), .int .u32 (x3.toNat : Int), .int .u32 (x4.toNat : Int), .int .u32 (x5.toNat : Int), .int .u32 (x6.toNat : Int), .int .u32 (x7.toNat : Int)] 156)))
  have C23 := clone_any ba B bc _ (HB.out.below BX2.out.low) HBn.out (by rw [HM.out]; omega)
  rw [HM.out] at C23
  have c23 := Lib.hid C23
  clear hc' W1 bx0 b1 BX1 C23
  go_wp2_with fail
  refine c23.out.mono ?_
  rintro e w2 ⟨b2, v2, rfl, ho2⟩
  have BX3 := Lib.hid (BX2.out.next b2)
  have Q3 := Lib.hid (q1.out.low b2)
  have hsz1 : (w1.alloc (.cells #[.int .u32 (x0.toNat : Int), .int .u32 (x1.toNat : Int), .int .u32 (x2.toNat : Int), .int .u32 (x3.toNat : Int), .int .u32 (x4.toNat : Int), .int .u32 (x5.toNat : Int), .int .u32 (x6.toNat : Int), .int .u32 (x7.toNat : Int)] 156)).heap.size = w1.heap.size + 1 := by simp
  rw [hsz1] at ho2
  have O2 := Lib.hid ho2
  clear hsz1
  generalize w1.heap.size = q at *
  clear b2 ho2 r0 r1 r2 r3 r4 r5 r6 r7 f0 f1 f2 f1' q1 BX2 c23 w1
  have hv : Own w2 (q + 1) v2 B := O2.out
  obtain ⟨a2, c2, rfl, hc2, hc3, hr2, hn2⟩ := own_byt hv
  have hgap : ((64 : Int) - (m : Int)) = ((64 - m : Nat) : Int) := by omega
  obtain ⟨gap, hgp⟩ : ∃ gap, gap = 64 - m := ⟨_, rfl⟩
  rw [← hgp] at hgap
  have dge : decide ((gap : Int) ≤ (p : Int)) = false := by simp; omega
  have dge2 : decide ((64 : Int) ≤ (p : Int)) = false := by simp; omega
  have HG := Lib.hid hgp
  rw [HM.out]
  rw [HM.out] at hc2 hv
  clear hv hr2 hgp
  have OW : Hid (w2.drew.ownsRow (q + 1) 5 1 (.slice a2 m c2) B.length (bs B)) := by
    have h : Own w2 (q + 1) (.slice a2 B.length c2) B := O2.out
    rw [HM.out] at h
    show World.ownsRow _ _ _ _ _ _ _
    rw [HM.out]
    rw [Own, HM.out] at h
    exact h
  have OWlt : Hid (∀ k, (Value.slice a2 m c2).ownBlock = some k → q + 1 ≤ k) := fun k hk => (OW.out.lt k hk).1
  have p2 : q + 1 ≤ w2.drew.heap.size := Q3.out.lt
  have QD : Hid (Blk w2.drew q (us [x0, x1, x2, x3, x4, x5, x6, x7]) 156) := Q3.out
  have f2 : w2.drew.cell? ⟨w.heap.size, 2, none⟩ = some (.int .u64 (N : Int)) := BX3.out.c2
  have hnl : Hid (w.heap.size + 1 < q + 1) := Nat.lt_succ_of_lt hq
  have hfe : Hid ((feed [x0, x1, x2, x3, x4, x5, x6, x7] (B ++ b)).1 = [x0, x1, x2, x3, x4, x5, x6, x7] ∧ (feed [x0, x1, x2, x3, x4, x5, x6, x7] (B ++ b)).2 = B ++ b) := by
    show _ ∧ _
    rw [feed_lt _ (B ++ b) (by rw [List.length_append, HM.out, HP.out]; exact hg)]
    exact ⟨rfl, rfl⟩
  have BY0 : Hid (Byt w2.drew bo b) := Hb.out.below BX3.out.low.drew
  have pz : B.length + p ≤ 140737488355328 := by rw [HM.out]; omega
  have e1 : IntKind.u64.wrap (p : Int) = (p : Int) := by rw [u64_wrap]; omega
  have e2 : Hid (IntKind.u64.wrap ((N : Int) + (p : Int)) = (((N + p) % 18446744073709551616 : Nat) : Int)) := by show _ = _; rw [u64_wrap]; omega
  obtain ⟨N2, hN2e⟩ : ∃ N2, N2 = (N + p) % 18446744073709551616 := ⟨_, rfl⟩
  have e3 := e2.out
  rw [← hN2e] at e3
  have HN2 := Lib.hid hN2e
  clear hN2e e2 O2 Q3 hgap
  have hgap : ((64 : Int) - (m : Int)) = (gap : Int) := by have := HG.out; omega
  go_wp2_with fail
  go_loopw [7] (fun v7 wq => v7 = .slice bo p c ∧ Hid (wq = w2)) (fun _ _ => 0)
  case atStart => exact ⟨rfl, rfl⟩
  case round =>
    obtain ⟨rfl, hwe⟩ := hrel
    obtain rfl := hwe.out
    clear hwe
    go_wp2_with fail
    go_region_law (first
      | ((try simp only [Act.put, List.setIfInBounds_toArray]); (refine step_app0 (t := 24) (e := 5) rfl (.tmp 60) (.tmp 61) rfl Tryz.underlying24 info5 (q + 1) (.slice a2 m c2) B b (by simp [Act.eval]) OW.out bo p c (by simp [Act.eval]) BY0.out Hbn.out HP pz p2 ?_; intro v6 w6 hown6 hgrow6)
         have b6 : Below (q + 1) wr.drew w6 := (Below.refl (q + 1) wr.drew).grown hgrow6 p2 OWlt.out
         obtain ⟨a6, c6, rfl, hc61, hc62, hr6, hn6⟩ := own_byt hown6
         have R6 := Lib.hid hr6
         have NE6 := Lib.hid (own_far hown6 hnl.out)
         have N6 := Lib.hid hn6
         have BX6 := Lib.hid (Bx.upto BX3.out.drew b6 hnl.out)
         have Q6 := Lib.hid (QD.out.below b6 (Nat.lt_succ_self q))
         have g2 := BX6.out.c2
         have t0c := BX6.out.out.cell 0
         have t1c := BX6.out.out.cell 1
         have t2c := BX6.out.out.cell 2
         have tfz := fun j => BX6.out.out.frozen j
         simp only [List.getElem?_cons_zero, List.getElem?_cons_succ] at t0c t1c t2c
         clear b6 hown6 hgrow6 hr6 hn6))
    all_goals
      obtain ⟨F1, F2, F3⟩ := write_fin (N2 := N2) BX6.out Q6.out hq R6.out N6.out hc61 hc62 NE6.out (by rw [HN2.out]; omega)
      rw [List.length_append] at F1 F2 F3
      have HQF := Lib.hid hq
      have G1 := Lib.hid F1
      have G2 := Lib.hid F2
      have G3 := Lib.hid F3
      clear F1 F2 F3
      go_wp2_with fail
      refine bodyPost_ret (results_cell_row Tryz.results98 _ _ (w.heap.size + 1) 115 #[.slice (some ⟨q, 0, none⟩) 8 8, .slice a6 (B.length + b.length) c6, .int .u64 (N2 : Int)] (0, 0) _ rfl G1.out Tryz.underlying115 rfl info115) rfl ⟨G2.out, _, some ⟨q, 0, none⟩, 8, a6, c6, rfl, ?_, (fun b o h => by injection h with h; injection h with h1 _ _; have := HQF.out; omega), (fun b o h => by have := NE6.out b o h; omega)⟩
      rw [hfe.out.1, hfe.out.2, ← HN2.out]
      exact G3.out
theorem write_short (ha : Option Addr) (hc : Nat) (ba : Option Addr) (m bc N : Nat) (H : List UInt32) (B b : List UInt8) (bo : Option Addr) (p c : Nat) (w : World)
    (hW : Wrd w ha H) (hH : H.length = 8) (hB : Byt w ba B) (hBn : ba = none → bc = 0) (hm : B.length = m) (hN : m = N % 64) (hN2 : N < 18446744073709551616)
    (hb : Byt w bo b) (hbn : bo = none → c = 0) (hp : b.length = p) (hpc : p ≤ c) (hcc : c ≤ 9223372036854775807) (hg : m + p < 64) :
    Calls Tryz.prog 98 #[.agg #[.slice ha 8 hc, .slice ba m bc, .int .u64 (N : Int)], .slice bo p c] w fun e w' => Below w.heap.size w w' ∧
      ∃ v hx cx bx dx, e = .returned v ∧ ShaV w' v ⟨(feed H (B ++ b)).1, (feed H (B ++ b)).2, (N + p) % 18446744073709551616⟩ hx cx bx dx :=
  (write_short_f ha hc ba m bc N H B b bo p c w hW hH hB hBn hm hN hN2 hb hbn hp hpc hcc hg).mono fun _ _ ⟨h1, v, hx, cx, bx, dx, h2, h3, _, _⟩ => ⟨h1, v, hx, cx, bx, dx, h2, h3⟩
end Go.Proofs.YtekaboomhljdoaaGreatDoor.Sh
