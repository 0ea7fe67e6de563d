/-
  The contract of sha's Write of a digest that may not be. Conditions: its words and bytes are at most 2^47 bytes each.
-/
import Derived.Test.YtekaboomhljdoaaGreatDoorWm
namespace Go.Proofs.YtekaboomhljdoaaGreatDoor.Sh
open Go.RowKit Go.Lib

theorem own_farw {w : World} {B K c6 n : Nat} {a6 : Option Addr} {l : List UInt32} (h : w.ownsRow B 118 1 (.slice a6 n c6) l.length (us l)) (hB : K < B) : ∀ b o, a6 = some ⟨b, o, none⟩ → K < b := fun b o h0 => by
  subst h0
  have := (h.lt b rfl).1
  omega
theorem wrd_set {w : World} {ao : Option Addr} {l : List UInt32} (h : Wrd w ao l) (p : Addr) (u : Value) (hne : ∀ b o, ao = some ⟨b, o, none⟩ → p.block < b) : Wrd (w.setCell p u) ao l := fun hl => by
  obtain ⟨b, o, h1, h2, h3⟩ := h hl
  refine ⟨b, o, h1, by simpa [World.setCell] using h2, fun j hj => ?_⟩
  rw [World.cell?_setCell_other _ _ _ _ (by intro h0; have := hne b o h1; rw [h0] at this; exact absurd this (Nat.lt_irrefl _))]
  exact h3 j hj
theorem copy_fin {w w6 : World} {ha : Option Addr} {hn hc : Nat} {ba : Option Addr} {bn bc N0 N c5 c6 n m : Nat} {a5 a6 : Option Addr} {k : List UInt32} {l : List UInt8} (BX : Bx w w6 ha hn hc ba bn bc N0)
    (W5 : Wrd w6 a5 k) (N5 : a5 = none → c5 = 0) (g1 : k.length ≤ c5) (g2 : c5 ≤ 9223372036854775807) (hne5 : ∀ b o, a5 = some ⟨b, o, none⟩ → w.heap.size + 1 < b)
    (R : Byt w6 a6 l) (N6 : a6 = none → c6 = 0) (h1 : l.length ≤ c6) (h2 : c6 ≤ 9223372036854775807) (hne : ∀ b o, a6 = some ⟨b, o, none⟩ → w.heap.size + 1 < b) (hN : N < 18446744073709551616) (hk : k.length = n) (hl : l.length = m) :
    Blk (((w6.setCell ⟨w.heap.size + 1, 0, none⟩ (.slice a5 n c5)).setCell ⟨w.heap.size + 1, 1, none⟩ (.slice a6 m c6)).setCell ⟨w.heap.size + 1, 2, none⟩ (.int .u64 (N : Int))) (w.heap.size + 1) [.slice a5 n c5, .slice a6 m c6, .int .u64 (N : Int)] 115 ∧
    Below w.heap.size w (((w6.setCell ⟨w.heap.size + 1, 0, none⟩ (.slice a5 n c5)).setCell ⟨w.heap.size + 1, 1, none⟩ (.slice a6 m c6)).setCell ⟨w.heap.size + 1, 2, none⟩ (.int .u64 (N : Int))) ∧
    ShaV (((w6.setCell ⟨w.heap.size + 1, 0, none⟩ (.slice a5 n c5)).setCell ⟨w.heap.size + 1, 1, none⟩ (.slice a6 m c6)).setCell ⟨w.heap.size + 1, 2, none⟩ (.int .u64 (N : Int))) (.agg #[.slice a5 n c5, .slice a6 m c6, .int .u64 (N : Int)]) ⟨k, l, N⟩ a5 c5 a6 c6 := by
  subst hk
  subst hl
  exact ⟨((BX.out.set 0 _).set 1 _).set 2 _, ((BX.low.setCell (Nat.le_succ _) _).setCell (Nat.le_succ _) _).setCell (Nat.le_succ _) _, {
    val := rfl
    wrd := wrd_set (wrd_set (wrd_set W5 _ _ hne5) _ _ hne5) _ _ hne5
    hnil := N5
    hcap := g1
    hmax := g2
    byt := byt_set (byt_set (byt_set R _ _ hne) _ _ hne) _ _ hne
    bnil := N6
    bcap := h1
    bmax := h2
    num := hN }⟩

set_option maxHeartbeats 4000000 in
set_option maxRecDepth 100000 in
theorem write_bad (ha : Option Addr) (n hc : Nat) (ba : Option Addr) (m bc N : Nat) (H : List UInt32) (B : List UInt8) (bo : Option Addr) (p c : Nat) (w : World)
    (hW : Wrd w ha H) (hWn : ha = none → hc = 0) (hH : H.length = n) (hB : Byt w ba B) (hBn : ba = none → bc = 0) (hm : B.length = m) (hm2 : m ≤ 9223372036854775807) (hN2 : N < 18446744073709551616)
    (hbad : (decide (n = 8) && decide (m = N % 64)) = false) (hs1 : n * 4 ≤ 140737488355328) (hs2 : m ≤ 140737488355328) :
    Calls Tryz.prog 98 #[.agg #[.slice ha n hc, .slice ba m bc, .int .u64 (N : Int)], .slice bo p c] w fun e w' => Below w.heap.size w w' ∧
      ∃ v hx cx bx dx, e = .returned v ∧ ShaV w' v ⟨H, B, N⟩ hx cx bx dx := by
  have C7 := fun W => check_num n m N hc bc ha ba W hm2 hN2
  rw [hbad] at C7
  have c7 := Lib.hid C7
  have HW := Lib.hid hW
  have HWn := Lib.hid hWn
  have HH := Lib.hid hH
  have HB := Lib.hid hB
  have HBn := Lib.hid hBn
  have HM := Lib.hid hm
  have C22 : Hid (∀ W, Below w.heap.size w W → Calls Tryz.prog 106 #[.slice ha n hc] W fun e w' => Below W.heap.size W w' ∧ ∃ v, e = .returned v ∧ OwnW w' W.heap.size v H) := fun W hb => by
    have := clonew_any ha H hc W (hW.below hb) hWn (by rw [hH]; exact hs1)
    rw [hH] at this
    exact this
  have C23 : Hid (∀ W, Below w.heap.size w W → Calls Tryz.prog 107 #[.slice ba m bc] W fun e w' => Below W.heap.size W w' ∧ ∃ v, e = .returned v ∧ Own w' W.heap.size v B) := fun W hb => by
    have := clone_any ba B bc W (hB.below hb) hBn (by rw [hm]; exact hs2)
    rw [hm] at this
    exact this
  clear C7 hW hWn hH hB hBn hm hbad
  have bx0 := bx_start w ha n hc ba m bc N
  go_enter Tryz.func98, Tryz.ntmps98
  go_wp2_with fail
  refine (c7.out _).mono ?_
  rintro e w1 ⟨rfl, b1⟩
  have BXN := Lib.hid (bx0.next b1).drew
  have f0 := (bx0.next b1).c0
  have f1 := (bx0.next b1).c1
  have f2 := (bx0.next b1).c2
  clear bx0 b1
  go_wp2_with fail
  go_region_held3 (fun w' => w'.cell? ⟨w.heap.size, 0, none⟩ = some (.slice ha n hc) ∧ w'.cell? ⟨w.heap.size, 1, none⟩ = some (.slice ba m bc) ∧ w'.cell? ⟨w.heap.size, 2, none⟩ = some (.int .u64 (N : Int)))
    (first
      | go_keep
      | exact ⟨BXN.out.c0, BXN.out.c1, BXN.out.c2⟩
      | (go_split_ands
         (try dsimp only)
         (repeat' apply And.intro) <;> (rw [World.cell?_setCell_other _ _ _ _ (by simp), World.cell?_setCell_other _ _ _ _ (by simp), World.cell?_setCell_other _ _ _ _ (by simp)]; assumption)))
    (first
      | (go_at_call 106; (with_reducible refine (C22.out _ BXN.out.low).mono ?_); rintro e w2 ⟨b2, v5, rfl, o5⟩
         have hlt := BXN.out.out.lt
         obtain ⟨a5, c5, rfl, g51, g52, r5, n5⟩ := own_wrd o5
         have NE5 := Lib.hid (own_farw o5 hlt)
         have W5 := Lib.hid r5
         have N5 := Lib.hid n5
         (try (have R6 := Lib.hid (R6.out.below b2)))
         have BXN := Lib.hid (BXN.out.next b2)
         have t0c := BXN.out.out.cell 0
         have t1c := BXN.out.out.cell 1
         have t2c := BXN.out.out.cell 2
         have tfz := fun j => BXN.out.out.frozen j
         simp only [List.getElem?_cons_zero, List.getElem?_cons_succ] at t0c t1c t2c
         clear b2 o5 r5 n5 hlt)
      | (go_at_call 107; (with_reducible refine (C23.out _ BXN.out.low).mono ?_); rintro e w3 ⟨b3, v6, rfl, o6⟩
         have hlt := BXN.out.out.lt
         obtain ⟨a6, c6, rfl, g61, g62, r6, n6⟩ := own_byt o6
         have NE6 := Lib.hid (own_far o6 hlt)
         have R6 := Lib.hid r6
         have N6 := Lib.hid n6
         (try (have W5 := Lib.hid (W5.out.below b3)))
         have BXN := Lib.hid (BXN.out.next b3)
         have s0c := BXN.out.out.cell 0
         have s1c := BXN.out.out.cell 1
         have s2c := BXN.out.out.cell 2
         have sfz := fun j => BXN.out.out.frozen j
         simp only [List.getElem?_cons_zero, List.getElem?_cons_succ] at s0c s1c s2c
         clear b3 o6 r6 n6 hlt))
  obtain ⟨F1, F2, F3⟩ := copy_fin (n := H.length) (m := B.length) BXN.out W5.out N5.out g51 g52 NE5.out R6.out N6.out g61 g62 NE6.out hN2 rfl rfl
  have G1 := Lib.hid F1
  have G2 := Lib.hid F2
  have G3 := Lib.hid F3
  clear F1 F2 F3
  go_wp2_with fail
  exact bodyPost_ret (results_cell_row Tryz.results98 _ _ (w.heap.size + 1) 115 #[.slice a5 H.length c5, .slice a6 B.length c6, .int .u64 (N : Int)] (0, 0) _ rfl G1.out Tryz.underlying115 rfl info115) rfl ⟨G2.out, _, a5, c5, a6, c6, rfl, G3.out⟩
end Go.Proofs.YtekaboomhljdoaaGreatDoor.Sh
