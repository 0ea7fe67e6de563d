/-
  The walk of the statement ShaNothing. Condition: the tables of sha stand in memory.
-/
import Derived.Test.YtekmmafgknnmlaaDoorLa
import Derived.Deep.RegionHeld3
namespace Go.Proofs.YtekmmafgknnmlaaDoor.Sh
open Go.RowKit Go.Lib

theorem own_n {w : World} {B : Nat} {v : Value} {l : List UInt8} {n : Nat} (h : Own w B v l) (hn : l.length = n) : ∃ ao c, v = .slice ao n c ∧ Byt w ao l ∧ (ao = none → c = 0) := by
  subst hn
  obtain ⟨ao, c, e, _, _, r, k⟩ := own_byt h
  exact ⟨ao, c, e, r, k⟩
theorem same_n {n : Nat} (l : List UInt8) (hn : l.length = n) {ao bo : Option Addr} {c d : Nat} {w : World} (h1 : Byt w ao l) (h2 : Byt w bo l) (n1 : ao = none → c = 0) (n2 : bo = none → d = 0) :
    Calls Tryd.prog 12 #[.slice ao n c, .slice bo n d] w fun e w' => e = .returned (.bool true) ∧ w = w' := by
  subst hn
  exact same_bytes ao bo l c d w h1 h2 n1 n2
/-- two boxes, block a and the next one, hold these cells -/
structure Box (W : World) (a : Nat) (x0 x1 x2 : Value) : Prop where
  c0 : W.cell? ⟨a, 0, none⟩ = some x0
  c1 : W.cell? ⟨a, 1, none⟩ = some x1
  c2 : W.cell? ⟨a, 2, none⟩ = some x2
  lt : a < W.heap.size
theorem Box.low {W W' : World} {a : Nat} {x0 x1 x2 : Value} (h : Box W a x0 x1 x2) (hb : Below W.heap.size W W') : Box W' a x0 x1 x2 :=
  ⟨(hb.cell (p := ⟨a, 0, none⟩) h.lt).trans h.c0, (hb.cell (p := ⟨a, 1, none⟩) h.lt).trans h.c1, (hb.cell (p := ⟨a, 2, none⟩) h.lt).trans h.c2, Nat.lt_of_lt_of_le h.lt hb.size⟩
theorem Box.new (w : World) (x0 x1 x2 : Value) (t : TypeId) : Box (w.alloc (.cells #[x0, x1, x2] t)) w.heap.size x0 x1 x2 := by
  refine ⟨?_, ?_, ?_, by simp⟩ <;> rw [World.cell?_alloc_new] <;> rfl
theorem Box.set {w : World} {a : Nat} {x0 x1 x2 y0 y1 y2 : Value} {t : TypeId} (h : Blk w a [x0, x1, x2] t) : Box (((w.setCell ⟨a, 0, none⟩ y0).setCell ⟨a, 1, none⟩ y1).setCell ⟨a, 2, none⟩ y2) a y0 y1 y2 := by
  have h3 := ((h.set 0 y0).set 1 y1).set 2 y2
  exact ⟨h3.cell 0, h3.cell 1, h3.cell 2, h3.lt⟩

set_option maxHeartbeats 4000000 in
set_option maxRecDepth 100000 in
theorem nothing_law (s : Sha) (v : Value) (ha : Option Addr) (hc : Nat) (ba : Option Addr) (bc : Nat) (bo : Option Addr) (l : List UInt8) (c : Nat) (w : World) (hl : Lay w) (h : ShaV w v s ha hc ba bc) (hb : Byt w bo l) (hbn : bo = none → c = 0) (hlc : l.length ≤ c) (hcc : c ≤ 9223372036854775807) :
    Calls Tryd.prog 3 #[v, .slice bo l.length c] w fun e w' => e = .returned (.bool true) ∧ Below w.heap.size w w' := by
  have C8 : Hid (∀ W, Below w.heap.size w W → Calls Tryd.prog 8 #[] W fun e w' => e = .returned (.bool true) ∧ Below W.heap.size W w') := fun W hb => heads_any W (hl.below hb)
  have B0 := Lib.hid (Below.refl w.heap.size w)
  have BL : Hid (∀ o, Below w.heap.size w (w.alloc o)) := fun o => (Below.refl _ w).alloc (Nat.le_refl _) o
  have hv := h.val
  subst hv
  have V := Lib.hid (fun W (hB : Below w.heap.size w W) => h.below hB)
  obtain ⟨k, hk⟩ : ∃ k, chk s = k := ⟨_, rfl⟩
  have C7 : Hid (∀ W, Below w.heap.size w W → Calls Tryd.prog 7 #[.agg #[.slice ha s.H.length hc, .slice ba s.B.length bc, .int .u64 (s.N : Int)]] W fun e w' => e = .returned (.bool k) ∧ Below W.heap.size W w') := fun W hB => by
    rw [← hk]
    exact check_any _ s ha hc ba bc W (h.below hB)
  cases k with
  | false =>
    clear hl hb h hk
    generalize s.H.length = n at *
    generalize s.B.length = m at *
    go_enter Tryd.func3, Tryd.ntmps3
    go_wp2_with fail
    refine (C7.out _ (BL.out _)).mono ?_
    rintro e w1 ⟨rfl, b1⟩
    have B1 := Lib.hid (below_chain (BL.out _) b1)
    clear b1
    go_wp2_with fail
    refine (C8.out _ B1.out).mono ?_
    rintro e w2 ⟨rfl, b2⟩
    have B2 := Lib.hid (below_chain B1.out b2)
    clear b2
    go_wp2_with fail
    go_ret
    exact ⟨rfl, B2.out⟩
  | true =>
    by_cases hg : 500 < l.length
    · have d1 : ((l.length : Int) > 500) := by omega
      clear hl hb h hk
      generalize s.H.length = n at *
      generalize s.B.length = m at *
      go_enter Tryd.func3, Tryd.ntmps3
      go_wp2_with fail
      refine (C7.out _ (BL.out _)).mono ?_
      rintro e w1 ⟨rfl, b1⟩
      have B1 := Lib.hid (below_chain (BL.out _) b1)
      clear b1
      go_wp2_with fail
      refine (C8.out _ B1.out).mono ?_
      rintro e w2 ⟨rfl, b2⟩
      have B2 := Lib.hid (below_chain B1.out b2)
      clear b2
      go_wp2_with fail
      go_ret
      exact ⟨rfl, B2.out⟩
    · have d1 : ¬ ((l.length : Int) > 500) := by omega
      obtain ⟨k1, k2⟩ := (chk_iff s).1 hk
      have hn2 := h.num
      have W1 : Hid (∀ W v2 h2 c2 b2 d2, Below w.heap.size w W → ShaV W v2 s h2 c2 b2 d2 → Calls Tryd.prog 10 #[v2, .slice none 0 0] W (Ans W s)) := fun W v2 h2 c2 b2 d2 hB hv => by
        have := write_any v2 s h2 c2 b2 d2 [] none 0 0 W (hl.below hB) hv (byt_nil _ _) (fun _ => rfl) rfl (Nat.le_refl _) (by decide) ⟨by omega, by omega, by decide⟩
        rwa [wr_nil s hk hn2] at this
      obtain ⟨q, hq⟩ : ∃ q, dn s = q := ⟨_, rfl⟩
      obtain ⟨q2, hq2⟩ : ∃ q2, dn (wr s l) = q2 := ⟨_, rfl⟩
      have HQ : Hid (q.length = 32) := by
        show _ = _
        rw [← hq]
        exact dn_len s hk
      have HQ2 : Hid (q2.length = 32) := by
        show _ = _
        rw [← hq2]
        exact dn_len _ (wr_chk s l hk)
      have C9 : Hid (∀ W v2 h2 c2 b2 d2, Below w.heap.size w W → ShaV W v2 s h2 c2 b2 d2 → Calls Tryd.prog 9 #[v2] W (Row W q)) := fun W v2 h2 c2 b2 d2 hB hv => by
        rw [← hq]
        exact done_any v2 h2 c2 b2 d2 s W (hl.below hB) hv
      have W2 : Hid (∀ W v2 h2 c2 b2 d2, Below w.heap.size w W → ShaV W v2 s h2 c2 b2 d2 → Calls Tryd.prog 10 #[v2, .slice bo l.length c] W (Ans W (wr s l))) := fun W v2 h2 c2 b2 d2 hB hv =>
        write_any v2 s h2 c2 b2 d2 l bo l.length c W (hl.below hB) hv (hb.below hB) hbn rfl hlc hcc ⟨by omega, by omega, by omega⟩
      have C9b : Hid (∀ W v2 h2 c2 b2 d2, Below w.heap.size w W → ShaV W v2 (wr s l) h2 c2 b2 d2 → Calls Tryd.prog 9 #[v2] W (Row W q2)) := fun W v2 h2 c2 b2 d2 hB hv => by
        rw [← hq2]
        exact done_any v2 h2 c2 b2 d2 _ W (hl.below hB) hv
      clear hl hb h hk hn2 k1 k2 hq hq2
      obtain ⟨n, hn⟩ : ∃ n, s.H.length = n := ⟨_, rfl⟩
      obtain ⟨m, hm⟩ : ∃ m, s.B.length = m := ⟨_, rfl⟩
      rw [hn, hm] at C7 V
      rw [hn, hm]
      have X1 := Lib.hid (Box.new w (.slice ha n hc) (.slice ba m bc) (.int .u64 (s.N : Int)) 26)
      go_enter Tryd.func3, Tryd.ntmps3
      go_wp2_with fail
      refine (C7.out _ (BL.out _)).mono ?_
      rintro e w1 ⟨rfl, b1⟩
      have Y1 := Lib.hid (X1.out.low b1)
      obtain ⟨z0, z1, z2, _⟩ := Y1.out
      have B1 := Lib.hid (below_chain (BL.out _) b1)
      have V1 := Lib.hid (V.out _ B1.out)
      clear b1 X1
      go_wp2_with fail
      refine (C9.out _ _ _ _ _ _ B1.out V1.out).mono ?_
      rintro e w2 ⟨b2, v2, rfl, o2⟩
      obtain ⟨a2, c2, rfl, x1, x2, r2, n2⟩ := own_byt o2
      have Y2 := Lib.hid (Y1.out.low b2)
      clear z0 z1 z2
      obtain ⟨z0, z1, z2, _⟩ := Y2.out
      have B2 := Lib.hid (below_chain B1.out b2)
      have R2 := Lib.hid r2
      have V2 := Lib.hid (V.out _ B2.out)
      clear b2 o2 r2 Y1 V1
      rw [HQ.out]
      go_wp2_with fail
      refine (W1.out _ _ _ _ _ _ B2.out V2.out).mono ?_
      rintro e w3 ⟨b3, v3, h3, c3, e3, d3, rfl, s3⟩
      have s3v : v3 = .agg #[.slice h3 n c3, .slice e3 m d3, .int .u64 (s.N : Int)] := by rw [← hn, ← hm]; exact s3.val
      subst s3v
      have Y3 := Lib.hid (Y2.out.low b3)
      clear z0 z1 z2
      obtain ⟨z0, z1, z2, _⟩ := Y3.out
      have B3 := Lib.hid (below_chain B2.out b3)
      have R3 := Lib.hid (R2.out.below b3)
      have S3 := Lib.hid s3
      clear b3 s3 Y2 V2 R2
      go_wp2_with fail
      have A3 := Lib.hid (Below.refl w3.heap.size w3 |>.alloc (Nat.le_refl _) (.cells #[.slice h3 n c3, .slice e3 m d3, .int .u64 (s.N : Int)] 26))
      have Z3 := Lib.hid (Box.new w3 (.slice h3 n c3) (.slice e3 m d3) (.int .u64 (s.N : Int)) 26)
      have Y4 := Lib.hid (Y3.out.low A3.out)
      have B4 := Lib.hid (below_chain B3.out A3.out)
      have R4 := Lib.hid (R3.out.below A3.out)
      have S4 := Lib.hid (S3.out.below A3.out)
      have V4 := Lib.hid (V.out _ B4.out)
      clear z0 z1 z2 A3 R3 S3 Y3
      generalize hw4 : w3.alloc (.cells #[.slice h3 n c3, .slice e3 m d3, .int .u64 (s.N : Int)] 26) = w4 at *
      obtain ⟨z0, z1, z2, _⟩ := Y4.out
      obtain ⟨z3, z4, z5, _⟩ := Z3.out
      have C11 := Lib.hid (fun W (hB : Below w4.heap.size w4 W) => same_sha _ _ s _ _ _ _ _ _ _ _ W (S4.out.below hB) (V4.out.below hB))
      have D9 := Lib.hid (fun W (hB : Below w4.heap.size w4 W) => C9.out W _ _ _ _ _ (below_chain B4.out hB) (S4.out.below hB))
      have D10t := Lib.hid (fun W (hB : Below w4.heap.size w4 W) => W2.out W _ _ _ _ _ (below_chain B4.out hB) (S4.out.below hB))
      have D10s := Lib.hid (fun W (hB : Below w4.heap.size w4 W) => W2.out W _ _ _ _ _ (below_chain B4.out hB) (V4.out.below hB))
      have D9b := Lib.hid (fun W (hB : Below w4.heap.size w4 W) v2 h2 c2 b2 d2 hv => C9b.out W v2 h2 c2 b2 d2 (below_chain B4.out hB) hv)
      have D8 := Lib.hid (fun W (hB : Below w4.heap.size w4 W) => C8.out W (below_chain B4.out hB))
      have BQ := Lib.hid (Below.refl w4.heap.size w4).drew
      have YQ := Lib.hid (Y4.out.low BQ.out)
      have ZQ := Lib.hid (Z3.out.low BQ.out)
      clear C9 W2 C9b C8 W1 C7
      go_region_held3 (fun w' => w'.cell? ⟨w.heap.size, 0, none⟩ = some (.slice ha n hc) ∧ w'.cell? ⟨w.heap.size, 1, none⟩ = some (.slice ba m bc) ∧ w'.cell? ⟨w.heap.size, 2, none⟩ = some (.int .u64 (s.N : Int)) ∧ w'.cell? ⟨w3.heap.size, 0, none⟩ = some (.slice h3 n c3) ∧ w'.cell? ⟨w3.heap.size, 1, none⟩ = some (.slice e3 m d3) ∧ w'.cell? ⟨w3.heap.size, 2, none⟩ = some (.int .u64 (s.N : Int)))
        (first
          | go_keep
          | exact ⟨YQ.out.c0, YQ.out.c1, YQ.out.c2, ZQ.out.c0, ZQ.out.c1, ZQ.out.c2⟩)
        (first
          | (go_at_call 11; (with_reducible refine (C11.out _ BQ.out).mono ?_); rintro e w5 ⟨rfl, b5⟩
             have YQ := Lib.hid (YQ.out.low b5)
             have ZQ := Lib.hid (ZQ.out.low b5)
             have BQ := Lib.hid (below_chain BQ.out b5)
             clear b5)
          | (go_at_call 9; (with_reducible refine (D9.out _ BQ.out).mono ?_); rintro e w6 ⟨b6, v6, rfl, o6⟩
             obtain ⟨a6, c6, rfl, r6, n6⟩ := own_n o6 HQ.out
             have YQ := Lib.hid (YQ.out.low b6)
             have ZQ := Lib.hid (ZQ.out.low b6)
             have BQ := Lib.hid (below_chain BQ.out b6)
             have C12 := Lib.hid (same_n q HQ.out r6 (R4.out.below BQ.out) n6 n2)
             clear b6 o6 r6)
          | (go_at_call 12; (with_reducible refine (C12.out).mono ?_); rintro e w7 ⟨rfl, rfl⟩)
          | (go_at_call 10; (with_reducible refine (D10t.out _ BQ.out).mono ?_); rintro e w7 ⟨b7, v7, h7, c7, e7, d7, rfl, s7⟩
             have YQ := Lib.hid (YQ.out.low b7)
             have ZQ := Lib.hid (ZQ.out.low b7)
             have BQ := Lib.hid (below_chain BQ.out b7)
             have S7 := Lib.hid s7
             clear b7 s7)
          | (go_at_call 9; (with_reducible refine (D9b.out _ BQ.out _ _ _ _ _ S7.out).mono ?_); rintro e w8 ⟨b8, v8, rfl, o8⟩
             obtain ⟨a8, c8, rfl, r8, n8⟩ := own_n o8 HQ2.out
             have R8 := Lib.hid r8
             have YQ := Lib.hid (YQ.out.low b8)
             have ZQ := Lib.hid (ZQ.out.low b8)
             have BQ := Lib.hid (below_chain BQ.out b8)
             clear b8 o8 r8)
          | (go_at_call 10; (with_reducible refine (D10s.out _ BQ.out).mono ?_); rintro e w9 ⟨b9, v9, h9, c9, e9, d9, rfl, s9⟩
             have YQ := Lib.hid (YQ.out.low b9)
             have ZQ := Lib.hid (ZQ.out.low b9)
             have BQ := Lib.hid (below_chain BQ.out b9)
             have R8 := Lib.hid (R8.out.below b9)
             have S9 := Lib.hid s9
             clear b9 s9)
          | (go_at_call 9; (with_reducible refine (D9b.out _ BQ.out _ _ _ _ _ S9.out).mono ?_); rintro e w10 ⟨b10, v10, rfl, o10⟩
             obtain ⟨a10, c10, rfl, r10, n10⟩ := own_n o10 HQ2.out
             have C12 := Lib.hid (same_n q2 HQ2.out (R8.out.below b10) r10 n8 n10)
             have YQ := Lib.hid (YQ.out.low b10)
             have ZQ := Lib.hid (ZQ.out.low b10)
             have BQ := Lib.hid (below_chain BQ.out b10)
             clear b10 o10 r10)
          | (go_at_call 8; (with_reducible refine (D8.out _ BQ.out).mono ?_); rintro e w11 ⟨rfl, b11⟩
             have YQ := Lib.hid (YQ.out.low b11)
             have ZQ := Lib.hid (ZQ.out.low b11)
             have BQ := Lib.hid (below_chain BQ.out b11)
             clear b11))
      go_wp2_with fail
      go_ret
      exact ⟨rfl, below_chain B4.out BQ.out⟩
end Go.Proofs.YtekmmafgknnmlaaDoor.Sh
