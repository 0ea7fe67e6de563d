/-
  The contract of the laws' own heads. No condition.
-/
import Derived.Test.YtlpbkjonicjccaaDoorSh
import Derived.Test.YtlpbkjonicjccaaDoorSi
import Derived.Test.YtlpbkjonicjccaaDoorKz
namespace Go.Proofs.YtlpbkjonicjccaaDoor.Sh
open Go.RowKit Go.Lib

theorem keyS_bytes (k : Int) (l : List UInt8) : keyBytes (keyS k l).data.toList = some (sumS (kb k :: l)) := keyBytes_back _ (sumS_len _)
theorem keyS_size (k : Int) (l : List UInt8) : (keyS k l).size = 64 := by
  show (hexL (sumS (kb k :: l))).toArray.size = 64
  rw [List.size_toArray, hexL_len, sumS_len]
theorem ok_any (g : Int) (r : ByteArray) (p : List Int) (h1 : 1 ≤ g) (h2 : g ≤ 4611686018427387903) (h3 : (keyBytes r.data.toList).isSome = true) (h4 : riseL 0 p = true) : okP ⟨g, r, p⟩ = true := by
  simp [okP, h1, h2, h3, h4]
theorem ok_s0 : okP ⟨3, keyS 0 [], [0, 9]⟩ = true := ok_any _ _ _ (by decide) (by decide) (by rw [keyS_bytes]; rfl) (by decide)
theorem ok_n0 : okP ⟨4, keyS 1 [], [1, 4]⟩ = true := ok_any _ _ _ (by decide) (by decide) (by rw [keyS_bytes]; rfl) (by decide)
theorem sort414 : sortU ltI [4, 1, 4] = [1, 4] := by decide
theorem next_s0 : nextL ⟨3, keyS 0 [], [0, 9]⟩ (keyS 1 []) [4, 1, 4] = some ⟨4, keyS 1 [], [1, 4]⟩ := by
  have h := ok_n0
  simp only [nextL, sort414, ok_s0]
  rw [show (3 : Int) + 1 = 4 from rfl, h]
  rfl
theorem choose_s0 : chooseL (getL (secL ⟨3, keyS 0 [], [0, 9]⟩)) (getL (secL ⟨4, keyS 1 [], [1, 4]⟩)) = (⟨4, keyS 1 [], [1, 4]⟩, 1, 0) := by
  rw [get_sec ok_s0, get_sec ok_n0]
  exact choose_second rfl (by show (3 : Int) < 4; decide)
theorem get_noughts : getL (List.replicate 256 0) = none := by
  have h : okP (spOf (List.replicate 256 0)) = false := by
    have : (spOf (List.replicate 256 0)).g = 0 := by decide +kernel
    unfold okP
    rw [this]
    rfl
  simp only [getL, okL, h, Bool.and_false, Bool.false_and]
  rfl
theorem get_nil : getL [] = none := getL_short (by decide)
theorem choose_no : chooseL (getL (List.replicate 256 0)) (getL []) = (noSP, -1, 110) := choose_none get_noughts get_nil
theorem Zrw.alloc {w : World} {ao : Option Addr} {l : List Int} (h : Zrw w ao l) (o : Obj) : Zrw (w.alloc o) ao l := h.below ((Below.refl _ w).alloc (Nat.le_refl _) o)
theorem zlit2 (X : World) : Zrw (X.alloc (.cells #[.int .i64 0, .int .i64 9] 3)) (some ⟨X.heap.size, 0, none⟩) [0, 9] := fun _ => ⟨X.heap.size, 0, rfl, by simp, fun j hj => by
  rw [World.cell?_alloc_new]
  rcases (show j = 0 ∨ j = 1 by simp at hj; omega) with rfl | rfl <;> rfl⟩
theorem zlit3 (X : World) : Zrw (X.alloc (.cells #[.int .i64 4, .int .i64 1, .int .i64 4] 3)) (some ⟨X.heap.size, 0, none⟩) [4, 1, 4] := fun _ => ⟨X.heap.size, 0, rfl, by simp, fun j hj => by
  rw [World.cell?_alloc_new]
  rcases (show j = 0 ∨ j = 1 ∨ j = 2 by simp at hj; omega) with rfl | rfl | rfl <;> rfl⟩
theorem zlit3k (X : World) (k : Nat) (hk : k = X.heap.size) : Zrw (X.alloc (.cells #[.int .i64 4, .int .i64 1, .int .i64 4] 3)) (some ⟨k, 0, none⟩) [4, 1, 4] := by subst hk; exact zlit3 X
abbrev ZC : List Value := [.int .i64 0, .string ⟨#[]⟩, .slice none 0 0]
/-- the block k holds a new superblock, and the row a lies behind it -/
def KF (w : World) (k : Nat) (a : Option Addr) : Prop := Blk w k ZC 25 ∧ ∀ b o, a = some ⟨b, o, none⟩ → k < b
theorem kb_far {E w4 : World} {k : Nat} {a : Option Addr} (K : Blk E k ZC 25) (b4 : Below E.heap.size E w4) (hf : ∀ b o, a = some ⟨b, o, none⟩ → E.heap.size ≤ b) : KF w4 k a :=
  ⟨K.low b4, fun b o e => Nat.lt_of_lt_of_le K.lt (hf b o e)⟩
theorem put_ok (s : SP) (hok : okP s = true) (v : Value) (w : World) (h : SupV w v s) : Calls Tryd.prog 8 #[v] w fun e w' => ∃ g, e = .returned (.tuple #[.slice (some ⟨g, 0, none⟩) 256 256, .int .i64 0]) ∧ w.heap.size ≤ g ∧ Blk w' g (bs (secL s)) 51 ∧ Below w.heap.size w w' :=
  (put8 s v w h).mono fun e w' hh => by
    obtain ⟨h1, u, rfl, _, h2⟩ := hh
    obtain ⟨g, rfl, h3, h4⟩ := h2 hok
    exact ⟨g, by rw [putE, hok]; rfl, h3, h4, h1⟩
theorem choose_is (ao bo : Option Addr) (la lb : List UInt8) (n m c d : Nat) (w : World) (ha : Byt w ao la) (hb : Byt w bo lb) (hn : la.length = n) (hm : lb.length = m) (s : SP) (i er : Int) (hc : chooseL (getL la) (getL lb) = (s, i, er)) :
    Calls Tryd.prog 13 #[.slice ao n c, .slice bo m d] w fun e w' => ∃ a q, e = .returned (.tuple #[.agg #[.int .i64 s.g, .string s.r, .slice a s.p.length q], .int .i64 i, .int .i64 er]) ∧ SupV w' (.agg #[.int .i64 s.g, .string s.r, .slice a s.p.length q]) s ∧ Below w.heap.size w w' :=
  (choose13 ao bo la lb n m c d w ha hb hn hm).mono fun e w' hh => by
    obtain ⟨h1, v, rfl, h2⟩ := hh
    rw [hc] at h2 ⊢
    have h3 := h2
    obtain ⟨a, q, rfl, _⟩ := h2
    exact ⟨a, q, rfl, h3, h1⟩
theorem get_is (ao : Option Addr) (l : List UInt8) (n c : Nat) (w : World) (h : Byt w ao l) (hn : l.length = n) (s : SP) (hs : getL l = some s) :
    Calls Tryd.prog 9 #[.slice ao n c] w fun e w' => ∃ a q, e = .returned (.tuple #[.agg #[.int .i64 s.g, .string s.r, .slice a s.p.length q], .int .i64 0]) ∧ SupV w' (.agg #[.int .i64 s.g, .string s.r, .slice a s.p.length q]) s ∧ Below w.heap.size w w' :=
  (get9 ao l n c w h hn).mono fun e w' hh => by
    obtain ⟨h1, v, rfl, h2⟩ := hh
    rw [hs, Option.getD_some] at h2
    have h3 := h2.val
    obtain ⟨a, q, rfl, _⟩ := h2
    exact ⟨a, q, by rw [getE, hs]; rfl, h3, h1⟩
theorem mk256 (W : World) : (Instr.makeSlice 26 (.int .i64 256) (.int .i64 256)).run Tryd.prog W = .ok (.slice (some ⟨W.heap.size, 0, none⟩) 256 256) (W.alloc (.cells nou.toArray 5)) := by
  obtain ⟨i0, hi, hz0, hz1, hz2⟩ := info_parts info5
  rw [run_make W 26 5 i0 (.int .u8 0) Tryd.underlying26 hi hz0 .i64 .i64 256 256 (by omega) (by omega) (by rw [hz2]; omega) (by omega), hz1]
  have e : madeCells (Value.int .u8 0).cells (Int.toNat 256 * 1) = nou.toArray := by kernel_rfl
  rw [e]
  rfl
set_option maxHeartbeats 8000000 in
set_option maxRecDepth 100000 in
theorem heads_any (w : World) : Calls Tryd.prog 11 #[] w fun e w' => e = .returned (.bool true) ∧ Below w.heap.size w w' := by
  have C22a := Lib.hid (refof_any 0 none [] 0 0 w (byt_nil _ _) (fun _ => rfl) rfl (by omega))
  have C22b := Lib.hid (fun (W : World) => refof_any 1 none [] 0 0 W (byt_nil _ _) (fun _ => rfl) rfl (by omega))
  obtain ⟨K0, hK0⟩ : ∃ K, K = keyS 0 [] := ⟨_, rfl⟩
  obtain ⟨K1, hK1⟩ : ∃ K, K = keyS 1 [] := ⟨_, rfl⟩
  have z0 : K0.size = 64 := by rw [hK0]; exact keyS_size _ _
  have z1 : K1.size = 64 := by rw [hK1]; exact keyS_size _ _
  have OK0 := Lib.hid ok_s0
  have OK1 := Lib.hid ok_n0
  have NX := Lib.hid next_s0
  have CH := Lib.hid choose_s0
  have GS := Lib.hid (get_sec ok_s0)
  rw [← hK0] at C22a OK0 NX CH GS
  rw [← hK1] at C22b OK1 NX CH
  have HZ0 : Hid (K0.size ≤ 9223372036854775807) := by show _ ≤ _; omega
  have HZ1 : Hid (K1.size ≤ 9223372036854775807) := by show _ ≤ _; omega
  clear hK0 hK1 z0 z1
  go_enter Tryd.func11, Tryd.ntmps11
  go_wp2_with fail
  refine C22a.out.mono ?_
  rintro e w1 ⟨rfl, b1⟩
  have W1 := Lib.hid ((Below.refl w1.heap.size w1).alloc (Nat.le_refl _) (.cells #[.int .i64 0, .int .i64 9] 3))
  have W2 := Lib.hid (below_alloc' W1.out (Nat.le_refl _) (.cells #[.int .i64 3, .string K0, .slice (some ⟨w1.heap.size, 0, none⟩) 2 2] 25))
  have X2 : Hid (Bxs w1 ((w1.alloc (.cells #[.int .i64 0, .int .i64 9] 3)).alloc (.cells #[.int .i64 3, .string K0, .slice (some ⟨w1.heap.size, 0, none⟩) 2 2] 25)) (w1.heap.size + 1) 3 K0 (some ⟨w1.heap.size, 0, none⟩) 2 2) := by
    have := Bxs.blk (w := w1) (w1.alloc (.cells #[.int .i64 0, .int .i64 9] 3)) 3 K0 (some ⟨w1.heap.size, 0, none⟩) 2 2
    rw [World.size_alloc] at this
    exact this
  have SV2 : Hid (SupV ((w1.alloc (.cells #[.int .i64 0, .int .i64 9] 3)).alloc (.cells #[.int .i64 3, .string K0, .slice (some ⟨w1.heap.size, 0, none⟩) 2 2] 25)) (.agg #[.int .i64 3, .string K0, .slice (some ⟨w1.heap.size, 0, none⟩) 2 2]) ⟨3, K0, [0, 9]⟩) :=
    ⟨some ⟨w1.heap.size, 0, none⟩, 2, rfl, (zlit2 w1).alloc _, fun h => (by cases h), Nat.le_refl _, by omega, HZ0.out⟩
  have B2 := Lib.hid (below_chain b1 W2.out)
  clear b1 W1 W2 C22a
  go_wp2_with fail
  generalize hw2 : (w1.alloc (.cells #[.int .i64 0, .int .i64 9] 3)).alloc (.cells #[.int .i64 3, .string K0, .slice (some ⟨w1.heap.size, 0, none⟩) 2 2] 25) = w2 at *
  clear hw2
  have S0 : Hid (∀ W, Below w2.heap.size w2 W → W.cell? ⟨w1.heap.size + 1, 0, none⟩ = some (.int .i64 3) ∧ W.cell? ⟨w1.heap.size + 1, 1, none⟩ = some (.string K0) ∧ W.cell? ⟨w1.heap.size + 1, 2, none⟩ = some (.slice (some ⟨w1.heap.size, 0, none⟩) 2 2)) := fun W hb => ⟨(X2.out.low hb).c0, (X2.out.low hb).c1, (X2.out.low hb).c2⟩
  have BQ := Lib.hid (Below.refl w2.heap.size w2)
  have C17 := Lib.hid (fun (W : World) (po : Option Addr) (hb : Below w2.heap.size w2 W) (hz : Zrw W po [4, 1, 4]) => next17 ⟨3, K0, [0, 9]⟩ (.agg #[.int .i64 3, .string K0, .slice (some ⟨w1.heap.size, 0, none⟩) 2 2]) K1 po [4, 1, 4] 3 3 W (SV2.out.below hb) hz rfl (by omega) HZ1.out)
  rw [NX.out] at C17
  have D17 := Lib.hid (fun (W : World) (po : Option Addr) (hb : Below w2.heap.size w2 W) (hz : Zrw W po [4, 1, 4]) => (C17.out W po hb hz).mono (R' := fun e w' => ∃ a c, Below W.heap.size W w' ∧ e = .returned (.tuple #[.agg #[.int .i64 4, .string K1, .slice a 2 c], .int .i64 0]) ∧ Zrw w' a [1, 4] ∧ (a = none → c = 0) ∧ 2 ≤ c ∧ c ≤ 9223372036854775807 ∧ ∀ b o, a = some ⟨b, o, none⟩ → W.heap.size ≤ b) fun e w' hh => by
    obtain ⟨h1, v, rfl, a, c, rfl, h2, h3, h4, h5, _, h6⟩ := hh
    exact ⟨a, c, h1, rfl, h2, h3, h4, h5, h6⟩)
  go_cut [2, 3] from 19 (fun s2 s3 wx => ∃ k a c, s2 = .pointer (some ⟨k, 0, none⟩) ∧ s3 = .int .i64 0 ∧ Hid (Bxs w wx k 4 K1 a 2 c ∧ SupV wx (.agg #[.int .i64 4, .string K1, .slice a 2 c]) ⟨4, K1, [1, 4]⟩ ∧ Below w2.heap.size w2 wx))
  case first =>
    go_region_held3 (fun W => W.cell? ⟨w1.heap.size + 1, 0, none⟩ = some (.int .i64 3) ∧ W.cell? ⟨w1.heap.size + 1, 1, none⟩ = some (.string K0) ∧ W.cell? ⟨w1.heap.size + 1, 2, none⟩ = some (.slice (some ⟨w1.heap.size, 0, none⟩) 2 2))
      (first
        | (with_reducible refine S0.out _ ?_; (repeat' (first | (with_reducible exact BQ.out) | (with_reducible refine below_alloc' ?_ (Nat.le_refl _) _) | (with_reducible refine Below.drew ?_) | (with_reducible refine Below.setCell ?_ ?_ _) | (exact Nat.le_refl _) | (have := BQ.out.size; (first | omega | (simp <;> omega)))))))
      (first
        | (go_at_call 22; (with_reducible refine (C22b.out _).mono ?_); rintro e w3 ⟨rfl, b3⟩
           (first
             | (with_reducible refine (fun (KA : Hid (Blk w3 _ ZC 25)) => ?_) (Lib.hid (Blk.low (Blk.drew (Blk.new _ ZC 25 _ (World.size_alloc _ _).symm)) b3)))
             | (with_reducible refine (fun (KA : Hid (Blk w3 _ ZC 25)) => ?_) (Lib.hid (Blk.low (Blk.drew (Blk.new _ ZC 25 _ rfl)) b3)))
             | (with_reducible refine (fun (KA : Hid (Blk w3 _ ZC 25)) => ?_) (Lib.hid (Blk.low (Blk.drew (Blk.alloc (Blk.new _ ZC 25 _ rfl) _)) b3)))
             | skip)
           (first
             | (with_reducible refine (fun (ZL : Hid (Zrw w3 _ [4, 1, 4])) => ?_) (Lib.hid (Zrw.below (Zrw.drew (zlit3k _ _ (World.size_alloc _ _).symm)) b3)))
             | (with_reducible refine (fun (ZL : Hid (Zrw w3 _ [4, 1, 4])) => ?_) (Lib.hid (Zrw.below (Zrw.drew (zlit3k _ _ rfl)) b3)))
             | (with_reducible refine (fun (ZL : Hid (Zrw w3 _ [4, 1, 4])) => ?_) (Lib.hid (Zrw.below (Zrw.drew (Zrw.alloc (zlit3k _ _ rfl) _)) b3)))
             | skip)
           have BQ : Hid (Below w2.heap.size w2 w3) := Lib.hid (below_chain (by (repeat' (first | (with_reducible exact BQ.out) | (with_reducible refine below_alloc' ?_ (Nat.le_refl _) _) | (with_reducible refine Below.drew ?_)))) b3)
           have SZ3 : w2.heap.size ≤ w3.heap.size := BQ.out.size
           clear b3)
        | (go_at_call 17; (with_reducible refine (D17.out _ _ (by (repeat' (first | (with_reducible exact BQ.out) | (with_reducible refine below_alloc' ?_ (Nat.le_refl _) _) | (with_reducible refine Below.drew ?_)))) (by first | (with_reducible exact ZL.out) | (with_reducible exact Zrw.alloc ZL.out _) | (with_reducible exact zlit3k _ _ rfl) | (with_reducible exact zlit3k _ _ (World.size_alloc _ _).symm) | (with_reducible exact Zrw.alloc (zlit3k _ _ rfl) _))).mono ?_); rintro e w4 ⟨a4, c4, b4, rfl, hz4, hn4, hc4, hm4, hf4⟩
           (first
             | (with_reducible refine (fun (KB : Hid (KF w4 _ a4)) => ?_) (Lib.hid (kb_far (Blk.new _ ZC 25 _ (World.size_alloc _ _).symm) b4 hf4)))
             | (with_reducible refine (fun (KB : Hid (KF w4 _ a4)) => ?_) (Lib.hid (kb_far (Blk.new _ ZC 25 _ rfl) b4 hf4)))
             | (with_reducible refine (fun (KB : Hid (KF w4 _ a4)) => ?_) (Lib.hid (kb_far (Blk.alloc (Blk.new _ ZC 25 _ rfl) _) b4 hf4)))
             | (with_reducible refine (fun (KB : Hid (KF w4 _ a4)) => ?_) (Lib.hid (kb_far KA.out b4 hf4)))
             | (with_reducible refine (fun (KB : Hid (KF w4 _ a4)) => ?_) (Lib.hid (kb_far (Blk.alloc KA.out _) b4 hf4)))
             | skip)
           (try (have t0 := KB.out.1.cell 0
                 have t1 := KB.out.1.cell 1
                 have t2 := KB.out.1.cell 2
                 have tf := fun j => KB.out.1.frozen j
                 simp only [List.getElem?_cons_zero, List.getElem?_cons_succ] at t0 t1 t2))
           have BQ : Hid (Below w2.heap.size w2 w4) := Lib.hid (below_chain (by (repeat' (first | (with_reducible exact BQ.out) | (with_reducible refine below_alloc' ?_ (Nat.le_refl _) _) | (with_reducible refine Below.drew ?_)))) b4)
           have HZ4 := Lib.hid hz4
           have HF4 := Lib.hid hf4
           have HN4 := Lib.hid hn4
           clear b4 hz4 hf4 hn4))
    all_goals
      go_wp2_with fail
      go_meet
      first
        | exact ⟨w4.heap.size, a4, c4, rfl, rfl, Lib.hid ⟨Bxs.blk (w := w) w4 _ _ _ _ _, ⟨a4, c4, rfl, HZ4.out.alloc _, HN4.out, hc4, hm4, HZ1.out⟩, below_alloc' BQ.out (Nat.le_refl _) _⟩⟩
        | exact ⟨_, a4, c4, rfl, rfl, Lib.hid ⟨box_set KB.out.1 _ _ _ _ _, ⟨a4, c4, rfl, zrw_set (zrw_set (zrw_set HZ4.out _ _ KB.out.2) _ _ KB.out.2) _ _ KB.out.2, HN4.out, hc4, hm4, HZ1.out⟩,
            ((BQ.out.setCell (p := ⟨_, 0, none⟩) (by first | exact Nat.le_refl _ | exact Nat.le_succ _ | exact SZ3 | exact Nat.le_succ_of_le SZ3) _).setCell (p := ⟨_, 1, none⟩) (by first | exact Nat.le_refl _ | exact Nat.le_succ _ | exact SZ3 | exact Nat.le_succ_of_le SZ3) _).setCell (p := ⟨_, 2, none⟩) (by first | exact Nat.le_refl _ | exact Nat.le_succ _ | exact SZ3 | exact Nat.le_succ_of_le SZ3) _⟩⟩
  case rest =>
    obtain ⟨k, a4, c4, rfl, rfl, HO⟩ := hcut
    obtain ⟨X4, SV4, b4⟩ := HO.out
    have HX4 := Lib.hid X4
    have HSV4 := Lib.hid SV4
    have BW := Lib.hid (below_chain B2.out b4)
    have HX2 := Lib.hid (X2.out.low b4)
    have HSV2 := Lib.hid (SV2.out.below b4)
    have x0 := HX2.out.c0
    have x1 := HX2.out.c1
    have x2 := HX2.out.c2
    have y0 := X4.c0
    have y1 := X4.c1
    have y2 := X4.c2
    have CP := Lib.hid (put_ok _ OK0.out _ wc HSV2.out)
    have HL0 := Lib.hid (secL_len OK0.out)
    have HL1 := Lib.hid (secL_len OK1.out)
    clear HO X4 SV4 b4 S0 BQ C17 D17 X2 SV2 B2 C22b NX
    go_wp2_with fail
    refine CP.out.mono ?_
    rintro e w5 ⟨g5, rfl, hg5, k5, b5⟩
    have K5 := Lib.hid k5
    have BW5 := Lib.hid (below_chain BW.out b5)
    have HX5 := Lib.hid (HX2.out.low b5)
    have HY5 := Lib.hid (HX4.out.low b5)
    have CP2 := Lib.hid (put_ok _ OK1.out _ w5 (HSV4.out.below b5))
    have HSV5 := Lib.hid (HSV2.out.below b5)
    clear x0 x1 x2 y0 y1 y2 CP BW HX2 HX4 HSV4 HSV2 k5 b5
    have y0 := HY5.out.c0
    have y1 := HY5.out.c1
    have y2 := HY5.out.c2
    go_wp2_with fail
    refine CP2.out.mono ?_
    rintro e w6 ⟨g6, rfl, hg6, k6, b6⟩
    have K6 := Lib.hid k6
    have K5b := Lib.hid (K5.out.low b6)
    have BW6 := Lib.hid (below_chain BW5.out b6)
    have HX6 := Lib.hid (HX5.out.low b6)
    have HSV6 := Lib.hid (HSV5.out.below b6)
    have CC := Lib.hid (choose_is (some ⟨g5, 0, none⟩) (some ⟨g6, 0, none⟩) _ _ 256 256 256 256 w6 K5b.out.byt K6.out.byt HL0.out HL1.out _ _ _ CH.out)
    clear y0 y1 y2 CP2 BW5 HX5 HY5 HSV5 k6 b6 K5
    go_wp2_with fail
    refine CC.out.mono ?_
    rintro e w7 ⟨a7, q7, rfl, sv7, b7⟩
    have B7 := Lib.hid (below_alloc' (Below.refl w7.heap.size w7) (Nat.le_refl _) (.cells #[.int .i64 4, .string K1, .slice a7 2 q7] 25))
    have X7 : Hid (Bxs w7 (w7.alloc (.cells #[.int .i64 4, .string K1, .slice a7 2 q7] 25)) w7.heap.size 4 K1 a7 2 q7) := Bxs.blk (w := w7) w7 4 K1 a7 2 q7
    have BW7 := Lib.hid (below_chain BW6.out (below_chain b7 B7.out))
    have HX7 := Lib.hid (HX6.out.low (below_chain b7 B7.out))
    have HSV7 := Lib.hid (HSV6.out.below (below_chain b7 B7.out))
    have K7 := Lib.hid (K5b.out.low (below_chain b7 B7.out))
    have mk := mk256
    obtain ⟨Z, hZ⟩ : ∃ Z, Z = nou.toArray := ⟨_, rfl⟩
    rw [← hZ] at mk
    have HZZ := Lib.hid hZ
    clear b7 sv7 CC BW6 HX6 HSV6 hZ
    go_wp2_with fail
    have B8 := Lib.hid (below_alloc' B7.out (Nat.le_refl _) (.cells Z 5))
    have Y8 : Hid (Byt ((w7.alloc (.cells #[.int .i64 4, .string K1, .slice a7 2 q7] 25)).alloc (.cells Z 5)) (some ⟨w7.heap.size + 1, 0, none⟩) (List.replicate 256 0)) := by
      show Byt _ _ _
      rw [HZZ.out]
      exact (Blk.new (w7.alloc (.cells #[.int .i64 4, .string K1, .slice a7 2 q7] 25)) nou 5 (w7.heap.size + 1) (by simp)).byt
    have al8 := below_alloc' (Below.refl (w7.alloc (.cells #[.int .i64 4, .string K1, .slice a7 2 q7] 25)).heap.size (w7.alloc (.cells #[.int .i64 4, .string K1, .slice a7 2 q7] 25))) (Nat.le_refl _) (.cells Z 5)
    have BW8 := Lib.hid (below_chain BW7.out al8)
    have HX8 := Lib.hid (HX7.out.low al8)
    have HY8 := Lib.hid (X7.out.low al8)
    have HSV8 := Lib.hid (HSV7.out.below al8)
    have K8 := Lib.hid (K7.out.low al8)
    have CN := Lib.hid (choose_is (some ⟨w7.heap.size + 1, 0, none⟩) none (List.replicate 256 0) [] 256 0 256 0 _ Y8.out (byt_nil _ _) (by rw [List.length_replicate]) rfl noSP (-1) 110 choose_no)
    clear al8 BW7 HX7 X7 HSV7 K7 B7 B8 Y8 mk
    generalize hw8 : (w7.alloc (.cells #[.int .i64 4, .string K1, .slice a7 2 q7] 25)).alloc (.cells Z 5) = w8 at *
    clear hw8
    refine CN.out.mono ?_
    rintro e w9 ⟨a9, q9, rfl, _, b9⟩
    have al9 := below_chain b9 (below_alloc' (Below.refl w9.heap.size w9) (Nat.le_refl _) (.cells #[.int .i64 0, .string ⟨#[]⟩, .slice a9 0 q9] 25))
    have BW9 := Lib.hid (below_chain BW8.out al9)
    have HX9 := Lib.hid (HX8.out.low al9)
    have HY9 := Lib.hid (HY8.out.low al9)
    have HSV9 := Lib.hid (HSV8.out.below al9)
    have K9 := Lib.hid (K8.out.low al9)
    have CG := Lib.hid (get_is (some ⟨g5, 0, none⟩) _ 256 256 _ K9.out.byt HL0.out _ GS.out)
    clear al9 b9 BW8 HX8 HY8 HSV8 K8 CN
    go_wp2_with fail
    refine CG.out.mono ?_
    rintro e w10 ⟨a10, q10, rfl, sv10, b10⟩
    have B10a := below_alloc' (Below.refl w10.heap.size w10) (Nat.le_refl _) (.cells #[.int .i64 3, .string K0, .slice a10 2 q10] 25)
    have al10 := below_chain b10 B10a
    have BW10 := Lib.hid (below_chain BW9.out al10)
    have HX10 := Lib.hid (HX9.out.low al10)
    have HY10 := Lib.hid (HY9.out.low al10)
    have HSV10 := Lib.hid (HSV9.out.below al10)
    have SV10 := Lib.hid (sv10.below B10a)
    have Z10 : Hid (Bxs w10 (w10.alloc (.cells #[.int .i64 3, .string K0, .slice a10 2 q10] 25)) w10.heap.size 3 K0 a10 2 q10) := Bxs.blk (w := w10) w10 3 K0 a10 2 q10
    have CS := Lib.hid (same10 _ _ _ _ _ SV10.out HSV10.out)
    rw [same_self] at CS
    have x0 := HX10.out.c0
    have x1 := HX10.out.c1
    have x2 := HX10.out.c2
    have y0 := HY10.out.c0
    have y2 := HY10.out.c2
    have z0 := Z10.out.c0
    have z1 := Z10.out.c1
    have z2 := Z10.out.c2
    clear B10a al10 b10 sv10 BW9 HX9 HY9 HSV9 K9 CG
    go_wp2_with fail
    refine CS.out.mono ?_
    rintro e w11 ⟨rfl, b11⟩
    go_wp2_with fail
    go_ret
    exact ⟨rfl, below_chain BW10.out b11⟩
end Go.Proofs.YtlpbkjonicjccaaDoor.Sh
