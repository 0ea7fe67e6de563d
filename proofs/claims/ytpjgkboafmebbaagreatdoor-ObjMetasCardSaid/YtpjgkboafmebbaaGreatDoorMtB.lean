/-
  The contract of the document's own GetMeta. Conditions: each law's own.
-/
import Derived.Test.YtpjgkboafmebbaaGreatDoorMtA
import Derived.Deep.Cut
import Derived.Deep.CutRange
import Derived.Test.YtpjgkboafmebbaaGreatDoorOm
namespace Go.Proofs.YtpjgkboafmebbaaGreatDoor.Sh
open Go.RowKit Go.Lib Lb
theorem own_bytS {w : World} {B g n c : Nat} {l : List UInt8} (h : Own w B (.slice (some ⟨g, 0, none⟩) n c) l) : Byt w (some ⟨g, 0, none⟩) l := by
  obtain ⟨ao, c', e, _, _, h3, _⟩ := own_byt h
  injection e with e1 e2 e3
  subst e1
  exact h3
/-- the struct's cells -/
def MB1k (W : World) (g : Nat) (k a b d : Int) (t : ByteArray) (av rv : Option Addr) (an ac rn rc : Nat) : Prop := Blk W g [.int .i64 k, .int .i64 a, .int .i64 b, .int .i64 d, .string t, .slice av an ac, .slice rv rn rc] 26
def MCells (g : Nat) (k a b d : Int) (W : World) : Prop := W.cell? ⟨g, 0, none⟩ = some (.int .i64 k) ∧ W.cell? ⟨g, 1, none⟩ = some (.int .i64 a) ∧ W.cell? ⟨g, 2, none⟩ = some (.int .i64 b) ∧ W.cell? ⟨g, 3, none⟩ = some (.int .i64 d)
theorem mblk_cells {W : World} {g : Nat} {k a b d : Int} {t : ByteArray} {av rv : Option Addr} {an ac rn rc : Nat} (h : MB1k W g k a b d t av rv an ac rn rc) : W.cell? ⟨g, 0, none⟩ = some (.int .i64 k) ∧ W.cell? ⟨g, 1, none⟩ = some (.int .i64 a) ∧ W.cell? ⟨g, 2, none⟩ = some (.int .i64 b) ∧ W.cell? ⟨g, 3, none⟩ = some (.int .i64 d) :=
  ⟨Blk.cell h 0, Blk.cell h 1, Blk.cell h 2, Blk.cell h 3⟩
theorem mblk_low {W W' : World} {g : Nat} {k a b d : Int} {t : ByteArray} {av rv : Option Addr} {an ac rn rc : Nat} (h : MB1k W g k a b d t av rv an ac rn rc) (hb : Below W.heap.size W W') : MB1k W' g k a b d t av rv an ac rn rc := Blk.low h hb
theorem mblk_row {W W' : World} {g : Nat} {k a b d : Int} {t : ByteArray} {av rv : Option Addr} {an ac rn rc : Nat} {q : Option Nat} (h : MB1k W g k a b d t av rv an ac rn rc) (hg : W.grownBy W' q) (hne : some g ≠ q) : MB1k W' g k a b d t av rv an ac rn rc := blk_row h hg hne
theorem mblk_c45 {W : World} {g : Nat} {k a b d : Int} {t : ByteArray} {av rv : Option Addr} {an ac rn rc : Nat} (h : MB1k W g k a b d t av rv an ac rn rc) : W.cell? ⟨g, 4, none⟩ = some (.string t) ∧ W.cell? ⟨g, 5, none⟩ = some (.slice av an ac) :=
  ⟨Blk.cell h 4, Blk.cell h 5⟩
theorem textL_len2 (s : ByteArray) (h : s.data.toList.length ≤ 1000) : 1 ≤ (textL s).length ∧ (textL s).length ≤ 1010 := by
  have h1 := putL_len s.data.toList.length
  unfold textL dataL
  rw [List.length_append]
  omega
theorem rblk_cells {W : World} {g : Nat} {kk : ByteArray} {ll oo nn : Int} (h : Blk W g [.string kk, .int .i64 ll, .int .i64 oo, .int .i64 nn] 49) : W.cell? ⟨g, 0, none⟩ = some (.string kk) ∧ W.cell? ⟨g, 1, none⟩ = some (.int .i64 ll) ∧ W.cell? ⟨g, 2, none⟩ = some (.int .i64 oo) ∧ W.cell? ⟨g, 3, none⟩ = some (.int .i64 nn) :=
  ⟨h.cell 0, h.cell 1, h.cell 2, h.cell 3⟩
theorem own_apart49 {w : World} {B gx : Nat} {v : Value} {l : List UInt8} {cs : List Value} (h : Own w B v l) (hb : Blk w gx cs 49) : some gx ≠ v.ownBlock := fun e => by
  obtain ⟨_, ⟨rfl, _⟩ | ⟨g, cap, cur, rfl, _, hg, _⟩⟩ := h
  · cases e
  · injection e with e
    subst e
    rw [hb] at hg
    injection hg with hg
    injection hg with _ h2
    cases h2
theorem one_byt (W : World) (c : UInt8) : Byt (W.alloc (.cells #[.int .u8 (c.toNat : Int)] 5)) (some ⟨W.heap.size, 0, none⟩) [c] := Blk.byt (Blk.new W [.int .u8 (c.toNat : Int)] 5 _ rfl)
set_option maxHeartbeats 8000000 in
set_option maxRecDepth 100000 in
/-- the four numbers of a node's head, written -/
theorem refputmeta_any (k a b d : Int) (t : ByteArray) (av rv : Option Addr) (an ac rn rc : Nat) (la : List (ByteArray × List UInt8)) (lr : List RefP) (w : World) (ht : t.size ≤ 9223372036854775807)
    (ha : Arw w av la) (hla : la.length = an) (hac : an ≤ ac) (hacc : ac ≤ 9223372036854775807) (hr : Rrw w rv lr) (hlr : lr.length = rn) (hrc : rn ≤ rc) (hrcc : rc ≤ 9223372036854775807) :
    Calls Tryz.prog 16 #[.agg #[.int .i64 k, .int .i64 a, .int .i64 b, .int .i64 d, .string t, .slice av an ac, .slice rv rn rc]] w (Gives w (OkMeta ltB nameOk ⟨k, a, b, d, t, la, lr⟩) (metaL ⟨k, a, b, d, t, la, lr⟩) 80) := by
  have HA := Lib.hid ha
  have HR := Lib.hid hr
  have HLA := Lib.hid hla
  have HLR := Lib.hid hlr
  have B0 : Hid (Below w.heap.size w (w.alloc (.cells #[.int .i64 k, .int .i64 a, .int .i64 b, .int .i64 d, .string t, .slice av an ac, .slice rv rn rc] 26))) := (Below.refl _ w).alloc (Nat.le_refl _) _
  have K0 : Hid (Blk (w.alloc (.cells #[.int .i64 k, .int .i64 a, .int .i64 b, .int .i64 d, .string t, .slice av an ac, .slice rv rn rc] 26)) w.heap.size [.int .i64 k, .int .i64 a, .int .i64 b, .int .i64 d, .string t, .slice av an ac, .slice rv rn rc] 26) := Blk.new w [.int .i64 k, .int .i64 a, .int .i64 b, .int .i64 d, .string t, .slice av an ac, .slice rv rn rc] 26 _ rfl
  have RT := Lib.hid (metaok_any k a b d t av rv an ac rn rc la lr (w.alloc (.cells #[.int .i64 k, .int .i64 a, .int .i64 b, .int .i64 d, .string t, .slice av an ac, .slice rv rn rc] 26)) ht (ha.below B0.out) hla hac hacc (hr.below B0.out) hlr hrc hrcc)
  have x0 := K0.out.cell 0
  have x1 := K0.out.cell 1
  have x2 := K0.out.cell 2
  have x3 := K0.out.cell 3
  have x4 := K0.out.cell 4
  have x5 := K0.out.cell 5
  have x6 := K0.out.cell 6
  simp only [List.getElem?_cons_zero, List.getElem?_cons_succ] at x0 x1 x2 x3 x4 x5 x6
  clear ha hla hr hlr ht
  go_enter Tryz.func16, Tryz.ntmps16
  go_wp2_with fail
  refine RT.out.mono ?_
  rintro e w1 ⟨⟨bq, rfl, hbb⟩, hb1⟩
  have HBB := Lib.hid hbb
  have B1 := Lib.hid (below_chain B0.out hb1)
  have K1 : Hid (MB1k w1 w.heap.size k a b d t av rv an ac rn rc) := K0.out.low hb1
  clear x0 x1 x2 x3 x4 x5 x6 hbb hb1 RT K0 B0
  cases bq with
  | false =>
    have HF : Hid (¬ OkMeta ltB nameOk ⟨k, a, b, d, t, la, lr⟩) := fun h0 => by have := HBB.out.2 h0; cases this
    go_wp2_with fail
    go_ret2
    exact ⟨B1.out, .inr ⟨HF.out, rfl⟩⟩
  | true =>
    have HT : Hid (OkMeta ltB nameOk ⟨k, a, b, d, t, la, lr⟩) := HBB.out.1 rfl
    have hk := HT.out.kind
    have hmo := HT.out.mode
    have hli := HT.out.links
    have hsi := HT.out.size
    simp only at hk hmo hli hsi
    unfold within at hk hmo hli hsi
    have CK := Lib.hid (fun W => refnum_any k (by omega) (by omega) W)
    have CM := Lib.hid (fun W => refnum_any a (by omega) (by omega) W)
    have CL := Lib.hid (fun W => refnum_any b (by omega) (by omega) W)
    have CS := Lib.hid (fun W => refnum_any d (by omega) (by omega) W)
    clear HBB hk hmo hli hsi
    obtain ⟨y0, y1, y2, y3⟩ := mblk_cells K1.out
    go_wp2_with fail
    have BQ : Hid (Below w.heap.size w w1.drew) := B1.out.drew
    have KQ : Hid (MB1k w1.drew w.heap.size k a b d t av rv an ac rn rc) := K1.out
    clear B1 K1
    have len1 : (numL k).length + (numL a).length ≤ 140737488355328 := by have := numL_len k; have := numL_len a; omega
    have len2 : (numL k ++ numL a).length + (numL b).length ≤ 140737488355328 := by rw [List.length_append]; have := numL_len k; have := numL_len a; have := numL_len b; omega
    have len3 : (numL k ++ numL a ++ numL b).length + (numL d).length ≤ 140737488355328 := by rw [List.length_append, List.length_append]; have := numL_len k; have := numL_len a; have := numL_len b; have := numL_len d; omega
    go_region_held3 (fun w' => w'.cell? ⟨w.heap.size, 0, none⟩ = some (.int .i64 k) ∧ w'.cell? ⟨w.heap.size, 1, none⟩ = some (.int .i64 a) ∧ w'.cell? ⟨w.heap.size, 2, none⟩ = some (.int .i64 b) ∧ w'.cell? ⟨w.heap.size, 3, none⟩ = some (.int .i64 d))
      (first | go_keep | exact mblk_cells K2.out | exact mblk_cells K3.out | exact mblk_cells K4.out | exact mblk_cells K5.out | exact mblk_cells K6.out | exact mblk_cells K7.out | exact mblk_cells K8.out)
      (first
        | (go_at_call 43; (with_reducible refine (CK.out _).mono ?_); rintro e w2 ⟨b2, v2, rfl, o2⟩
           have B2 := Lib.hid (below_chain BQ.out b2)
           have K2 := Lib.hid (mblk_low KQ.out b2)
           have N2 := Lib.hid (Own.low o2 (Blk.lt KQ.out)))
        | (go_at_call 43; (with_reducible refine (CM.out _).mono ?_); rintro e w3 ⟨b3, v3, rfl, o3⟩
           have B3 := Lib.hid (below_chain B2.out b3)
           have K3 := Lib.hid (mblk_low K2.out b3)
           have N3 := Lib.hid (Own.low o3 (Blk.lt K2.out))
           have O3 := Lib.hid (own_below N2.out b3)
           obtain ⟨g3, p3, rfl, _, _, _, _, z3⟩ := own_some o3 (numL_len a).1)
        | (refine step_app_len (t := 36) (e := 5) rfl (.tmp 13) (.tmp 16) rfl Tryz.underlying36 info5 (w.heap.size + 1) v2 (numL k) (numL a) (by simp [Act.eval]) O3.out ⟨g3, 0, none⟩ _ p3 (by simp [Act.eval]) z3 (Lib.hid rfl) len1 (Blk.lt K3.out) ?_; intro v4 w4 o4 g4
           have B4 := Lib.hid (Below.grown B3.out g4 (Below.size B3.out) (fun q hq => Nat.le_of_succ_le (O3.out.lt q hq).1))
           have K4 := Lib.hid (mblk_row K3.out g4 (own_ne O3.out (Nat.lt_succ_self _)))
           have N4 := Lib.hid o4)
        | (go_at_call 43; (with_reducible refine (CL.out _).mono ?_); rintro e w5 ⟨b5, v5, rfl, o5⟩
           have B5 := Lib.hid (below_chain B4.out b5)
           have K5 := Lib.hid (mblk_low K4.out b5)
           have N5 := Lib.hid (Own.low o5 (Blk.lt K4.out))
           have O5 := Lib.hid (own_below N4.out b5)
           obtain ⟨g5, p5, rfl, _, _, _, _, z5⟩ := own_some o5 (numL_len b).1)
        | (refine step_app_len (t := 36) (e := 5) rfl (.tmp 17) (.tmp 20) rfl Tryz.underlying36 info5 (w.heap.size + 1) v4 (numL k ++ numL a) (numL b) (by simp [Act.eval]) O5.out ⟨g5, 0, none⟩ _ p5 (by simp [Act.eval]) z5 (Lib.hid rfl) len2 (Blk.lt K5.out) ?_; intro v6 w6 o6 g6
           have B6 := Lib.hid (Below.grown B5.out g6 (Below.size B5.out) (fun q hq => Nat.le_of_succ_le (O5.out.lt q hq).1))
           have K6 := Lib.hid (mblk_row K5.out g6 (own_ne O5.out (Nat.lt_succ_self _)))
           have N6 := Lib.hid o6)
        | (go_at_call 43; (with_reducible refine (CS.out _).mono ?_); rintro e w7 ⟨b7, v7, rfl, o7⟩
           have B7 := Lib.hid (below_chain B6.out b7)
           have K7 := Lib.hid (mblk_low K6.out b7)
           have N7 := Lib.hid (Own.low o7 (Blk.lt K6.out))
           have O7 := Lib.hid (own_below N6.out b7)
           obtain ⟨g7, p7, rfl, _, _, _, _, z7⟩ := own_some o7 (numL_len d).1)
        | (refine step_app_len (t := 36) (e := 5) rfl (.tmp 21) (.tmp 24) rfl Tryz.underlying36 info5 (w.heap.size + 1) v6 (numL k ++ numL a ++ numL b) (numL d) (by simp [Act.eval]) O7.out ⟨g7, 0, none⟩ _ p7 (by simp [Act.eval]) z7 (Lib.hid rfl) len3 (Blk.lt K7.out) ?_; intro v8 w8 o8 g8
           have B8 := Lib.hid (Below.grown B7.out g8 (Below.size B7.out) (fun q hq => Nat.le_of_succ_le (O7.out.lt q hq).1))
           have K8 := Lib.hid (mblk_row K7.out g8 (own_ne O7.out (Nat.lt_succ_self _)))
           have N8 := Lib.hid o8))
    have L8 : Hid ((numL k ++ numL a ++ numL b ++ numL d).length ≤ 40) := by show _ ≤ _; rw [List.length_append, List.length_append, List.length_append]; have := numL_len k; have := numL_len a; have := numL_len b; have := numL_len d; omega
    have O8 : Hid (Own w8 (w.heap.size + 1) v8 (numL k ++ numL a ++ numL b ++ numL d)) := o8
    obtain ⟨E0, hE0⟩ : ∃ E0, E0 = numL k ++ numL a ++ numL b ++ numL d := ⟨_, rfl⟩
    rw [← hE0] at L8 O8
    have HE0 := Lib.hid hE0
    have BE := Lib.hid (B8.out.drew)
    have KE : Hid (MB1k w8.drew w.heap.size k a b d t av rv an ac rn rc) := K8.out
    have TS : t.data.toList.length ≤ 1000 := by
      have h1 := HT.out.target
      simp only at h1
      split at h1
      · have := h1.2.1; rw [Array.length_toList]; exact this
      · rw [h1]; decide
    have hna : an ≤ 8 := by have := HT.out.most; have := HLA.out; simp only at *; omega
    have hnr : rn ≤ 128 := by have := HT.out.many; have := HLR.out; simp only at *; omega
    obtain ⟨ct, wt, hcv, hW, hrt⟩ := conv_text t w8.drew
    have CT := refbytes2_any _ t.data.toList t.data.toList.length ct wt hrt (fun h => by cases h) rfl (by omega)
    have CN := Lib.hid (fun W => refnum_any (an : Int) (by omega) (by omega) W)
    have BT := Lib.hid (below_chain BE.out hW)
    have KT := Lib.hid (mblk_low KE.out hW)
    have OT := Lib.hid (own_below (w := w8.drew) (w' := wt) O8.out hW)
    obtain ⟨gt, hgt⟩ : ∃ g, g = w8.drew.heap.size := ⟨_, rfl⟩
    rw [← hgt] at hcv CT
    obtain ⟨xl, hxl⟩ : ∃ xl, xl = t.data.toList.length := ⟨_, rfl⟩
    have TLN := textL_len2 t (by rw [← hxl] at TS; rw [← hxl]; omega)
    obtain ⟨tl, htl⟩ : ∃ tl, tl = textL t := ⟨_, rfl⟩
    have CT2 : Hid (Calls Tryz.prog 44 #[.slice (some ⟨gt, 0, none⟩) xl ct] wt fun e w' => Below wt.heap.size wt w' ∧ ∃ v, e = .returned v ∧ Own w' wt.heap.size v tl) := by show Calls _ _ _ _ _; rw [htl, hxl]; exact CT
    rw [← hxl] at hcv
    rw [← htl] at TLN
    have HTL := Lib.hid htl
    have e4 : w8.drew.cell? ⟨w.heap.size, 4, none⟩ = some (.string t) := Blk.cell K8.out 4
    have e5 : w8.drew.cell? ⟨w.heap.size, 5, none⟩ = some (.slice av an ac) := Blk.cell K8.out 5
    have f4 : w8.cell? ⟨w.heap.size, 4, none⟩ = some (.string t) := Blk.cell K8.out 4
    have f5 : w8.cell? ⟨w.heap.size, 5, none⟩ = some (.slice av an ac) := Blk.cell K8.out 5
    clear CT hrt hW hgt hxl htl TS hE0 len1 len2 len3 y0 y1 y2 y3 CK CM CL CS
    clear b2 b3 b5 b7 o2 o3 o5 o7 g4 g6 g8 o4 o6 o8 z3 z5 z7
    clear B2 B3 B4 B5 B6 B7 K2 K3 K4 K5 K6 K7 N2 N3 N4 N5 N6 N7 N8 O3 O5 O7 BQ KQ
    go_wp2_with fail
    have len1 : E0.length + tl.length ≤ 140737488355328 := by have := L8.out; omega
    have len2 : (E0 ++ tl).length + (numL (an : Int)).length ≤ 140737488355328 := by rw [List.length_append]; have := L8.out; have := numL_len (an : Int); omega
    have LE1 : Hid ((E0 ++ tl ++ numL (an : Int)).length ≤ 1060) := by show _ ≤ _; rw [List.length_append, List.length_append]; have := L8.out; have := numL_len (an : Int); omega
    obtain ⟨cat, cbt⟩ := mblk_c45 KT.out
    go_cut [4] from 26 to 36 (fun s4 wx => Hid (Below w.heap.size w wx) ∧ Hid (MB1k wx w.heap.size k a b d t av rv an ac rn rc) ∧ Hid (Own wx (w.heap.size + 1) s4 (E0 ++ tl ++ numL (an : Int))))
    case first =>
      go_region_law (first
        | (go_simp
           go_at_call 44; (with_reducible refine (CT2.out).mono ?_); rintro e w9 ⟨b9, v9, rfl, o9⟩
           have B9 := Lib.hid (below_chain BT.out b9)
           have K9 := Lib.hid (mblk_low KT.out b9)
           have N9 := Lib.hid (Own.low o9 (Blk.lt KT.out))
           have O9 := Lib.hid (own_below OT.out b9)
           obtain ⟨g9, p9, rfl, _, _, _, _, z9⟩ := own_some o9 TLN.1
           obtain ⟨ca9, cb9⟩ := mblk_c45 K9.out)
        | (refine step_app_len (t := 36) (e := 5) rfl (.tmp 26) (.tmp 30) rfl Tryz.underlying36 info5 (w.heap.size + 1) v8 (E0) (tl) (by first | (simp [Act.eval] <;> fail) | simp [Act.eval, Act.put]) O9.out ⟨g9, 0, none⟩ _ p9 (by first | (simp [Act.eval] <;> fail) | simp [Act.eval, Act.put]) z9 (Lib.hid rfl) len1 (Blk.lt K9.out) ?_; intro v10 w10 o10 g10
           have B10 := Lib.hid (Below.grown B9.out g10 (Below.size B9.out) (fun q hq => Nat.le_of_succ_le (O9.out.lt q hq).1))
           have K10 := Lib.hid (mblk_row K9.out g10 (own_ne O9.out (Nat.lt_succ_self _)))
           have N10 := Lib.hid o10
           obtain ⟨ca10, cb10⟩ := mblk_c45 K10.out)
        | (go_simp
           go_at_call 43; (with_reducible refine (CN.out _).mono ?_); rintro e w11 ⟨b11, v11, rfl, o11⟩
           have B11 := Lib.hid (below_chain B10.out b11)
           have K11 := Lib.hid (mblk_low K10.out b11)
           have N11 := Lib.hid (Own.low o11 (Blk.lt K10.out))
           have O11 := Lib.hid (own_below N10.out b11)
           obtain ⟨g11, p11, rfl, _, _, _, _, z11⟩ := own_some o11 (numL_len (an : Int)).1
           obtain ⟨ca11, cb11⟩ := mblk_c45 K11.out)
        | (refine step_app_len (t := 36) (e := 5) rfl (.tmp 31) (.tmp 35) rfl Tryz.underlying36 info5 (w.heap.size + 1) v10 (E0 ++ tl) (numL (an : Int)) (by first | (simp [Act.eval] <;> fail) | simp [Act.eval, Act.put]) O11.out ⟨g11, 0, none⟩ _ p11 (by first | (simp [Act.eval] <;> fail) | simp [Act.eval, Act.put]) z11 (Lib.hid rfl) len2 (Blk.lt K11.out) ?_; intro v12 w12 o12 g12
           have B12 := Lib.hid (Below.grown B11.out g12 (Below.size B11.out) (fun q hq => Nat.le_of_succ_le (O11.out.lt q hq).1))
           have K12 := Lib.hid (mblk_row K11.out g12 (own_ne O11.out (Nat.lt_succ_self _)))
           have N12 := Lib.hid o12
           obtain ⟨ca12, cb12⟩ := mblk_c45 K12.out))
      all_goals
        go_wp2_with fail
        go_meet
        exact ⟨B12, K12, N12⟩
    case rest =>
      obtain ⟨hB, hK, hO⟩ := hcut
      obtain ⟨E1, hE1⟩ : ∃ E1, E1 = E0 ++ tl ++ numL (an : Int) := ⟨_, rfl⟩
      rw [← hE1] at hO LE1
      have HE1 := Lib.hid hE1
      clear hE1 hcv CT2 CN BT KT OT TLN len1 len2 e4 e5 f4 f5 cat cbt BE KE O8 B8 K8
      clear L8
      have y5 := (mblk_c45 hK.out).2
      go_wp2_with fail
      go_loopw [4, 5] (fun vb vi wr => ∃ i : Nat, i ≤ an ∧ vi = .int .i64 i ∧ Hid (Below w.heap.size w wr) ∧ Hid (MB1k wr w.heap.size k a b d t av rv an ac rn rc) ∧ Hid (Own wr (w.heap.size + 1) vb (E1 ++ (la.take i).flatMap attrL)) ∧ Hid ((E1 ++ (la.take i).flatMap attrL).length ≤ 1060 + 376 * i)) (fun _ vi _ => an - (RowKit.intOf vi).toNat)
      case atStart => exact ⟨0, by omega, rfl, hB, hK, by show Own _ _ _ _; simpa using hO.out, by show _ ≤ _; simpa using LE1.out⟩
      case round =>
        clear hB hK hO y5
        obtain ⟨i, hi, rfl, hB, hK, hO, hL⟩ := hrel
        have y5 := (mblk_c45 hK.out).2
        have y6 : wr.cell? ⟨w.heap.size, 6, none⟩ = some (.slice rv rn rc) := Blk.cell hK.out 6
        by_cases hin : i < an
        · obtain ⟨bb, o, x, rfl, hb, hx, x0, x1, ad, m, cc, x2, x3, x4, x5, x6, x7⟩ := arw_cell HA.out i (by have := HLA.out; omega)
          have HX := Lib.hid hx
          have D0 := Lib.hid (fun W (h : Below w.heap.size w W) => (h.cell (p := ⟨bb, o + i * 2, none⟩) hb).trans x0)
          have D1 := Lib.hid (fun W (h : Below w.heap.size w W) => (h.cell (p := ⟨bb, o + i * 2 + 1, none⟩) hb).trans x2)
          have XN := nameOk_len x.1 (HT.out.names x (List.mem_of_getElem? hx))
          have XV := HT.out.values x (List.mem_of_getElem? hx)
          rw [x3] at XV
          have CV := Lib.hid (fun W (h : Below w.heap.size w W) => refbytes2_any ad x.2 m cc W (x6.below h) x7 x3 (by omega))
          have DVN : 1 ≤ (dataL x.2).length ∧ (dataL x.2).length ≤ 266 := by have h1 := putL_len x.2.length; unfold dataL; rw [List.length_append]; omega
          obtain ⟨dv, hdv⟩ : ∃ dv, dv = dataL x.2 := ⟨_, rfl⟩
          rw [← hdv] at CV DVN
          have q1 : (0 : Int) ≤ (i : Int) := by omega
          have q2 : (i : Int) < (an : Int) := by omega
          obtain ⟨ct, wt, hcv, hW, hrt⟩ := conv_text x.1 wr.drew
          have CT := refbytes2_any _ x.1.data.toList x.1.data.toList.length ct wt hrt (fun h => by cases h) rfl (by omega)
          have BT := Lib.hid (below_chain (W := wr.drew) hB.out.drew hW)
          have KT := Lib.hid (mblk_low (W := wr.drew) hK.out hW)
          have OT := Lib.hid (own_below (w := wr.drew) (w' := wt) hO.out hW)
          obtain ⟨gt, hgt⟩ : ∃ g, g = wr.drew.heap.size := ⟨_, rfl⟩
          rw [← hgt] at hcv CT
          obtain ⟨xl, hxl⟩ : ∃ xl, xl = x.1.data.toList.length := ⟨_, rfl⟩
          have TXN := textL_len x.1 XN
          obtain ⟨tx, htx⟩ : ∃ tx, tx = textL x.1 := ⟨_, rfl⟩
          have CT2 : Hid (Calls Tryz.prog 44 #[.slice (some ⟨gt, 0, none⟩) xl ct] wt fun e w' => Below wt.heap.size wt w' ∧ ∃ v, e = .returned v ∧ Own w' wt.heap.size v tx) := by show Calls _ _ _ _ _; rw [htx, hxl]; exact CT
          rw [← hxl] at hcv
          rw [← htx] at TXN
          have HS2 : Hid ((la.take (i + 1)).flatMap attrL = (la.take i).flatMap attrL ++ (tx ++ dv)) := by
            show _ = _
            rw [List.take_add_one, HX.out, htx, hdv]
            simp [attrL]
          obtain ⟨acc, hacc⟩ : ∃ acc, acc = E1 ++ (la.take i).flatMap attrL := ⟨_, rfl⟩
          rw [← hacc] at OT hL
          have HACC := Lib.hid hacc
          have len1 : acc.length + tx.length ≤ 140737488355328 := by have := hL.out; omega
          have len2 : (acc ++ tx).length + dv.length ≤ 140737488355328 := by rw [List.length_append]; have := hL.out; omega
          have hL3 : Hid ((acc ++ tx ++ dv).length ≤ 1060 + 376 * (i + 1)) := by show _ ≤ _; rw [List.length_append, List.length_append]; have := hL.out; omega
          have cbt := (mblk_c45 KT.out).2
          have dat := D0.out _ BT.out
          have dbt := D1.out _ BT.out
          have da0 := D0.out _ hB.out
          have db0 := D1.out _ hB.out
          have da1 : wr.drew.cell? ⟨bb, o + i * 2, none⟩ = some (.string x.1) := da0
          have db1 : wr.drew.cell? ⟨bb, o + i * 2 + 1, none⟩ = some (.slice ad m cc) := db0
          have y51 : wr.drew.cell? ⟨w.heap.size, 5, none⟩ = some (.slice (some ⟨bb, o, none⟩) an ac) := y5
          clear CT hrt hW hgt hxl htx hdv hx x0 x1 x2 x3 x4 x5 x6 x7 hb XN XV hacc hO hL
          go_wp2_with fail
          go_region_law (first
            | (go_simp
               go_at_call 44; (with_reducible refine (CT2.out).mono ?_); rintro e w20 ⟨b20, v20, rfl, o20⟩
               have B20 := Lib.hid (below_chain BT.out b20)
               have K20 := Lib.hid (mblk_low KT.out b20)
               have N20 := Lib.hid (Own.low o20 (Blk.lt KT.out))
               have O20 := Lib.hid (own_below OT.out b20)
               obtain ⟨g20, p20, rfl, _, _, _, _, z20⟩ := own_some o20 TXN.1
               obtain ⟨_, cb20⟩ := mblk_c45 K20.out
               have da20 := D0.out _ B20.out
               have db20 := D1.out _ B20.out)
            | (refine step_app_len (t := 36) (e := 5) rfl (.tmp 44) (.tmp 52) rfl Tryz.underlying36 info5 (w.heap.size + 1) u4 (acc) (tx) (by first | (simp [Act.eval] <;> fail) | simp [Act.eval, Act.put]) O20.out ⟨g20, 0, none⟩ _ p20 (by first | (simp [Act.eval] <;> fail) | simp [Act.eval, Act.put]) z20 (Lib.hid rfl) len1 (Blk.lt K20.out) ?_; intro v21 w21 o21 g21
               have B21 := Lib.hid (Below.grown B20.out g21 (Below.size B20.out) (fun q hq => Nat.le_of_succ_le (O20.out.lt q hq).1))
               have K21 := Lib.hid (mblk_row K20.out g21 (own_ne O20.out (Nat.lt_succ_self _)))
               have N21 := Lib.hid o21
               obtain ⟨_, cb21⟩ := mblk_c45 K21.out
               have da21 := D0.out _ B21.out
               have db21 := D1.out _ B21.out)
            | (go_simp
               go_at_call 44; (with_reducible refine (CV.out _ B21.out).mono ?_); rintro e w22 ⟨b22, v22, rfl, o22⟩
               have B22 := Lib.hid (below_chain B21.out b22)
               have K22 := Lib.hid (mblk_low K21.out b22)
               have N22 := Lib.hid (Own.low o22 (Blk.lt K21.out))
               have O22 := Lib.hid (own_below N21.out b22)
               obtain ⟨g22, p22, rfl, _, _, _, _, z22⟩ := own_some o22 DVN.1
               obtain ⟨_, cb22⟩ := mblk_c45 K22.out
               have da22 := D0.out _ B22.out
               have db22 := D1.out _ B22.out)
            | (refine step_app_len (t := 36) (e := 5) rfl (.tmp 53) (.tmp 60) rfl Tryz.underlying36 info5 (w.heap.size + 1) v21 (acc ++ tx) (dv) (by first | (simp [Act.eval] <;> fail) | simp [Act.eval, Act.put]) O22.out ⟨g22, 0, none⟩ _ p22 (by first | (simp [Act.eval] <;> fail) | simp [Act.eval, Act.put]) z22 (Lib.hid rfl) len2 (Blk.lt K22.out) ?_; intro v23 w23 o23 g23
               have B23 := Lib.hid (Below.grown B22.out g23 (Below.size B22.out) (fun q hq => Nat.le_of_succ_le (O22.out.lt q hq).1))
               have K23 := Lib.hid (mblk_row K22.out g23 (own_ne O22.out (Nat.lt_succ_self _)))
               have N23 := Lib.hid o23
               obtain ⟨_, cb23⟩ := mblk_c45 K23.out
               have da23 := D0.out _ B23.out
               have db23 := D1.out _ B23.out))
          all_goals
            go_wp2_with fail
            refine ⟨⟨i + 1, by omega, by go_num, B23.out, K23.out, ?_, ?_⟩, by simp [RowKit.intOf]; omega⟩
            · show Own _ _ _ _
              rw [HS2.out, ← List.append_assoc, ← List.append_assoc, ← HACC.out]
              exact N23.out
            · show _ ≤ _
              rw [HS2.out, ← List.append_assoc, ← List.append_assoc, ← HACC.out]
              exact hL3.out
        · obtain rfl : i = an := by omega
          have HD2 : Hid (E1 ++ (la.take i).flatMap attrL = E1 ++ la.flatMap attrL) := by
            show _ = _
            rw [← HLA.out, List.take_length]
          have hO2 := hO.out
          rw [HD2.out] at hO2
          have hL2 := hL.out
          rw [HD2.out] at hL2
          obtain ⟨E2, hE2⟩ : ∃ E2, E2 = E1 ++ la.flatMap attrL := ⟨_, rfl⟩
          rw [← hE2] at hO2 hL2
          have O6 := Lib.hid hO2
          have L6 : Hid (E2.length ≤ 4068) := by show _ ≤ _; omega
          have HE2 := Lib.hid hE2
          have CN := Lib.hid (refnum_any (rn : Int) (by omega) (by omega) wr)
          clear hO2 hL2 HD2 hO hL hE2
          go_wp2_with fail
          refine CN.out.mono ?_
          rintro e w2 ⟨b1, v2, rfl, o2⟩
          obtain ⟨g2, p2, rfl, _, _, z3, _, z5⟩ := own_some o2 (numL_len (rn : Int)).1
          have O2 := Lib.hid (own_below O6.out b1)
          have B2 := Lib.hid (below_chain hB.out b1)
          have K2 := Lib.hid (mblk_low hK.out b1)
          have Z5 := Lib.hid z5
          have KL := numL_len (rn : Int)
          obtain ⟨kl, hkl⟩ : ∃ kl, kl = numL (rn : Int) := ⟨_, rfl⟩
          have HKL := Lib.hid hkl
          rw [← hkl] at Z5 KL z3 ⊢
          have p3 : E2.length + kl.length ≤ 140737488355328 := by have := L6.out; omega
          have L7 : Hid ((E2 ++ kl).length ≤ 4078) := by show _ ≤ _; rw [List.length_append]; have := L6.out; omega
          obtain ⟨kn, hkn⟩ : ∃ kn, kl.length = kn := ⟨_, rfl⟩
          have HKN := Lib.hid hkn
          rw [hkn] at p3 z3 ⊢
          clear o2 z5 hkl b1 KL hkn y5 y6
          go_wp2_with (at_builtin; refine wpl_app_len (t := 36) (e := 5) rfl (.tmp 62) (.tmp 66) rfl Tryz.underlying36 info5 (w.heap.size + 1) _ E2 kl rfl O2.out (some ⟨g2, 0, none⟩) kn p2 rfl Z5.out (fun h => by cases h) HKN p3 (Blk.lt K2.out) ?_; intro v' w' hown' hgrow)
          have B5 := Lib.hid (B2.out.grown hgrow B2.out.size (fun k hk => Nat.le_of_succ_le (O2.out.lt k hk).1))
          have K5 := Lib.hid (mblk_row K2.out hgrow (own_ne O2.out (Nat.lt_succ_self _)))
          have O5 : Hid (Own w' (w.heap.size + 1) v' (E2 ++ kl)) := hown'
          obtain ⟨E3, hE3⟩ : ∃ E3, E3 = E2 ++ kl := ⟨_, rfl⟩
          rw [← hE3] at O5 L7
          have HE3 := Lib.hid hE3
          have EQ : Hid (metaL ⟨k, a, b, d, t, la, lr⟩ = E3 ++ lr.flatMap refL) := by
            show _ = _
            rw [HE3.out, HKL.out, HE2.out, HE1.out, HE0.out, HTL.out]
            simp only [metaL, manyL, HLA.out, HLR.out, List.append_assoc]
          clear hgrow hown' B2 K2 O2 Z5 HKN p3 z3 O6 hE3 hB hK CN
          go_loopw [4, 6] (fun vb vi wr => ∃ j : Nat, j ≤ rn ∧ vi = .int .i64 j ∧ Hid (Below w.heap.size w wr) ∧ Hid (MB1k wr w.heap.size k a b d t av rv i ac rn rc) ∧ Hid (Own wr (w.heap.size + 1) vb (E3 ++ (lr.take j).flatMap refL)) ∧ Hid ((E3 ++ (lr.take j).flatMap refL).length ≤ 4078 + 43 * j)) (fun _ vi _ => rn - (RowKit.intOf vi).toNat)
          case atStart => exact ⟨0, by omega, rfl, B5.out, K5.out, by show Own _ _ _ _; simpa using O5.out, by show _ ≤ _; simpa using L7.out⟩
          case round =>
            clear B5 K5 O5 L7
            obtain ⟨j, hj, rfl, hB, hK, hO, hL⟩ := hrel
            have y6 : wr.cell? ⟨w.heap.size, 6, none⟩ = some (.slice rv rn rc) := Blk.cell hK.out 6
            by_cases hjn : j < rn
            · obtain ⟨bb, o, x, rfl, hb, hx, x0, x1, x2, x3, x4⟩ := rrw_cell HR.out j (by have := HLR.out; omega)
              have HX := Lib.hid hx
              have d0 := (hB.out.cell (p := ⟨bb, o + j * 4, none⟩) hb).trans x0
              have d1 := (hB.out.cell (p := ⟨bb, o + j * 4 + 1, none⟩) hb).trans x1
              have d2 := (hB.out.cell (p := ⟨bb, o + j * 4 + 2, none⟩) hb).trans x2
              have d3 := (hB.out.cell (p := ⟨bb, o + j * 4 + 3, none⟩) hb).trans x3
              have q1 : (0 : Int) ≤ (j : Int) := by omega
              have q2 : (j : Int) < (rn : Int) := by omega
              have OKR := Lib.hid (HT.out.refs x (List.mem_of_getElem? hx))
              obtain ⟨kk, ll, oo, nn⟩ := x
              dsimp only at *
              have KX0 : Hid (Blk (wr.alloc (.cells #[.string kk, .int .i64 ll, .int .i64 oo, .int .i64 nn] 49)) wr.heap.size [.string kk, .int .i64 ll, .int .i64 oo, .int .i64 nn] 49) := Blk.new wr [.string kk, .int .i64 ll, .int .i64 oo, .int .i64 nn] 49 _ rfl
              have BS := Lib.hid (hB.out.alloc hB.out.size (.cells #[.string kk, .int .i64 ll, .int .i64 oo, .int .i64 nn] 49))
              have KS := Lib.hid (Blk.alloc hK.out (.cells #[.string kk, .int .i64 ll, .int .i64 oo, .int .i64 nn] 49))
              have OS := Lib.hid (World.ownsRow.alloc hO.out (.cells #[.string kk, .int .i64 ll, .int .i64 oo, .int .i64 nn] 49))
              have k0 := KX0.out.cell 0
              simp only [List.getElem?_cons_zero] at k0
              have KE := Lib.hid (key_empty kk)
              have NB : 0 ≤ nn ∧ nn < 9223372036854775808 := by
                have h1 := OKR.out
                rcases h1 with ⟨_, _, _, h4⟩ | ⟨_, _, _, h4⟩ <;> unfold within at h4 <;> simp only at h4 <;> omega
              have CNN := Lib.hid (fun W => refnum_any nn NB.1 NB.2 W)
              have GX := Lib.hid (Blk.lt hK.out)
              obtain ⟨acc, hacc⟩ : ∃ acc, acc = E3 ++ (lr.take j).flatMap refL := ⟨_, rfl⟩
              have OS2 : Hid (Own (wr.alloc (.cells #[.string kk, .int .i64 ll, .int .i64 oo, .int .i64 nn] 49)) (w.heap.size + 1) u4 acc) := by show Own _ _ _ _; rw [hacc]; exact OS.out
              rw [← hacc] at hL
              have HACC := Lib.hid hacc
              clear hx x0 x1 x2 x3 hb hacc hB hK hO OS NB
              have hO := OS2
              clear OS2
              by_cases he : kk = noKey
              · have HNE := Lib.hid he
                have te : kk.toList.isEmpty = true := by rw [KE.out]; simpa using he
                have LB : (0 ≤ ll ∧ ll < 9223372036854775808) ∧ (0 ≤ oo ∧ oo < 9223372036854775808) := by
                  have h1 := OKR.out
                  rcases h1 with ⟨h2, _⟩ | ⟨_, h2, h3, _⟩
                  · exact absurd (HNE.out ▸ h2) noKey_not
                  · unfold within at h2 h3; simp only at h2 h3; omega
                have CLL := Lib.hid (fun W => refnum_any ll LB.1.1 LB.1.2 W)
                have COO := Lib.hid (fun W => refnum_any oo LB.2.1 LB.2.2 W)
                have HS2 : Hid ((lr.take (j + 1)).flatMap refL = (lr.take j).flatMap refL ++ ([0] ++ numL ll ++ numL oo ++ numL nn)) := by
                  show _ = _
                  rw [List.take_add_one, HX.out]
                  simp [refL, HNE.out]
                clear LB
                clear he x4
                go_wp2_with fail
                clear d0 d1 d2 d3 k0 y6
                generalize hws : wr.alloc (.cells #[.string kk, .int .i64 ll, .int .i64 oo, .int .i64 nn] 49) = ws at *
                clear hws
                generalize wr.heap.size = gx at *
                have BQ : Hid (Below w.heap.size w ws.drew) := BS.out.drew
                have KQ : Hid (MB1k ws.drew w.heap.size k a b d t av (some ⟨bb, o, none⟩) i ac rn rc) := KS.out
                have OQ : Hid (Own ws.drew (w.heap.size + 1) u4 acc) := hO.out
                have KXQ : Hid (Blk ws.drew gx [.string kk, .int .i64 ll, .int .i64 oo, .int .i64 nn] 49) := KX0.out
                obtain ⟨y0, y1, y2, y3⟩ := rblk_cells KX0.out
                have hl := hL.out
                have len1 : acc.length + [(0 : UInt8)].length ≤ 140737488355328 := by simp; omega
                have len2 : (acc ++ [(0 : UInt8)]).length + (numL ll).length ≤ 140737488355328 := by rw [List.length_append]; have := numL_len ll; simp; omega
                have len3 : (acc ++ [(0 : UInt8)] ++ numL ll).length + (numL oo).length ≤ 140737488355328 := by rw [List.length_append, List.length_append]; have := numL_len ll; have := numL_len oo; simp; omega
                go_region_held3 (fun w' => w'.cell? ⟨gx, 0, none⟩ = some (.string kk) ∧ w'.cell? ⟨gx, 1, none⟩ = some (.int .i64 ll) ∧ w'.cell? ⟨gx, 2, none⟩ = some (.int .i64 oo) ∧ w'.cell? ⟨gx, 3, none⟩ = some (.int .i64 nn))
                  (first | go_keep | exact rblk_cells (Blk.alloc KXQ.out _) | exact rblk_cells KX40.out | exact rblk_cells KX41.out | exact rblk_cells KX42.out | exact rblk_cells KX43.out | exact rblk_cells KX44.out)
                  (first
                    | (refine step_app_len (t := 36) (e := 5) rfl (.tmp 90) (.tmp 91) rfl Tryz.underlying36 info5 (w.heap.size + 1) u4 (acc) ([(0 : UInt8)]) (by simp [Act.eval]) (World.ownsRow.alloc OQ.out _) ⟨ws.heap.size, 0, none⟩ _ 1 (by simp [Act.eval]) (one_byt ws.drew 0) (Lib.hid rfl) len1 (Blk.lt (Blk.alloc KQ.out (.cells #[.int .u8 0] 5))) ?_; intro v40 w40 o40 g40
                       have B40 := Lib.hid (Below.grown (below_alloc BQ.out (.cells #[.int .u8 0] 5)) g40 (Below.size (below_alloc BQ.out (.cells #[.int .u8 0] 5))) (fun q hq => Nat.le_of_succ_le (OQ.out.lt q hq).1))
                       have K40 := Lib.hid (mblk_row (Blk.alloc KQ.out (.cells #[.int .u8 0] 5)) g40 (own_ne OQ.out (Nat.lt_succ_self _)))
                       have N40 := Lib.hid o40
                       have KX40 := Lib.hid (blk_row (Blk.alloc KXQ.out (.cells #[.int .u8 0] 5)) g40 (own_apart49 (World.ownsRow.alloc OQ.out _) (Blk.alloc KXQ.out (.cells #[.int .u8 0] 5)))))
                    | (go_at_call 43; (with_reducible refine (CLL.out _).mono ?_); rintro e w41 ⟨b41, v41, rfl, o41⟩
                       have B41 := Lib.hid (below_chain B40.out b41)
                       have K41 := Lib.hid (mblk_low K40.out b41)
                       have N41 := Lib.hid (Own.low o41 (Blk.lt K40.out))
                       have KX41 := Lib.hid (Blk.low KX40 b41)
                       have O41 := Lib.hid (own_below N40.out b41)
                       obtain ⟨g41, p41, rfl, _, _, _, _, z41⟩ := own_some o41 (numL_len ll).1)
                    | (refine step_app_len (t := 36) (e := 5) rfl (.tmp 92) (.tmp 95) rfl Tryz.underlying36 info5 (w.heap.size + 1) v40 (acc ++ [(0 : UInt8)]) (numL ll) (by simp [Act.eval]) O41.out ⟨g41, 0, none⟩ _ p41 (by simp [Act.eval]) z41 (Lib.hid rfl) len2 (Blk.lt K41.out) ?_; intro v42 w42 o42 g42
                       have B42 := Lib.hid (Below.grown B41.out g42 (Below.size B41.out) (fun q hq => Nat.le_of_succ_le (O41.out.lt q hq).1))
                       have K42 := Lib.hid (mblk_row K41.out g42 (own_ne O41.out (Nat.lt_succ_self _)))
                       have N42 := Lib.hid o42
                       have KX42 := Lib.hid (blk_row KX41.out g42 (own_apart49 O41.out KX41.out)))
                    | (go_at_call 43; (with_reducible refine (COO.out _).mono ?_); rintro e w43 ⟨b43, v43, rfl, o43⟩
                       have B43 := Lib.hid (below_chain B42.out b43)
                       have K43 := Lib.hid (mblk_low K42.out b43)
                       have N43 := Lib.hid (Own.low o43 (Blk.lt K42.out))
                       have KX43 := Lib.hid (Blk.low KX42 b43)
                       have O43 := Lib.hid (own_below N42.out b43)
                       obtain ⟨g43, p43, rfl, _, _, _, _, z43⟩ := own_some o43 (numL_len oo).1)
                    | (refine step_app_len (t := 36) (e := 5) rfl (.tmp 96) (.tmp 99) rfl Tryz.underlying36 info5 (w.heap.size + 1) v42 (acc ++ [(0 : UInt8)] ++ numL ll) (numL oo) (by simp [Act.eval]) O43.out ⟨g43, 0, none⟩ _ p43 (by simp [Act.eval]) z43 (Lib.hid rfl) len3 (Blk.lt K43.out) ?_; intro v44 w44 o44 g44
                       have B44 := Lib.hid (Below.grown B43.out g44 (Below.size B43.out) (fun q hq => Nat.le_of_succ_le (O43.out.lt q hq).1))
                       have K44 := Lib.hid (mblk_row K43.out g44 (own_ne O43.out (Nat.lt_succ_self _)))
                       have N44 := Lib.hid o44
                       have KX44 := Lib.hid (blk_row KX43.out g44 (own_apart49 O43.out KX43.out))))
                have OZ : Hid (Own w44 (w.heap.size + 1) v44 (acc ++ [(0 : UInt8)] ++ numL ll ++ numL oo)) := o44
                have BZ := B44
                have KZ := K44
                have KXZ := KX44
                have LZ : Hid ((acc ++ [(0 : UInt8)] ++ numL ll ++ numL oo).length ≤ 4078 + 43 * j + 33) := by
                  show _ ≤ _
                  rw [List.length_append, List.length_append, List.length_append]
                  have := numL_len ll
                  have := numL_len oo
                  simp
                  omega
                obtain ⟨A2, hA2⟩ : ∃ A2, A2 = acc ++ [(0 : UInt8)] ++ numL ll ++ numL oo := ⟨_, rfl⟩
                rw [← hA2] at OZ LZ
                have HA2 := Lib.hid hA2
                have y3 := (rblk_cells KXZ.out).2.2.2
                have lz := LZ.out
                clear hA2
                go_wp2_with fail
                refine (CNN.out _).mono ?_
                rintro e w60 ⟨b60, v60, rfl, o60⟩
                obtain ⟨g60, p60, rfl, _, _, z61, _, z60⟩ := own_some o60 (numL_len nn).1
                have O60 := Lib.hid (own_below OZ.out b60)
                have B60 := Lib.hid (below_chain BZ.out b60)
                have K60 := Lib.hid (mblk_low KZ.out b60)
                have Z60 := Lib.hid z60
                have KL := numL_len nn
                obtain ⟨kl2, hkl2⟩ : ∃ kl2, kl2 = numL nn := ⟨_, rfl⟩
                have HKL2 := Lib.hid hkl2
                rw [← hkl2] at Z60 KL z61 ⊢
                have p3 : A2.length + kl2.length ≤ 140737488355328 := by omega
                have L60 : Hid ((A2 ++ kl2).length ≤ 4078 + 43 * (j + 1)) := by show _ ≤ _; rw [List.length_append]; omega
                obtain ⟨kn, hkn⟩ : ∃ kn, kl2.length = kn := ⟨_, rfl⟩
                have HKN := Lib.hid hkn
                rw [hkn] at p3 z61 ⊢
                clear o60 z60 hkl2 b60 KL hkn y3 lz
                go_wp2_with (at_builtin; refine wpl_app_len (t := 36) (e := 5) rfl (.tmp 101) (.tmp 104) rfl Tryz.underlying36 info5 (w.heap.size + 1) _ A2 kl2 rfl O60.out (some ⟨g60, 0, none⟩) kn p60 rfl Z60.out (fun h => by cases h) HKN p3 (Blk.lt K60.out) ?_; intro v61 w61 hown' hgrow)
                have B61 := Lib.hid (B60.out.grown hgrow B60.out.size (fun k hk => Nat.le_of_succ_le (O60.out.lt k hk).1))
                have K61 := Lib.hid (mblk_row K60.out hgrow (own_ne O60.out (Nat.lt_succ_self _)))
                have HZ : Hid (A2 ++ kl2 = E3 ++ (lr.take (j + 1)).flatMap refL) := by
                  show _ = _
                  rw [HS2.out, HA2.out, HKL2.out, HACC.out]
                  simp only [List.append_assoc]
                refine ⟨⟨j + 1, by omega, by go_num, B61.out, K61.out, ?_, ?_⟩, by simp [RowKit.intOf]; omega⟩
                · show Own _ _ _ _
                  rw [← HZ.out]
                  exact hown'
                · show _ ≤ _
                  rw [← HZ.out]
                  exact L60.out
              · have HNE := Lib.hid he
                have te : kk.toList.isEmpty = false := by rw [KE.out]; simpa using he
                have HKO : Hid (keyOk kk) := by
                  have h1 := OKR.out
                  rcases h1 with ⟨h2, _⟩ | ⟨h2, _⟩
                  · exact h2
                  · exact absurd h2 HNE.out
                have CKK := Lib.hid (fun W => refkey_any kk W x4)
                have K32 : Hid ((keyL kk).length = 32) := (key_of kk HKO.out).1
                have HS2 : Hid ((lr.take (j + 1)).flatMap refL = (lr.take j).flatMap refL ++ ([1] ++ keyL kk ++ numL nn)) := by
                  show _ = _
                  rw [List.take_add_one, HX.out]
                  simp [refL, HNE.out]
                clear he x4
                go_wp2_with fail
                clear d0 d1 d2 d3 k0 y6
                generalize hws : wr.alloc (.cells #[.string kk, .int .i64 ll, .int .i64 oo, .int .i64 nn] 49) = ws at *
                clear hws
                generalize wr.heap.size = gx at *
                have BQ : Hid (Below w.heap.size w ws.drew) := BS.out.drew
                have KQ : Hid (MB1k ws.drew w.heap.size k a b d t av (some ⟨bb, o, none⟩) i ac rn rc) := KS.out
                have OQ : Hid (Own ws.drew (w.heap.size + 1) u4 acc) := hO.out
                have KXQ : Hid (Blk ws.drew gx [.string kk, .int .i64 ll, .int .i64 oo, .int .i64 nn] 49) := KX0.out
                obtain ⟨y0, y1, y2, y3⟩ := rblk_cells KX0.out
                have hl := hL.out
                have len1 : acc.length + [(1 : UInt8)].length ≤ 140737488355328 := by simp; omega
                have len2 : (acc ++ [(1 : UInt8)]).length + (keyL kk).length ≤ 140737488355328 := by rw [List.length_append, K32.out]; simp; omega
                go_region_held3 (fun w' => w'.cell? ⟨gx, 0, none⟩ = some (.string kk) ∧ w'.cell? ⟨gx, 1, none⟩ = some (.int .i64 ll) ∧ w'.cell? ⟨gx, 2, none⟩ = some (.int .i64 oo) ∧ w'.cell? ⟨gx, 3, none⟩ = some (.int .i64 nn))
                  (first | go_keep | exact rblk_cells (Blk.alloc KXQ.out _) | exact rblk_cells KX40.out | exact rblk_cells KX41.out | exact rblk_cells KX42.out)
                  (first
                    | (refine step_app_len (t := 36) (e := 5) rfl (.tmp 83) (.tmp 84) rfl Tryz.underlying36 info5 (w.heap.size + 1) u4 (acc) ([(1 : UInt8)]) (by simp [Act.eval]) (World.ownsRow.alloc OQ.out _) ⟨ws.heap.size, 0, none⟩ _ 1 (by simp [Act.eval]) (one_byt ws.drew 1) (Lib.hid rfl) len1 (Blk.lt (Blk.alloc KQ.out (.cells #[.int .u8 1] 5))) ?_; intro v40 w40 o40 g40
                       have B40 := Lib.hid (Below.grown (below_alloc BQ.out (.cells #[.int .u8 1] 5)) g40 (Below.size (below_alloc BQ.out (.cells #[.int .u8 1] 5))) (fun q hq => Nat.le_of_succ_le (OQ.out.lt q hq).1))
                       have K40 := Lib.hid (mblk_row (Blk.alloc KQ.out (.cells #[.int .u8 1] 5)) g40 (own_ne OQ.out (Nat.lt_succ_self _)))
                       have N40 := Lib.hid o40
                       have KX40 := Lib.hid (blk_row (Blk.alloc KXQ.out (.cells #[.int .u8 1] 5)) g40 (own_apart49 (World.ownsRow.alloc OQ.out _) (Blk.alloc KXQ.out (.cells #[.int .u8 1] 5)))))
                    | (go_at_call 45; (with_reducible refine (CKK.out _).mono ?_); rintro e w41 ⟨b41, v41, rfl, o41⟩
                       have B41 := Lib.hid (below_chain B40.out b41)
                       have K41 := Lib.hid (mblk_low K40.out b41)
                       have N41 := Lib.hid (Own.low o41 (Blk.lt K40.out))
                       have KX41 := Lib.hid (Blk.low KX40 b41)
                       have O41 := Lib.hid (own_below N40.out b41)
                       obtain ⟨g41, p41, rfl, _, _, _, _, z41⟩ := own_some o41 (by rw [K32.out]; decide))
                    | (refine step_app_len (t := 36) (e := 5) rfl (.tmp 85) (.tmp 88) rfl Tryz.underlying36 info5 (w.heap.size + 1) v40 (acc ++ [(1 : UInt8)]) (keyL kk) (by simp [Act.eval]) O41.out ⟨g41, 0, none⟩ _ p41 (by simp [Act.eval]) z41 (Lib.hid rfl) len2 (Blk.lt K41.out) ?_; intro v42 w42 o42 g42
                       have B42 := Lib.hid (Below.grown B41.out g42 (Below.size B41.out) (fun q hq => Nat.le_of_succ_le (O41.out.lt q hq).1))
                       have K42 := Lib.hid (mblk_row K41.out g42 (own_ne O41.out (Nat.lt_succ_self _)))
                       have N42 := Lib.hid o42
                       have KX42 := Lib.hid (blk_row KX41.out g42 (own_apart49 O41.out KX41.out))))
                have OZ : Hid (Own w42 (w.heap.size + 1) v42 (acc ++ [(1 : UInt8)] ++ keyL kk)) := o42
                have BZ := B42
                have KZ := K42
                have KXZ := KX42
                have LZ : Hid ((acc ++ [(1 : UInt8)] ++ keyL kk).length ≤ 4078 + 43 * j + 33) := by
                  show _ ≤ _
                  rw [List.length_append, List.length_append, K32.out]
                  simp
                  omega
                obtain ⟨A2, hA2⟩ : ∃ A2, A2 = acc ++ [(1 : UInt8)] ++ keyL kk := ⟨_, rfl⟩
                rw [← hA2] at OZ LZ
                have HA2 := Lib.hid hA2
                have y3 := (rblk_cells KXZ.out).2.2.2
                have lz := LZ.out
                clear hA2
                go_wp2_with fail
                refine (CNN.out _).mono ?_
                rintro e w60 ⟨b60, v60, rfl, o60⟩
                obtain ⟨g60, p60, rfl, _, _, z61, _, z60⟩ := own_some o60 (numL_len nn).1
                have O60 := Lib.hid (own_below OZ.out b60)
                have B60 := Lib.hid (below_chain BZ.out b60)
                have K60 := Lib.hid (mblk_low KZ.out b60)
                have Z60 := Lib.hid z60
                have KL := numL_len nn
                obtain ⟨kl2, hkl2⟩ : ∃ kl2, kl2 = numL nn := ⟨_, rfl⟩
                have HKL2 := Lib.hid hkl2
                rw [← hkl2] at Z60 KL z61 ⊢
                have p3 : A2.length + kl2.length ≤ 140737488355328 := by omega
                have L60 : Hid ((A2 ++ kl2).length ≤ 4078 + 43 * (j + 1)) := by show _ ≤ _; rw [List.length_append]; omega
                obtain ⟨kn, hkn⟩ : ∃ kn, kl2.length = kn := ⟨_, rfl⟩
                have HKN := Lib.hid hkn
                rw [hkn] at p3 z61 ⊢
                clear o60 z60 hkl2 b60 KL hkn y3 lz
                go_wp2_with (at_builtin; refine wpl_app_len (t := 36) (e := 5) rfl (.tmp 101) (.tmp 104) rfl Tryz.underlying36 info5 (w.heap.size + 1) _ A2 kl2 rfl O60.out (some ⟨g60, 0, none⟩) kn p60 rfl Z60.out (fun h => by cases h) HKN p3 (Blk.lt K60.out) ?_; intro v61 w61 hown' hgrow)
                have B61 := Lib.hid (B60.out.grown hgrow B60.out.size (fun k hk => Nat.le_of_succ_le (O60.out.lt k hk).1))
                have K61 := Lib.hid (mblk_row K60.out hgrow (own_ne O60.out (Nat.lt_succ_self _)))
                have HZ : Hid (A2 ++ kl2 = E3 ++ (lr.take (j + 1)).flatMap refL) := by
                  show _ = _
                  rw [HS2.out, HA2.out, HKL2.out, HACC.out]
                  simp only [List.append_assoc]
                refine ⟨⟨j + 1, by omega, by go_num, B61.out, K61.out, ?_, ?_⟩, by simp [RowKit.intOf]; omega⟩
                · show Own _ _ _ _
                  rw [← HZ.out]
                  exact hown'
                · show _ ≤ _
                  rw [← HZ.out]
                  exact L60.out
            · obtain rfl : j = rn := by omega
              have HE : Hid (E3 ++ (lr.take j).flatMap refL = metaL ⟨k, a, b, d, t, la, lr⟩) := by
                show _ = _
                rw [EQ.out, List.take_of_length_le (by rw [HLR.out]; exact Nat.le_refl _)]
              go_wp2_with fail
              go_ret2
              exact ⟨hB.out, .inl ⟨HT.out, _, rfl, by rw [← HE.out]; exact Own.low hO.out (Nat.le_succ _)⟩⟩

end Go.Proofs.YtpjgkboafmebbaaGreatDoor.Sh
namespace Go.Proofs.YtpjgkboafmebbaaGreatDoor.Sh
open Go.RowKit Go.Lib Lb
abbrev Kont := List UInt8 → Option (MetaP × List UInt8)
/-- what is left to read -/
def bindP {α : Type} (p : List UInt8 → Option (α × List UInt8)) (G : α → Kont) : Kont := fun r => match p r with | none => none | some (x, s) => G x s
/-- where a node's reading stands -/
def Rem (l : List UInt8) (bad : Bool) (lr : List UInt8) (F : Kont) : Prop := if bad = true then pMeta l = none else pMeta l = F lr
theorem rem_step {α : Type} {p : List UInt8 → Option (α × List UInt8)} {z x : α} {l lr l' : List UInt8} {bad bad' : Bool} {G : α → Kont} (h : Rem l bad lr (bindP p G)) (hs : (x, l', bad') = stepR p z lr bad) : Rem l bad' l' (G x) := by
  unfold Rem at h ⊢
  unfold stepR at hs
  cases bad with
  | true =>
    rw [if_pos rfl] at hs
    injection hs with h1 h2
    injection h2 with h2 h3
    subst h3
    rw [if_pos rfl] at h ⊢
    exact h
  | false =>
    rw [if_neg (by decide)] at hs h
    unfold bindP at h
    cases hp : p lr with
    | none =>
      rw [hp] at hs h
      injection hs with h1 h2
      injection h2 with h2 h3
      subst h3
      rw [if_pos rfl]
      exact h
    | some u =>
      obtain ⟨y, s⟩ := u
      rw [hp] at hs h
      injection hs with h1 h2
      injection h2 with h2 h3
      subst h1
      subst h2
      subst h3
      rw [if_neg (by decide)]
      exact h
theorem rem_text {l lr l' : List UInt8} {bad bad' : Bool} {m : Nat} {d : List UInt8} {G : ByteArray → Kont} (h : Rem l bad lr (bindP (pText m) G)) (hs : (d, l', bad') = stepR (pData m) [] lr bad) : Rem l bad' l' (G ⟨d.toArray⟩) := by
  have e : bindP (pText m) G = bindP (pData m) (fun d => G ⟨d.toArray⟩) := by
    funext r
    unfold bindP pText pMap
    cases pData m r with
    | none => rfl
    | some u => rfl
  rw [e] at h
  exact rem_step (G := fun d => G ⟨d.toArray⟩) h hs
def rowP {α : Type} (p : List UInt8 → Option (α × List UInt8)) (m : Nat) (A : List α) (G : List α → Kont) : Kont := fun r => match pRow p m r with | none => none | some (B, s) => G (A ++ B) s
theorem rowP_zero {α : Type} (p : List UInt8 → Option (α × List UInt8)) (A : List α) (G : List α → Kont) : rowP p 0 A G = G A := by
  funext r
  show G (A ++ []) r = _
  rw [List.append_nil]
theorem rowP_succ {α : Type} (p : List UInt8 → Option (α × List UInt8)) (m : Nat) (A : List α) (G : List α → Kont) : rowP p (m + 1) A G = bindP p (fun x => rowP p m (A ++ [x]) G) := by
  funext r
  unfold rowP bindP
  rw [pRow]
  cases p r with
  | none => rfl
  | some u =>
    obtain ⟨x, s⟩ := u
    simp only
    cases pRow p m s with
    | none => rfl
    | some v =>
      obtain ⟨B, q⟩ := v
      simp only [List.append_assoc, List.cons_append, List.nil_append]
theorem bind_attr (G : (ByteArray × List UInt8) → Kont) : bindP pAttr G = bindP (pText 100) (fun s => bindP (pData 256) (fun v => G (s, v))) := by
  funext r
  unfold bindP pAttr pSeq
  cases pText 100 r with
  | none => rfl
  | some u =>
    obtain ⟨s, q⟩ := u
    simp only
    cases pData 256 q with
    | none => rfl
    | some v => rfl
theorem bind_ref (G : RefP → Kont) : bindP pRef G = bindP (pNum 1) (fun t => if t = 1 then bindP pKey (fun k => bindP (pNum 32768) (fun n => G ⟨k, 0, 0, n⟩)) else bindP (pNum 512) (fun lo => bindP (pNum 32768) (fun off => bindP (pNum 32768) (fun n => G ⟨noKey, lo, off, n⟩)))) := by
  funext r
  unfold bindP pRef pMap pSeq
  cases pNum 1 r with
  | none => rfl
  | some u =>
    obtain ⟨t, q⟩ := u
    simp only
    by_cases h1 : t = 1
    · subst h1
      rw [if_pos rfl]
      have e : pHead 1 q = (pKey q).map fun z => ((z.1, (0 : Int), (0 : Int)), z.2) := by unfold pHead; rw [if_pos rfl]; rfl
      rw [e]
      cases pKey q with
      | none => rfl
      | some v =>
        obtain ⟨k, s⟩ := v
        simp only [Option.map_some]
        cases pNum 32768 s with
        | none => rfl
        | some x => rfl
    · rw [if_neg h1]
      have e : pHead t q = (pSeq (pNum 512) (fun _ => pNum 32768) q).map fun z => ((noKey, z.1.1, z.1.2), z.2) := by unfold pHead; rw [if_neg h1]; rfl
      rw [e]
      unfold pSeq
      cases pNum 512 q with
      | none => rfl
      | some v =>
        obtain ⟨lo, s⟩ := v
        simp only
        cases pNum 32768 s with
        | none => rfl
        | some x =>
          obtain ⟨off, s2⟩ := x
          simp only [Option.map_some]
          cases pNum 32768 s2 with
          | none => rfl
          | some y => rfl
/-- the last of it -/
def KF (k a b d : Int) (t : ByteArray) (A : List (ByteArray × List UInt8)) (R : List RefP) : Kont := fun s => some (⟨k, a, b, d, t, A, R⟩, s)
def KR (k a b d : Int) (t : ByteArray) (A : List (ByteArray × List UInt8)) : Kont := bindP (pNum 128) (fun q => rowP pRef q.toNat [] (KF k a b d t A))
def KA (k a b d : Int) (t : ByteArray) : Kont := bindP (pNum 8) (fun n => rowP pAttr n.toNat [] (KR k a b d t))
theorem meta_kont : pMeta = bindP (pNum 3) (fun k => bindP (pNum 4095) (fun a => bindP (pNum 64) (fun b => bindP (pNum 32768) (fun d => bindP (pText 1000) (fun t => KA k a b d t))))) := by
  funext r
  unfold pMeta KA KR KF pMany pMap pSeq bindP rowP
  dsimp only
  cases pNum 3 r with
  | none => rfl
  | some u1 =>
    obtain ⟨k, r1⟩ := u1
    dsimp only
    cases pNum 4095 r1 with
    | none => rfl
    | some u2 =>
      obtain ⟨a, r2⟩ := u2
      dsimp only
      cases pNum 64 r2 with
      | none => rfl
      | some u3 =>
        obtain ⟨b, r3⟩ := u3
        dsimp only
        cases pNum 32768 r3 with
        | none => rfl
        | some u4 =>
          obtain ⟨d, r4⟩ := u4
          dsimp only
          cases pText 1000 r4 with
          | none => rfl
          | some u5 =>
            obtain ⟨t, r5⟩ := u5
            dsimp only
            cases pNum 8 r5 with
            | none => rfl
            | some u6 =>
              obtain ⟨n, r6⟩ := u6
              dsimp only
              cases pRow pAttr n.toNat r6 with
              | none => rfl
              | some u7 =>
                obtain ⟨A, r7⟩ := u7
                dsimp only [Option.map_some]
                cases pNum 128 r7 with
                | none => rfl
                | some u8 =>
                  obtain ⟨q, r8⟩ := u8
                  dsimp only
                  cases pRow pRef q.toNat r8 with
                  | none => rfl
                  | some u9 => rfl
/-- what the reader of a node gives -/
def GetsMeta (w : World) (l : List UInt8) (e : Ending) (w' : World) : Prop :=
  Below w.heap.size w w' ∧ ((getMeta ltB nameOk l = none ∧ e = .returned (.tuple #[.agg #[.int .i64 0, .int .i64 0, .int .i64 0, .int .i64 0, .string ⟨#[]⟩, .slice none 0 0, .slice none 0 0], .int .i64 80])) ∨
    ∃ x u v, getMeta ltB nameOk l = some x ∧ e = .returned (.tuple #[.agg #[.int .i64 x.kind, .int .i64 x.mode, .int .i64 x.links, .int .i64 x.size, .string x.target, u, v], .int .i64 0]) ∧ OwnA w.heap.size w' x.attrs u ∧ OwnG 49 4 cellsR w.heap.size w' x.refs v)
theorem row_apart {w w' : World} {B B' e e' s s' n m : Nat} {u v : Value} {xs ys : List Value} (he : e ≠ e') (h : w.ownsRow B e s u n xs) (ho : w.ownsRow B' e' s' v m ys) (hg : w.grownBy w' v.ownBlock) : w'.ownsRow B e s u n xs := by
  refine World.ownsRow.kept h hg ?_
  cases hu : u.ownBlock with
  | none => exact .inl rfl
  | some j =>
    refine .inr fun e0 => ?_
    obtain ⟨_, ⟨rfl, _⟩ | ⟨k, c1, cur1, rfl, _, h1, _⟩⟩ := h
    · cases hu
    · obtain ⟨_, ⟨rfl, _⟩ | ⟨k2, c2, cur2, rfl, _, h2, _⟩⟩ := ho
      · cases e0
      · have e1 : k = j := by injection hu
        have e2 : j = k2 := by injection e0
        subst e1
        subst e2
        rw [h1] at h2
        injection h2 with h2
        injection h2 with _ h3 _
        exact he h3
theorem ownA_snoc {W W' : World} {B : Nat} {v v' u : Value} {A : List (ByteArray × List UInt8)} {us : List Value} {s : ByteArray} {d : List UInt8} (hU : us.length = A.length) (hO : W.ownsRow B 95 2 v A.length (attC A us)) (hA : ∀ (i : Nat) (x : ByteArray × List UInt8) (u : Value), A[i]? = some x → us[i]? = some u → Own W B u x.2)
    (hu : Own W B u d) (hown : W'.ownsRow B 95 2 v' (A.length + 1) (attC A us ++ [.string s, u])) (hg : W.grownBy W' v.ownBlock) : OwnA B W' (A ++ [(s, d)]) v' := by
  refine ⟨us ++ [u], by simp [hU], ?_, fun j y q hy hq => ?_⟩
  · rw [attC_snoc hU, List.length_append]
    exact hown
  · rcases Nat.lt_or_ge j A.length with h1 | h1
    · rw [List.getElem?_append_left h1] at hy
      rw [List.getElem?_append_left (by rw [hU]; exact h1)] at hq
      exact own_apart (hA j y q hy hq) hO hg
    · rw [List.getElem?_append_right h1] at hy
      rw [List.getElem?_append_right (by rw [hU]; exact h1), hU] at hq
      have h2 : j - A.length = 0 := by
        have := (List.getElem?_eq_some_iff.1 hy).1
        simp at this
        omega
      rw [h2] at hy hq
      simp only [List.getElem?_cons_zero, Option.some.injEq] at hy hq
      subst hy
      subst hq
      exact own_apart hu hO hg
theorem ownG_snocR {w : World} {B : Nat} {v : Value} {A : List RefP} {x : RefP} (h : w.ownsRow B 49 4 v (A.length + 1) (A.flatMap cellsR ++ [.string x.key, .int .i64 x.lower, .int .i64 x.off, .int .i64 x.n])) : OwnG 49 4 cellsR B w (A ++ [x]) v := by
  unfold OwnG
  rw [flat_snoc, List.length_append]
  exact h
theorem ownA_apart {w w' : World} {B B' m : Nat} {u v : Value} {A : List (ByteArray × List UInt8)} {ys : List Value} (h : OwnA B w A u) (ho : w.ownsRow B' 49 4 v m ys) (hg : w.grownBy w' v.ownBlock) : OwnA B w' A u := by
  obtain ⟨us, h1, h2, h3⟩ := h
  exact ⟨us, h1, row_apart (by decide) h2 ho hg, fun i x q hx hq => row_apart (by decide) (h3 i x q hx hq) ho hg⟩
/-- the state of a node's reading -/
structure GS (w W : World) (gX : Nat) (XC : List Value) (lr : List UInt8) (bad : Bool) (ar : Option Addr) (mr cr : Nat) : Prop where
  B : Below w.heap.size w W
  K : Blk W w.heap.size [.int .i64 0, .int .i64 0, .int .i64 0, .int .i64 0, .string ⟨#[]⟩, .slice none 0 0, .slice none 0 0] 26
  R : Rd W (w.heap.size + 1) lr bad ar mr cr
  X : Blk W gX XC 26
  G : w.heap.size + 1 < gX
theorem GS.call {w W W' : World} {gX : Nat} {XC : List Value} {lr lr' : List UInt8} {bad bad' : Bool} {ar ar' : Option Addr} {mr cr mr' cr' : Nat} (h : GS w W gX XC lr bad ar mr cr) (h1 : W.grownBy W' (some (w.heap.size + 1))) (R' : Rd W' (w.heap.size + 1) lr' bad' ar' mr' cr') : GS w W' gX XC lr' bad' ar' mr' cr' :=
  ⟨h.B.grown h1 h.B.size (fun b hb => by injection hb with hb; omega), blk_grown h.K h1 (by omega), R', blk_grown h.X h1 (by have := h.G; omega), h.G⟩
theorem GS.set {w W : World} {gX : Nat} {XC : List Value} {lr : List UInt8} {bad : Bool} {ar : Option Addr} {mr cr : Nat} (h : GS w W gX XC lr bad ar mr cr) (i : Nat) (v : Value) : GS w (W.setCell ⟨gX, i, none⟩ v) gX (XC.set i v) lr bad ar mr cr :=
  ⟨h.B.setCell (p := ⟨gX, i, none⟩) (by have := h.G; show w.heap.size ≤ gX; omega) v, h.K.other (a := ⟨gX, i, none⟩) v (by have := h.G; show w.heap.size ≠ gX; omega), h.R.row (grownBy_setCell W gX i v) (fun b hb => by injection hb with hb; have := h.G; omega), h.X.set i v, h.G⟩
theorem GS.drew {w W : World} {gX : Nat} {XC : List Value} {lr : List UInt8} {bad : Bool} {ar : Option Addr} {mr cr : Nat} (h : GS w W gX XC lr bad ar mr cr) : GS w W.drew gX XC lr bad ar mr cr :=
  ⟨h.B.drew, h.K, h.R.grown (Below.refl _ W).drew, h.X, h.G⟩
theorem GS.alloc {w W : World} {gX : Nat} {XC : List Value} {lr : List UInt8} {bad : Bool} {ar : Option Addr} {mr cr : Nat} (h : GS w W gX XC lr bad ar mr cr) (o : Obj) : GS w (W.alloc o) gX XC lr bad ar mr cr :=
  ⟨h.B.alloc h.B.size o, h.K.alloc o, h.R.grown ((Below.refl _ W).alloc (Nat.le_refl _) o), h.X.alloc o, h.G⟩
theorem GS.row {w W W' : World} {gX : Nat} {XC : List Value} {lr : List UInt8} {bad : Bool} {ar : Option Addr} {mr cr : Nat} {q : Option Nat} (h : GS w W gX XC lr bad ar mr cr) (hg : W.grownBy W' q) (hq : ∀ b, q = some b → gX < b) : GS w W' gX XC lr bad ar mr cr :=
  ⟨h.B.grown hg h.B.size (fun b hb => by have := hq b hb; have := h.G; omega), blk_row h.K hg (fun e => by have := hq _ e.symm; have := h.G; omega), h.R.row hg (fun b hb => by have := hq b hb; have := h.G; omega), blk_row h.X hg (fun e => by have := hq _ e.symm; omega), h.G⟩
theorem GS.low {w W W' : World} {gX : Nat} {XC : List Value} {lr : List UInt8} {bad : Bool} {ar : Option Addr} {mr cr : Nat} (h : GS w W gX XC lr bad ar mr cr) (hb : Below W.heap.size W W') : GS w W' gX XC lr bad ar mr cr :=
  ⟨below_chain h.B hb, h.K.low hb, h.R.grown hb, h.X.low hb, h.G⟩
theorem below_set7 {w W : World} (h : Below w.heap.size w W) (u0 u1 u2 u3 u4 u5 u6 : Value) :
    Below w.heap.size w (((((((W.setCell ⟨w.heap.size, 0, none⟩ u0).setCell ⟨w.heap.size, 1, none⟩ u1).setCell ⟨w.heap.size, 2, none⟩ u2).setCell ⟨w.heap.size, 3, none⟩ u3).setCell ⟨w.heap.size, 4, none⟩ u4).setCell ⟨w.heap.size, 5, none⟩ u5).setCell ⟨w.heap.size, 6, none⟩ u6) :=
  ((((((h.setCell (p := ⟨w.heap.size, 0, none⟩) (Nat.le_refl _) u0).setCell (p := ⟨w.heap.size, 1, none⟩) (Nat.le_refl _) u1).setCell (p := ⟨w.heap.size, 2, none⟩) (Nat.le_refl _) u2).setCell (p := ⟨w.heap.size, 3, none⟩) (Nat.le_refl _) u3).setCell (p := ⟨w.heap.size, 4, none⟩) (Nat.le_refl _) u4).setCell (p := ⟨w.heap.size, 5, none⟩) (Nat.le_refl _) u5).setCell (p := ⟨w.heap.size, 6, none⟩) (Nat.le_refl _) u6
theorem cells_oneR (s : ByteArray) (x y z : Int) : ∀ q ∈ ([.string s, .int .i64 x, .int .i64 y, .int .i64 z] : List Value), q.oneCell' = true := by
  intro q hq
  simp only [List.mem_cons, List.not_mem_nil, or_false] at hq
  rcases hq with rfl | rfl | rfl | rfl <;> rfl
theorem seven_A {w : World} {B g : Nat} {v : Value} {A : List (ByteArray × List UInt8)} (h : OwnA B w A v) (hb : g < B) (u0 u1 u2 u3 u4 u5 u6 : Value) :
    OwnA B (((((((w.setCell ⟨g, 0, none⟩ u0).setCell ⟨g, 1, none⟩ u1).setCell ⟨g, 2, none⟩ u2).setCell ⟨g, 3, none⟩ u3).setCell ⟨g, 4, none⟩ u4).setCell ⟨g, 5, none⟩ u5).setCell ⟨g, 6, none⟩ u6) A v :=
  ((((((h.kept (grownBy_setCell _ g 0 u0) hb).kept (grownBy_setCell _ g 1 u1) hb).kept (grownBy_setCell _ g 2 u2) hb).kept (grownBy_setCell _ g 3 u3) hb).kept (grownBy_setCell _ g 4 u4) hb).kept (grownBy_setCell _ g 5 u5) hb).kept (grownBy_setCell _ g 6 u6) hb
theorem seven_R {w : World} {B g : Nat} {v : Value} {A : List RefP} (h : OwnG 49 4 cellsR B w A v) (hb : g < B) (u0 u1 u2 u3 u4 u5 u6 : Value) :
    OwnG 49 4 cellsR B (((((((w.setCell ⟨g, 0, none⟩ u0).setCell ⟨g, 1, none⟩ u1).setCell ⟨g, 2, none⟩ u2).setCell ⟨g, 3, none⟩ u3).setCell ⟨g, 4, none⟩ u4).setCell ⟨g, 5, none⟩ u5).setCell ⟨g, 6, none⟩ u6) A v :=
  ownG_set (ownG_set (ownG_set (ownG_set (ownG_set (ownG_set (ownG_set h hb u0) hb u1) hb u2) hb u3) hb u4) hb u5) hb u6
theorem cells_oneA (s : ByteArray) (u : Value) (hu : u.oneCell' = true) : ∀ q ∈ ([.string s, u] : List Value), q.oneCell' = true := by
  intro q hq
  simp only [List.mem_cons, List.not_mem_nil, or_false] at hq
  rcases hq with rfl | rfl
  · rfl
  · exact hu
set_option maxHeartbeats 8000000 in
set_option maxRecDepth 100000 in
theorem getmeta_any (ao : Option Addr) (l : List UInt8) (m c : Nat) (w : World) (hb : Byt w ao l) (hn : ao = none → c = 0) (hl : l.length = m) (hc : m ≤ c) (hm : c ≤ 9223372036854775807) (h47 : m ≤ 140737488355328) (hf : ∀ a, ao = some a → a.block < w.heap.size) :
    Calls Tryz.prog 17 #[.slice ao m c] w (GetsMeta w l) := by
  obtain ⟨wa, hwa⟩ : ∃ wa, wa = w.alloc (.cells #[.int .i64 0, .int .i64 0, .int .i64 0, .int .i64 0, .string ⟨#[]⟩, .slice none 0 0, .slice none 0 0] 26) := ⟨_, rfl⟩
  have sa : wa.heap.size = w.heap.size + 1 := by rw [hwa]; simp
  have B1 : Below w.heap.size w wa := by rw [hwa]; exact (Below.refl _ w).alloc (Nat.le_refl _) _
  have KA : Blk wa w.heap.size [.int .i64 0, .int .i64 0, .int .i64 0, .int .i64 0, .string ⟨#[]⟩, .slice none 0 0, .slice none 0 0] 26 := by rw [hwa]; exact Blk.new w [.int .i64 0, .int .i64 0, .int .i64 0, .int .i64 0, .string ⟨#[]⟩, .slice none 0 0, .slice none 0 0] 26 _ rfl
  obtain ⟨wb, hwb⟩ : ∃ wb, wb = wa.alloc (.cells #[.slice ao m c, .bool false] 99) := ⟨_, rfl⟩
  have sb : wb.heap.size = w.heap.size + 2 := by rw [hwb]; simp [sa]
  have RB := Lib.hid (rd_new wa ao l m c (w.heap.size + 1) sa.symm (hb.below B1) hn hl hc hm h47 (fun a ha => by have := hf a ha; omega))
  rw [← hwb] at RB
  have B2 : Hid (Below w.heap.size w wb) := by show Below _ _ _; rw [hwb]; exact B1.alloc (by omega) _
  have KB : Hid (Blk wb w.heap.size [.int .i64 0, .int .i64 0, .int .i64 0, .int .i64 0, .string ⟨#[]⟩, .slice none 0 0, .slice none 0 0] 26) := by show Blk _ _ _ _; rw [hwb]; exact KA.alloc _
  have SB := Lib.hid sb
  have C1 : Hid (Calls Tryz.prog 46 #[.pointer (some ⟨w.heap.size + 1, 0, none⟩), .int .i64 3] wb (AnsR wb (w.heap.size + 1) (.int .i64 (stepR (pNum 3) 0 l false).1) (stepR (pNum 3) 0 l false).2.1 (stepR (pNum 3) 0 l false).2.2)) := rnum_any (w.heap.size + 1) l false ao m c 3 wb RB.out (by decide)
  have RM0 : Hid (Rem l false l pMeta) := by show Rem _ _ _ _; rw [Rem, if_neg (by decide)]
  clear KA B1 hb hn hl hc hm h47 hf
  go_enter Tryz.func17, Tryz.ntmps17
  go_wp2_with fail
  rw [← hwa, ← hwb]
  clear hwa hwb sa sb
  refine C1.out.mono ?_
  rintro e w1 ⟨rfl, h1, ar1, mr1, cr1, R1⟩
  obtain ⟨⟨k, l1, d1⟩, hs1⟩ : ∃ z : Int × List UInt8 × Bool, z = stepR (pNum 3) 0 l false := ⟨_, rfl⟩
  rw [← hs1] at R1 ⊢
  have RM1 := RM0.out
  rw [meta_kont] at RM1
  have RM := Lib.hid (rem_step RM1 hs1)
  have B3 : Hid (Below w.heap.size w w1) := B2.out.grown h1 B2.out.size (fun b hb => by injection hb with hb; omega)
  have K3 : Hid (Blk w1 w.heap.size [.int .i64 0, .int .i64 0, .int .i64 0, .int .i64 0, .string ⟨#[]⟩, .slice none 0 0, .slice none 0 0] 26) := blk_grown KB.out h1 (by omega)
  have S3 : Hid (w.heap.size + 2 ≤ w1.heap.size) := by show _ ≤ _; have := h1.size; have := SB.out; omega
  have R3 := Lib.hid R1
  simp only at R3 RM ⊢
  have C2 : Hid (Calls Tryz.prog 46 #[.pointer (some ⟨w.heap.size + 1, 0, none⟩), .int .i64 4095] w1 (AnsR w1 (w.heap.size + 1) (.int .i64 (stepR (pNum 4095) 0 l1 d1).1) (stepR (pNum 4095) 0 l1 d1).2.1 (stepR (pNum 4095) 0 l1 d1).2.2)) := rnum_any (w.heap.size + 1) l1 d1 ar1 mr1 cr1 4095 w1 R3.out (by decide)
  clear hs1 RM1 RM0 h1 R1 C1 B2 KB RB SB
  go_wp2_with fail
  refine C2.out.mono ?_
  rintro e w2 ⟨rfl, h1, ar2, mr2, cr2, R2⟩
  obtain ⟨⟨a, l2, d2⟩, hs2⟩ : ∃ z : Int × List UInt8 × Bool, z = stepR (pNum 4095) 0 l1 d1 := ⟨_, rfl⟩
  rw [← hs2] at R2 ⊢
  replace RM := Lib.hid (rem_step RM.out hs2)
  have B4 : Hid (Below w.heap.size w w2) := B3.out.grown h1 B3.out.size (fun b hb => by injection hb with hb; omega)
  have K4 : Hid (Blk w2 w.heap.size [.int .i64 0, .int .i64 0, .int .i64 0, .int .i64 0, .string ⟨#[]⟩, .slice none 0 0, .slice none 0 0] 26) := blk_grown K3.out h1 (by omega)
  have S4 : Hid (w.heap.size + 1 < w2.heap.size) := by show _ < _; have := h1.size; have := S3.out; omega
  have R4 := Lib.hid R2
  simp only at R4 RM ⊢
  obtain ⟨gX, hgX⟩ : ∃ gX, gX = w2.heap.size := ⟨_, rfl⟩
  obtain ⟨w3, hw3⟩ : ∃ w3, w3 = w2.alloc (.cells #[.int .i64 k, .int .i64 a, .int .i64 0, .int .i64 0, .string ⟨#[]⟩, .slice none 0 0, .slice none 0 0] 26) := ⟨_, rfl⟩
  have GS0 : Hid (GS w w3 gX [.int .i64 k, .int .i64 a, .int .i64 0, .int .i64 0, .string ⟨#[]⟩, .slice none 0 0, .slice none 0 0] l2 d2 ar2 mr2 cr2) := by
    show GS _ _ _ _ _ _ _ _ _
    rw [hw3]
    exact ⟨B4.out.alloc B4.out.size _, K4.out.alloc _, R4.out.grown ((Below.refl _ w2).alloc (Nat.le_refl _) _), Blk.new w2 _ 26 _ hgX, by rw [hgX]; exact S4.out⟩
  have HGX := Lib.hid hgX
  have HW3 := Lib.hid hw3
  clear hs2 h1 R2 C2 B3 K3 S3 R3 B4 K4 S4 R4 hgX hw3
  have CQ : Hid (Calls Tryz.prog 46 #[.pointer (some ⟨w.heap.size + 1, 0, none⟩), .int .i64 64] w3 (AnsR w3 (w.heap.size + 1) (.int .i64 (stepR (pNum 64) 0 l2 d2).1) (stepR (pNum 64) 0 l2 d2).2.1 (stepR (pNum 64) 0 l2 d2).2.2)) := rnum_any (w.heap.size + 1) l2 d2 ar2 mr2 cr2 64 w3 (GS.R GS0.out) (by decide)
  go_wp2_with fail
  rw [← HW3.out, ← HGX.out]
  clear HW3 HGX
  refine CQ.out.mono ?_
  clear CQ
  rintro e w4 ⟨rfl, h1, ar4, mr4, cr4, R1⟩
  obtain ⟨⟨b, l4, d4⟩, hs⟩ : ∃ z : Int × List UInt8 × Bool, z = stepR (pNum 64) 0 l2 d2 := ⟨_, rfl⟩
  rw [← hs] at R1 ⊢
  replace RM := Lib.hid (rem_step RM.out hs)
  have G4 := Lib.hid (GS.call GS0.out h1 R1)
  simp only at G4 RM ⊢
  have GA4 := Lib.hid (GS.set G4.out 2 (.int .i64 b))
  simp only [List.set_cons_zero, List.set_cons_succ] at GA4
  clear hs h1 R1
  have xs := (GS.X G4.out).cell 2
  have fs := (GS.X G4.out).frozen 2
  simp only [List.getElem?_cons_zero, List.getElem?_cons_succ] at xs
  have CQ : Hid (Calls Tryz.prog 46 #[.pointer (some ⟨w.heap.size + 1, 0, none⟩), .int .i64 32768] (w4.setCell ⟨gX, 2, none⟩ (.int .i64 b)) (AnsR (w4.setCell ⟨gX, 2, none⟩ (.int .i64 b)) (w.heap.size + 1) (.int .i64 (stepR (pNum 32768) 0 l4 d4).1) (stepR (pNum 32768) 0 l4 d4).2.1 (stepR (pNum 32768) 0 l4 d4).2.2)) := rnum_any (w.heap.size + 1) l4 d4 ar4 mr4 cr4 32768 (w4.setCell ⟨gX, 2, none⟩ (.int .i64 b)) (GS.R GA4.out) (by decide)
  go_wp2_with fail
  refine CQ.out.mono ?_
  clear CQ
  rintro e w5 ⟨rfl, h1, ar5, mr5, cr5, R1⟩
  obtain ⟨⟨d, l5, d5⟩, hs⟩ : ∃ z : Int × List UInt8 × Bool, z = stepR (pNum 32768) 0 l4 d4 := ⟨_, rfl⟩
  rw [← hs] at R1 ⊢
  replace RM := Lib.hid (rem_step RM.out hs)
  have G5 := Lib.hid (GS.call GA4.out h1 R1)
  simp only at G5 RM ⊢
  have GA5 := Lib.hid (GS.set G5.out 3 (.int .i64 d))
  simp only [List.set_cons_zero, List.set_cons_succ] at GA5
  clear hs h1 R1 xs fs
  have xs := (GS.X G5.out).cell 3
  have fs := (GS.X G5.out).frozen 3
  simp only [List.getElem?_cons_zero, List.getElem?_cons_succ] at xs
  have CQ : Hid (Calls Tryz.prog 47 #[.pointer (some ⟨w.heap.size + 1, 0, none⟩), .int .i64 1000] (w5.setCell ⟨gX, 3, none⟩ (.int .i64 d)) fun e w' => ∃ v, AnsR (w5.setCell ⟨gX, 3, none⟩ (.int .i64 d)) (w.heap.size + 1) v (stepR (pData 1000) [] l5 d5).2.1 (stepR (pData 1000) [] l5 d5).2.2 e w' ∧ Own w' (w5.setCell ⟨gX, 3, none⟩ (.int .i64 d)).heap.size v (stepR (pData 1000) [] l5 d5).1) := rdata_any (w.heap.size + 1) l5 d5 ar5 mr5 cr5 1000 _ (GS.R GA5.out) (by decide)
  go_wp2_with fail
  refine CQ.out.mono ?_
  clear CQ
  rintro e w6 ⟨vd, ⟨rfl, h1, ar6, mr6, cr6, R1⟩, od⟩
  obtain ⟨⟨dt, l6, d6⟩, hs⟩ : ∃ z : List UInt8 × List UInt8 × Bool, z = stepR (pData 1000) [] l5 d5 := ⟨_, rfl⟩
  rw [← hs] at R1 od
  replace RM := Lib.hid (rem_text RM.out hs)
  have G6 := Lib.hid (GS.call GA5.out h1 R1)
  simp only at G6 RM od
  obtain ⟨t, ht⟩ : ∃ t : ByteArray, t = ⟨dt.toArray⟩ := ⟨_, rfl⟩
  obtain ⟨aq, cq, rfl, _, _, hbq, hnq⟩ := own_byt od
  have kc := conv_byt (P := Tryz.prog) (t := 36) (e := 5) (d := 9) (w := w6) Tryz.underlying36 Tryz.underlying5 Tryz.underlying9 aq dt cq hbq hnq
  rw [← ht] at kc RM
  have GA6 := Lib.hid (GS.set G6.out 4 (.string t))
  simp only [List.set_cons_zero, List.set_cons_succ] at GA6
  clear hs h1 R1 xs fs ht hbq hnq od
  have xs := (GS.X G6.out).cell 4
  have fs := (GS.X G6.out).frozen 4
  simp only [List.getElem?_cons_zero, List.getElem?_cons_succ] at xs
  have CQ : Hid (Calls Tryz.prog 46 #[.pointer (some ⟨w.heap.size + 1, 0, none⟩), .int .i64 8] (w6.setCell ⟨gX, 4, none⟩ (.string t)) (AnsR (w6.setCell ⟨gX, 4, none⟩ (.string t)) (w.heap.size + 1) (.int .i64 (stepR (pNum 8) 0 l6 d6).1) (stepR (pNum 8) 0 l6 d6).2.1 (stepR (pNum 8) 0 l6 d6).2.2)) := rnum_any (w.heap.size + 1) l6 d6 ar6 mr6 cr6 8 (w6.setCell ⟨gX, 4, none⟩ (.string t)) (GS.R GA6.out) (by decide)
  go_wp2_with fail
  refine CQ.out.mono ?_
  clear CQ
  rintro e w7 ⟨rfl, h1, ar7, mr7, cr7, R1⟩
  obtain ⟨⟨n', l7, d7⟩, hs⟩ : ∃ z : Int × List UInt8 × Bool, z = stepR (pNum 8) 0 l6 d6 := ⟨_, rfl⟩
  obtain ⟨n, hn1, hn2⟩ := num_step 8 l6 d6
  rw [← hs] at R1 hn1 ⊢
  have RM1 := RM.out
  rw [KA] at RM1
  have RM2 := rem_step RM1 hs
  have G7 := Lib.hid (GS.call GA6.out h1 R1)
  simp only at G7 RM2 hn1 ⊢
  subst hn1
  rw [Int.toNat_natCast] at RM2
  replace RM := Lib.hid RM2
  clear hs h1 R1 xs fs kc RM1 RM2 GA6 G6 GA5 G5 GA4 G4 GS0
  go_wp2_with fail
  go_loopw [7] (fun vi wr => ∃ (i : Nat) (lr : List UInt8) (bad : Bool) (A : List (ByteArray × List UInt8)) (v : Value) (ar : Option Addr) (mr cr : Nat), i ≤ n ∧ vi = .int .i64 i ∧ Hid (GS w wr gX [.int .i64 k, .int .i64 a, .int .i64 b, .int .i64 d, .string t, v, .slice none 0 0] lr bad ar mr cr) ∧ Hid (OwnA (gX + 1) wr A v) ∧ Hid (A.length = i) ∧ Hid (Rem l bad lr (rowP pAttr (n - i) A (KR k a b d t)))) (fun vi _ => n - (RowKit.intOf vi).toNat)
  case atStart => exact ⟨0, l7, d7, [], .slice none 0 0, ar7, mr7, cr7, by omega, rfl, G7.out, ownA_nil _ _, rfl, RM.out⟩
  case round =>
    clear G7 RM
    obtain ⟨i, lr, bad, A, v, ar, mr, cr, hi, rfl, hG, hA, hP, hR⟩ := hrel
    have c0 := (GS.R hG.out).blk.cell 0
    have c1 := (GS.R hG.out).blk.cell 1
    have x5 := (GS.X hG.out).cell 5
    simp only [List.getElem?_cons_zero, List.getElem?_cons_succ] at c0 c1 x5
    by_cases hgo : i < n ∧ bad = false
    · obtain ⟨hin, hbad⟩ := hgo
      subst hbad
      have q2 : (i : Int) < (n : Int) := by omega
      have CD : Hid (Calls Tryz.prog 47 #[.pointer (some ⟨w.heap.size + 1, 0, none⟩), .int .i64 100] wr fun e w' => ∃ v, AnsR wr (w.heap.size + 1) v (stepR (pData 100) [] lr false).2.1 (stepR (pData 100) [] lr false).2.2 e w' ∧ Own w' wr.heap.size v (stepR (pData 100) [] lr false).1) := rdata_any (w.heap.size + 1) lr false ar mr cr 100 wr (GS.R hG.out) (by decide)
      have RM1 := hR.out
      rw [show n - i = (n - (i + 1)) + 1 by omega, rowP_succ, bind_attr] at RM1
      go_wp2_with fail
      refine CD.out.mono ?_
      clear CD
      rintro e w8 ⟨vd, ⟨rfl, h1, ar8, mr8, cr8, R1⟩, od⟩
      obtain ⟨⟨dt, l8, d8⟩, hs⟩ : ∃ z : List UInt8 × List UInt8 × Bool, z = stepR (pData 100) [] lr false := ⟨_, rfl⟩
      rw [← hs] at R1 od
      have RM2 := rem_text RM1 hs
      have G8 := Lib.hid (GS.call hG.out h1 R1)
      have GXX := (GS.G hG.out)
      have A8 := Lib.hid (OwnA.kept hA.out h1 (by omega))
      simp only at G8 RM2 od
      obtain ⟨s, hs0⟩ : ∃ s : ByteArray, s = ⟨dt.toArray⟩ := ⟨_, rfl⟩
      obtain ⟨aq, cq, rfl, _, _, hbq, hnq⟩ := own_byt od
      have kc := conv_byt (P := Tryz.prog) (t := 36) (e := 5) (d := 9) (w := w8) Tryz.underlying36 Tryz.underlying5 Tryz.underlying9 aq dt cq hbq hnq
      rw [← hs0] at kc RM2
      have CE : Hid (Calls Tryz.prog 47 #[.pointer (some ⟨w.heap.size + 1, 0, none⟩), .int .i64 256] w8.drew fun e w' => ∃ v, AnsR w8.drew (w.heap.size + 1) v (stepR (pData 256) [] l8 d8).2.1 (stepR (pData 256) [] l8 d8).2.2 e w' ∧ Own w' w8.drew.heap.size v (stepR (pData 256) [] l8 d8).1) := rdata_any (w.heap.size + 1) l8 d8 ar8 mr8 cr8 256 w8.drew (GS.R (GS.drew G8.out)) (by decide)
      obtain ⟨⟨dv, l9, d9⟩, hs9⟩ : ∃ z : List UInt8 × List UInt8 × Bool, z = stepR (pData 256) [] l8 d8 := ⟨_, rfl⟩
      rw [← hs9] at CE
      simp only at CE
      have RM3 := Lib.hid (rem_step RM2 hs9)
      have x5' := (GS.X G8.out).cell 5
      simp only [List.getElem?_cons_zero, List.getElem?_cons_succ] at x5'
      have GL := (GS.X G8.out).lt
      have p1 : A.length + 1 ≤ 1000000 := by rw [hP.out]; omega
      clear RM1 RM2 hs hs9 h1 R1 od hs0 hbq hnq hA hG hR c0 c1 x5
      go_wp2_with fail
      have z1 : w8.drew.cell? ⟨gX, 5, none⟩ = some v := x5'
      have GD := Lib.hid (GS.drew G8.out)
      go_region_law (first
        | (go_simp
           go_at_call 47; (with_reducible refine CE.out.mono ?_); rintro e w4 ⟨vd, ⟨rfl, h1, ar9, mr9, cr9, R9⟩, od⟩
           have G9 := Lib.hid (GS.call GD.out h1 R9)
           have A9 := Lib.hid (OwnA.kept (w := w8.drew) A8.out h1 (by omega))
           have V9 := Lib.hid (Own.low (B' := gX + 1) od GL)
           obtain ⟨a5, c5, rfl, _, _, _, _⟩ := own_byt od
           have GA9 := Lib.hid (GS.alloc G9.out (.cells #[.string s, .slice a5 dv.length c5] 95))
           have N9 : Hid (Blk (w4.alloc (.cells #[.string s, .slice a5 dv.length c5] 95)) w4.heap.size [.string s, .slice a5 dv.length c5] 95) := Blk.new w4 [.string s, .slice a5 dv.length c5] 95 _ rfl
           have AA := Lib.hid (OwnA.alloc A9.out (.cells #[.string s, .slice a5 dv.length c5] 95))
           have VV := Lib.hid (row_kept_alloc V9.out (.cells #[.string s, .slice a5 dv.length c5] 95))
           obtain ⟨us, hU, hO, hAu⟩ := AA.out
           have HU := Lib.hid hU
           have HO := Lib.hid hO
           have HAU := Lib.hid hAu
           have p2 := Nat.le_trans (Nat.succ_le_of_lt (GS.X GA9.out).lt) (Nat.le_refl _)
           have z2 := (GS.X G9.out).cell 5
           have z3 := (GS.X GA9.out).cell 5
           simp only [List.getElem?_cons_zero, List.getElem?_cons_succ] at z2 z3
           clear hU hO hAu)
        | (refine step_one (t := 23) (e := 95) rfl (.tmp 47) (.tmp 52) rfl Tryz.underlying23 infoA rfl (by decide) (gX + 1) v A.length (attC A us) (by first | (simp [Act.eval] <;> fail) | simp [Act.eval, Act.put]) HO.out w4.heap.size [.string s, .slice a5 dv.length c5] (by first | (simp [Act.eval] <;> fail) | simp [Act.eval, Act.put]) N9.out rfl (cells_oneA s (.slice a5 dv.length c5) rfl) p1 (by decide) p2 ?_; intro v5 w5 o5 g5
           have A5 := Lib.hid (ownA_snoc HU.out HO.out HAU.out VV.out o5 g5)
           obtain ⟨ao5, c6, rfl⟩ := ownA_slice A5.out
           have G5 := Lib.hid (GS.row GA9.out g5 (fun b hb => (HO.out.lt b hb).1))
           have e1 := (GS.X G5.out).cell 5
           have e2 := (GS.X G5.out).frozen 5
           simp only [List.getElem?_cons_zero, List.getElem?_cons_succ] at e1))
      all_goals
        have hL : (A ++ [(s, dv)]).length = A.length + 1 := by simp
        have GZ := Lib.hid (GS.set G5.out 5 (.slice ao5 (A ++ [(s, dv)]).length c6))
        simp only [List.set_cons_zero, List.set_cons_succ] at GZ
        have AZ := Lib.hid (OwnA.kept A5.out (grownBy_setCell w5 gX 5 (.slice ao5 (A ++ [(s, dv)]).length c6)) (Nat.lt_succ_self _))
        have LZ : Hid ((A ++ [(s, dv)]).length = i + 1) := by show _ = _; rw [hL, hP.out]
        rw [hL] at GZ AZ
        clear z1 z2 z3 e1 e2 g5 o5 h1 R9 p1 p2 od hL
        go_wp2_with fail
        go_roundw
        case rel => exact ⟨i + 1, l9, d9, A ++ [(s, dv)], _, ar9, mr9, cr9, by omega, by go_num, GZ, AZ, LZ, RM3⟩
        case measure => simp [RowKit.intOf]; omega
    · have HK : Hid (Rem l bad lr (KR k a b d t A)) := by
        show Rem _ _ _ _
        cases hbd : bad with
        | true =>
          have h := hR.out
          rw [hbd, Rem, if_pos rfl] at h
          rw [Rem, if_pos rfl]
          exact h
        | false =>
          have h := hR.out
          rw [hbd] at h
          have h00 : n - i = 0 := by
            rcases Nat.lt_or_ge i n with h0 | h0
            · exact absurd ⟨h0, hbd⟩ hgo
            · omega
          rw [h00, rowP_zero] at h
          exact h
      by_cases hin : i < n
      · have hbd : bad = true := by
          cases bad with
          | true => rfl
          | false => exact absurd ⟨hin, rfl⟩ hgo
        subst hbd
        have q2 : (i : Int) < (n : Int) := by omega
        have HE : Hid (getMeta ltB nameOk l = none) := by
          show _ = _
          have h := HK.out
          rw [Rem, if_pos rfl] at h
          rw [getMeta, whole, h]
        have CQ : Hid (Calls Tryz.prog 46 #[.pointer (some ⟨w.heap.size + 1, 0, none⟩), .int .i64 128] wr (AnsR wr (w.heap.size + 1) (.int .i64 (stepR (pNum 128) 0 lr true).1) (stepR (pNum 128) 0 lr true).2.1 (stepR (pNum 128) 0 lr true).2.2)) := rnum_any (w.heap.size + 1) lr true ar mr cr 128 wr (GS.R hG.out) (by decide)
        have e0 : stepR (pNum 128) 0 lr true = (0, lr, true) := rfl
        rw [e0] at CQ
        simp only at CQ
        clear hgo hR hA hP HK
        go_wp2_with fail
        refine CQ.out.mono ?_
        clear CQ
        rintro e w8 ⟨rfl, h1, ar8, mr8, cr8, R1⟩
        have G8 := Lib.hid (GS.call hG.out h1 R1)
        clear h1 R1 c0 c1 x5 hG
        have c1 := (GS.R G8.out).blk.cell 1
        have y0 := (GS.K G8.out).cell 0
        have y1 := (GS.K G8.out).cell 1
        have y2 := (GS.K G8.out).cell 2
        have y3 := (GS.K G8.out).cell 3
        have y4 := (GS.K G8.out).cell 4
        have y5 := (GS.K G8.out).cell 5
        have y6 := (GS.K G8.out).cell 6
        have f0 := (GS.K G8.out).frozen 0
        have f1 := (GS.K G8.out).frozen 1
        have f2 := (GS.K G8.out).frozen 2
        have f3 := (GS.K G8.out).frozen 3
        have f4 := (GS.K G8.out).frozen 4
        have f5 := (GS.K G8.out).frozen 5
        have f6 := (GS.K G8.out).frozen 6
        simp only [List.getElem?_cons_zero, List.getElem?_cons_succ] at y0 y1 y2 y3 y4 y5 y6
        simp only [List.getElem?_cons_zero, List.getElem?_cons_succ] at c1
        go_wp2_with fail
        refine wp_loop_rounds 1 ?_
        rw [rounds_succ]
        go_wp2_with fail
        exact bodyPost_ret (results_row_tmp rfl _ _ w.heap.size 26 _ _ _ rfl rfl (set_seven (GS.K G8.out) _ _ _ _ _ _ _) Tryz.underlying26 rfl size26') rfl ⟨below_set7 (GS.B G8.out) _ _ _ _ _ _ _, .inl ⟨HE.out, rfl⟩⟩
      · obtain rfl : i = n := by omega
        have CQ : Hid (Calls Tryz.prog 46 #[.pointer (some ⟨w.heap.size + 1, 0, none⟩), .int .i64 128] wr (AnsR wr (w.heap.size + 1) (.int .i64 (stepR (pNum 128) 0 lr bad).1) (stepR (pNum 128) 0 lr bad).2.1 (stepR (pNum 128) 0 lr bad).2.2)) := rnum_any (w.heap.size + 1) lr bad ar mr cr 128 wr (GS.R hG.out) (by decide)
        clear hgo hR
        go_wp2_with fail
        refine CQ.out.mono ?_
        clear CQ
        rintro e w8 ⟨rfl, h1, ar8, mr8, cr8, R1⟩
        obtain ⟨⟨q', l8, d8⟩, hs⟩ : ∃ z : Int × List UInt8 × Bool, z = stepR (pNum 128) 0 lr bad := ⟨_, rfl⟩
        obtain ⟨q, hq1, hq2⟩ := num_step 128 lr bad
        rw [← hs] at R1 hq1 ⊢
        have RM1 := HK.out
        rw [KR] at RM1
        have RM2 := rem_step RM1 hs
        have G8 := Lib.hid (GS.call hG.out h1 R1)
        have GXX := (GS.G hG.out)
        have A8 := Lib.hid (OwnA.kept hA.out h1 (by omega))
        obtain ⟨va, ca, rfl⟩ := ownA_slice hA.out
        simp only at G8 RM2 hq1 ⊢
        subst hq1
        rw [Int.toNat_natCast] at RM2
        have RM := Lib.hid RM2
        clear hs h1 R1 RM1 RM2 c0 c1 x5 hG hA HK GXX
        go_wp2_with fail
        go_loopw [9] (fun vi wr => ∃ (j : Nat) (lr : List UInt8) (bad : Bool) (P : List RefP) (v : Value) (ar : Option Addr) (mr cr : Nat), j ≤ q ∧ vi = .int .i64 j ∧ Hid (GS w wr gX [.int .i64 k, .int .i64 a, .int .i64 b, .int .i64 d, .string t, .slice va A.length ca, v] lr bad ar mr cr) ∧ Hid (OwnA (gX + 1) wr A (.slice va A.length ca)) ∧ Hid (OwnG 49 4 cellsR (gX + 1) wr P v) ∧ Hid (P.length = j) ∧ Hid (Rem l bad lr (rowP pRef (q - j) P (KF k a b d t A)))) (fun vi _ => q - (RowKit.intOf vi).toNat)
        case atStart => exact ⟨0, l8, d8, [], .slice none 0 0, ar8, mr8, cr8, by omega, rfl, G8.out, A8.out, World.ownsRow_nil _ _ _ _, rfl, RM.out⟩
        case round =>
          clear G8 A8 RM
          obtain ⟨j, lr, bad, P, v, ar, mr, cr, hj, rfl, hG, hA, hS, hP2, hR⟩ := hrel
          have c0 := (GS.R hG.out).blk.cell 0
          have c1 := (GS.R hG.out).blk.cell 1
          simp only [List.getElem?_cons_zero, List.getElem?_cons_succ] at c0 c1
          by_cases hgo : j < q ∧ bad = false
          · obtain ⟨hjq, hbad⟩ := hgo
            subst hbad
            have q2 : (j : Int) < (q : Int) := by omega
            have RM1 := hR.out
            rw [show q - j = (q - (j + 1)) + 1 by omega, rowP_succ, bind_ref] at RM1
            have GXX := (GS.G hG.out)
            have GL := (GS.X hG.out).lt
            have p1 : P.length + 1 ≤ 1000000 := by rw [hP2.out]; omega
            obtain ⟨w0, hw0⟩ : ∃ x, x = wr.alloc (.cells #[.string ⟨#[]⟩, .int .i64 0, .int .i64 0, .int .i64 0] 49) := ⟨_, rfl⟩
            obtain ⟨gx, hgx⟩ : ∃ g, g = wr.heap.size := ⟨_, rfl⟩
            have Y0 : Hid (Blk w0 gx [.string ⟨#[]⟩, .int .i64 0, .int .i64 0, .int .i64 0] 49) := by show Blk _ _ _ _; rw [hw0]; exact Blk.new wr [.string ⟨#[]⟩, .int .i64 0, .int .i64 0, .int .i64 0] 49 _ hgx
            have G0 : Hid (GS w w0 gX [.int .i64 k, .int .i64 a, .int .i64 b, .int .i64 d, .string t, .slice va A.length ca, v] lr false ar mr cr) := by show GS _ _ _ _ _ _ _ _ _; rw [hw0]; exact GS.alloc hG.out _
            have T0 : Hid (wr.grownBy w0 (some (w.heap.size + 1))) := by show World.grownBy _ _ _; rw [hw0]; exact World.grownBy_alloc wr _ _
            have GG : gX < gx := by omega
            have GE : Hid (wr.heap.size ≤ gx) := by show _ ≤ _; omega
            have HW0 := Lib.hid hw0
            have HGx := Lib.hid hgx
            have CQ : Hid (Calls Tryz.prog 46 #[.pointer (some ⟨w.heap.size + 1, 0, none⟩), .int .i64 1] w0 (AnsR w0 (w.heap.size + 1) (.int .i64 (stepR (pNum 1) 0 lr false).1) (stepR (pNum 1) 0 lr false).2.1 (stepR (pNum 1) 0 lr false).2.2)) := rnum_any (w.heap.size + 1) lr false ar mr cr 1 w0 (GS.R G0.out) (by decide)
            clear hR hw0 hgx GL
            go_wp2_with fail
            rw [← HW0.out, ← HGx.out]
            refine CQ.out.mono ?_
            clear CQ HW0 HGx c0 c1
            rintro e w8 ⟨rfl, h1, ar8, mr8, cr8, R1⟩
            obtain ⟨⟨tg, l8, d8⟩, hs⟩ : ∃ z : Int × List UInt8 × Bool, z = stepR (pNum 1) 0 lr false := ⟨_, rfl⟩
            rw [← hs] at R1 ⊢
            have RM2 := rem_step RM1 hs
            have G8 := Lib.hid (GS.call G0.out h1 R1)
            have T8 := Lib.hid (gb_then T0.out h1 (fun j hj => .inr hj))
            have Y8 := Lib.hid (blk_grown Y0.out h1 (by omega))
            simp only at G8 RM2 ⊢
            clear hs h1 R1 RM1 G0 T0 Y0
            by_cases htg : tg = 1
            · have t1 : (tg == 1) = true := by simpa using htg
              rw [if_pos htg] at RM2
              have RM := Lib.hid RM2
              clear RM2 htg
              have CQ := Lib.hid (rkey_any (w.heap.size + 1) l8 d8 ar8 mr8 cr8 w8 (GS.R G8.out))
              go_wp2_with fail
              refine CQ.out.mono ?_
              clear CQ
              rintro e w9 ⟨rfl, h1, ar9, mr9, cr9, R1⟩
              obtain ⟨⟨kk, l9, d9⟩, hs⟩ : ∃ z : ByteArray × List UInt8 × Bool, z = stepR pKey ⟨#[]⟩ l8 d8 := ⟨_, rfl⟩
              rw [← hs] at R1 ⊢
              replace RM := Lib.hid (rem_step RM.out hs)
              have G9 := Lib.hid (GS.call G8.out h1 R1)
              have T9 := Lib.hid (gb_then T8.out h1 (fun j hj => .inr hj))
              have Y9 := Lib.hid (blk_grown Y8.out h1 (by omega))
              simp only at G9 RM ⊢
              clear hs h1 R1
              have ys := Y9.out.cell 0
              have zs := Y9.out.frozen 0
              simp only [List.getElem?_cons_zero] at ys
              have GA9 := Lib.hid (GS.row G9.out (grownBy_setCell w9 gx 0 (.string kk)) (fun b hb => by injection hb with hb; omega))
              have TA9 := Lib.hid (gb_then T9.out (grownBy_setCell w9 gx 0 (.string kk)) (fun j hj => .inl (by injection hj with hj; have := GE.out; omega)))
              have YA9 := Lib.hid (Y9.out.set 0 (.string kk))
              simp only [List.set_cons_zero] at YA9
              have CQ : Hid (Calls Tryz.prog 46 #[.pointer (some ⟨w.heap.size + 1, 0, none⟩), .int .i64 32768] (w9.setCell ⟨gx, 0, none⟩ (.string kk)) (AnsR (w9.setCell ⟨gx, 0, none⟩ (.string kk)) (w.heap.size + 1) (.int .i64 (stepR (pNum 32768) 0 l9 d9).1) (stepR (pNum 32768) 0 l9 d9).2.1 (stepR (pNum 32768) 0 l9 d9).2.2)) := rnum_any (w.heap.size + 1) l9 d9 ar9 mr9 cr9 32768 (w9.setCell ⟨gx, 0, none⟩ (.string kk)) (GS.R GA9.out) (by decide)
              go_wp2_with fail
              refine CQ.out.mono ?_
              clear CQ
              rintro e w10 ⟨rfl, h1, ar10, mr10, cr10, R1⟩
              obtain ⟨⟨nn, l10, d10⟩, hs⟩ : ∃ z : Int × List UInt8 × Bool, z = stepR (pNum 32768) 0 l9 d9 := ⟨_, rfl⟩
              rw [← hs] at R1 ⊢
              replace RM := Lib.hid (rem_step RM.out hs)
              have G10 := Lib.hid (GS.call GA9.out h1 R1)
              have T10 := Lib.hid (gb_then TA9.out h1 (fun j hj => .inr hj))
              have Y10 := Lib.hid (blk_grown YA9.out h1 (by omega))
              simp only at G10 RM ⊢
              clear hs h1 R1 ys zs
              have ys := Y10.out.cell 3
              have zs := Y10.out.frozen 3
              simp only [List.getElem?_cons_zero, List.getElem?_cons_succ] at ys
              have GA10 := Lib.hid (GS.row G10.out (grownBy_setCell w10 gx 3 (.int .i64 nn)) (fun b hb => by injection hb with hb; omega))
              have TA10 := Lib.hid (gb_then T10.out (grownBy_setCell w10 gx 3 (.int .i64 nn)) (fun j hj => .inl (by injection hj with hj; have := GE.out; omega)))
              have YA10 := Lib.hid (Y10.out.set 3 (.int .i64 nn))
              simp only [List.set_cons_zero, List.set_cons_succ] at YA10
              have SO := Lib.hid (row_kept_alloc (row_kept hS.out TA10.out (by omega)) (.cells #[.string kk, .int .i64 0, .int .i64 0, .int .i64 nn] 49))
              have AO := Lib.hid (OwnA.alloc (OwnA.kept hA.out TA10.out (by omega)) (.cells #[.string kk, .int .i64 0, .int .i64 0, .int .i64 nn] 49))
              have GO := Lib.hid (GS.alloc GA10.out (.cells #[.string kk, .int .i64 0, .int .i64 0, .int .i64 nn] 49))
              have NO : Hid (Blk ((w10.setCell ⟨gx, 3, none⟩ (.int .i64 nn)).alloc (.cells #[.string kk, .int .i64 0, .int .i64 0, .int .i64 nn] 49)) w10.heap.size [.string kk, .int .i64 0, .int .i64 0, .int .i64 nn] 49) := Blk.new (w10.setCell ⟨gx, 3, none⟩ (.int .i64 nn)) [.string kk, .int .i64 0, .int .i64 0, .int .i64 nn] 49 _ (by simp)
              have kk00 := YA10.out.cell 0
              have kk10 := YA10.out.cell 1
              have kk20 := YA10.out.cell 2
              have kk30 := YA10.out.cell 3
              have x6 := (GS.X GA10.out).cell 6
              have x66 := (GS.X GO.out).cell 6
              simp only [List.getElem?_cons_zero, List.getElem?_cons_succ] at kk00 kk10 kk20 kk30 x6 x66
              have pb : gX + 1 ≤ ((w10.setCell ⟨gx, 3, none⟩ (.int .i64 nn)).alloc (.cells #[.string kk, .int .i64 0, .int .i64 0, .int .i64 nn] 49)).heap.size := (GS.X GO.out).lt
              clear hA hG
              go_wp2_with (
                at_builtin
                refine wpl_one (t := 24) (e := 49) rfl (.tmp 86) (.tmp 88) rfl Tryz.underlying24 infoR rfl (by decide) (gX + 1) v P.length (P.flatMap cellsR) rfl SO.out w10.heap.size [.string kk, .int .i64 0, .int .i64 0, .int .i64 nn] rfl NO.out rfl (cells_oneR _ _ _ _) p1 (by decide) pb ?_
                intro v5 w5 o5 g5
                have S5 := ownG_snocR (x := ⟨kk, 0, 0, nn⟩) o5
                obtain ⟨ao5, c6, rfl⟩ := ownG_slice S5
                have S6 := Lib.hid S5
                have G5 := Lib.hid (GS.row GO.out g5 (fun b hb => (SO.out.lt b hb).1))
                have A5 := Lib.hid (ownA_apart AO.out SO.out g5)
                have e1 := (GS.X G5.out).cell 6
                have e2 := (GS.X G5.out).frozen 6
                simp only [List.getElem?_cons_zero, List.getElem?_cons_succ] at e1
                clear S5 o5 g5)
              have hL : (P ++ [(⟨kk, 0, 0, nn⟩ : RefP)]).length = P.length + 1 := by simp
              have GZ := Lib.hid (GS.set G5.out 6 (.slice ao5 (P ++ [(⟨kk, 0, 0, nn⟩ : RefP)]).length c6))
              simp only [List.set_cons_zero, List.set_cons_succ] at GZ
              have AZ := Lib.hid (OwnA.kept A5.out (grownBy_setCell w5 gX 6 (.slice ao5 (P ++ [(⟨kk, 0, 0, nn⟩ : RefP)]).length c6)) (Nat.lt_succ_self _))
              have SZ := Lib.hid (ownG_set S6.out (Nat.lt_succ_self gX) (i := 6) (.slice ao5 (P ++ [(⟨kk, 0, 0, nn⟩ : RefP)]).length c6))
              have LZ : Hid ((P ++ [(⟨kk, 0, 0, nn⟩ : RefP)]).length = j + 1) := by show _ = _; rw [hL, hP2.out]
              rw [hL] at GZ AZ SZ
              refine ⟨⟨j + 1, l10, d10, P ++ [(⟨kk, 0, 0, nn⟩ : RefP)], _, ar10, mr10, cr10, by omega, by go_num, GZ, AZ, SZ, LZ, RM⟩, by simp [RowKit.intOf]; omega⟩
            · have t1 : (tg == 1) = false := by simpa using htg
              rw [if_neg htg] at RM2
              have RM := Lib.hid RM2
              clear RM2 htg
              have CQ : Hid (Calls Tryz.prog 46 #[.pointer (some ⟨w.heap.size + 1, 0, none⟩), .int .i64 512] w8 (AnsR w8 (w.heap.size + 1) (.int .i64 (stepR (pNum 512) 0 l8 d8).1) (stepR (pNum 512) 0 l8 d8).2.1 (stepR (pNum 512) 0 l8 d8).2.2)) := rnum_any (w.heap.size + 1) l8 d8 ar8 mr8 cr8 512 w8 (GS.R G8.out) (by decide)
              go_wp2_with fail
              refine CQ.out.mono ?_
              clear CQ
              rintro e w9 ⟨rfl, h1, ar9, mr9, cr9, R1⟩
              obtain ⟨⟨ll, l9, d9⟩, hs⟩ : ∃ z : Int × List UInt8 × Bool, z = stepR (pNum 512) 0 l8 d8 := ⟨_, rfl⟩
              rw [← hs] at R1 ⊢
              replace RM := Lib.hid (rem_step RM.out hs)
              have G9 := Lib.hid (GS.call G8.out h1 R1)
              have T9 := Lib.hid (gb_then T8.out h1 (fun j hj => .inr hj))
              have Y9 := Lib.hid (blk_grown Y8.out h1 (by omega))
              simp only at G9 RM ⊢
              clear hs h1 R1
              have ys := Y9.out.cell 1
              have zs := Y9.out.frozen 1
              simp only [List.getElem?_cons_zero, List.getElem?_cons_succ] at ys
              have GA9 := Lib.hid (GS.row G9.out (grownBy_setCell w9 gx 1 (.int .i64 ll)) (fun b hb => by injection hb with hb; omega))
              have TA9 := Lib.hid (gb_then T9.out (grownBy_setCell w9 gx 1 (.int .i64 ll)) (fun j hj => .inl (by injection hj with hj; have := GE.out; omega)))
              have YA9 := Lib.hid (Y9.out.set 1 (.int .i64 ll))
              simp only [List.set_cons_zero, List.set_cons_succ] at YA9
              have CQ : Hid (Calls Tryz.prog 46 #[.pointer (some ⟨w.heap.size + 1, 0, none⟩), .int .i64 32768] (w9.setCell ⟨gx, 1, none⟩ (.int .i64 ll)) (AnsR (w9.setCell ⟨gx, 1, none⟩ (.int .i64 ll)) (w.heap.size + 1) (.int .i64 (stepR (pNum 32768) 0 l9 d9).1) (stepR (pNum 32768) 0 l9 d9).2.1 (stepR (pNum 32768) 0 l9 d9).2.2)) := rnum_any (w.heap.size + 1) l9 d9 ar9 mr9 cr9 32768 (w9.setCell ⟨gx, 1, none⟩ (.int .i64 ll)) (GS.R GA9.out) (by decide)
              go_wp2_with fail
              refine CQ.out.mono ?_
              clear CQ
              rintro e w10 ⟨rfl, h1, ar10, mr10, cr10, R1⟩
              obtain ⟨⟨oo, l10, d10⟩, hs⟩ : ∃ z : Int × List UInt8 × Bool, z = stepR (pNum 32768) 0 l9 d9 := ⟨_, rfl⟩
              rw [← hs] at R1 ⊢
              replace RM := Lib.hid (rem_step RM.out hs)
              have G10 := Lib.hid (GS.call GA9.out h1 R1)
              have T10 := Lib.hid (gb_then TA9.out h1 (fun j hj => .inr hj))
              have Y10 := Lib.hid (blk_grown YA9.out h1 (by omega))
              simp only at G10 RM ⊢
              clear hs h1 R1 ys zs
              have ys := Y10.out.cell 2
              have zs := Y10.out.frozen 2
              simp only [List.getElem?_cons_zero, List.getElem?_cons_succ] at ys
              have GA10 := Lib.hid (GS.row G10.out (grownBy_setCell w10 gx 2 (.int .i64 oo)) (fun b hb => by injection hb with hb; omega))
              have TA10 := Lib.hid (gb_then T10.out (grownBy_setCell w10 gx 2 (.int .i64 oo)) (fun j hj => .inl (by injection hj with hj; have := GE.out; omega)))
              have YA10 := Lib.hid (Y10.out.set 2 (.int .i64 oo))
              simp only [List.set_cons_zero, List.set_cons_succ] at YA10
              have CQ : Hid (Calls Tryz.prog 46 #[.pointer (some ⟨w.heap.size + 1, 0, none⟩), .int .i64 32768] (w10.setCell ⟨gx, 2, none⟩ (.int .i64 oo)) (AnsR (w10.setCell ⟨gx, 2, none⟩ (.int .i64 oo)) (w.heap.size + 1) (.int .i64 (stepR (pNum 32768) 0 l10 d10).1) (stepR (pNum 32768) 0 l10 d10).2.1 (stepR (pNum 32768) 0 l10 d10).2.2)) := rnum_any (w.heap.size + 1) l10 d10 ar10 mr10 cr10 32768 (w10.setCell ⟨gx, 2, none⟩ (.int .i64 oo)) (GS.R GA10.out) (by decide)
              go_wp2_with fail
              refine CQ.out.mono ?_
              clear CQ
              rintro e w11 ⟨rfl, h1, ar11, mr11, cr11, R1⟩
              obtain ⟨⟨nn, l11, d11⟩, hs⟩ : ∃ z : Int × List UInt8 × Bool, z = stepR (pNum 32768) 0 l10 d10 := ⟨_, rfl⟩
              rw [← hs] at R1 ⊢
              replace RM := Lib.hid (rem_step RM.out hs)
              have G11 := Lib.hid (GS.call GA10.out h1 R1)
              have T11 := Lib.hid (gb_then TA10.out h1 (fun j hj => .inr hj))
              have Y11 := Lib.hid (blk_grown YA10.out h1 (by omega))
              simp only at G11 RM ⊢
              clear hs h1 R1 ys zs
              have ys := Y11.out.cell 3
              have zs := Y11.out.frozen 3
              simp only [List.getElem?_cons_zero, List.getElem?_cons_succ] at ys
              have GA11 := Lib.hid (GS.row G11.out (grownBy_setCell w11 gx 3 (.int .i64 nn)) (fun b hb => by injection hb with hb; omega))
              have TA11 := Lib.hid (gb_then T11.out (grownBy_setCell w11 gx 3 (.int .i64 nn)) (fun j hj => .inl (by injection hj with hj; have := GE.out; omega)))
              have YA11 := Lib.hid (Y11.out.set 3 (.int .i64 nn))
              simp only [List.set_cons_zero, List.set_cons_succ] at YA11
              have SO := Lib.hid (row_kept_alloc (row_kept hS.out TA11.out (by omega)) (.cells #[.string ⟨#[]⟩, .int .i64 ll, .int .i64 oo, .int .i64 nn] 49))
              have AO := Lib.hid (OwnA.alloc (OwnA.kept hA.out TA11.out (by omega)) (.cells #[.string ⟨#[]⟩, .int .i64 ll, .int .i64 oo, .int .i64 nn] 49))
              have GO := Lib.hid (GS.alloc GA11.out (.cells #[.string ⟨#[]⟩, .int .i64 ll, .int .i64 oo, .int .i64 nn] 49))
              have NO : Hid (Blk ((w11.setCell ⟨gx, 3, none⟩ (.int .i64 nn)).alloc (.cells #[.string ⟨#[]⟩, .int .i64 ll, .int .i64 oo, .int .i64 nn] 49)) w11.heap.size [.string ⟨#[]⟩, .int .i64 ll, .int .i64 oo, .int .i64 nn] 49) := Blk.new (w11.setCell ⟨gx, 3, none⟩ (.int .i64 nn)) [.string ⟨#[]⟩, .int .i64 ll, .int .i64 oo, .int .i64 nn] 49 _ (by simp)
              have kk00 := YA11.out.cell 0
              have kk10 := YA11.out.cell 1
              have kk20 := YA11.out.cell 2
              have kk30 := YA11.out.cell 3
              have x6 := (GS.X GA11.out).cell 6
              have x66 := (GS.X GO.out).cell 6
              simp only [List.getElem?_cons_zero, List.getElem?_cons_succ] at kk00 kk10 kk20 kk30 x6 x66
              have pb : gX + 1 ≤ ((w11.setCell ⟨gx, 3, none⟩ (.int .i64 nn)).alloc (.cells #[.string ⟨#[]⟩, .int .i64 ll, .int .i64 oo, .int .i64 nn] 49)).heap.size := (GS.X GO.out).lt
              clear hA hG
              go_wp2_with (
                at_builtin
                refine wpl_one (t := 24) (e := 49) rfl (.tmp 86) (.tmp 88) rfl Tryz.underlying24 infoR rfl (by decide) (gX + 1) v P.length (P.flatMap cellsR) rfl SO.out w11.heap.size [.string ⟨#[]⟩, .int .i64 ll, .int .i64 oo, .int .i64 nn] rfl NO.out rfl (cells_oneR _ _ _ _) p1 (by decide) pb ?_
                intro v5 w5 o5 g5
                have S5 := ownG_snocR (x := ⟨noKey, ll, oo, nn⟩) o5
                obtain ⟨ao5, c6, rfl⟩ := ownG_slice S5
                have S6 := Lib.hid S5
                have G5 := Lib.hid (GS.row GO.out g5 (fun b hb => (SO.out.lt b hb).1))
                have A5 := Lib.hid (ownA_apart AO.out SO.out g5)
                have e1 := (GS.X G5.out).cell 6
                have e2 := (GS.X G5.out).frozen 6
                simp only [List.getElem?_cons_zero, List.getElem?_cons_succ] at e1
                clear S5 o5 g5)
              have hL : (P ++ [(⟨noKey, ll, oo, nn⟩ : RefP)]).length = P.length + 1 := by simp
              have GZ := Lib.hid (GS.set G5.out 6 (.slice ao5 (P ++ [(⟨noKey, ll, oo, nn⟩ : RefP)]).length c6))
              simp only [List.set_cons_zero, List.set_cons_succ] at GZ
              have AZ := Lib.hid (OwnA.kept A5.out (grownBy_setCell w5 gX 6 (.slice ao5 (P ++ [(⟨noKey, ll, oo, nn⟩ : RefP)]).length c6)) (Nat.lt_succ_self _))
              have SZ := Lib.hid (ownG_set S6.out (Nat.lt_succ_self gX) (i := 6) (.slice ao5 (P ++ [(⟨noKey, ll, oo, nn⟩ : RefP)]).length c6))
              have LZ : Hid ((P ++ [(⟨noKey, ll, oo, nn⟩ : RefP)]).length = j + 1) := by show _ = _; rw [hL, hP2.out]
              rw [hL] at GZ AZ SZ
              refine ⟨⟨j + 1, l11, d11, P ++ [(⟨noKey, ll, oo, nn⟩ : RefP)], _, ar11, mr11, cr11, by omega, by go_num, GZ, AZ, SZ, LZ, RM⟩, by simp [RowKit.intOf]; omega⟩
          · by_cases hbd : bad = true
            · subst hbd
              have HE : Hid (getMeta ltB nameOk l = none) := by
                show _ = _
                have h := hR.out
                rw [Rem, if_pos rfl] at h
                rw [getMeta, whole, h]
              have y0 := (GS.K hG.out).cell 0
              have y1 := (GS.K hG.out).cell 1
              have y2 := (GS.K hG.out).cell 2
              have y3 := (GS.K hG.out).cell 3
              have y4 := (GS.K hG.out).cell 4
              have y5 := (GS.K hG.out).cell 5
              have y6 := (GS.K hG.out).cell 6
              have f0 := (GS.K hG.out).frozen 0
              have f1 := (GS.K hG.out).frozen 1
              have f2 := (GS.K hG.out).frozen 2
              have f3 := (GS.K hG.out).frozen 3
              have f4 := (GS.K hG.out).frozen 4
              have f5 := (GS.K hG.out).frozen 5
              have f6 := (GS.K hG.out).frozen 6
              simp only [List.getElem?_cons_zero, List.getElem?_cons_succ] at y0 y1 y2 y3 y4 y5 y6
              clear hgo hR hA hS hP2
              by_cases hjq : j < q
              · have q2 : (j : Int) < (q : Int) := by omega
                go_wp2_with fail
                exact bodyPost_ret (results_row_tmp rfl _ _ w.heap.size 26 _ _ _ rfl rfl (set_seven (GS.K hG.out) _ _ _ _ _ _ _) Tryz.underlying26 rfl size26') rfl ⟨below_set7 (GS.B hG.out) _ _ _ _ _ _ _, .inl ⟨HE.out, rfl⟩⟩
              · obtain rfl : j = q := by omega
                go_wp2_with fail
                exact bodyPost_ret (results_row_tmp rfl _ _ w.heap.size 26 _ _ _ rfl rfl (set_seven (GS.K hG.out) _ _ _ _ _ _ _) Tryz.underlying26 rfl size26') rfl ⟨below_set7 (GS.B hG.out) _ _ _ _ _ _ _, .inl ⟨HE.out, rfl⟩⟩
            · have hbf : bad = false := by simpa using hbd
              subst hbf
              obtain rfl : j = q := by
                rcases Nat.lt_or_ge j q with h0 | h0
                · exact absurd ⟨h0, rfl⟩ hgo
                · omega
              have HR : Hid (pMeta l = some (⟨k, a, b, d, t, A, P⟩, lr)) := by
                show _ = _
                have h := hR.out
                rw [Rem, if_neg (by decide), show j - j = 0 by omega, rowP_zero, KF] at h
                exact h
              have MR := ((law_meta l _ lr).1 HR.out).1
              obtain ⟨_, _, _, _, mT, ⟨_, mA⟩, _, mR⟩ := MR
              simp only at mT mA mR
              obtain ⟨av, ac, hae, ha1, ha2, _, ha3⟩ := ownA_arw hA.out (fun z hz => by have := (mA z hz).1; rw [Array.length_toList] at this; show z.1.data.size ≤ _; omega)
              obtain ⟨rv, rc, rfl, hr1, hr2, _, hr3⟩ := ownG_rrw hS.out (fun z hz => by
                have h1 := (mR z hz).1
                rcases h1 with ⟨h2, _⟩ | ⟨h2, _⟩
                · have := key_size _ h2; omega
                · rw [h2]; decide)
              injection hae with e1 e2 e3
              subst e1
              subst e3
              have hts : t.size ≤ 9223372036854775807 := by have e : t.data.toList.length = t.size := Array.length_toList; omega
              have hAl := hA.out
              by_cases hm : 0 < mr
              · have t0 : decide (0 < mr) = true := by simpa using hm
                have t1 : decide ((0 : Int) < (mr : Int)) = true := by simp; omega
                have hne : lr ≠ [] := fun h => by have := (GS.R hG.out).len; rw [h] at this; simp at this; omega
                have HE : Hid (getMeta ltB nameOk l = none) := by
                  show _ = _
                  rw [getMeta, whole, HR.out]
                  simp only
                  rw [if_neg (fun h => hne h.1)]
                have y0 := (GS.K hG.out).cell 0
                have y1 := (GS.K hG.out).cell 1
                have y2 := (GS.K hG.out).cell 2
                have y3 := (GS.K hG.out).cell 3
                have y4 := (GS.K hG.out).cell 4
                have y5 := (GS.K hG.out).cell 5
                have y6 := (GS.K hG.out).cell 6
                have f0 := (GS.K hG.out).frozen 0
                have f1 := (GS.K hG.out).frozen 1
                have f2 := (GS.K hG.out).frozen 2
                have f3 := (GS.K hG.out).frozen 3
                have f4 := (GS.K hG.out).frozen 4
                have f5 := (GS.K hG.out).frozen 5
                have f6 := (GS.K hG.out).frozen 6
                simp only [List.getElem?_cons_zero, List.getElem?_cons_succ] at y0 y1 y2 y3 y4 y5 y6
                clear hgo hR hm hne mT mA mR ha1 ha2 ha3 hr1 hr2 hr3 e2 hts hAl hbd
                go_wp2_with fail
                exact bodyPost_ret (results_row_tmp rfl _ _ w.heap.size 26 _ _ _ rfl rfl (set_seven (GS.K hG.out) _ _ _ _ _ _ _) Tryz.underlying26 rfl size26') rfl ⟨below_set7 (GS.B hG.out) _ _ _ _ _ _ _, .inl ⟨HE.out, rfl⟩⟩
              · have hm0 : mr = 0 := by omega
                subst hm0
                have hnil : lr = [] := List.eq_nil_of_length_eq_zero (GS.R hG.out).len
                have HNIL := Lib.hid hnil
                have RO := Lib.hid (metaok_any k a b d t va rv A.length ca P.length rc A P wr hts ha3 rfl ha1 ha2 hr3 rfl hr1 hr2)
                have x0 := (GS.X hG.out).cell 0
                have x1 := (GS.X hG.out).cell 1
                have x2 := (GS.X hG.out).cell 2
                have x3 := (GS.X hG.out).cell 3
                have x4 := (GS.X hG.out).cell 4
                have x5 := (GS.X hG.out).cell 5
                have x6 := (GS.X hG.out).cell 6
                simp only [List.getElem?_cons_zero, List.getElem?_cons_succ] at x0 x1 x2 x3 x4 x5 x6
                clear hgo hR hm mT mA mR ha1 ha2 ha3 hr1 hr2 hr3 e2 hts hAl hbd hnil
                go_wp2_with fail
                refine RO.out.mono ?_
                clear RO
                rintro e w9 ⟨⟨bq, rfl, hbb⟩, hb9⟩
                have G9 := Lib.hid (GS.low hG.out hb9)
                have A9 := Lib.hid (OwnA.below hA.out hb9)
                have S9 := Lib.hid (ownG_below hS.out hb9)
                have HBB := Lib.hid hbb
                have GXX := (GS.G hG.out)
                clear hb9 hbb c0 c1 x0 x1 x2 x3 x4 x5 x6 hG hA hS
                have y0 := (GS.K G9.out).cell 0
                have y1 := (GS.K G9.out).cell 1
                have y2 := (GS.K G9.out).cell 2
                have y3 := (GS.K G9.out).cell 3
                have y4 := (GS.K G9.out).cell 4
                have y5 := (GS.K G9.out).cell 5
                have y6 := (GS.K G9.out).cell 6
                have f0 := (GS.K G9.out).frozen 0
                have f1 := (GS.K G9.out).frozen 1
                have f2 := (GS.K G9.out).frozen 2
                have f3 := (GS.K G9.out).frozen 3
                have f4 := (GS.K G9.out).frozen 4
                have f5 := (GS.K G9.out).frozen 5
                have f6 := (GS.K G9.out).frozen 6
                simp only [List.getElem?_cons_zero, List.getElem?_cons_succ] at y0 y1 y2 y3 y4 y5 y6
                have x0 := (GS.X G9.out).cell 0
                have x1 := (GS.X G9.out).cell 1
                have x2 := (GS.X G9.out).cell 2
                have x3 := (GS.X G9.out).cell 3
                have x4 := (GS.X G9.out).cell 4
                have x5 := (GS.X G9.out).cell 5
                have x6 := (GS.X G9.out).cell 6
                simp only [List.getElem?_cons_zero, List.getElem?_cons_succ] at x0 x1 x2 x3 x4 x5 x6
                cases bq with
                | false =>
                  have HE : Hid (getMeta ltB nameOk l = none) := by
                    show _ = _
                    rw [getMeta, whole, HR.out]
                    simp only
                    rw [if_neg (fun h => by have := HBB.out.2 h.2; cases this)]
                  go_wp2_with fail
                  exact bodyPost_ret (results_row_tmp rfl _ _ w.heap.size 26 _ _ _ rfl rfl (set_seven (GS.K G9.out) _ _ _ _ _ _ _) Tryz.underlying26 rfl size26') rfl ⟨below_set7 (GS.B G9.out) _ _ _ _ _ _ _, .inl ⟨HE.out, rfl⟩⟩
                | true =>
                  have HE : Hid (getMeta ltB nameOk l = some ⟨k, a, b, d, t, A, P⟩) := by
                    show _ = _
                    rw [getMeta, whole, HR.out]
                    simp only
                    rw [if_pos ⟨HNIL.out, HBB.out.1 rfl⟩]
                  have gl : w.heap.size < gX + 1 := by omega
                  have AZ := OwnA.low (seven_A A9.out gl (.int .i64 k) (.int .i64 a) (.int .i64 b) (.int .i64 d) (.string t) (.slice va A.length ca) (.slice rv P.length rc)) (Nat.le_of_lt gl)
                  have SZ := OwnG.low (seven_R S9.out gl (.int .i64 k) (.int .i64 a) (.int .i64 b) (.int .i64 d) (.string t) (.slice va A.length ca) (.slice rv P.length rc)) (Nat.le_of_lt gl)
                  go_wp2_with fail
                  exact bodyPost_ret (results_row_tmp rfl _ _ w.heap.size 26 _ _ _ rfl rfl (set_seven (GS.K G9.out) _ _ _ _ _ _ _) Tryz.underlying26 rfl size26') rfl ⟨below_set7 (GS.B G9.out) _ _ _ _ _ _ _, .inr ⟨⟨k, a, b, d, t, A, P⟩, _, _, HE.out, rfl, AZ, SZ⟩⟩
end Go.Proofs.YtpjgkboafmebbaaGreatDoor.Sh
