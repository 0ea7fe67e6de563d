/-
  The contract of the statements' own heads: it returns true. Condition: the library's variable errors.errorType is as its text lays it.
-/
import Derived.Test.YtpjgkboafmebbaaGreatDoorOn
namespace Go.Proofs.YtpjgkboafmebbaaGreatDoor.Sh
open Go.RowKit Go.Lib Lb

theorem pr_x : pRoot [3, 0, 0] = some (⟨3, []⟩, [0]) := by kernel_rfl
theorem v_name : nameOk ⟨#[97]⟩ := by
  unfold nameOk
  decide +kernel
theorem v_rootL : rootL ⟨3, []⟩ = [3, 0] := by decide +kernel
theorem v_listL : (listL ⟨false, [⟨#[97]⟩], [0]⟩).length = 5 := by decide +kernel
theorem v_pageL : (pageL ⟨[], []⟩).length = 1 := by decide +kernel
theorem beq_dec (l m : List UInt8) : decide (l = m) = (l == m) := by by_cases h : l = m <;> simp [h]
/-- Same -/
theorem same_any (ao bo : Option Addr) (l m : List UInt8) (c d : Nat) (w : World) (h1 : Byt w ao l) (h2 : Byt w bo m) (n1 : ao = none → c = 0) (n2 : bo = none → d = 0) :
    Calls Tryz.prog 18 #[.slice ao l.length c, .slice bo m.length d] w fun e w' => e = .returned (.bool (decide (l = m))) ∧ w = w' := by
  have k1 := conv_byt (P := Tryz.prog) Tryz.underlying36 Tryz.underlying5 Tryz.underlying9 ao l c h1 n1
  have k2 := conv_byt (P := Tryz.prog) Tryz.underlying36 Tryz.underlying5 Tryz.underlying9 bo m d h2 n2
  rw [beq_dec]
  clear h1 h2
  go_enter Tryz.func18, Tryz.ntmps18
  go_wp2_with fail
  go_ret
  exact ⟨rfl, rfl⟩
theorem okRoot3 : OkRoot ⟨3, []⟩ := ⟨by unfold within; decide, by simp, fun k hk => by simp at hk⟩
theorem okMetaH : OkMeta ltB nameOk ⟨3, 511, 1, 0, ⟨#[97]⟩, [], []⟩ := (okMeta_iff _ _ _ _ _ _ _).2 ⟨by unfold within; omega, by unfold within; omega, by unfold within; omega, by unfold within; omega, by unfold TargetOk; rw [if_pos rfl]; decide, ⟨by simp, fun a h => by simp at h, fun a h => by simp at h, List.Pairwise.nil⟩, ⟨by simp, fun _ => rfl, fun a h => by simp at h, rfl⟩⟩
theorem okMeta0 : ¬ OkMeta ltB nameOk ⟨0, 0, 0, 0, ⟨#[]⟩, [], []⟩ := fun h => by have := h.kind; unfold within at this; simp only at this; omega
theorem okListH : OkList ltB nameOk ⟨false, [⟨#[97]⟩], [0]⟩ := ⟨by simp, fun s h => by simp only [List.mem_singleton] at h; rw [h]; exact v_name, List.pairwise_singleton _ _, rfl, fun n h => by simp only [List.mem_singleton] at h; rw [h]; unfold within; omega, fun h => by cases h⟩
theorem okPage0 : OkPage ⟨[], []⟩ := ⟨by simp, rfl, fun n h => by simp at h, List.Pairwise.nil, fun n h => by simp at h⟩
theorem got1 : getRoot [3, 0] = some ⟨3, []⟩ := (getRoot_iff _ _).2 ⟨okRoot3, v_rootL⟩
theorem got2 : getRoot [3, 0, 0] = none := by
  rw [getRoot, whole_some pr_x, if_neg (fun h => by cases h.1)]
theorem got3 : getMeta ltB nameOk (metaL ⟨3, 511, 1, 0, ⟨#[97]⟩, [], []⟩) = some ⟨3, 511, 1, 0, ⟨#[97]⟩, [], []⟩ := (getMeta_iff ltB nameOk nameOk_len _ _).2 ⟨okMetaH, rfl⟩
theorem v_metaNe : metaL ⟨3, 511, 1, 0, ⟨#[97]⟩, [], []⟩ ≠ [] := by decide +kernel
theorem zrw_one (w : World) (n : Int) : Zrw (w.alloc (.cells #[.int .i64 n] 3)) (some ⟨w.heap.size, 0, none⟩) [n] := fun _ => by
  refine ⟨w.heap.size, 0, rfl, by simp, fun j hj => ?_⟩
  obtain rfl : j = 0 := by simpa using hj
  exact cell_new w #[.int .i64 n] 0 _ rfl rfl
theorem byt_far {w : World} {ao : Option Addr} {l : List UInt8} (h : Byt w ao l) (hl : l ≠ []) : ∀ a, ao = some a → a.block < w.heap.size := fun a ha => by
  obtain ⟨b, o, h1, h2, _⟩ := h hl
  rw [h1] at ha
  injection ha with ha
  rw [← ha]
  exact h2
/-- what is written, in short -/
theorem putR_ok {w : World} {ok : Prop} {l : List UInt8} {e : Ending} {w' : World} (h : PutR w ok l e w') (hok : ok) : Below w.heap.size w w' ∧ ∃ a c, e = .returned (.tuple #[.slice a l.length c, .int .i64 0]) ∧ l.length ≤ c ∧ c ≤ 9223372036854775807 ∧ Byt w' a l ∧ (a = none → c = 0) := by
  obtain ⟨hb, ⟨_, v, rfl, ho⟩ | ⟨hn, _⟩⟩ := h
  · obtain ⟨a, c, rfl, h1, h2, h3, h4⟩ := own_byt ho
    exact ⟨hb, a, c, rfl, h1, h2, h3, h4⟩
  · exact absurd hok hn
theorem putR_no {w : World} {ok : Prop} {l : List UInt8} {e : Ending} {w' : World} (h : PutR w ok l e w') (hok : ¬ ok) : Below w.heap.size w w' ∧ e = .returned (.tuple #[.slice none 0 0, .int .i64 80]) := by
  obtain ⟨hb, ⟨hn, _⟩ | ⟨_, rfl⟩⟩ := h
  · exact absurd hn hok
  · exact ⟨hb, rfl⟩
theorem getR_ok {α : Type} {w : World} {zero : Value} {V : World → α → Value → Prop} {o : Option α} {x : α} {e : Ending} {w' : World} (h : GetR w zero V o e w') (ho : o = some x) : Below w.heap.size w w' ∧ ∃ v, e = .returned (.tuple #[v, .int .i64 0]) ∧ V w' x v := by
  obtain ⟨hb, ⟨hn, _⟩ | ⟨y, v, hy, rfl, hv⟩⟩ := h
  · rw [ho] at hn; cases hn
  · rw [ho] at hy
    injection hy with hy
    subst hy
    exact ⟨hb, v, rfl, hv⟩
theorem getR_no {α : Type} {w : World} {zero : Value} {V : World → α → Value → Prop} {o : Option α} {e : Ending} {w' : World} (h : GetR w zero V o e w') (ho : o = none) : Below w.heap.size w w' ∧ e = .returned (.tuple #[zero, .int .i64 80]) := by
  obtain ⟨hb, ⟨_, rfl⟩ | ⟨y, v, hy, _⟩⟩ := h
  · exact ⟨hb, rfl⟩
  · rw [ho] at hy; cases hy
theorem byt_row {w w' : World} {ao : Option Addr} {l : List UInt8} {k : Option Nat} (h : Byt w ao l) (hg : w.grownBy w' k) (hk : ∀ a, ao = some a → k ≠ some a.block) : Byt w' ao l := fun hne => by
  obtain ⟨b, o, h1, h2, h3⟩ := h hne
  exact ⟨b, o, h1, Nat.lt_of_lt_of_le h2 hg.size, fun j hj => hg.cell (h3 j hj) (fun e => hk _ h1 e.symm)⟩
theorem byt_row2 {w w' : World} {b o k : Nat} {l : List UInt8} (h : Byt w (some ⟨b, o, none⟩) l) (hg : w.grownBy w' (some k)) (hk : b < k) : Byt w' (some ⟨b, o, none⟩) l :=
  byt_row h hg (fun a ha e => by
    injection ha with ha
    rw [← ha] at e
    have e2 : k = b := Option.some.inj e
    omega)
set_option maxHeartbeats 4000000 in
set_option maxRecDepth 100000 in
theorem heads_any (w : World) (he : ErrT w) : Calls Tryz.prog 14 #[] w fun e w' => e = .returned (.bool true) ∧ Below w.heap.size w w' := by
  have C1 := Lib.hid (oputroot_any 3 none 0 0 [] w (srw_nil _ _) rfl (Nat.le_refl _) (by omega) (fun s h => by simp at h))
  have ER := Lib.hid he
  clear he
  go_enter Tryz.func14, Tryz.ntmps14
  go_wp2_with fail
  refine C1.out.mono ?_
  clear C1
  intro e w1 h1
  obtain ⟨hb1, a1, c1, rfl, p1, p2, p3, p4⟩ := putR_ok h1 okRoot3
  rw [v_rootL] at p1 p3 ⊢
  obtain ⟨b1, o1, rfl, q1, q2⟩ := p3 (by simp)
  clear q1 q2
  simp only [List.length_cons, List.length_nil] at p1 ⊢
  clear p4
  have B1 := Lib.hid hb1
  have Y1 := Lib.hid p3
  have F1 := byt_far p3 (by simp)
  have C2 := Lib.hid (oget_root (some ⟨b1, o1, none⟩) 2 c1 [3, 0] w1 p3 (fun h => by cases h) rfl p1 p2 (by omega) F1 (ER.out.below hb1))
  clear hb1 h1 p3 F1
  go_wp2_with fail
  refine C2.out.mono ?_
  clear C2
  intro e w2 h2
  obtain ⟨hb2, v, rfl, u, rfl, hu⟩ := getR_ok h2 got1
  obtain ⟨a2, c2, rfl⟩ := ownG_slice hu
  have B2 := Lib.hid (below_chain B1.out hb2)
  have Y2 := Lib.hid (Y1.out.below hb2)
  clear hb2 h2 hu B1 Y1
  simp only [List.length_nil]
  obtain ⟨w3, hw3⟩ : ∃ w3, w3 = w2.alloc (.cells #[.int .i64 3, .slice a2 0 c2] 35) := ⟨_, rfl⟩
  have b23 : Below w2.heap.size w2 w3 := by rw [hw3]; exact (Below.refl _ w2).alloc (Nat.le_refl _) _
  have B3 := Lib.hid (below_chain B2.out b23)
  have Y3 := Lib.hid (Y2.out.below b23)
  have KR : Hid (Blk w3 w2.heap.size [.int .i64 3, .slice a2 0 c2] 35) := by show Blk _ _ _ _; rw [hw3]; exact Blk.new w2 [.int .i64 3, .slice a2 0 c2] 35 _ rfl
  have HW3 := Lib.hid hw3
  have s3 : w3.heap.size = w2.heap.size + 1 := by rw [hw3]; simp
  have o0 : Own (w3.alloc (.cells #[] 5)) w3.heap.size (.slice (some ⟨w3.heap.size, 0, none⟩) 0 0) [] := own_lit w3 [] w3.heap.size (Nat.le_refl _) (by simp)
  have y0 : Byt (w3.alloc (.cells #[] 5)) (some ⟨b1, o1, none⟩) [3, 0] := Y3.out.below ((Below.refl _ w3).alloc (Nat.le_refl _) _)
  have k0 : Blk (w3.alloc (.cells #[] 5)) w2.heap.size [.int .i64 3, .slice a2 0 c2] 35 := KR.out.alloc _
  have b0 : Below w.heap.size w (w3.alloc (.cells #[] 5)) := B3.out.alloc B3.out.size _
  have F2 := Lib.hid (byt_far Y2.out (by simp) _ rfl)
  rw [s3] at o0
  rw [hw3] at o0 y0 k0 b0
  have O0 := Lib.hid o0
  have Y0 := Lib.hid y0
  have K0 := Lib.hid k0
  have B0 := Lib.hid b0
  have HM2 : Hid (([3, 0] : List UInt8).length = 2) := rfl
  have HM1 : Hid (([0] : List UInt8).length = 1) := rfl
  have z0 : (([] : List UInt8)).length + 2 ≤ 140737488355328 := by decide
  have z1 : (([] ++ [3, 0] : List UInt8)).length + 1 ≤ 140737488355328 := by decide
  have SB0 : w2.heap.size + 1 ≤ ((w2.alloc (.cells #[.int .i64 3, .slice a2 0 c2] 35)).alloc (.cells #[] 5)).heap.size := by simp
  have S2 := Lib.hid B2.out.size
  clear b23 hw3 B2 Y2 Y3 KR B3 o0 y0 k0 b0 s3 HW3
  go_wp2_with (first
    | (at_builtin; refine wpl_app_len (t := 36) (e := 5) rfl (.tmp 28) (.tmp 29) rfl Tryz.underlying36 info5 (w2.heap.size + 1) _ [] [3, 0] rfl O0.out (some ⟨b1, o1, none⟩) 2 c1 rfl Y0.out (fun h => by cases h) HM2 z0 SB0 ?_; intro v4 w4 o4 g4
       have g4 : World.grownBy _ w4 (some (w2.heap.size + 1)) := g4
       have O4 : Hid (Own w4 (w2.heap.size + 1) v4 ([] ++ [3, 0])) := Lib.hid o4
       have B4 : Hid (Below w.heap.size w w4) := Lib.hid (B0.out.grown g4 B0.out.size (fun k hk => by injection hk with hk; have := S2.out; omega))
       have K4 := Lib.hid (blk_row K0.out g4 (fun e => by injection e with e; omega))
       have Y4 := Lib.hid (byt_row2 Y0.out g4 (Nat.lt_succ_of_lt F2.out))
       have SB4 : w2.heap.size + 1 ≤ (w4.alloc (.cells #[.int .u8 0] 5)).heap.size := by have := K4.out.lt; simp; omega
       have SK4 : w2.heap.size < w4.heap.size := K4.out.lt
       clear o4 g4 O0 Y0 K0 B0)
    | (at_builtin; refine wpl_app_len (t := 36) (e := 5) rfl (.tmp 30) (.tmp 31) rfl Tryz.underlying36 info5 (w2.heap.size + 1) v4 ([] ++ [3, 0]) [0] rfl (World.ownsRow.alloc O4.out _) (some ⟨w4.heap.size, 0, none⟩) 1 1 rfl (byt_new w4 0 0 rfl) (fun h => by cases h) HM1 z1 SB4 ?_; intro v5 w5 o5 g5))
  have g5 : World.grownBy _ w5 v4.ownBlock := g5
  have B5 := Lib.hid ((below_alloc B4.out _).grown g5 (below_alloc B4.out _).size (fun k hk => by have := (O4.out.lt k hk).1; have := S2.out; omega))
  have K5 := Lib.hid (blk_row (K4.out.alloc _) g5 (fun e => by have := (O4.out.lt _ e.symm).1; omega))
  have Y5 := Lib.hid (byt_row (Y4.out.below ((Below.refl _ w4).alloc (Nat.le_refl _) _)) g5 (fun a ha e => by
    injection ha with ha
    rw [← ha] at e
    have h1 := (O4.out.lt _ e).1
    have h2 := F2.out
    simp only at h1 h2
    omega))
  have o5 : Own w5 (w2.heap.size + 1) v5 [3, 0, 0] := o5
  obtain ⟨a5, c5, rfl, p51, p52, p53, p54⟩ := own_byt o5
  simp only [List.length_cons, List.length_nil] at p51 ⊢
  have C3 := Lib.hid (oget_root a5 3 c5 [3, 0, 0] w5 p53 p54 rfl p51 p52 (by omega) (byt_far p53 (by simp)) (ER.out.below B5.out))
  clear p54 p53 p52 p51 o5 g5 O4 B4 K4 Y4 SB4 SK4 HM1 HM2 z0 z1 SB0
  refine C3.out.mono ?_
  clear C3
  intro e w6 h6
  obtain ⟨hb6, rfl⟩ := getR_no h6 got2
  have B6 := Lib.hid (below_chain B5.out hb6)
  have K6 := Lib.hid (K5.out.below hb6 K5.out.lt)
  have Y6 := Lib.hid (Y5.out.below hb6)
  clear hb6 h6 B5 K5 Y5
  obtain ⟨w7, hw7⟩ : ∃ w7, w7 = w6.alloc (.cells #[.int .i64 0, .slice none 0 0] 35) := ⟨_, rfl⟩
  have b67 : Below w6.heap.size w6 w7 := by rw [hw7]; exact (Below.refl _ w6).alloc (Nat.le_refl _) _
  have B7 := Lib.hid (below_chain B6.out b67)
  have K7 := Lib.hid (K6.out.below b67 K6.out.lt)
  have Y7 := Lib.hid (Y6.out.below b67)
  have C4 := Lib.hid (oputmeta_any 3 511 1 0 ⟨#[97]⟩ none none 0 0 0 0 [] [] w7 (by decide) (fun h => absurd rfl h) rfl (Nat.le_refl _) (by omega) (fun h => absurd rfl h) rfl (Nat.le_refl _) (by omega))
  rw [hw7] at B7 K7 Y7 C4
  clear b67 hw7 B6 K6 Y6
  go_wp2_with fail
  refine C4.out.mono ?_
  clear C4
  intro e w8 h8
  obtain ⟨hb8, a8, c8, rfl, p81, p82, p83, p84⟩ := putR_ok h8 okMetaH
  have B8 := Lib.hid (below_chain B7.out hb8)
  have K8 := Lib.hid (K7.out.below hb8 K7.out.lt)
  have Y8 := Lib.hid (Y7.out.below hb8)
  have C5 := Lib.hid (oget_meta a8 _ c8 _ w8 p83 p84 rfl p81 p82 (by decide +kernel) (byt_far p83 v_metaNe) (ER.out.below B8.out))
  clear hb8 h8 B7 K7 Y7 p81 p82 p83 p84
  generalize (metaL ⟨3, 511, 1, 0, ⟨#[97]⟩, [], []⟩).length = m8 at *
  go_wp2_with fail
  refine C5.out.mono ?_
  clear C5
  intro e w9 h9
  obtain ⟨hb9, v9, rfl, u9, t9, rfl, hu9, ht9⟩ := getR_ok h9 got3
  have B9 := Lib.hid (below_chain B8.out hb9)
  have K9 := Lib.hid (K8.out.below hb9 K8.out.lt)
  have Y9 := Lib.hid (Y8.out.below hb9)
  clear hb9 h9 B8 K8 Y8
  obtain ⟨au, cu, rfl⟩ := ownA_slice hu9
  obtain ⟨at9, ct, rfl⟩ := ownG_slice ht9
  clear hu9 ht9
  simp only [List.length_nil]
  obtain ⟨w10, hw10⟩ : ∃ w10, w10 = w9.alloc (.cells #[.int .i64 3, .int .i64 511, .int .i64 1, .int .i64 0, .string ⟨#[97]⟩, .slice au 0 cu, .slice at9 0 ct] 26) := ⟨_, rfl⟩
  have b10 : Below w9.heap.size w9 w10 := by rw [hw10]; exact (Below.refl _ w9).alloc (Nat.le_refl _) _
  have B10 := Lib.hid (below_chain B9.out b10)
  have K10 := Lib.hid (K9.out.below b10 K9.out.lt)
  have Y10 := Lib.hid (Y9.out.below b10)
  have M10 : Hid (Blk w10 w9.heap.size [.int .i64 3, .int .i64 511, .int .i64 1, .int .i64 0, .string ⟨#[97]⟩, .slice au 0 cu, .slice at9 0 ct] 26) := by show Blk _ _ _ _; rw [hw10]; exact Blk.new w9 [.int .i64 3, .int .i64 511, .int .i64 1, .int .i64 0, .string ⟨#[97]⟩, .slice au 0 cu, .slice at9 0 ct] 26 _ rfl
  have C6 := Lib.hid (oputmeta_any 0 0 0 0 ⟨#[]⟩ none none 0 0 0 0 [] [] w10 (by decide) (fun h => absurd rfl h) rfl (Nat.le_refl _) (by omega) (fun h => absurd rfl h) rfl (Nat.le_refl _) (by omega))
  rw [hw10] at B10 K10 Y10 M10 C6
  clear b10 hw10 B9 K9 Y9
  go_wp2_with fail
  refine C6.out.mono ?_
  clear C6
  intro e w11 h11
  obtain ⟨hb11, rfl⟩ := putR_no h11 okMeta0
  have B11 := Lib.hid (below_chain B10.out hb11)
  have K11 := Lib.hid (K10.out.below hb11 K10.out.lt)
  have Y11 := Lib.hid (Y10.out.below hb11)
  have M11 := Lib.hid (M10.out.below hb11 M10.out.lt)
  clear hb11 h11 B10 K10 Y10 M10
  obtain ⟨w12, hw12⟩ : ∃ w12, w12 = w11.alloc (.cells #[.string ⟨#[97]⟩] 9) := ⟨_, rfl⟩
  obtain ⟨w13, hw13⟩ : ∃ w13, w13 = w12.alloc (.cells #[.int .i64 0] 3) := ⟨_, rfl⟩
  have s12 : w12.heap.size = w11.heap.size + 1 := by rw [hw12]; simp
  have b12 : Below w11.heap.size w11 w12 := by rw [hw12]; exact (Below.refl _ w11).alloc (Nat.le_refl _) _
  have b23 : Below w12.heap.size w12 w13 := by rw [hw13]; exact (Below.refl _ w12).alloc (Nat.le_refl _) _
  have b13 := below_chain b12 b23
  have z12 : Srw w12 (some ⟨w11.heap.size, 0, none⟩) [⟨#[97]⟩] := by rw [hw12]; exact srw_one9 w11 _
  have z13 : Zrw w13 (some ⟨w12.heap.size, 0, none⟩) [0] := by rw [hw13]; exact zrw_one w12 0
  have B13 := Lib.hid (below_chain B11.out b13)
  have K13 := Lib.hid (K11.out.below b13 K11.out.lt)
  have Y13 := Lib.hid (Y11.out.below b13)
  have M13 := Lib.hid (M11.out.below b13 M11.out.lt)
  have C7 := Lib.hid (oputlisting_any false (some ⟨w11.heap.size, 0, none⟩) (some ⟨w12.heap.size, 0, none⟩) 1 1 1 1 [⟨#[97]⟩] [0] w13 z13 rfl (Nat.le_refl _) (by omega) (z12.below b23) rfl (Nat.le_refl _) (by omega))
  rw [s12] at C7
  rw [hw13, hw12] at B13 K13 Y13 M13 C7
  clear b13 b12 b23 hw12 hw13 s12 z12 z13 B11 K11 Y11 M11
  go_wp2_with fail
  refine C7.out.mono ?_
  clear C7
  intro e w14 h14
  obtain ⟨hb14, a14, c14, rfl, p141, p142, p143, p144⟩ := putR_ok h14 okListH
  rw [v_listL] at p141 ⊢
  have B14 := Lib.hid (below_chain B13.out hb14)
  have K14 := Lib.hid (K13.out.below hb14 K13.out.lt)
  have Y14 := Lib.hid (Y13.out.below hb14)
  have M14 := Lib.hid (M13.out.below hb14 M13.out.lt)
  have C8 := Lib.hid (oputpage_any none none 0 0 0 0 [] [] w14 (fun h => absurd rfl h) rfl (Nat.le_refl _) (by omega) (srw_nil _ _) rfl (Nat.le_refl _) (by omega) (fun s h => by simp at h))
  clear p141 p142 p143 p144 hb14 h14 B13 K13 Y13 M13
  go_wp2_with fail
  refine C8.out.mono ?_
  clear C8
  intro e w15 h15
  obtain ⟨hb15, a15, c15, rfl, p151, p152, p153, p154⟩ := putR_ok h15 okPage0
  rw [v_pageL] at p151 ⊢
  have B15 := Lib.hid (below_chain B14.out hb15)
  have K15 := Lib.hid (K14.out.below hb15 K14.out.lt)
  have Y15 := Lib.hid (Y14.out.below hb15)
  have M15 := Lib.hid (M14.out.below hb15 M14.out.lt)
  clear p151 p152 p153 p154 hb15 h15 B14 K14 Y14 M14
  obtain ⟨w16, hw16⟩ : ∃ w16, w16 = w15.alloc (.cells #[.int .u8 3, .int .u8 0] 5) := ⟨_, rfl⟩
  have b16 : Below w15.heap.size w15 w16 := by rw [hw16]; exact (Below.refl _ w15).alloc (Nat.le_refl _) _
  have z16 : Byt w16 (some ⟨w15.heap.size, 0, none⟩) [3, 0] := by rw [hw16]; exact byt_lit w15 [3, 0] _ rfl
  have B16 := Lib.hid (below_chain B15.out b16)
  have kr := (K15.out.below b16 K15.out.lt).cell 0
  have km := (M15.out.below b16 M15.out.lt).cell 4
  have CS := Lib.hid (same_any (some ⟨b1, o1, none⟩) (some ⟨w15.heap.size, 0, none⟩) [3, 0] [3, 0] c1 2 w16 (Y15.out.below b16) z16 (fun h => by cases h) (fun h => by cases h))
  simp only [List.getElem?_cons_zero, List.getElem?_cons_succ] at kr km
  rw [hw16] at B16 kr km CS
  clear b16 hw16 z16 B15 K15 Y15 M15
  go_wp2_with fail
  refine CS.out.mono ?_
  clear CS
  rintro e w17 ⟨rfl, rfl⟩
  simp only [decide_true]
  go_wp2_with fail

  go_ret
  exact ⟨rfl, B16.out⟩
end Go.Proofs.YtpjgkboafmebbaaGreatDoor.Sh
