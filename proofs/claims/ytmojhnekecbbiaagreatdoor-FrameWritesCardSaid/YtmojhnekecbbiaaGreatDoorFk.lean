/-
  The contract of the laws' own heads. Conditions: frame's sentinels, sha's tables and errors.errorType stand in memory.
-/
import Derived.Test.YtmojhnekecbbiaaGreatDoorGb
namespace Go.Proofs.YtmojhnekecbbiaaGreatDoor.Sh
open Lb Go.RowKit Go.Lib

theorem kb_one : kb 1 = 1 := rfl
theorem toList_inj {a b : ByteArray} (h : a.toList = b.toList) : a = b := by
  rw [toList_data, toList_data] at h
  cases a
  cases b
  simp only [ByteArray.mk.injEq]
  exact Array.toList_inj.1 h
theorem keyS_size (k : Int) (l : List UInt8) : (keyS k l).size = 64 := by
  show (hexL (sumS (kb k :: l))).toArray.size = 64
  simp [hexL_len, sumS_len]
theorem key_none (k : Int) (l : List UInt8) : ((⟨#[]⟩ : ByteArray).toList == (keyS k l).toList) = false := by
  cases h : ((⟨#[]⟩ : ByteArray).toList == (keyS k l).toList) with
  | false => rfl
  | true =>
    have := toList_inj (eq_of_beq h)
    have h2 := keyS_size k l
    rw [← this] at h2
    exact absurd h2 (by decide)
theorem put_made (k : Int) (d : List UInt8) (h1 : kindB k = true) (h2 : d.length ≤ 8192) : putE k (keyS k d) d = 0 := putE_ok h1 h2 (by simp)
theorem put1_len : (putL 1).length = 1 := by decide
theorem fr15_len : (Fr.frL 1 [5]).length = 8 := by rw [Fr.frL_len]; simp [put1_len]
theorem fr15_scan : Fr.scanL (Fr.frL 1 [5] ++ [0, 0]) = ([(1, [5])], [0], 8) := by
  have h := Fr.scanF_all 1 (by decide) (by decide) [0, 0] (by decide) [[5]] ((Fr.frL 1 [5] ++ [0, 0]).length + 1) 0 (by simp) (by simp)
  have e : Fr.allL 1 [[5]] = Fr.frL 1 [5] := by simp [Fr.allL]
  rw [e] at h
  unfold Fr.scanL
  rw [h, fr15_len]
  rfl
theorem fr15_next : (Fr.nextL ((Fr.frL 1 [5]).take 4)).1 = 20 := by
  have e : (Fr.frL 1 [5]).take 4 = [165, 1, 1, 5] := by
    rw [Fr.frL_cons]
    have : putL ([5] : List UInt8).length = [1] := by decide
    rw [this]
    rfl
  rw [e]
  decide
theorem head_one {w W w3 : World} {u v : Value} {L : List UInt8} (hO : Own W w.heap.size u []) (hB : Below w.heap.size w W) (hs : w.heap.size ≤ W.heap.size) (hv : w3.ownsRow w.heap.size 5 1 v ([] ++ L).length (bs ([] ++ L))) (hg : W.grownBy w3 u.ownBlock) :
    Own (w3.alloc (.cells #[.int .u8 0, .int .u8 0] 5)) w.heap.size v ([] ++ L) ∧ Below w.heap.size w (w3.alloc (.cells #[.int .u8 0, .int .u8 0] 5)) ∧ Byt (w3.alloc (.cells #[.int .u8 0, .int .u8 0] 5)) (some ⟨w3.heap.size, 0, none⟩) [0, 0] ∧ w.heap.size ≤ (w3.alloc (.cells #[.int .u8 0, .int .u8 0] 5)).heap.size := by
  have hb2 := hB.grown hg hs (fun k hk => (World.ownsRow.lt hO k hk).1)
  have bt := al1 w3 (.cells #[.int .u8 0, .int .u8 0] 5)
  have hb3 := hb2.trans (bt.mono hb2.size)
  exact ⟨own_below hv bt, hb3, two_lit w3 0 0, hb3.size⟩
theorem head_two {w W w3 : World} {u : Value} {L : List UInt8} (hO : Own W w.heap.size u L) (hB : Below w.heap.size w W) (hs : w.heap.size ≤ W.heap.size) (hg : W.grownBy w3 u.ownBlock) : Below w.heap.size w w3 :=
  hB.grown hg hs (fun k hk => (World.ownsRow.lt hO k hk).1)
set_option maxHeartbeats 4000000 in
set_option maxRecDepth 100000 in
theorem heads_any (a0 a1 : Addr) (w : World) (hE : Env w a0 a1) : Calls Tryz.prog 4 #[] w fun e w' => e = .returned (.bool true) ∧ Below w.heap.size w w' := by
  have E0 := Lib.hid hE
  have bt := al1 w (.cells #[.int .u8 5] 5)
  have L5 := byt_one w 5 5 rfl
  have C8 := Lib.hid (made_any 1 (some ⟨w.heap.size, 0, none⟩) [5] 1 1 _ L5 (fun h => by cases h) rfl (by omega))
  have R1 := Lib.hid L5
  have B1 := Lib.hid bt
  have PM := Lib.hid (put_made 1 [5] rfl (by simp))
  have KN := Lib.hid (key_none 1 [5])
  obtain ⟨K, hK⟩ : ∃ K, K = keyS 1 [5] := ⟨_, rfl⟩
  rw [← hK] at C8 PM KN
  obtain ⟨L, hL⟩ : ∃ L, L = Fr.frL 1 [5] := ⟨_, rfl⟩
  have FL := fr15_len
  have FS := fr15_scan
  have FN := fr15_next
  rw [← hL] at FL FS FN
  have HFL := Lib.hid FL
  have HFS := Lib.hid FS
  have HFN := Lib.hid FN
  have HLL : Hid (Fr.frL (kb 1) [5] = L) := by show _ = _; rw [hL]; rfl
  clear hE bt L5 hK hL FL FS FN
  go_enter Tryz.func4, Tryz.ntmps4
  go_wp2_with fail
  generalize w.alloc (.cells #[.int .u8 5] 5) = W1 at *
  refine C8.out.mono ?_
  rintro e w1 ⟨rfl, b1⟩
  have B2 := Lib.hid (below_chain B1.out b1)
  have C7 := frput_any 1 K (some ⟨w.heap.size, 0, none⟩) [5] 1 1 a0 a1 w1 (E0.out.below B2.out) (R1.out.below b1) (fun h => by cases h) rfl (by omega)
  unfold AnsPut at C7
  rw [PM.out] at C7
  have C7' := Lib.hid C7
  clear C7 b1 C8
  go_wp2_with fail
  refine C7'.out.mono ?_
  rintro e w2 ⟨b2, v2, rfl, o2⟩
  simp only [if_true] at o2
  rw [HLL.out] at o2
  obtain ⟨a2, c2, rfl, hc2, hcm2, hy2, hn2⟩ := own_byt o2
  rw [HFL.out] at hc2 ⊢
  have B3 := Lib.hid (below_chain B2.out b2)
  have bt := al1 w2 (.cells (bs []).toArray 5)
  have O0 : Hid (Own (w2.alloc (.cells (bs []).toArray 5)) w2.heap.size (.slice (some ⟨w2.heap.size, 0, none⟩) 0 0) []) := own_lit w2 [] w2.heap.size (Nat.le_refl _) (by simp)
  have R3 := Lib.hid (hy2.below bt)
  have R2 := Lib.hid hy2
  have N2 := Lib.hid hn2
  have B4 := Lib.hid (below_chain B3.out bt)
  have P4 : Hid (w2.heap.size ≤ (w2.alloc (.cells (bs []).toArray 5)).heap.size) := bt.size
  have BT := Lib.hid bt
  clear C7' b2 o2 hy2 hn2 bt
  have e0 : (bs []).toArray = #[] := rfl
  rw [e0] at O0 R3 B4 P4 BT
  clear e0
  go_wp2_with (first
    | (at_builtin; refine wpl_app_len (t := 23) (e := 5) rfl (.tmp 18) (.tmp 19) rfl Tryz.underlying23 info5 w2.heap.size _ [] L rfl O0.out a2 8 c2 (by rfl) R3.out N2.out HFL.out (by simp) P4.out ?_; intro v3 w3 O3 g3
       have FF := Lib.hid (head_one O0.out BT.out P4.out O3 g3); clear O3 g3)
    | (at_builtin; refine wpl_app_len (t := 23) (e := 5) rfl (.tmp 20) (.tmp 21) rfl Tryz.underlying23 info5 w2.heap.size v3 ([] ++ L) [0, 0] rfl FF.out.1 (some ⟨w3.heap.size, 0, none⟩) 2 2 (by rfl) FF.out.2.2.1 (fun h => by cases h) rfl (by rw [List.nil_append, HFL.out]; omega) FF.out.2.2.2 ?_; intro v4 w4 O4 g4
       have GG := Lib.hid (head_two FF.out.1 FF.out.2.1 FF.out.2.2.2 g4); clear g4))
  have B5 := Lib.hid (below_chain B3.out GG.out)
  have R5 := Lib.hid (R2.out.below GG.out)
  obtain ⟨a4, c4, rfl, hc4, hcm4, hy4, hn4⟩ := own_byt O4
  have l10 : ([] ++ L ++ [0, 0]).length = 10 := by simp [HFL.out]
  have C10 := scan_any a4 ([] ++ L ++ [0, 0]) 10 c4 a0 a1 w4 (E0.out.below B5.out) hy4 hn4 l10 (by omega) hcm4 (by omega)
  rw [l10]
  have e1 : [] ++ L ++ [0, 0] = L ++ [0, 0] := by simp
  unfold AnsS at C10
  rw [e1, HFS.out] at C10
  have C10' := Lib.hid C10
  clear C10 e1 l10 hy4 hn4 hc4 hcm4 O4 GG FF
  go_wp2_with fail
  refine C10'.out.mono ?_
  rintro e w5 ⟨b5, u5, v5, rfl, hu5, hv5⟩
  obtain ⟨a5, c5, rfl, hc5, hcm5, hz5, hn5⟩ := own_zrw hv5
  obtain ⟨a6, c6, rfl, hc6, hcm6, hf6, hn6⟩ := ownf_read hu5
  have B6 := Lib.hid (below_chain B5.out b5)
  have R6 := Lib.hid (R5.out.below b5)
  have bt := al1 w5 (.cells #[.int .u8 5] 5)
  have L5 := byt_one w5 5 5 rfl
  have C7 := frput_any 1 ⟨#[]⟩ (some ⟨w5.heap.size, 0, none⟩) [5] 1 1 a0 a1 _ ((E0.out.below B6.out).below bt) L5 (fun h => by cases h) rfl (by omega)
  have pe : putE 1 ⟨#[]⟩ [5] = 120 := putE_key (key_none 1 [5])
  unfold AnsPut at C7
  rw [pe] at C7
  have C7' := Lib.hid C7
  have B7 := Lib.hid (below_chain B6.out bt)
  have R7 := Lib.hid (R6.out.below bt)
  have Z7 := Lib.hid (hz5.below bt)
  clear C10' b5 hu5 hv5 hz5 hf6 bt L5 C7 pe
  simp only [List.length_cons, List.length_nil] at hc5 hc6 ⊢
  go_wp2_with fail
  generalize w5.alloc (.cells #[.int .u8 5] 5) = W5 at *
  refine C7'.out.mono ?_
  rintro e w6 ⟨b6, v6, rfl, o6⟩
  have B8 := Lib.hid (below_chain B7.out b6)
  have R8 := Lib.hid (R7.out.below b6)
  have Z8 := Lib.hid (Z7.out.below b6)
  have sl := fun W => slice_to a2 8 c2 4 (by omega) W
  have C14 := next_no a2 (L.take 4) 4 c2 a0 a1 w6 (E0.out.below B8.out) (R8.out.take 4) N2.out (by rw [List.length_take, HFL.out]; rfl) (by omega) hcm2 (by rw [HFN.out]; decide)
  rw [HFN.out] at C14
  have C14' := Lib.hid C14
  clear b6 o6 C14 C7'
  go_wp2_with fail
  refine C14'.out.mono ?_
  rintro e w7 ⟨b7, rfl⟩
  have B9 := Lib.hid (below_chain B8.out b7)
  have Z9 := Lib.hid (Z8.out.below b7)
  have bt := al1 w7 (.cells #[.int .i64 0, .string ⟨#[]⟩, .slice none 0 0] 25)
  have BA := Lib.hid (below_chain B9.out bt)
  have ZA := Lib.hid (Z9.out.below bt)
  clear b7 bt C14'
  have C9 := Lib.hid (fun W => frsize_any 1 (by omega) (by omega) W)
  have z1 : sizeN 1 = 8 := by decide
  rw [z1] at C9
  clear z1
  go_wp2_with fail
  generalize w7.alloc (.cells #[.int .i64 0, .string ⟨#[]⟩, .slice none 0 0] 25) = W8 at *
  refine (C9.out _).mono ?_
  rintro e w8 ⟨rfl, rfl⟩
  have bt := al1 w8 (.cells #[.int .i64 0] 3)
  have zl : Zrw (w8.alloc (.cells #[.int .i64 0] 3)) (some ⟨w8.heap.size, 0, none⟩) [0] := fun _ => ⟨w8.heap.size, 0, rfl, by simp, fun j hj => by
    obtain rfl : j = 0 := by simp at hj; omega
    rw [World.cell?_alloc_new]
    rfl⟩
  have C12 := Lib.hid (ints_same a5 (some ⟨w8.heap.size, 0, none⟩) [0] 1 c5 1 _ (ZA.out.below bt) zl rfl (by omega) hcm5 (by omega))
  have BB := Lib.hid (below_chain BA.out bt)
  clear bt zl C9
  go_wp2_with fail
  refine C12.out.mono ?_
  rintro e w9 ⟨rfl, b9⟩
  have BC := Lib.hid (below_chain BB.out b9)
  clear b9 C12
  go_wp2_with fail
  go_ret
  exact ⟨rfl, BC.out⟩
end Go.Proofs.YtmojhnekecbbiaaGreatDoor.Sh
