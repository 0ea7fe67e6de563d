/-
  The contract of disk's New, where it goes well. Conditions: each law's own.
-/
import Derived.Test.YtohmdcbfffgheaaXb
import Derived.Laws.CopyOwn
namespace Go.Proofs.Ytohmdcbfffgheaa.Dk
open Go.RowKit Go.Lib Go.Maps

/-- bytes, filled up with noughts to K -/
def img (l : List UInt8) (K : Nat) : List UInt8 := l ++ List.replicate (K - l.length) 0
theorem img_len (l : List UInt8) (K : Nat) (h : l.length ≤ K) : (img l K).length = K := by simp [img]; omega
theorem img_splice (l : List UInt8) (K : Nat) : splice (bs (List.replicate K 0)) 0 (bs l) = bs (img l K) := by
  simp [splice, img, bs]
theorem bs_rep (n : Nat) : bs (List.replicate n 0) = List.replicate n (.int .u8 0) := by simp [bs]
theorem made_noughts (k : Nat) : (madeCells (Value.int .u8 0).cells (k * 1)).toList = List.replicate k (Value.int .u8 0) := by
  rw [List.eq_replicate_iff]
  constructor
  · simp [madeCells]
  · intro b hb
    have hc : (Value.int .u8 0).cells = #[.int .u8 0] := rfl
    rw [hc] at hb
    simp [madeCells, Nat.mod_one] at hb
    exact hb.2.symm
theorem full_blk5 {W : World} {g N : Nat} {base : Nat} {xs : List Value} (h : W.ownsRow base 5 1 (.slice (some ⟨g, 0, none⟩) N N) N xs) : Blk W g xs 5 := by
  obtain ⟨h1, ⟨h2, _⟩ | ⟨g', cap, cur, e1, e2, e3, e4, e5, e6, e7⟩⟩ := h
  · cases h2
  · simp only [Value.slice.injEq, Option.some.injEq, Addr.mk.injEq, and_true, true_and] at e1
    obtain ⟨rfl, rfl⟩ := e1
    rw [List.take_of_length_le (by rw [Array.length_toList, e6]; exact Nat.le_refl _)] at e7
    unfold Blk
    rw [e3, ← e7]
theorem blk_byt {w : World} {g : Nat} {l : List UInt8} (h : Blk w g (bs l) 5) : Byt w (some ⟨g, 0, none⟩) l := fun _ => by
  refine ⟨g, 0, rfl, h.lt, fun j hj => ?_⟩
  rw [h.cell, Nat.zero_add]
  exact bs_get l j hj
/-- what New answers where it goes well: refused without a sector -/
def NewP (w : World) (l : List UInt8) (q N : Nat) (e : Ending) (w' : World) : Prop :=
  Below w.heap.size w w' ∧ ((N = 0 ∧ e = .returned (.tuple #[.pointer none, .int .i64 2])) ∨ (1 ≤ N ∧ ∃ g sa mb, e = .returned (.tuple #[.pointer (some ⟨g, 0, none⟩), .int .i64 0]) ∧ w.heap.size ≤ g ∧ w.heap.size ≤ sa ∧ w.heap.size ≤ mb ∧ DevS w' g sa mb (secs (img l (256 * N)) N) q 0 (.map []) true (-1) 0))
set_option maxHeartbeats 1000000 in
set_option maxRecDepth 100000 in
/-- Load of what New has filled -/
theorem load_new (w w1 : World) (g : Nat) (l : List UInt8) (q N : Nat) (hb : Below w.heap.size w w1) (_hg : w.heap.size ≤ g) (hG : Blk w1 g (bs (img l (256 * N))) 5) (hl : l.length ≤ 256 * N) (hN : N ≤ 4096) (hq : q ≤ N) :
    Calls Try.prog 15 #[.slice (some ⟨g, 0, none⟩) (256 * N) (256 * N), .int .i64 (q : Int)] w1 (NewP w l q N) := by
  by_cases h0 : N = 0
  · subst h0
    refine (load_bad _ 0 0 _ (.inr (.inl (by omega))) (by omega)).mono ?_
    rintro e w2 ⟨rfl, rfl⟩
    exact ⟨hb, .inl ⟨rfl, rfl⟩⟩
  · refine (load_ok g 0 (256 * N) N (256 * N) (img l (256 * N)) q w1 (blk_byt hG) (img_len _ _ hl) rfl (by omega) hN hq (Nat.le_refl _) (by omega)).mono ?_
    rintro e w2 ⟨hb2, g2, sa, mb, rfl, x1, x2, x3, hd⟩
    have := hb.size
    exact ⟨below_chain hb hb2, .inr ⟨by omega, g2, sa, mb, rfl, by omega, by omega, by omega, hd⟩⟩
set_option maxHeartbeats 4000000 in
set_option maxRecDepth 100000 in
theorem new_ok (n : Nat) (ao : Option Addr) (l : List UInt8) (m c : Nat) (w : World) (h : Byt w ao l) (hl : l.length = m) (hn : (n : Int) ≤ 4096 - (upTo m : Int)) :
    Calls Try.prog 9 #[.int .i64 (n : Int), .slice ao m c] w (NewP w l (upTo m) (upTo m + n)) := by
  obtain ⟨q, hq⟩ : ∃ q, q = m / 256 := ⟨_, rfl⟩
  have hm : m ≤ 1048576 := by unfold upTo at hn; split at hn <;> omega
  have e3 : (m : Int) / 256 = (q : Int) := by omega
  have e4 : (m : Int).tdiv 256 = (q : Int) := by rw [Int.tdiv_eq_ediv_of_nonneg (by omega)]; exact e3
  have q0 : (0 : Int) ≤ (q : Int) := by omega
  have q1 : (q : Int) ≤ 4096 := by omega
  have wq : wrap64 (q : Int) = (q : Int) := IntWalk.wrap64_in _ ⟨by omega, by omega⟩
  obtain ⟨N, hN⟩ : ∃ N, N = upTo m + n := ⟨_, rfl⟩
  obtain ⟨K, hK⟩ : ∃ K, K = 256 * N := ⟨_, rfl⟩
  have hN2 : N ≤ 4096 := by omega
  have kb : K ≤ 1048576 := by omega
  have k0 : (0 : Int) ≤ (K : Int) := Int.natCast_nonneg _
  have n0 : (0 : Int) ≤ (N : Int) := Int.natCast_nonneg _
  have hlK : m ≤ K := by unfold upTo at hN; split at hN <;> omega
  have hpos : 0 < (bs l).length → (some (⟨w.heap.size, 0, none⟩ : Addr)) = some ⟨w.heap.size, 0, none⟩ ∧ ∃ ad, ao = some ad ∧ ∀ W, Below w.heap.size w W → ∀ j v, (bs l)[j]? = some v → W.cell? (ad.add j) = some v := fun h0 => by
    obtain ⟨b, o, h1, h2, h3⟩ := h (by intro h9; rw [h9] at h0; simp [bs] at h0)
    refine ⟨rfl, ⟨b, o, none⟩, h1, fun W hW j v hj => ?_⟩
    have hj2 : j < l.length := by have := (List.getElem?_eq_some_iff.1 hj).1; rw [bs_len] at this; exact this
    rw [WideShapes.add_plain, (hW.cell (p := ⟨b, o + j, none⟩) h2).trans (h3 j hj2)]
    rw [bs_get l j hj2] at hj
    exact hj
  have HPOS := Lib.hid hpos
  have HLN := Lib.hid hl
  obtain ⟨i5, j0, j1, j2, j3⟩ := info_parts info5
  have J0 := Lib.hid j0
  have J1 := Lib.hid j1
  have J2 := Lib.hid j2
  have J3 := Lib.hid j3
  clear j0 j1 j2 j3
  have sz5 : (Try.prog.info? 5).map (·.size) = some 1 := by kernel_rfl
  have HSZ := Lib.hid sz5
  rw [← hN]
  have CL := Lib.hid (fun W (hb : Below w.heap.size w W) (hG : Blk W w.heap.size (bs (img l K)) 5) => by
    have := load_new w W w.heap.size l (upTo m) N hb (Nat.le_refl _) (by rw [← hK]; exact hG) (by omega) hN2 (by omega)
    rw [← hK] at this
    exact this)
  have t2 : decide ((n : Int) < 0) = false := by simp
  have kI : (K : Int) = (N : Int) * 256 := by omega
  have HKI : Hid ((N : Int) * 256 = (K : Int)) := kI.symm
  have nB : (N : Int) ≤ 4096 := by omega
  clear hpos h hl sz5
  by_cases h1 : m % 256 = 0
  · have eu : upTo m = q := by unfold upTo; rw [if_pos h1, hq]
    rw [eu] at hn hN CL
    have e1 : ((m : Int) % 256 != 0) = false := by simp; omega
    have e2 : (((m : Int).tmod 256) != 0) = false := by rw [Int.tmod_eq_emod_of_nonneg (by omega)]; exact e1
    have t3 : decide (4096 - (q : Int) < (n : Int)) = false := by simp; omega
    have wB : wrap64 (4096 - (q : Int)) = 4096 - (q : Int) := IntWalk.wrap64_in _ ⟨by omega, by omega⟩
    have wC : wrap64 ((q : Int) + (n : Int)) = (N : Int) := by rw [IntWalk.wrap64_in _ ⟨by omega, by omega⟩]; omega
    have HKK := Lib.hid hK
    have HMK := Lib.hid hlK
    have EU := Lib.hid eu
    clear h1 hq hm eu hN hK kI hlK hn
    go_enter Try.func9, Try.ntmps9
    go_wp2_with (first
      | (refine wpList_make_full w rfl _ _ 29 rfl w.heap.size 5 i5 (.int .u8 0) 1 Try.underlying29 J0.out J1.out J2.out .i64 .i64 _ _ K rfl rfl HKI.out HKI.out (by rw [J3.out]; omega) (by unfold maxLen; omega) (Nat.le_refl _) ?_; intro w2 how hg2; rw [made_noughts, ← bs_rep] at how; have HG2 := Lib.hid (full_blk5 how); have hb2 := (Below.refl w.heap.size w).grown hg2 (Nat.le_refl _) (by simp); have HB2 := Lib.hid hb2; clear how hg2 hb2)
      | (refine wpList_copy_splice rfl (.tmp 30) (.tmp 31) 29 29 rfl 5 Try.underlying29 HSZ.out (some ⟨w.heap.size, 0, none⟩) ao K K m c rfl rfl w.heap.size 0 (bs (List.replicate K 0)) 5 HG2.out (bs l) (by rw [bs_len, HLN.out]; have := HMK.out; exact (Nat.min_eq_left this).symm) (fun h0 => by obtain ⟨x1, ad, x2, x3⟩ := HPOS.out h0; exact ⟨x1, ad, x2, x3 _ HB2.out⟩) (by rw [bs_len, bs_len, HLN.out, List.length_replicate]; have := HMK.out; omega) (bs_one l) w.heap.size w HB2.out (Nat.le_refl _) ?_; intro w3 hg3 hb3; have HG3 : Hid (Blk w3 w.heap.size (bs (img l K)) 5) := (by have h9 := hg3.out; rw [img_splice] at h9; exact h9); have HB3 := Lib.hid hb3; clear hg3 hb3))
    refine (CL.out w3 HB3.out HG3.out).mono ?_
    rintro e w4 hP
    obtain ⟨hb4, ⟨hN0, rfl⟩ | ⟨hN0, g, sa, mb, rfl, x⟩⟩ := hP
    · go_wp2_with fail
      go_ret2
      exact ⟨hb4, .inl ⟨hN0, rfl⟩⟩
    · have HX := Lib.hid x
      clear x
      go_wp2_with fail
      go_ret2
      exact ⟨hb4, .inr ⟨hN0, g, sa, mb, rfl, by rw [EU.out]; exact HX.out⟩⟩
  · have eu : upTo m = q + 1 := by unfold upTo; rw [if_neg h1, hq]
    rw [eu] at hn hN CL
    have e1 : ((m : Int) % 256 != 0) = true := by simp; omega
    have e2 : (((m : Int).tmod 256) != 0) = true := by rw [Int.tmod_eq_emod_of_nonneg (by omega)]; exact e1
    have wA : wrap64 ((q : Int) + 1) = (q : Int) + 1 := IntWalk.wrap64_in _ ⟨by omega, by omega⟩
    have t3 : decide (4096 - ((q : Int) + 1) < (n : Int)) = false := by simp; omega
    have wB : wrap64 (4096 - ((q : Int) + 1)) = 4096 - ((q : Int) + 1) := IntWalk.wrap64_in _ ⟨by omega, by omega⟩
    have wC : wrap64 ((q : Int) + 1 + (n : Int)) = (N : Int) := by rw [IntWalk.wrap64_in _ ⟨by omega, by omega⟩]; omega
    have HKK := Lib.hid hK
    have HMK := Lib.hid hlK
    have EU := Lib.hid eu
    clear h1 hq hm eu hN hK kI hlK hn
    go_enter Try.func9, Try.ntmps9
    go_wp2_with (first
      | (refine wpList_make_full w rfl _ _ 29 rfl w.heap.size 5 i5 (.int .u8 0) 1 Try.underlying29 J0.out J1.out J2.out .i64 .i64 _ _ K rfl rfl HKI.out HKI.out (by rw [J3.out]; omega) (by unfold maxLen; omega) (Nat.le_refl _) ?_; intro w2 how hg2; rw [made_noughts, ← bs_rep] at how; have HG2 := Lib.hid (full_blk5 how); have hb2 := (Below.refl w.heap.size w).grown hg2 (Nat.le_refl _) (by simp); have HB2 := Lib.hid hb2; clear how hg2 hb2)
      | (refine wpList_copy_splice rfl (.tmp 30) (.tmp 31) 29 29 rfl 5 Try.underlying29 HSZ.out (some ⟨w.heap.size, 0, none⟩) ao K K m c rfl rfl w.heap.size 0 (bs (List.replicate K 0)) 5 HG2.out (bs l) (by rw [bs_len, HLN.out]; have := HMK.out; exact (Nat.min_eq_left this).symm) (fun h0 => by obtain ⟨x1, ad, x2, x3⟩ := HPOS.out h0; exact ⟨x1, ad, x2, x3 _ HB2.out⟩) (by rw [bs_len, bs_len, HLN.out, List.length_replicate]; have := HMK.out; omega) (bs_one l) w.heap.size w HB2.out (Nat.le_refl _) ?_; intro w3 hg3 hb3; have HG3 : Hid (Blk w3 w.heap.size (bs (img l K)) 5) := (by have h9 := hg3.out; rw [img_splice] at h9; exact h9); have HB3 := Lib.hid hb3; clear hg3 hb3))
    refine (CL.out w3 HB3.out HG3.out).mono ?_
    rintro e w4 hP
    obtain ⟨hb4, ⟨hN0, rfl⟩ | ⟨hN0, g, sa, mb, rfl, x⟩⟩ := hP
    · go_wp2_with fail
      go_ret2
      exact ⟨hb4, .inl ⟨hN0, rfl⟩⟩
    · have HX := Lib.hid x
      clear x
      go_wp2_with fail
      go_ret2
      exact ⟨hb4, .inr ⟨hN0, g, sa, mb, rfl, by rw [EU.out]; exact HX.out⟩⟩
end Go.Proofs.Ytohmdcbfffgheaa.Dk
