/-
  The contracts of obj's whole, and of GetMeta, GetListing, GetPage, GetRoot. Conditions: each law's own.
-/
import Derived.Test.YtpjgkboafmebbaaGreatDoorOm
namespace Go.Proofs.YtpjgkboafmebbaaGreatDoor.Sh
open Go.RowKit Go.Lib Lb

theorem GetR.low {α : Type} {w W : World} {zero : Value} {V V' : World → α → Value → Prop} {o : Option α} {e : Ending} {w' : World} (hW : Below w.heap.size w W) (hV : ∀ w' x v, V w' x v → V' w' x v) (h : GetR W zero V o e w') : GetR w zero V' o e w' := by
  obtain ⟨hb, h | ⟨x, v, h1, h2, h3⟩⟩ := h
  · exact ⟨below_chain hW hb, .inl h⟩
  · exact ⟨below_chain hW hb, .inr ⟨x, v, h1, h2, hV _ _ _ h3⟩⟩
set_option maxHeartbeats 4000000 in
set_option maxRecDepth 100000 in
open Classical in
theorem whole_root (ao : Option Addr) (m c : Nat) (l : List UInt8) (w : World)
    (hb : Byt w ao l) (hn : ao = none → c = 0) (hl : l.length = m) (hc : m ≤ c) (hm : c ≤ 9223372036854775807) (h47 : m ≤ 140737488355328) (hf : ∀ a, ao = some a → a.block < w.heap.size) (he : ErrT w) :
    Calls Tryz.prog 57 #[.slice ao m c, .func (.func 58) #[] #[], .func (.func 39) #[] #[]] w (GetR w (.agg #[.int .i64 0, .slice none 0 0]) (VRoot w.heap.size) (whole pRootP OkRoot l)) := by
  have hmf : ∀ (fn : Fn) (first cap : Array Value) (w : World), (Instr.makeFunc fn first cap).run Tryz.prog w = .ok (.func fn first cap) w := fun _ _ _ _ => rfl
  obtain ⟨w1, hw1⟩ : ∃ w1, w1 = w.alloc (.cells #[.slice ao m c] 36) := ⟨_, rfl⟩
  obtain ⟨w2, hw2⟩ : ∃ w2, w2 = w1.alloc (.cells #[.func (.func 58) #[] #[]] 111) := ⟨_, rfl⟩
  obtain ⟨w3, hw3⟩ : ∃ w3, w3 = w2.alloc (.cells #[.func (.func 39) #[] #[]] 88) := ⟨_, rfl⟩
  obtain ⟨w4, hw4⟩ : ∃ w4, w4 = w3.alloc (.cells #[.int .i64 0, .slice none 0 0] 35) := ⟨_, rfl⟩
  have s1 : w1.heap.size = w.heap.size + 1 := by rw [hw1]; simp
  have s2 : w2.heap.size = w.heap.size + 2 := by rw [hw2]; simp [s1]
  have s3 : w3.heap.size = w.heap.size + 3 := by rw [hw3]; simp [s2]
  have s4 : w4.heap.size = w.heap.size + 4 := by rw [hw4]; simp [s3]
  have b1 : Below w.heap.size w w1 := by rw [hw1]; exact (Below.refl _ w).alloc (Nat.le_refl _) _
  have b2 : Below w.heap.size w w2 := by rw [hw2]; exact b1.alloc b1.size _
  have b3 : Below w.heap.size w w3 := by rw [hw3]; exact b2.alloc b2.size _
  have b4 : Below w.heap.size w w4 := by rw [hw4]; exact b3.alloc b3.size _
  have x1 : Blk w1 w.heap.size [.slice ao m c] 36 := by rw [hw1]; exact Blk.new w [.slice ao m c] 36 _ rfl
  have x4 : Blk w4 w.heap.size [.slice ao m c] 36 := by rw [hw4, hw3, hw2]; exact ((x1.alloc _).alloc _).alloc _
  have f2 : Blk w2 (w.heap.size + 1) [.func (.func 58) #[] #[]] 111 := by rw [hw2]; exact Blk.new w1 [.func (.func 58) #[] #[]] 111 _ s1.symm
  have f4 : Blk w4 (w.heap.size + 1) [.func (.func 58) #[] #[]] 111 := by rw [hw4, hw3]; exact (f2.alloc _).alloc _
  have c3 : Blk w3 (w.heap.size + 2) [.func (.func 39) #[] #[]] 88 := by rw [hw3]; exact Blk.new w2 [.func (.func 39) #[] #[]] 88 _ s2.symm
  have c4 : Blk w4 (w.heap.size + 2) [.func (.func 39) #[] #[]] 88 := by rw [hw4]; exact c3.alloc _
  have r4 : Blk w4 (w.heap.size + 3) [.int .i64 0, .slice none 0 0] 35 := by rw [hw4]; exact Blk.new w3 [.int .i64 0, .slice none 0 0] 35 _ s3.symm
  have b5 : Below w4.heap.size w4 (w4.alloc (.cells #[.int .i64 0, .slice none 0 0] 35)) := (Below.refl _ w4).alloc (Nat.le_refl _) _
  have s5 : (w4.alloc (.cells #[.int .i64 0, .slice none 0 0] 35)).heap.size = w4.heap.size + 1 := by simp
  have b6 : Below w4.heap.size w4 ((w4.alloc (.cells #[.int .i64 0, .slice none 0 0] 35)).alloc (.cells #[.int .i64 0] 37)) := b5.alloc b5.size _
  have s6 : ((w4.alloc (.cells #[.int .i64 0, .slice none 0 0] 35)).alloc (.cells #[.int .i64 0] 37)).heap.size = w4.heap.size + 2 := by simp
  have b7 := below_chain b4 b6
  have CL := cloget_root ao m c w.heap.size (w.heap.size + 1) (w.heap.size + 2) l _ (x4.low b6) (f4.low b6) (c4.low b6) (hb.below b7) hn hl hc hm h47 (fun a ha => by have := hf a ha; omega) (he.below b7)
  rw [s6] at CL
  have CA := Lib.hid (caught_root 102 _ w4 _ enters102 CL)
  have R4 := Lib.hid r4
  have B4 := Lib.hid b4
  have S4 := Lib.hid s4
  have HW1 := Lib.hid hw1
  have HW2 := Lib.hid hw2
  have HW3 := Lib.hid hw3
  have HW4 := Lib.hid hw4
  obtain ⟨o, hoo⟩ : ∃ o, o = whole pRootP OkRoot l := ⟨_, rfl⟩
  rw [← hoo] at CA ⊢
  clear hb hn hl hc hm h47 hf he s1 s2 s3 s4 b1 b2 b3 b4 x1 x4 f2 f4 c3 c4 r4 b5 s5 b6 s6 b7 CL hw1 hw2 hw3 hw4 hoo
  go_enter Tryz.func57, Tryz.ntmps57
  go_wp2_with fail
  rw [← HW1.out, ← HW2.out, ← HW3.out, ← HW4.out]
  refine CA.out.mono ?_
  clear CA HW1 HW2 HW3 HW4
  rintro e w5 ⟨hb, ⟨ho, rfl⟩ | ⟨x, v, ho, rfl, hv⟩⟩
  · have B5 := Lib.hid (below_chain B4.out hb)
    have R5 := Lib.hid (R4.out.low hb)
    have HO := Lib.hid ho
    clear hb ho R4 B4
    have k0 := R5.out.cell 0
    have f0 := R5.out.frozen 0
    have k1 := R5.out.cell 1
    have f1 := R5.out.frozen 1
    simp only [List.getElem?_cons_zero, List.getElem?_cons_succ] at k0 k1
    go_wp2_with fail
    have KZ := set_two R5.out (.int .i64 0) (.slice none 0 0)
    have BZ := ((B5.out).setCell (p := ⟨w.heap.size + 3, 0, none⟩) (by show w.heap.size ≤ w.heap.size + 3; omega) (.int .i64 0)).setCell (p := ⟨w.heap.size + 3, 1, none⟩) (by show w.heap.size ≤ w.heap.size + 3; omega) (.slice none 0 0)
    exact bodyPost_ret (results_row_tmp rfl _ _ (w.heap.size + 3) 35 _ _ _ rfl rfl KZ Tryz.underlying35 rfl size35') rfl ⟨BZ, .inl ⟨HO.out, rfl⟩⟩
  · obtain ⟨u1, rfl, h1⟩ := hv
    obtain ⟨a1, c1, rfl⟩ := ownG_slice h1
    have B5 := Lib.hid (below_chain B4.out hb)
    have R5 := Lib.hid (R4.out.low hb)
    have HO := Lib.hid ho
    have s4 := S4.out
    have H1 := Lib.hid h1
    clear hb ho R4 B4 h1
    have k0 := R5.out.cell 0
    have f0 := R5.out.frozen 0
    have k1 := R5.out.cell 1
    have f1 := R5.out.frozen 1
    simp only [List.getElem?_cons_zero, List.getElem?_cons_succ] at k0 k1
    go_wp2_with fail
    have KZ := set_two R5.out (.int .i64 x.next) (.slice a1 x.pages.length c1)
    have BZ := ((B5.out).setCell (p := ⟨w.heap.size + 3, 0, none⟩) (by show w.heap.size ≤ w.heap.size + 3; omega) (.int .i64 x.next)).setCell (p := ⟨w.heap.size + 3, 1, none⟩) (by show w.heap.size ≤ w.heap.size + 3; omega) (.slice a1 x.pages.length c1)
    have Z1 := OwnG.low (ownG_kept (ownG_kept (H1.out) (grownBy_setCell _ (w.heap.size + 3) 0 (.int .i64 x.next)) (by omega)) (grownBy_setCell _ (w.heap.size + 3) 1 (.slice a1 x.pages.length c1)) (by omega)) (show w.heap.size ≤ w4.heap.size by omega)
    exact bodyPost_ret (results_row_tmp rfl _ _ (w.heap.size + 3) 35 _ _ _ rfl rfl KZ Tryz.underlying35 rfl size35') rfl ⟨BZ, .inr ⟨_, _, HO.out, rfl, ⟨_, rfl, Z1⟩⟩⟩
set_option maxHeartbeats 4000000 in
set_option maxRecDepth 100000 in
theorem oget_root (ao : Option Addr) (m c : Nat) (l : List UInt8) (w : World)
    (hb : Byt w ao l) (hn : ao = none → c = 0) (hl : l.length = m) (hc : m ≤ c) (hm : c ≤ 9223372036854775807) (h47 : m ≤ 140737488355328) (hf : ∀ a, ao = some a → a.block < w.heap.size) (he : ErrT w) :
    Calls Tryz.prog 28 #[.slice ao m c] w (GetR w (.agg #[.int .i64 0, .slice none 0 0]) (VRoot w.heap.size) (getRoot l)) := by
  obtain ⟨w4, hw4⟩ : ∃ w4, w4 = w.alloc (.cells #[.int .i64 0, .slice none 0 0] 35) := ⟨_, rfl⟩
  have s4 : w4.heap.size = w.heap.size + 1 := by rw [hw4]; simp
  have b4 : Below w.heap.size w w4 := by rw [hw4]; exact (Below.refl _ w).alloc (Nat.le_refl _) _
  have r4 : Blk w4 w.heap.size [.int .i64 0, .slice none 0 0] 35 := by rw [hw4]; exact Blk.new w [.int .i64 0, .slice none 0 0] 35 _ rfl
  have ca := whole_root ao m c l w4 (hb.below b4) hn hl hc hm h47 (fun a ha => by have := hf a ha; omega) (he.below b4)
  rw [getRoot_P] at ca
  have CA := Lib.hid ca
  have R4 := Lib.hid r4
  have B4 := Lib.hid b4
  have S4 := Lib.hid s4
  have HW4 := Lib.hid hw4
  obtain ⟨o, hoo⟩ : ∃ o, o = getRoot l := ⟨_, rfl⟩
  rw [← hoo] at CA ⊢
  clear hb hn hl hc hm h47 hf he s4 b4 r4 ca hw4 hoo
  go_enter Tryz.func28, Tryz.ntmps28
  go_wp2_with fail
  rw [← HW4.out]
  refine CA.out.mono ?_
  clear CA HW4
  rintro e w5 ⟨hb, ⟨ho, rfl⟩ | ⟨x, v, ho, rfl, hv⟩⟩
  · have B5 := Lib.hid (below_chain B4.out hb)
    have R5 := Lib.hid (R4.out.low hb)
    have HO := Lib.hid ho
    clear hb ho R4 B4
    have k0 := R5.out.cell 0
    have f0 := R5.out.frozen 0
    have k1 := R5.out.cell 1
    have f1 := R5.out.frozen 1
    simp only [List.getElem?_cons_zero, List.getElem?_cons_succ] at k0 k1
    go_wp2_with fail
    have KZ := set_two R5.out (.int .i64 0) (.slice none 0 0)
    have BZ := ((B5.out).setCell (p := ⟨w.heap.size, 0, none⟩) (Nat.le_refl _) (.int .i64 0)).setCell (p := ⟨w.heap.size, 1, none⟩) (Nat.le_refl _) (.slice none 0 0)
    exact bodyPost_ret (results_row_tmp rfl _ _ w.heap.size 35 _ _ _ rfl rfl KZ Tryz.underlying35 rfl size35') rfl ⟨BZ, .inl ⟨HO.out, rfl⟩⟩
  · obtain ⟨u1, rfl, h1⟩ := hv
    obtain ⟨a1, c1, rfl⟩ := ownG_slice h1
    have B5 := Lib.hid (below_chain B4.out hb)
    have R5 := Lib.hid (R4.out.low hb)
    have HO := Lib.hid ho
    have s4 := S4.out
    have H1 := Lib.hid h1
    clear hb ho R4 B4 h1
    have k0 := R5.out.cell 0
    have f0 := R5.out.frozen 0
    have k1 := R5.out.cell 1
    have f1 := R5.out.frozen 1
    simp only [List.getElem?_cons_zero, List.getElem?_cons_succ] at k0 k1
    go_wp2_with fail
    have KZ := set_two R5.out (.int .i64 x.next) (.slice a1 x.pages.length c1)
    have BZ := ((B5.out).setCell (p := ⟨w.heap.size, 0, none⟩) (Nat.le_refl _) (.int .i64 x.next)).setCell (p := ⟨w.heap.size, 1, none⟩) (Nat.le_refl _) (.slice a1 x.pages.length c1)
    have Z1 := OwnG.low (ownG_kept (ownG_kept (H1.out) (grownBy_setCell _ w.heap.size 0 (.int .i64 x.next)) (by omega)) (grownBy_setCell _ w.heap.size 1 (.slice a1 x.pages.length c1)) (by omega)) (show w.heap.size ≤ w4.heap.size by omega)
    exact bodyPost_ret (results_row_tmp rfl _ _ w.heap.size 35 _ _ _ rfl rfl KZ Tryz.underlying35 rfl size35') rfl ⟨BZ, .inr ⟨_, _, HO.out, rfl, ⟨_, rfl, Z1⟩⟩⟩
set_option maxHeartbeats 4000000 in
set_option maxRecDepth 100000 in
open Classical in
theorem whole_page (ao : Option Addr) (m c : Nat) (l : List UInt8) (w : World)
    (hb : Byt w ao l) (hn : ao = none → c = 0) (hl : l.length = m) (hc : m ≤ c) (hm : c ≤ 9223372036854775807) (h47 : m ≤ 140737488355328) (hf : ∀ a, ao = some a → a.block < w.heap.size) (he : ErrT w) :
    Calls Tryz.prog 54 #[.slice ao m c, .func (.func 55) #[] #[], .func (.func 37) #[] #[]] w (GetR w (.agg #[.slice none 0 0, .slice none 0 0]) (VPage w.heap.size) (whole pPageP OkPage l)) := by
  have hmf : ∀ (fn : Fn) (first cap : Array Value) (w : World), (Instr.makeFunc fn first cap).run Tryz.prog w = .ok (.func fn first cap) w := fun _ _ _ _ => rfl
  obtain ⟨w1, hw1⟩ : ∃ w1, w1 = w.alloc (.cells #[.slice ao m c] 36) := ⟨_, rfl⟩
  obtain ⟨w2, hw2⟩ : ∃ w2, w2 = w1.alloc (.cells #[.func (.func 55) #[] #[]] 108) := ⟨_, rfl⟩
  obtain ⟨w3, hw3⟩ : ∃ w3, w3 = w2.alloc (.cells #[.func (.func 37) #[] #[]] 85) := ⟨_, rfl⟩
  obtain ⟨w4, hw4⟩ : ∃ w4, w4 = w3.alloc (.cells #[.slice none 0 0, .slice none 0 0] 33) := ⟨_, rfl⟩
  have s1 : w1.heap.size = w.heap.size + 1 := by rw [hw1]; simp
  have s2 : w2.heap.size = w.heap.size + 2 := by rw [hw2]; simp [s1]
  have s3 : w3.heap.size = w.heap.size + 3 := by rw [hw3]; simp [s2]
  have s4 : w4.heap.size = w.heap.size + 4 := by rw [hw4]; simp [s3]
  have b1 : Below w.heap.size w w1 := by rw [hw1]; exact (Below.refl _ w).alloc (Nat.le_refl _) _
  have b2 : Below w.heap.size w w2 := by rw [hw2]; exact b1.alloc b1.size _
  have b3 : Below w.heap.size w w3 := by rw [hw3]; exact b2.alloc b2.size _
  have b4 : Below w.heap.size w w4 := by rw [hw4]; exact b3.alloc b3.size _
  have x1 : Blk w1 w.heap.size [.slice ao m c] 36 := by rw [hw1]; exact Blk.new w [.slice ao m c] 36 _ rfl
  have x4 : Blk w4 w.heap.size [.slice ao m c] 36 := by rw [hw4, hw3, hw2]; exact ((x1.alloc _).alloc _).alloc _
  have f2 : Blk w2 (w.heap.size + 1) [.func (.func 55) #[] #[]] 108 := by rw [hw2]; exact Blk.new w1 [.func (.func 55) #[] #[]] 108 _ s1.symm
  have f4 : Blk w4 (w.heap.size + 1) [.func (.func 55) #[] #[]] 108 := by rw [hw4, hw3]; exact (f2.alloc _).alloc _
  have c3 : Blk w3 (w.heap.size + 2) [.func (.func 37) #[] #[]] 85 := by rw [hw3]; exact Blk.new w2 [.func (.func 37) #[] #[]] 85 _ s2.symm
  have c4 : Blk w4 (w.heap.size + 2) [.func (.func 37) #[] #[]] 85 := by rw [hw4]; exact c3.alloc _
  have r4 : Blk w4 (w.heap.size + 3) [.slice none 0 0, .slice none 0 0] 33 := by rw [hw4]; exact Blk.new w3 [.slice none 0 0, .slice none 0 0] 33 _ s3.symm
  have b5 : Below w4.heap.size w4 (w4.alloc (.cells #[.slice none 0 0, .slice none 0 0] 33)) := (Below.refl _ w4).alloc (Nat.le_refl _) _
  have s5 : (w4.alloc (.cells #[.slice none 0 0, .slice none 0 0] 33)).heap.size = w4.heap.size + 1 := by simp
  have b6 : Below w4.heap.size w4 ((w4.alloc (.cells #[.slice none 0 0, .slice none 0 0] 33)).alloc (.cells #[.int .i64 0] 37)) := b5.alloc b5.size _
  have s6 : ((w4.alloc (.cells #[.slice none 0 0, .slice none 0 0] 33)).alloc (.cells #[.int .i64 0] 37)).heap.size = w4.heap.size + 2 := by simp
  have b7 := below_chain b4 b6
  have CL := cloget_page ao m c w.heap.size (w.heap.size + 1) (w.heap.size + 2) l _ (x4.low b6) (f4.low b6) (c4.low b6) (hb.below b7) hn hl hc hm h47 (fun a ha => by have := hf a ha; omega) (he.below b7)
  rw [s6] at CL
  have CA := Lib.hid (caught_page 98 _ w4 _ enters98 CL)
  have R4 := Lib.hid r4
  have B4 := Lib.hid b4
  have S4 := Lib.hid s4
  have HW1 := Lib.hid hw1
  have HW2 := Lib.hid hw2
  have HW3 := Lib.hid hw3
  have HW4 := Lib.hid hw4
  obtain ⟨o, hoo⟩ : ∃ o, o = whole pPageP OkPage l := ⟨_, rfl⟩
  rw [← hoo] at CA ⊢
  clear hb hn hl hc hm h47 hf he s1 s2 s3 s4 b1 b2 b3 b4 x1 x4 f2 f4 c3 c4 r4 b5 s5 b6 s6 b7 CL hw1 hw2 hw3 hw4 hoo
  go_enter Tryz.func54, Tryz.ntmps54
  go_wp2_with fail
  rw [← HW1.out, ← HW2.out, ← HW3.out, ← HW4.out]
  refine CA.out.mono ?_
  clear CA HW1 HW2 HW3 HW4
  rintro e w5 ⟨hb, ⟨ho, rfl⟩ | ⟨x, v, ho, rfl, hv⟩⟩
  · have B5 := Lib.hid (below_chain B4.out hb)
    have R5 := Lib.hid (R4.out.low hb)
    have HO := Lib.hid ho
    clear hb ho R4 B4
    have k0 := R5.out.cell 0
    have f0 := R5.out.frozen 0
    have k1 := R5.out.cell 1
    have f1 := R5.out.frozen 1
    simp only [List.getElem?_cons_zero, List.getElem?_cons_succ] at k0 k1
    go_wp2_with fail
    have KZ := set_two R5.out (.slice none 0 0) (.slice none 0 0)
    have BZ := ((B5.out).setCell (p := ⟨w.heap.size + 3, 0, none⟩) (by show w.heap.size ≤ w.heap.size + 3; omega) (.slice none 0 0)).setCell (p := ⟨w.heap.size + 3, 1, none⟩) (by show w.heap.size ≤ w.heap.size + 3; omega) (.slice none 0 0)
    exact bodyPost_ret (results_row_tmp rfl _ _ (w.heap.size + 3) 33 _ _ _ rfl rfl KZ Tryz.underlying33 rfl size33') rfl ⟨BZ, .inl ⟨HO.out, rfl⟩⟩
  · obtain ⟨u1, u2, rfl, h1, h2⟩ := hv
    obtain ⟨a1, c1, rfl⟩ := ownG_slice h1
    obtain ⟨a2, c2, rfl⟩ := ownG_slice h2
    have B5 := Lib.hid (below_chain B4.out hb)
    have R5 := Lib.hid (R4.out.low hb)
    have HO := Lib.hid ho
    have s4 := S4.out
    have H1 := Lib.hid h1
    have H2 := Lib.hid h2
    clear hb ho R4 B4 h1 h2
    have k0 := R5.out.cell 0
    have f0 := R5.out.frozen 0
    have k1 := R5.out.cell 1
    have f1 := R5.out.frozen 1
    simp only [List.getElem?_cons_zero, List.getElem?_cons_succ] at k0 k1
    go_wp2_with fail
    have KZ := set_two R5.out (.slice a1 x.nums.length c1) (.slice a2 x.keys.length c2)
    have BZ := ((B5.out).setCell (p := ⟨w.heap.size + 3, 0, none⟩) (by show w.heap.size ≤ w.heap.size + 3; omega) (.slice a1 x.nums.length c1)).setCell (p := ⟨w.heap.size + 3, 1, none⟩) (by show w.heap.size ≤ w.heap.size + 3; omega) (.slice a2 x.keys.length c2)
    have Z1 := OwnG.low (ownG_kept (ownG_kept (H1.out) (grownBy_setCell _ (w.heap.size + 3) 0 (.slice a1 x.nums.length c1)) (by omega)) (grownBy_setCell _ (w.heap.size + 3) 1 (.slice a2 x.keys.length c2)) (by omega)) (show w.heap.size ≤ w4.heap.size by omega)
    have Z2 := OwnG.low (ownG_kept (ownG_kept (H2.out) (grownBy_setCell _ (w.heap.size + 3) 0 (.slice a1 x.nums.length c1)) (by omega)) (grownBy_setCell _ (w.heap.size + 3) 1 (.slice a2 x.keys.length c2)) (by omega)) (show w.heap.size ≤ w4.heap.size by omega)
    exact bodyPost_ret (results_row_tmp rfl _ _ (w.heap.size + 3) 33 _ _ _ rfl rfl KZ Tryz.underlying33 rfl size33') rfl ⟨BZ, .inr ⟨_, _, HO.out, rfl, ⟨_, _, rfl, Z1, Z2⟩⟩⟩
set_option maxHeartbeats 4000000 in
set_option maxRecDepth 100000 in
theorem oget_page (ao : Option Addr) (m c : Nat) (l : List UInt8) (w : World)
    (hb : Byt w ao l) (hn : ao = none → c = 0) (hl : l.length = m) (hc : m ≤ c) (hm : c ≤ 9223372036854775807) (h47 : m ≤ 140737488355328) (hf : ∀ a, ao = some a → a.block < w.heap.size) (he : ErrT w) :
    Calls Tryz.prog 25 #[.slice ao m c] w (GetR w (.agg #[.slice none 0 0, .slice none 0 0]) (VPage w.heap.size) (getPage l)) := by
  obtain ⟨w4, hw4⟩ : ∃ w4, w4 = w.alloc (.cells #[.slice none 0 0, .slice none 0 0] 33) := ⟨_, rfl⟩
  have s4 : w4.heap.size = w.heap.size + 1 := by rw [hw4]; simp
  have b4 : Below w.heap.size w w4 := by rw [hw4]; exact (Below.refl _ w).alloc (Nat.le_refl _) _
  have r4 : Blk w4 w.heap.size [.slice none 0 0, .slice none 0 0] 33 := by rw [hw4]; exact Blk.new w [.slice none 0 0, .slice none 0 0] 33 _ rfl
  have ca := whole_page ao m c l w4 (hb.below b4) hn hl hc hm h47 (fun a ha => by have := hf a ha; omega) (he.below b4)
  rw [getPage_P] at ca
  have CA := Lib.hid ca
  have R4 := Lib.hid r4
  have B4 := Lib.hid b4
  have S4 := Lib.hid s4
  have HW4 := Lib.hid hw4
  obtain ⟨o, hoo⟩ : ∃ o, o = getPage l := ⟨_, rfl⟩
  rw [← hoo] at CA ⊢
  clear hb hn hl hc hm h47 hf he s4 b4 r4 ca hw4 hoo
  go_enter Tryz.func25, Tryz.ntmps25
  go_wp2_with fail
  rw [← HW4.out]
  refine CA.out.mono ?_
  clear CA HW4
  rintro e w5 ⟨hb, ⟨ho, rfl⟩ | ⟨x, v, ho, rfl, hv⟩⟩
  · have B5 := Lib.hid (below_chain B4.out hb)
    have R5 := Lib.hid (R4.out.low hb)
    have HO := Lib.hid ho
    clear hb ho R4 B4
    have k0 := R5.out.cell 0
    have f0 := R5.out.frozen 0
    have k1 := R5.out.cell 1
    have f1 := R5.out.frozen 1
    simp only [List.getElem?_cons_zero, List.getElem?_cons_succ] at k0 k1
    go_wp2_with fail
    have KZ := set_two R5.out (.slice none 0 0) (.slice none 0 0)
    have BZ := ((B5.out).setCell (p := ⟨w.heap.size, 0, none⟩) (Nat.le_refl _) (.slice none 0 0)).setCell (p := ⟨w.heap.size, 1, none⟩) (Nat.le_refl _) (.slice none 0 0)
    exact bodyPost_ret (results_row_tmp rfl _ _ w.heap.size 33 _ _ _ rfl rfl KZ Tryz.underlying33 rfl size33') rfl ⟨BZ, .inl ⟨HO.out, rfl⟩⟩
  · obtain ⟨u1, u2, rfl, h1, h2⟩ := hv
    obtain ⟨a1, c1, rfl⟩ := ownG_slice h1
    obtain ⟨a2, c2, rfl⟩ := ownG_slice h2
    have B5 := Lib.hid (below_chain B4.out hb)
    have R5 := Lib.hid (R4.out.low hb)
    have HO := Lib.hid ho
    have s4 := S4.out
    have H1 := Lib.hid h1
    have H2 := Lib.hid h2
    clear hb ho R4 B4 h1 h2
    have k0 := R5.out.cell 0
    have f0 := R5.out.frozen 0
    have k1 := R5.out.cell 1
    have f1 := R5.out.frozen 1
    simp only [List.getElem?_cons_zero, List.getElem?_cons_succ] at k0 k1
    go_wp2_with fail
    have KZ := set_two R5.out (.slice a1 x.nums.length c1) (.slice a2 x.keys.length c2)
    have BZ := ((B5.out).setCell (p := ⟨w.heap.size, 0, none⟩) (Nat.le_refl _) (.slice a1 x.nums.length c1)).setCell (p := ⟨w.heap.size, 1, none⟩) (Nat.le_refl _) (.slice a2 x.keys.length c2)
    have Z1 := OwnG.low (ownG_kept (ownG_kept (H1.out) (grownBy_setCell _ w.heap.size 0 (.slice a1 x.nums.length c1)) (by omega)) (grownBy_setCell _ w.heap.size 1 (.slice a2 x.keys.length c2)) (by omega)) (show w.heap.size ≤ w4.heap.size by omega)
    have Z2 := OwnG.low (ownG_kept (ownG_kept (H2.out) (grownBy_setCell _ w.heap.size 0 (.slice a1 x.nums.length c1)) (by omega)) (grownBy_setCell _ w.heap.size 1 (.slice a2 x.keys.length c2)) (by omega)) (show w.heap.size ≤ w4.heap.size by omega)
    exact bodyPost_ret (results_row_tmp rfl _ _ w.heap.size 33 _ _ _ rfl rfl KZ Tryz.underlying33 rfl size33') rfl ⟨BZ, .inr ⟨_, _, HO.out, rfl, ⟨_, _, rfl, Z1, Z2⟩⟩⟩
set_option maxHeartbeats 4000000 in
set_option maxRecDepth 100000 in
open Classical in
theorem whole_listing (ao : Option Addr) (m c : Nat) (l : List UInt8) (w : World)
    (hb : Byt w ao l) (hn : ao = none → c = 0) (hl : l.length = m) (hc : m ≤ c) (hm : c ≤ 9223372036854775807) (h47 : m ≤ 140737488355328) (hf : ∀ a, ao = some a → a.block < w.heap.size) (he : ErrT w) :
    Calls Tryz.prog 50 #[.slice ao m c, .func (.func 51) #[] #[], .func (.func 35) #[] #[]] w (GetR w (.agg #[.bool false, .slice none 0 0, .slice none 0 0]) (VList w.heap.size) (whole pListP (OkList ltB nameOk) l)) := by
  have hmf : ∀ (fn : Fn) (first cap : Array Value) (w : World), (Instr.makeFunc fn first cap).run Tryz.prog w = .ok (.func fn first cap) w := fun _ _ _ _ => rfl
  obtain ⟨w1, hw1⟩ : ∃ w1, w1 = w.alloc (.cells #[.slice ao m c] 36) := ⟨_, rfl⟩
  obtain ⟨w2, hw2⟩ : ∃ w2, w2 = w1.alloc (.cells #[.func (.func 51) #[] #[]] 104) := ⟨_, rfl⟩
  obtain ⟨w3, hw3⟩ : ∃ w3, w3 = w2.alloc (.cells #[.func (.func 35) #[] #[]] 82) := ⟨_, rfl⟩
  obtain ⟨w4, hw4⟩ : ∃ w4, w4 = w3.alloc (.cells #[.bool false, .slice none 0 0, .slice none 0 0] 30) := ⟨_, rfl⟩
  have s1 : w1.heap.size = w.heap.size + 1 := by rw [hw1]; simp
  have s2 : w2.heap.size = w.heap.size + 2 := by rw [hw2]; simp [s1]
  have s3 : w3.heap.size = w.heap.size + 3 := by rw [hw3]; simp [s2]
  have s4 : w4.heap.size = w.heap.size + 4 := by rw [hw4]; simp [s3]
  have b1 : Below w.heap.size w w1 := by rw [hw1]; exact (Below.refl _ w).alloc (Nat.le_refl _) _
  have b2 : Below w.heap.size w w2 := by rw [hw2]; exact b1.alloc b1.size _
  have b3 : Below w.heap.size w w3 := by rw [hw3]; exact b2.alloc b2.size _
  have b4 : Below w.heap.size w w4 := by rw [hw4]; exact b3.alloc b3.size _
  have x1 : Blk w1 w.heap.size [.slice ao m c] 36 := by rw [hw1]; exact Blk.new w [.slice ao m c] 36 _ rfl
  have x4 : Blk w4 w.heap.size [.slice ao m c] 36 := by rw [hw4, hw3, hw2]; exact ((x1.alloc _).alloc _).alloc _
  have f2 : Blk w2 (w.heap.size + 1) [.func (.func 51) #[] #[]] 104 := by rw [hw2]; exact Blk.new w1 [.func (.func 51) #[] #[]] 104 _ s1.symm
  have f4 : Blk w4 (w.heap.size + 1) [.func (.func 51) #[] #[]] 104 := by rw [hw4, hw3]; exact (f2.alloc _).alloc _
  have c3 : Blk w3 (w.heap.size + 2) [.func (.func 35) #[] #[]] 82 := by rw [hw3]; exact Blk.new w2 [.func (.func 35) #[] #[]] 82 _ s2.symm
  have c4 : Blk w4 (w.heap.size + 2) [.func (.func 35) #[] #[]] 82 := by rw [hw4]; exact c3.alloc _
  have r4 : Blk w4 (w.heap.size + 3) [.bool false, .slice none 0 0, .slice none 0 0] 30 := by rw [hw4]; exact Blk.new w3 [.bool false, .slice none 0 0, .slice none 0 0] 30 _ s3.symm
  have b5 : Below w4.heap.size w4 (w4.alloc (.cells #[.bool false, .slice none 0 0, .slice none 0 0] 30)) := (Below.refl _ w4).alloc (Nat.le_refl _) _
  have s5 : (w4.alloc (.cells #[.bool false, .slice none 0 0, .slice none 0 0] 30)).heap.size = w4.heap.size + 1 := by simp
  have b6 : Below w4.heap.size w4 ((w4.alloc (.cells #[.bool false, .slice none 0 0, .slice none 0 0] 30)).alloc (.cells #[.int .i64 0] 37)) := b5.alloc b5.size _
  have s6 : ((w4.alloc (.cells #[.bool false, .slice none 0 0, .slice none 0 0] 30)).alloc (.cells #[.int .i64 0] 37)).heap.size = w4.heap.size + 2 := by simp
  have b7 := below_chain b4 b6
  have CL := cloget_listing ao m c w.heap.size (w.heap.size + 1) (w.heap.size + 2) l _ (x4.low b6) (f4.low b6) (c4.low b6) (hb.below b7) hn hl hc hm h47 (fun a ha => by have := hf a ha; omega) (he.below b7)
  rw [s6] at CL
  have CA := Lib.hid (caught_listing 92 _ w4 _ enters92 CL)
  have R4 := Lib.hid r4
  have B4 := Lib.hid b4
  have S4 := Lib.hid s4
  have HW1 := Lib.hid hw1
  have HW2 := Lib.hid hw2
  have HW3 := Lib.hid hw3
  have HW4 := Lib.hid hw4
  obtain ⟨o, hoo⟩ : ∃ o, o = whole pListP (OkList ltB nameOk) l := ⟨_, rfl⟩
  rw [← hoo] at CA ⊢
  clear hb hn hl hc hm h47 hf he s1 s2 s3 s4 b1 b2 b3 b4 x1 x4 f2 f4 c3 c4 r4 b5 s5 b6 s6 b7 CL hw1 hw2 hw3 hw4 hoo
  go_enter Tryz.func50, Tryz.ntmps50
  go_wp2_with fail
  rw [← HW1.out, ← HW2.out, ← HW3.out, ← HW4.out]
  refine CA.out.mono ?_
  clear CA HW1 HW2 HW3 HW4
  rintro e w5 ⟨hb, ⟨ho, rfl⟩ | ⟨x, v, ho, rfl, hv⟩⟩
  · have B5 := Lib.hid (below_chain B4.out hb)
    have R5 := Lib.hid (R4.out.low hb)
    have HO := Lib.hid ho
    clear hb ho R4 B4
    have k0 := R5.out.cell 0
    have f0 := R5.out.frozen 0
    have k1 := R5.out.cell 1
    have f1 := R5.out.frozen 1
    have k2 := R5.out.cell 2
    have f2 := R5.out.frozen 2
    simp only [List.getElem?_cons_zero, List.getElem?_cons_succ] at k0 k1 k2
    go_wp2_with fail
    have KZ := set_three R5.out (.bool false) (.slice none 0 0) (.slice none 0 0)
    have BZ := (((B5.out).setCell (p := ⟨w.heap.size + 3, 0, none⟩) (by show w.heap.size ≤ w.heap.size + 3; omega) (.bool false)).setCell (p := ⟨w.heap.size + 3, 1, none⟩) (by show w.heap.size ≤ w.heap.size + 3; omega) (.slice none 0 0)).setCell (p := ⟨w.heap.size + 3, 2, none⟩) (by show w.heap.size ≤ w.heap.size + 3; omega) (.slice none 0 0)
    exact bodyPost_ret (results_row_tmp rfl _ _ (w.heap.size + 3) 30 _ _ _ rfl rfl KZ Tryz.underlying30 rfl size30') rfl ⟨BZ, .inl ⟨HO.out, rfl⟩⟩
  · obtain ⟨u1, u2, rfl, h1, h2⟩ := hv
    obtain ⟨a1, c1, rfl⟩ := ownG_slice h1
    obtain ⟨a2, c2, rfl⟩ := ownG_slice h2
    have B5 := Lib.hid (below_chain B4.out hb)
    have R5 := Lib.hid (R4.out.low hb)
    have HO := Lib.hid ho
    have s4 := S4.out
    have H1 := Lib.hid h1
    have H2 := Lib.hid h2
    clear hb ho R4 B4 h1 h2
    have k0 := R5.out.cell 0
    have f0 := R5.out.frozen 0
    have k1 := R5.out.cell 1
    have f1 := R5.out.frozen 1
    have k2 := R5.out.cell 2
    have f2 := R5.out.frozen 2
    simp only [List.getElem?_cons_zero, List.getElem?_cons_succ] at k0 k1 k2
    go_wp2_with fail
    have KZ := set_three R5.out (.bool x.opq) (.slice a1 x.names.length c1) (.slice a2 x.nums.length c2)
    have BZ := (((B5.out).setCell (p := ⟨w.heap.size + 3, 0, none⟩) (by show w.heap.size ≤ w.heap.size + 3; omega) (.bool x.opq)).setCell (p := ⟨w.heap.size + 3, 1, none⟩) (by show w.heap.size ≤ w.heap.size + 3; omega) (.slice a1 x.names.length c1)).setCell (p := ⟨w.heap.size + 3, 2, none⟩) (by show w.heap.size ≤ w.heap.size + 3; omega) (.slice a2 x.nums.length c2)
    have Z1 := OwnG.low (ownG_kept (ownG_kept (ownG_kept (H1.out) (grownBy_setCell _ (w.heap.size + 3) 0 (.bool x.opq)) (by omega)) (grownBy_setCell _ (w.heap.size + 3) 1 (.slice a1 x.names.length c1)) (by omega)) (grownBy_setCell _ (w.heap.size + 3) 2 (.slice a2 x.nums.length c2)) (by omega)) (show w.heap.size ≤ w4.heap.size by omega)
    have Z2 := OwnG.low (ownG_kept (ownG_kept (ownG_kept (H2.out) (grownBy_setCell _ (w.heap.size + 3) 0 (.bool x.opq)) (by omega)) (grownBy_setCell _ (w.heap.size + 3) 1 (.slice a1 x.names.length c1)) (by omega)) (grownBy_setCell _ (w.heap.size + 3) 2 (.slice a2 x.nums.length c2)) (by omega)) (show w.heap.size ≤ w4.heap.size by omega)
    exact bodyPost_ret (results_row_tmp rfl _ _ (w.heap.size + 3) 30 _ _ _ rfl rfl KZ Tryz.underlying30 rfl size30') rfl ⟨BZ, .inr ⟨_, _, HO.out, rfl, ⟨_, _, rfl, Z1, Z2⟩⟩⟩
set_option maxHeartbeats 4000000 in
set_option maxRecDepth 100000 in
theorem oget_listing (ao : Option Addr) (m c : Nat) (l : List UInt8) (w : World)
    (hb : Byt w ao l) (hn : ao = none → c = 0) (hl : l.length = m) (hc : m ≤ c) (hm : c ≤ 9223372036854775807) (h47 : m ≤ 140737488355328) (hf : ∀ a, ao = some a → a.block < w.heap.size) (he : ErrT w) :
    Calls Tryz.prog 21 #[.slice ao m c] w (GetR w (.agg #[.bool false, .slice none 0 0, .slice none 0 0]) (VList w.heap.size) (getList ltB nameOk l)) := by
  obtain ⟨w4, hw4⟩ : ∃ w4, w4 = w.alloc (.cells #[.bool false, .slice none 0 0, .slice none 0 0] 30) := ⟨_, rfl⟩
  have s4 : w4.heap.size = w.heap.size + 1 := by rw [hw4]; simp
  have b4 : Below w.heap.size w w4 := by rw [hw4]; exact (Below.refl _ w).alloc (Nat.le_refl _) _
  have r4 : Blk w4 w.heap.size [.bool false, .slice none 0 0, .slice none 0 0] 30 := by rw [hw4]; exact Blk.new w [.bool false, .slice none 0 0, .slice none 0 0] 30 _ rfl
  have ca := whole_listing ao m c l w4 (hb.below b4) hn hl hc hm h47 (fun a ha => by have := hf a ha; omega) (he.below b4)
  rw [getList_P] at ca
  have CA := Lib.hid ca
  have R4 := Lib.hid r4
  have B4 := Lib.hid b4
  have S4 := Lib.hid s4
  have HW4 := Lib.hid hw4
  obtain ⟨o, hoo⟩ : ∃ o, o = getList ltB nameOk l := ⟨_, rfl⟩
  rw [← hoo] at CA ⊢
  clear hb hn hl hc hm h47 hf he s4 b4 r4 ca hw4 hoo
  go_enter Tryz.func21, Tryz.ntmps21
  go_wp2_with fail
  rw [← HW4.out]
  refine CA.out.mono ?_
  clear CA HW4
  rintro e w5 ⟨hb, ⟨ho, rfl⟩ | ⟨x, v, ho, rfl, hv⟩⟩
  · have B5 := Lib.hid (below_chain B4.out hb)
    have R5 := Lib.hid (R4.out.low hb)
    have HO := Lib.hid ho
    clear hb ho R4 B4
    have k0 := R5.out.cell 0
    have f0 := R5.out.frozen 0
    have k1 := R5.out.cell 1
    have f1 := R5.out.frozen 1
    have k2 := R5.out.cell 2
    have f2 := R5.out.frozen 2
    simp only [List.getElem?_cons_zero, List.getElem?_cons_succ] at k0 k1 k2
    go_wp2_with fail
    have KZ := set_three R5.out (.bool false) (.slice none 0 0) (.slice none 0 0)
    have BZ := (((B5.out).setCell (p := ⟨w.heap.size, 0, none⟩) (Nat.le_refl _) (.bool false)).setCell (p := ⟨w.heap.size, 1, none⟩) (Nat.le_refl _) (.slice none 0 0)).setCell (p := ⟨w.heap.size, 2, none⟩) (Nat.le_refl _) (.slice none 0 0)
    exact bodyPost_ret (results_row_tmp rfl _ _ w.heap.size 30 _ _ _ rfl rfl KZ Tryz.underlying30 rfl size30') rfl ⟨BZ, .inl ⟨HO.out, rfl⟩⟩
  · obtain ⟨u1, u2, rfl, h1, h2⟩ := hv
    obtain ⟨a1, c1, rfl⟩ := ownG_slice h1
    obtain ⟨a2, c2, rfl⟩ := ownG_slice h2
    have B5 := Lib.hid (below_chain B4.out hb)
    have R5 := Lib.hid (R4.out.low hb)
    have HO := Lib.hid ho
    have s4 := S4.out
    have H1 := Lib.hid h1
    have H2 := Lib.hid h2
    clear hb ho R4 B4 h1 h2
    have k0 := R5.out.cell 0
    have f0 := R5.out.frozen 0
    have k1 := R5.out.cell 1
    have f1 := R5.out.frozen 1
    have k2 := R5.out.cell 2
    have f2 := R5.out.frozen 2
    simp only [List.getElem?_cons_zero, List.getElem?_cons_succ] at k0 k1 k2
    go_wp2_with fail
    have KZ := set_three R5.out (.bool x.opq) (.slice a1 x.names.length c1) (.slice a2 x.nums.length c2)
    have BZ := (((B5.out).setCell (p := ⟨w.heap.size, 0, none⟩) (Nat.le_refl _) (.bool x.opq)).setCell (p := ⟨w.heap.size, 1, none⟩) (Nat.le_refl _) (.slice a1 x.names.length c1)).setCell (p := ⟨w.heap.size, 2, none⟩) (Nat.le_refl _) (.slice a2 x.nums.length c2)
    have Z1 := OwnG.low (ownG_kept (ownG_kept (ownG_kept (H1.out) (grownBy_setCell _ w.heap.size 0 (.bool x.opq)) (by omega)) (grownBy_setCell _ w.heap.size 1 (.slice a1 x.names.length c1)) (by omega)) (grownBy_setCell _ w.heap.size 2 (.slice a2 x.nums.length c2)) (by omega)) (show w.heap.size ≤ w4.heap.size by omega)
    have Z2 := OwnG.low (ownG_kept (ownG_kept (ownG_kept (H2.out) (grownBy_setCell _ w.heap.size 0 (.bool x.opq)) (by omega)) (grownBy_setCell _ w.heap.size 1 (.slice a1 x.names.length c1)) (by omega)) (grownBy_setCell _ w.heap.size 2 (.slice a2 x.nums.length c2)) (by omega)) (show w.heap.size ≤ w4.heap.size by omega)
    exact bodyPost_ret (results_row_tmp rfl _ _ w.heap.size 30 _ _ _ rfl rfl KZ Tryz.underlying30 rfl size30') rfl ⟨BZ, .inr ⟨_, _, HO.out, rfl, ⟨_, _, rfl, Z1, Z2⟩⟩⟩
set_option maxHeartbeats 4000000 in
set_option maxRecDepth 100000 in
open Classical in
theorem whole_meta (ao : Option Addr) (m c : Nat) (l : List UInt8) (w : World)
    (hb : Byt w ao l) (hn : ao = none → c = 0) (hl : l.length = m) (hc : m ≤ c) (hm : c ≤ 9223372036854775807) (h47 : m ≤ 140737488355328) (hf : ∀ a, ao = some a → a.block < w.heap.size) (he : ErrT w) :
    Calls Tryz.prog 40 #[.slice ao m c, .func (.func 41) #[] #[], .func (.func 33) #[] #[]] w (GetR w (.agg #[.int .i64 0, .int .i64 0, .int .i64 0, .int .i64 0, .string ⟨#[]⟩, .slice none 0 0, .slice none 0 0]) (VMeta w.heap.size) (whole pMetaP (OkMeta ltB nameOk) l)) := by
  have hmf : ∀ (fn : Fn) (first cap : Array Value) (w : World), (Instr.makeFunc fn first cap).run Tryz.prog w = .ok (.func fn first cap) w := fun _ _ _ _ => rfl
  obtain ⟨w1, hw1⟩ : ∃ w1, w1 = w.alloc (.cells #[.slice ao m c] 36) := ⟨_, rfl⟩
  obtain ⟨w2, hw2⟩ : ∃ w2, w2 = w1.alloc (.cells #[.func (.func 41) #[] #[]] 90) := ⟨_, rfl⟩
  obtain ⟨w3, hw3⟩ : ∃ w3, w3 = w2.alloc (.cells #[.func (.func 33) #[] #[]] 80) := ⟨_, rfl⟩
  obtain ⟨w4, hw4⟩ : ∃ w4, w4 = w3.alloc (.cells #[.int .i64 0, .int .i64 0, .int .i64 0, .int .i64 0, .string ⟨#[]⟩, .slice none 0 0, .slice none 0 0] 26) := ⟨_, rfl⟩
  have s1 : w1.heap.size = w.heap.size + 1 := by rw [hw1]; simp
  have s2 : w2.heap.size = w.heap.size + 2 := by rw [hw2]; simp [s1]
  have s3 : w3.heap.size = w.heap.size + 3 := by rw [hw3]; simp [s2]
  have s4 : w4.heap.size = w.heap.size + 4 := by rw [hw4]; simp [s3]
  have b1 : Below w.heap.size w w1 := by rw [hw1]; exact (Below.refl _ w).alloc (Nat.le_refl _) _
  have b2 : Below w.heap.size w w2 := by rw [hw2]; exact b1.alloc b1.size _
  have b3 : Below w.heap.size w w3 := by rw [hw3]; exact b2.alloc b2.size _
  have b4 : Below w.heap.size w w4 := by rw [hw4]; exact b3.alloc b3.size _
  have x1 : Blk w1 w.heap.size [.slice ao m c] 36 := by rw [hw1]; exact Blk.new w [.slice ao m c] 36 _ rfl
  have x4 : Blk w4 w.heap.size [.slice ao m c] 36 := by rw [hw4, hw3, hw2]; exact ((x1.alloc _).alloc _).alloc _
  have f2 : Blk w2 (w.heap.size + 1) [.func (.func 41) #[] #[]] 90 := by rw [hw2]; exact Blk.new w1 [.func (.func 41) #[] #[]] 90 _ s1.symm
  have f4 : Blk w4 (w.heap.size + 1) [.func (.func 41) #[] #[]] 90 := by rw [hw4, hw3]; exact (f2.alloc _).alloc _
  have c3 : Blk w3 (w.heap.size + 2) [.func (.func 33) #[] #[]] 80 := by rw [hw3]; exact Blk.new w2 [.func (.func 33) #[] #[]] 80 _ s2.symm
  have c4 : Blk w4 (w.heap.size + 2) [.func (.func 33) #[] #[]] 80 := by rw [hw4]; exact c3.alloc _
  have r4 : Blk w4 (w.heap.size + 3) [.int .i64 0, .int .i64 0, .int .i64 0, .int .i64 0, .string ⟨#[]⟩, .slice none 0 0, .slice none 0 0] 26 := by rw [hw4]; exact Blk.new w3 [.int .i64 0, .int .i64 0, .int .i64 0, .int .i64 0, .string ⟨#[]⟩, .slice none 0 0, .slice none 0 0] 26 _ s3.symm
  have b5 : Below w4.heap.size w4 (w4.alloc (.cells #[.int .i64 0, .int .i64 0, .int .i64 0, .int .i64 0, .string ⟨#[]⟩, .slice none 0 0, .slice none 0 0] 26)) := (Below.refl _ w4).alloc (Nat.le_refl _) _
  have s5 : (w4.alloc (.cells #[.int .i64 0, .int .i64 0, .int .i64 0, .int .i64 0, .string ⟨#[]⟩, .slice none 0 0, .slice none 0 0] 26)).heap.size = w4.heap.size + 1 := by simp
  have b6 : Below w4.heap.size w4 ((w4.alloc (.cells #[.int .i64 0, .int .i64 0, .int .i64 0, .int .i64 0, .string ⟨#[]⟩, .slice none 0 0, .slice none 0 0] 26)).alloc (.cells #[.int .i64 0] 37)) := b5.alloc b5.size _
  have s6 : ((w4.alloc (.cells #[.int .i64 0, .int .i64 0, .int .i64 0, .int .i64 0, .string ⟨#[]⟩, .slice none 0 0, .slice none 0 0] 26)).alloc (.cells #[.int .i64 0] 37)).heap.size = w4.heap.size + 2 := by simp
  have b7 := below_chain b4 b6
  have CL := cloget_meta ao m c w.heap.size (w.heap.size + 1) (w.heap.size + 2) l _ (x4.low b6) (f4.low b6) (c4.low b6) (hb.below b7) hn hl hc hm h47 (fun a ha => by have := hf a ha; omega) (he.below b7)
  rw [s6] at CL
  have CA := Lib.hid (caught_meta 76 _ w4 _ enters76 CL)
  have R4 := Lib.hid r4
  have B4 := Lib.hid b4
  have S4 := Lib.hid s4
  have HW1 := Lib.hid hw1
  have HW2 := Lib.hid hw2
  have HW3 := Lib.hid hw3
  have HW4 := Lib.hid hw4
  obtain ⟨o, hoo⟩ : ∃ o, o = whole pMetaP (OkMeta ltB nameOk) l := ⟨_, rfl⟩
  rw [← hoo] at CA ⊢
  clear hb hn hl hc hm h47 hf he s1 s2 s3 s4 b1 b2 b3 b4 x1 x4 f2 f4 c3 c4 r4 b5 s5 b6 s6 b7 CL hw1 hw2 hw3 hw4 hoo
  go_enter Tryz.func40, Tryz.ntmps40
  go_wp2_with fail
  rw [← HW1.out, ← HW2.out, ← HW3.out, ← HW4.out]
  refine CA.out.mono ?_
  clear CA HW1 HW2 HW3 HW4
  rintro e w5 ⟨hb, ⟨ho, rfl⟩ | ⟨x, v, ho, rfl, hv⟩⟩
  · have B5 := Lib.hid (below_chain B4.out hb)
    have R5 := Lib.hid (R4.out.low hb)
    have HO := Lib.hid ho
    clear hb ho R4 B4
    have k0 := R5.out.cell 0
    have f0 := R5.out.frozen 0
    have k1 := R5.out.cell 1
    have f1 := R5.out.frozen 1
    have k2 := R5.out.cell 2
    have f2 := R5.out.frozen 2
    have k3 := R5.out.cell 3
    have f3 := R5.out.frozen 3
    have k4 := R5.out.cell 4
    have f4 := R5.out.frozen 4
    have k5 := R5.out.cell 5
    have f5 := R5.out.frozen 5
    have k6 := R5.out.cell 6
    have f6 := R5.out.frozen 6
    simp only [List.getElem?_cons_zero, List.getElem?_cons_succ] at k0 k1 k2 k3 k4 k5 k6
    go_wp2_with fail
    have KZ := set_seven R5.out (.int .i64 0) (.int .i64 0) (.int .i64 0) (.int .i64 0) (.string ⟨#[]⟩) (.slice none 0 0) (.slice none 0 0)
    have BZ := (((((((B5.out).setCell (p := ⟨w.heap.size + 3, 0, none⟩) (by show w.heap.size ≤ w.heap.size + 3; omega) (.int .i64 0)).setCell (p := ⟨w.heap.size + 3, 1, none⟩) (by show w.heap.size ≤ w.heap.size + 3; omega) (.int .i64 0)).setCell (p := ⟨w.heap.size + 3, 2, none⟩) (by show w.heap.size ≤ w.heap.size + 3; omega) (.int .i64 0)).setCell (p := ⟨w.heap.size + 3, 3, none⟩) (by show w.heap.size ≤ w.heap.size + 3; omega) (.int .i64 0)).setCell (p := ⟨w.heap.size + 3, 4, none⟩) (by show w.heap.size ≤ w.heap.size + 3; omega) (.string ⟨#[]⟩)).setCell (p := ⟨w.heap.size + 3, 5, none⟩) (by show w.heap.size ≤ w.heap.size + 3; omega) (.slice none 0 0)).setCell (p := ⟨w.heap.size + 3, 6, none⟩) (by show w.heap.size ≤ w.heap.size + 3; omega) (.slice none 0 0)
    exact bodyPost_ret (results_row_tmp rfl _ _ (w.heap.size + 3) 26 _ _ _ rfl rfl KZ Tryz.underlying26 rfl size26') rfl ⟨BZ, .inl ⟨HO.out, rfl⟩⟩
  · obtain ⟨u1, u2, rfl, h1, h2⟩ := hv
    obtain ⟨a1, c1, rfl⟩ := ownA_slice h1
    obtain ⟨a2, c2, rfl⟩ := ownG_slice h2
    have B5 := Lib.hid (below_chain B4.out hb)
    have R5 := Lib.hid (R4.out.low hb)
    have HO := Lib.hid ho
    have s4 := S4.out
    have H1 := Lib.hid h1
    have H2 := Lib.hid h2
    clear hb ho R4 B4 h1 h2
    have k0 := R5.out.cell 0
    have f0 := R5.out.frozen 0
    have k1 := R5.out.cell 1
    have f1 := R5.out.frozen 1
    have k2 := R5.out.cell 2
    have f2 := R5.out.frozen 2
    have k3 := R5.out.cell 3
    have f3 := R5.out.frozen 3
    have k4 := R5.out.cell 4
    have f4 := R5.out.frozen 4
    have k5 := R5.out.cell 5
    have f5 := R5.out.frozen 5
    have k6 := R5.out.cell 6
    have f6 := R5.out.frozen 6
    simp only [List.getElem?_cons_zero, List.getElem?_cons_succ] at k0 k1 k2 k3 k4 k5 k6
    go_wp2_with fail
    have KZ := set_seven R5.out (.int .i64 x.kind) (.int .i64 x.mode) (.int .i64 x.links) (.int .i64 x.size) (.string x.target) (.slice a1 x.attrs.length c1) (.slice a2 x.refs.length c2)
    have BZ := (((((((B5.out).setCell (p := ⟨w.heap.size + 3, 0, none⟩) (by show w.heap.size ≤ w.heap.size + 3; omega) (.int .i64 x.kind)).setCell (p := ⟨w.heap.size + 3, 1, none⟩) (by show w.heap.size ≤ w.heap.size + 3; omega) (.int .i64 x.mode)).setCell (p := ⟨w.heap.size + 3, 2, none⟩) (by show w.heap.size ≤ w.heap.size + 3; omega) (.int .i64 x.links)).setCell (p := ⟨w.heap.size + 3, 3, none⟩) (by show w.heap.size ≤ w.heap.size + 3; omega) (.int .i64 x.size)).setCell (p := ⟨w.heap.size + 3, 4, none⟩) (by show w.heap.size ≤ w.heap.size + 3; omega) (.string x.target)).setCell (p := ⟨w.heap.size + 3, 5, none⟩) (by show w.heap.size ≤ w.heap.size + 3; omega) (.slice a1 x.attrs.length c1)).setCell (p := ⟨w.heap.size + 3, 6, none⟩) (by show w.heap.size ≤ w.heap.size + 3; omega) (.slice a2 x.refs.length c2)
    have Z1 := OwnA.low (OwnA.kept (OwnA.kept (OwnA.kept (OwnA.kept (OwnA.kept (OwnA.kept (OwnA.kept (H1.out) (grownBy_setCell _ (w.heap.size + 3) 0 (.int .i64 x.kind)) (by omega)) (grownBy_setCell _ (w.heap.size + 3) 1 (.int .i64 x.mode)) (by omega)) (grownBy_setCell _ (w.heap.size + 3) 2 (.int .i64 x.links)) (by omega)) (grownBy_setCell _ (w.heap.size + 3) 3 (.int .i64 x.size)) (by omega)) (grownBy_setCell _ (w.heap.size + 3) 4 (.string x.target)) (by omega)) (grownBy_setCell _ (w.heap.size + 3) 5 (.slice a1 x.attrs.length c1)) (by omega)) (grownBy_setCell _ (w.heap.size + 3) 6 (.slice a2 x.refs.length c2)) (by omega)) (show w.heap.size ≤ w4.heap.size by omega)
    have Z2 := OwnG.low (ownG_kept (ownG_kept (ownG_kept (ownG_kept (ownG_kept (ownG_kept (ownG_kept (H2.out) (grownBy_setCell _ (w.heap.size + 3) 0 (.int .i64 x.kind)) (by omega)) (grownBy_setCell _ (w.heap.size + 3) 1 (.int .i64 x.mode)) (by omega)) (grownBy_setCell _ (w.heap.size + 3) 2 (.int .i64 x.links)) (by omega)) (grownBy_setCell _ (w.heap.size + 3) 3 (.int .i64 x.size)) (by omega)) (grownBy_setCell _ (w.heap.size + 3) 4 (.string x.target)) (by omega)) (grownBy_setCell _ (w.heap.size + 3) 5 (.slice a1 x.attrs.length c1)) (by omega)) (grownBy_setCell _ (w.heap.size + 3) 6 (.slice a2 x.refs.length c2)) (by omega)) (show w.heap.size ≤ w4.heap.size by omega)
    exact bodyPost_ret (results_row_tmp rfl _ _ (w.heap.size + 3) 26 _ _ _ rfl rfl KZ Tryz.underlying26 rfl size26') rfl ⟨BZ, .inr ⟨_, _, HO.out, rfl, ⟨_, _, rfl, Z1, Z2⟩⟩⟩
set_option maxHeartbeats 4000000 in
set_option maxRecDepth 100000 in
theorem oget_meta (ao : Option Addr) (m c : Nat) (l : List UInt8) (w : World)
    (hb : Byt w ao l) (hn : ao = none → c = 0) (hl : l.length = m) (hc : m ≤ c) (hm : c ≤ 9223372036854775807) (h47 : m ≤ 140737488355328) (hf : ∀ a, ao = some a → a.block < w.heap.size) (he : ErrT w) :
    Calls Tryz.prog 15 #[.slice ao m c] w (GetR w (.agg #[.int .i64 0, .int .i64 0, .int .i64 0, .int .i64 0, .string ⟨#[]⟩, .slice none 0 0, .slice none 0 0]) (VMeta w.heap.size) (getMeta ltB nameOk l)) := by
  obtain ⟨w4, hw4⟩ : ∃ w4, w4 = w.alloc (.cells #[.int .i64 0, .int .i64 0, .int .i64 0, .int .i64 0, .string ⟨#[]⟩, .slice none 0 0, .slice none 0 0] 26) := ⟨_, rfl⟩
  have s4 : w4.heap.size = w.heap.size + 1 := by rw [hw4]; simp
  have b4 : Below w.heap.size w w4 := by rw [hw4]; exact (Below.refl _ w).alloc (Nat.le_refl _) _
  have r4 : Blk w4 w.heap.size [.int .i64 0, .int .i64 0, .int .i64 0, .int .i64 0, .string ⟨#[]⟩, .slice none 0 0, .slice none 0 0] 26 := by rw [hw4]; exact Blk.new w [.int .i64 0, .int .i64 0, .int .i64 0, .int .i64 0, .string ⟨#[]⟩, .slice none 0 0, .slice none 0 0] 26 _ rfl
  have ca := whole_meta ao m c l w4 (hb.below b4) hn hl hc hm h47 (fun a ha => by have := hf a ha; omega) (he.below b4)
  rw [getMeta_P] at ca
  have CA := Lib.hid ca
  have R4 := Lib.hid r4
  have B4 := Lib.hid b4
  have S4 := Lib.hid s4
  have HW4 := Lib.hid hw4
  obtain ⟨o, hoo⟩ : ∃ o, o = getMeta ltB nameOk l := ⟨_, rfl⟩
  rw [← hoo] at CA ⊢
  clear hb hn hl hc hm h47 hf he s4 b4 r4 ca hw4 hoo
  go_enter Tryz.func15, Tryz.ntmps15
  go_wp2_with fail
  rw [← HW4.out]
  refine CA.out.mono ?_
  clear CA HW4
  rintro e w5 ⟨hb, ⟨ho, rfl⟩ | ⟨x, v, ho, rfl, hv⟩⟩
  · have B5 := Lib.hid (below_chain B4.out hb)
    have R5 := Lib.hid (R4.out.low hb)
    have HO := Lib.hid ho
    clear hb ho R4 B4
    have k0 := R5.out.cell 0
    have f0 := R5.out.frozen 0
    have k1 := R5.out.cell 1
    have f1 := R5.out.frozen 1
    have k2 := R5.out.cell 2
    have f2 := R5.out.frozen 2
    have k3 := R5.out.cell 3
    have f3 := R5.out.frozen 3
    have k4 := R5.out.cell 4
    have f4 := R5.out.frozen 4
    have k5 := R5.out.cell 5
    have f5 := R5.out.frozen 5
    have k6 := R5.out.cell 6
    have f6 := R5.out.frozen 6
    simp only [List.getElem?_cons_zero, List.getElem?_cons_succ] at k0 k1 k2 k3 k4 k5 k6
    go_wp2_with fail
    have KZ := set_seven R5.out (.int .i64 0) (.int .i64 0) (.int .i64 0) (.int .i64 0) (.string ⟨#[]⟩) (.slice none 0 0) (.slice none 0 0)
    have BZ := (((((((B5.out).setCell (p := ⟨w.heap.size, 0, none⟩) (Nat.le_refl _) (.int .i64 0)).setCell (p := ⟨w.heap.size, 1, none⟩) (Nat.le_refl _) (.int .i64 0)).setCell (p := ⟨w.heap.size, 2, none⟩) (Nat.le_refl _) (.int .i64 0)).setCell (p := ⟨w.heap.size, 3, none⟩) (Nat.le_refl _) (.int .i64 0)).setCell (p := ⟨w.heap.size, 4, none⟩) (Nat.le_refl _) (.string ⟨#[]⟩)).setCell (p := ⟨w.heap.size, 5, none⟩) (Nat.le_refl _) (.slice none 0 0)).setCell (p := ⟨w.heap.size, 6, none⟩) (Nat.le_refl _) (.slice none 0 0)
    exact bodyPost_ret (results_row_tmp rfl _ _ w.heap.size 26 _ _ _ rfl rfl KZ Tryz.underlying26 rfl size26') rfl ⟨BZ, .inl ⟨HO.out, rfl⟩⟩
  · obtain ⟨u1, u2, rfl, h1, h2⟩ := hv
    obtain ⟨a1, c1, rfl⟩ := ownA_slice h1
    obtain ⟨a2, c2, rfl⟩ := ownG_slice h2
    have B5 := Lib.hid (below_chain B4.out hb)
    have R5 := Lib.hid (R4.out.low hb)
    have HO := Lib.hid ho
    have s4 := S4.out
    have H1 := Lib.hid h1
    have H2 := Lib.hid h2
    clear hb ho R4 B4 h1 h2
    have k0 := R5.out.cell 0
    have f0 := R5.out.frozen 0
    have k1 := R5.out.cell 1
    have f1 := R5.out.frozen 1
    have k2 := R5.out.cell 2
    have f2 := R5.out.frozen 2
    have k3 := R5.out.cell 3
    have f3 := R5.out.frozen 3
    have k4 := R5.out.cell 4
    have f4 := R5.out.frozen 4
    have k5 := R5.out.cell 5
    have f5 := R5.out.frozen 5
    have k6 := R5.out.cell 6
    have f6 := R5.out.frozen 6
    simp only [List.getElem?_cons_zero, List.getElem?_cons_succ] at k0 k1 k2 k3 k4 k5 k6
    go_wp2_with fail
    have KZ := set_seven R5.out (.int .i64 x.kind) (.int .i64 x.mode) (.int .i64 x.links) (.int .i64 x.size) (.string x.target) (.slice a1 x.attrs.length c1) (.slice a2 x.refs.length c2)
    have BZ := (((((((B5.out).setCell (p := ⟨w.heap.size, 0, none⟩) (Nat.le_refl _) (.int .i64 x.kind)).setCell (p := ⟨w.heap.size, 1, none⟩) (Nat.le_refl _) (.int .i64 x.mode)).setCell (p := ⟨w.heap.size, 2, none⟩) (Nat.le_refl _) (.int .i64 x.links)).setCell (p := ⟨w.heap.size, 3, none⟩) (Nat.le_refl _) (.int .i64 x.size)).setCell (p := ⟨w.heap.size, 4, none⟩) (Nat.le_refl _) (.string x.target)).setCell (p := ⟨w.heap.size, 5, none⟩) (Nat.le_refl _) (.slice a1 x.attrs.length c1)).setCell (p := ⟨w.heap.size, 6, none⟩) (Nat.le_refl _) (.slice a2 x.refs.length c2)
    have Z1 := OwnA.low (OwnA.kept (OwnA.kept (OwnA.kept (OwnA.kept (OwnA.kept (OwnA.kept (OwnA.kept (H1.out) (grownBy_setCell _ w.heap.size 0 (.int .i64 x.kind)) (by omega)) (grownBy_setCell _ w.heap.size 1 (.int .i64 x.mode)) (by omega)) (grownBy_setCell _ w.heap.size 2 (.int .i64 x.links)) (by omega)) (grownBy_setCell _ w.heap.size 3 (.int .i64 x.size)) (by omega)) (grownBy_setCell _ w.heap.size 4 (.string x.target)) (by omega)) (grownBy_setCell _ w.heap.size 5 (.slice a1 x.attrs.length c1)) (by omega)) (grownBy_setCell _ w.heap.size 6 (.slice a2 x.refs.length c2)) (by omega)) (show w.heap.size ≤ w4.heap.size by omega)
    have Z2 := OwnG.low (ownG_kept (ownG_kept (ownG_kept (ownG_kept (ownG_kept (ownG_kept (ownG_kept (H2.out) (grownBy_setCell _ w.heap.size 0 (.int .i64 x.kind)) (by omega)) (grownBy_setCell _ w.heap.size 1 (.int .i64 x.mode)) (by omega)) (grownBy_setCell _ w.heap.size 2 (.int .i64 x.links)) (by omega)) (grownBy_setCell _ w.heap.size 3 (.int .i64 x.size)) (by omega)) (grownBy_setCell _ w.heap.size 4 (.string x.target)) (by omega)) (grownBy_setCell _ w.heap.size 5 (.slice a1 x.attrs.length c1)) (by omega)) (grownBy_setCell _ w.heap.size 6 (.slice a2 x.refs.length c2)) (by omega)) (show w.heap.size ≤ w4.heap.size by omega)
    exact bodyPost_ret (results_row_tmp rfl _ _ w.heap.size 26 _ _ _ rfl rfl KZ Tryz.underlying26 rfl size26') rfl ⟨BZ, .inr ⟨_, _, HO.out, rfl, ⟨_, _, rfl, Z1, Z2⟩⟩⟩
end Go.Proofs.YtpjgkboafmebbaaGreatDoor.Sh
