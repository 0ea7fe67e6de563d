/-
  The contracts of key's Of and of the document's own. Conditions: sha's tables stand in memory; at most a million bytes.
-/
import Derived.Test.YtpcmminokhmkjaaDoorKy
import Derived.Test.YtpcmminokhmkjaaDoorWu
namespace Go.Proofs.YtpcmminokhmkjaaDoor.Sh
open Go.RowKit Go.Lib

/-- the byte of a kind -/
def kb (kind : Int) : UInt8 := UInt8.ofNat (kind % 256).toNat
theorem kb_wrap (kind : Int) : IntKind.u8.wrap kind = ((kb kind).toNat : Int) := by
  rw [IntKind.wrap, kb]
  simp [IntKind.bits, IntKind.signed]
  omega
def keyS (kind : Int) (l : List UInt8) : ByteArray := ⟨(hexL (sumS (kb kind :: l))).toArray⟩
theorem sumS_len (b : List UInt8) : (sumS b).length = 32 := dn_len _ (wr_chk _ _ chk_new)
theorem rws2 (W : World) (k a : Nat) (ao : Option Addr) (x : UInt8) (l : List UInt8) (c : Nat) (h : Blk W k [.slice (some ⟨a, 0, none⟩) 1 1, .slice ao l.length c] 59) (h1 : Byt W (some ⟨a, 0, none⟩) [x]) (h2 : Byt W ao l) (hn : ao = none → c = 0) : Rws W k [[x], l] := by
  intro j hj
  rcases (show j = 0 ∨ j = 1 by simp at hj; omega) with rfl | rfl
  · exact ⟨some ⟨a, 0, none⟩, 1, by rw [h.cell]; rfl, h1, fun h => by cases h⟩
  · exact ⟨ao, c, by rw [h.cell]; rfl, h2, hn⟩

set_option maxHeartbeats 2000000 in
set_option maxRecDepth 100000 in
theorem refof_any (kind : Int) (ao : Option Addr) (l : List UInt8) (n c : Nat) (w : World) (h : Byt w ao l) (hn : ao = none → c = 0) (hln : l.length = n) (hbig : n ≤ 1000000) :
    Calls Tryd.prog 12 #[.int .i64 kind, .slice ao n c] w fun e w' => e = .returned (.string (keyS kind l)) ∧ Below w.heap.size w w' := by
  have k1 := kb_wrap kind
  obtain ⟨x, hx⟩ : ∃ x, x = kb kind := ⟨_, rfl⟩
  rw [← hx] at k1
  have HX := Lib.hid hx
  have HL := Lib.hid hln
  have HN := Lib.hid hn
  have HY := Lib.hid (h.below ((Below.refl _ w).alloc (Nat.le_refl _) (.cells #[.int .u8 (x.toNat : Int)] 5)))
  have LIT : Hid (Own (w.alloc (.cells #[.int .u8 (x.toNat : Int)] 5)) w.heap.size (.slice (some ⟨w.heap.size, 0, none⟩) 1 1) [x]) := own_lit w [x] w.heap.size (Nat.le_refl _) (by simp)
  have B1 := Lib.hid ((Below.refl _ w).alloc (Nat.le_refl _) (.cells #[.int .u8 (x.toNat : Int)] 5))
  have p1 : ([x] : List UInt8).length + n ≤ 140737488355328 := by simp; omega
  have p2 : w.heap.size ≤ (w.alloc (.cells #[.int .u8 (x.toNat : Int)] 5)).heap.size := by simp
  have P2 := Lib.hid p2
  clear h hln hx hn
  go_enter Tryd.func12, Tryd.ntmps12
  go_wp2_with (at_builtin; refine wpl_app_len (t := 59) (e := 5) rfl (.tmp 7) (.tmp 8) rfl Tryd.underlying59 info5 w.heap.size _ [x] l rfl LIT.out ao n c rfl HY.out HN.out HL.out p1 P2.out ?_; intro v1 w1 hown1 hgrow1)
  have b1 := B1.out.grown hgrow1 P2.out (fun k hk => (LIT.out.lt k hk).1)
  obtain ⟨a3, c3, rfl, hc3, _, hy3, hn3⟩ := own_byt hown1
  have hl1 : ([x] ++ l).length = n + 1 := by simp [HL.out]
  have C23 := Lib.hid (refsum_any (x :: l) a3 (n + 1) c3 w1 hy3 hn3 hl1 (by omega))
  have BB := Lib.hid b1
  rw [hl1]
  clear hown1 hgrow1 b1 hy3 hn3 hc3 hl1
  refine C23.out.mono ?_
  rintro e w4 ⟨b4, v4, rfl, o4⟩
  obtain ⟨a4, c4, rfl, hc4, hcm4, hy4, hn4⟩ := own_byt o4
  have hsl := sumS_len (x :: l)
  have C24 := Lib.hid (text_any a4 (sumS (x :: l)) 32 c4 w4 hy4 hsl (by omega) (by omega))
  have B4 := Lib.hid (below_chain BB.out b4)
  rw [hsl]
  clear b4 o4 hy4 hn4 hc4 hcm4 hsl
  go_wp2_with fail
  refine C24.out.mono ?_
  rintro e w5 ⟨rfl, b5⟩
  have B5 := Lib.hid (below_chain B4.out b5)
  obtain ⟨S, hS⟩ : ∃ S, S = (hexL (sumS (x :: l))).toArray := ⟨_, rfl⟩
  rw [← hS]
  have HS := Lib.hid hS
  clear hS b5
  go_wp2_with fail
  go_ret
  exact ⟨by rw [keyS, ← HX.out, ← HS.out]; rfl, B5.out⟩
end Go.Proofs.YtpcmminokhmkjaaDoor.Sh
