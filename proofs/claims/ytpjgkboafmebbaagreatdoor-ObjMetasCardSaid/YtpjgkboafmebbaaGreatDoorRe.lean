/-
  The contracts of the document's own reader's key, and of num and key as bytes. Conditions: each law's own.
-/
import Derived.Test.YtpjgkboafmebbaaGreatDoorRc
import Derived.Test.YtpjgkboafmebbaaGreatDoorRk
namespace Go.Proofs.YtpjgkboafmebbaaGreatDoor.Sh
open Go.RowKit Go.Lib Lb

set_option maxRecDepth 100000 in
theorem slice_head (ao : Option Addr) (len c n : Nat) (hn : n ≤ c) (W : World) :
    (Instr.slice 36 (.slice ao len c) none (some (.int .i64 (n : Int))) none).run Tryz.prog W = .ok (.slice ao n c) W := slice_to ao len c n hn W
set_option maxHeartbeats 2000000 in
set_option maxRecDepth 100000 in
theorem rkey_any (g : Nat) (l : List UInt8) (bad : Bool) (ao : Option Addr) (m c : Nat) (w : World) (h : Rd w g l bad ao m c) :
    Calls Tryz.prog 48 #[.pointer (some ⟨g, 0, none⟩)] w fun e w' => AnsR w g (.string (stepR pKey ⟨#[]⟩ l bad).1) (stepR pKey ⟨#[]⟩ l bad).2.1 (stepR pKey ⟨#[]⟩ l bad).2.2 e w' := by
  have RD := Lib.hid h
  have c0 := h.blk.cell 0
  have c1 := h.blk.cell 1
  have f1 := h.blk.frozen 1
  simp only [List.getElem?_cons_zero, List.getElem?_cons_succ] at c0 c1
  have FL := Lib.hid RD.out.fail
  have GR := Lib.hid (grownBy_setCell w g 1 (.bool true))
  clear h
  cases bad with
  | true =>
    go_enter Tryz.func48, Tryz.ntmps48
    go_wp2_with fail
    go_ret
    exact ⟨rfl, GR.out, ao, m, c, FL.out⟩
  | false =>
    by_cases hm : m < 32
    · have HS : Hid (stepR pKey ⟨#[]⟩ l false = (⟨#[]⟩, l, true)) := by
        show _ = _
        rw [stepR, if_neg (by decide), pKey, if_neg (by rw [RD.out.len]; omega)]
      have t1 : decide ((m : Int) < 32) = true := by simp; omega
      clear hm
      go_enter Tryz.func48, Tryz.ntmps48
      go_wp2_with fail
      go_ret
      rw [HS.out]
      exact ⟨rfl, GR.out, ao, m, c, FL.out⟩
    · have t1 : decide ((m : Int) < 32) = false := by simp; omega
      have HS : Hid (stepR pKey ⟨#[]⟩ l false = (⟨(hexL (l.take 32)).toArray⟩, l.drop 32, false)) := by
        show _ = _
        rw [stepR, if_neg (by decide), pKey, if_pos (by rw [RD.out.len]; omega)]
      have hl32 : (l.take 32).length = 32 := by rw [List.length_take, RD.out.len]; omega
      have hc32 : 32 ≤ c := by have := RD.out.cap; omega
      have s0 : ∀ W, (Instr.slice 36 (.slice ao m c) none (some (.int .i64 32)) none).run Tryz.prog W = .ok (.slice ao 32 c) W := fun W => slice_head ao m c 32 hc32 W
      have CF := Lib.hid (reffrom_any ao (l.take 32) 32 c w (RD.out.byt.take 32) hl32 hc32)
      have hf : fromS (l.take 32) = ⟨(hexL (l.take 32)).toArray⟩ := by rw [fromS, if_pos hl32]
      have hfe : fromE (l.take 32) = 0 := by rw [fromE, if_pos hl32]
      rw [hf, hfe] at CF
      obtain ⟨S, hS⟩ : ∃ S, S = (hexL (l.take 32)).toArray := ⟨_, rfl⟩
      rw [← hS] at CF HS
      obtain ⟨af, s1, s2, s3, s4⟩ := slice_rest ao m c 32 l (by omega) RD.out.len.symm RD.out.hn RD.out.cap
      have s1' : ∀ W, (Instr.slice 36 (.slice ao m c) (some (.int .i64 32)) none none).run Tryz.prog W = .ok (.slice af (m - 32) (c - 32)) W := s1
      have S2 := Lib.hid s2
      have S3 := Lib.hid s3
      have S4 := Lib.hid s4
      have M32 := Lib.hid (show 32 ≤ m by omega)
      clear s1 s2 s3 s4 hm hl32 hf hfe hS
      go_enter Tryz.func48, Tryz.ntmps48
      go_wp2_with fail
      refine CF.out.mono ?_
      rintro e w1 ⟨rfl, hb⟩
      have R1 := Lib.hid (RD.out.grown hb)
      have G1 := Lib.hid (grown_below hb (some g))
      have d0 := R1.out.blk.cell 0
      have f0 := R1.out.blk.frozen 0
      simp only [List.getElem?_cons_zero] at d0
      have RN : Hid (Rd (w1.setCell ⟨g, 0, none⟩ (.slice af (m - 32) (c - 32))) g (l.drop 32) false af (m - 32) (c - 32)) := {
        blk := by have := R1.out.blk.set 0 (.slice af (m - 32) (c - 32)); simpa using this
        byt := byt_grown (S2.out w1 R1.out.byt) (grownBy_setCell w1 g 0 _) (S4.out g RD.out.far)
        hn := S3.out
        len := by rw [List.length_drop, RD.out.len]
        cap := by have := RD.out.cap; omega
        max := by have := RD.out.max; omega
        most := by have := RD.out.most; omega
        far := S4.out g RD.out.far }
      have GN := Lib.hid (grownBy_trans G1.out (grownBy_setCell w1 g 0 (.slice af (m - 32) (c - 32))))
      clear hb c0 c1 f1
      go_wp2_with fail
      go_ret
      rw [HS.out]
      exact ⟨rfl, GN.out, af, m - 32, c - 32, RN.out⟩
set_option maxRecDepth 100000 in
/-- a number's bytes -/
theorem refnum_any (x : Int) (hx : 0 ≤ x) (hb : x < 9223372036854775808) (w : World) :
    Calls Tryz.prog 43 #[.int .i64 x] w fun e w' => Below w.heap.size w w' ∧ ∃ v, e = .returned v ∧ Own w' w.heap.size v (numL x) := by
  obtain ⟨n, rfl⟩ : ∃ n : Nat, x = (n : Int) := ⟨x.toNat, by omega⟩
  have C := Lib.hid (refput_any n (by omega) w)
  have hw : IntKind.u64.wrap (n : Int) = (n : Int) := by rw [IntKind.wrap]; simp [IntKind.bits, IntKind.signed]; omega
  go_enter Tryz.func43, Tryz.ntmps43
  go_wp2_with fail
  refine C.out.mono ?_
  rintro e w1 ⟨hb1, v, rfl, ho⟩
  have HB := Lib.hid hb1
  have HO := Lib.hid ho
  clear hb1 ho
  go_wp2_with fail
  go_ret
  exact ⟨HB.out, v, rfl, by rw [numL, Int.toNat_natCast]; exact HO.out⟩
set_option maxRecDepth 100000 in
/-- a key's bytes -/
theorem refkey_any (k : ByteArray) (w : World) (hk : k.size ≤ 9223372036854775807) :
    Calls Tryz.prog 45 #[.string k] w fun e w' => Below w.heap.size w w' ∧ ∃ v, e = .returned v ∧ Own w' w.heap.size v (keyL k) := by
  have C := Lib.hid (refbytes_any k w hk)
  go_enter Tryz.func45, Tryz.ntmps45
  go_wp2_with fail
  refine C.out.mono ?_
  rintro e w1 ⟨hb1, v, rfl, ho⟩
  have HB := Lib.hid hb1
  have HO := Lib.hid ho
  clear hb1 ho
  generalize bytesE k = E at *
  go_wp2_with fail
  go_ret
  exact ⟨HB.out, v, rfl, HO.out⟩
end Go.Proofs.YtpjgkboafmebbaaGreatDoor.Sh
