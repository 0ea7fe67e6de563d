/-
  The contracts of crc's Bytes and Right, and of the document's own Bytes, Right and Same. Conditions: bytes are at most 2^47 - 4.
-/
import Derived.Test.YtekaboomhljdoaaGreatDoorCc
import Derived.Deep.RegionWith
namespace Go.Proofs.YtekaboomhljdoaaGreatDoor.Cr
open Go.RowKit Go.Lib Go.Proofs.YtekaboomhljdoaaGreatDoor.Sh

theorem leL_len' (s : Nat) : (leL s).length = 4 := rfl

set_option maxHeartbeats 1000000 in
set_option maxRecDepth 100000 in
theorem bytes_any (ao : Option Addr) (l : List UInt8) (c : Nat) (w : World) (h : Byt w ao l) (hn : ao = none → c = 0) (hc : l.length ≤ c) (hc2 : c ≤ 9223372036854775807) (hl : l.length ≤ 140737488355324) :
    Calls Tryz.prog 58 #[.slice ao l.length c] w fun e w' => Below w.heap.size w w' ∧ ∃ v, e = .returned v ∧ Own w' w.heap.size v (bytesL l) := by
  have c1 := sum_any ao l c w h hc hc2
  unfold bytesL
  obtain ⟨s, hs⟩ : ∃ s, s = sumL l := ⟨_, rfl⟩
  have hs32 : s < 4294967296 := by rw [hs]; exact moreL_lt 0 l
  rw [← hs] at c1 ⊢
  clear hs
  have b2 : Below w.heap.size w ((w.alloc (.cells (bs (leL s)).toArray 5)).alloc (.cells #[.slice ao l.length c, .slice (some ⟨w.heap.size, 0, none⟩) 4 4] 24)) :=
    ((Below.refl _ w).alloc (Nat.le_refl _) _).alloc (by simp) _
  have hby : Byt ((w.alloc (.cells (bs (leL s)).toArray 5)).alloc (.cells #[.slice ao l.length c, .slice (some ⟨w.heap.size, 0, none⟩) 4 4] 24)) (some ⟨w.heap.size, 0, none⟩) (leL s) := fun _ => by
    refine ⟨w.heap.size, 0, rfl, by simp; omega, fun j hj => ?_⟩
    have hx := (Below.refl (w.heap.size + 1) (w.alloc (.cells (bs (leL s)).toArray 5))).alloc (by simp) (.cells #[.slice ao l.length c, .slice (some ⟨w.heap.size, 0, none⟩) 4 4] 24)
    rw [hx.cell (p := ⟨w.heap.size, 0 + j, none⟩) (by simp), Nat.zero_add, World.cell?_alloc_new]
    simp [bs, hj]
  have c3 := concat_any (w.heap.size + 1) ao (some ⟨w.heap.size, 0, none⟩) l (leL s) c 4 ((w.alloc (.cells (bs (leL s)).toArray 5)).alloc (.cells #[.slice ao l.length c, .slice (some ⟨w.heap.size, 0, none⟩) 4 4] 24))
    (h.below b2) hby hn (fun h => by cases h)
    (cell_new (w.alloc (.cells (bs (leL s)).toArray 5)) _ 0 (w.heap.size + 1) (by simp) rfl)
    (cell_new (w.alloc (.cells (bs (leL s)).toArray 5)) _ 1 (w.heap.size + 1) (by simp) rfl)
    (by simp) (by rw [leL_len']; omega) (by rw [leL_len']; omega)
  have C1 := Lib.hid c1
  have C2 := Lib.hid (written_any s hs32 w)
  have C3 := Lib.hid c3
  have B2 := Lib.hid b2
  clear c3 b2 hby h
  clear c1
  go_enter Tryz.func58, Tryz.ntmps58
  go_wp2_with fail
  refine C1.out.mono ?_
  rintro e w' ⟨rfl, rfl⟩
  go_wp2_with fail
  refine C2.out.mono ?_
  rintro e w' ⟨rfl, rfl⟩
  go_wp2_with fail
  refine C3.out.mono ?_
  rintro e w3 ⟨hb3, v, rfl, hown⟩
  go_wp2_with fail
  go_ret
  exact ⟨B2.out.trans (hb3.mono B2.out.size), _, rfl, hown.low B2.out.size⟩

set_option maxHeartbeats 1000000 in
set_option maxRecDepth 100000 in
theorem refbytes_any (ao : Option Addr) (l : List UInt8) (c : Nat) (w : World) (h : Byt w ao l) (hn : ao = none → c = 0) (hc : l.length ≤ c) (hc2 : c ≤ 9223372036854775807) (hl : l.length ≤ 140737488355324) :
    Calls Tryz.prog 52 #[.slice ao l.length c] w fun e w' => Below w.heap.size w w' ∧ ∃ v, e = .returned v ∧ Own w' w.heap.size v (bytesL l) := by
  have c1 := refsum_any ao l c w h hc hc2
  unfold bytesL
  obtain ⟨s, hs⟩ : ∃ s, s = sumL l := ⟨_, rfl⟩
  have hs32 : s < 4294967296 := by rw [hs]; exact moreL_lt 0 l
  rw [← hs] at c1 ⊢
  clear hs
  have C1 := Lib.hid c1
  clear c1
  have own0 : Own (w.alloc (.cells #[] 5)) w.heap.size (.slice (some ⟨w.heap.size, 0, none⟩) 0 0) [] := own_lit w [] w.heap.size (Nat.le_refl _) (by simp)
  have al : ∀ (W : World) (o : Obj), Below W.heap.size W (W.alloc o) := fun W o => (Below.refl _ W).alloc (Nat.le_refl _) o
  have b0 := al w (.cells #[] 5)
  have hr0 : Byt (w.alloc (.cells #[] 5)) ao l := h.below b0
  have k1 : ([] : List UInt8).length + l.length ≤ 140737488355328 := by simp; omega
  have k2 : w.heap.size ≤ (w.alloc (.cells #[] 5)).heap.size := by simp
  have k3 : l.length + (leL s).length ≤ 140737488355328 := by rw [leL_len']; omega
  have lits : ∀ W : World, Byt (W.alloc (.cells #[.int .u8 ((s : Int) % 256), .int .u8 ((s : Int) / 256 % 256), .int .u8 ((s : Int) / 65536 % 256), .int .u8 ((s : Int) / 16777216)] 5)) (some ⟨W.heap.size, 0, none⟩) (leL s) := fun W _ => by
    refine ⟨W.heap.size, 0, rfl, by simp, fun j hj => ?_⟩
    rw [Nat.zero_add, World.cell?_alloc_new]
    rw [leL_len'] at hj
    have hj' : j = 0 ∨ j = 1 ∨ j = 2 ∨ j = 3 := by omega
    rcases hj' with rfl | rfl | rfl | rfl <;> simp only [leL, List.getElem_cons_zero, List.getElem_cons_succ, u8_nat _ (Nat.mod_lt _ (show 0 < 256 by decide))]
    · rfl
    · rfl
    · rfl
    · show some (Value.int .u8 ((s : Int) / 16777216)) = _
      rw [show ((s : Int) / 16777216) = ((s / 16777216 % 256 : Nat) : Int) by omega]
  have LT := Lib.hid lits
  have B0 := Lib.hid b0
  clear lits b0 h
  go_enter Tryz.func52, Tryz.ntmps52
  go_wp2_with fail
  refine C1.out.mono ?_
  rintro e w' ⟨rfl, rfl⟩
  go_wp2_with (first
    | (at_builtin; refine wpl_app (t := 24) (e := 5) rfl (.tmp 6) (.tmp 7) rfl Tryz.underlying24 info5 w.heap.size _ [] l rfl own0 ao c rfl hr0 hn k1 k2 ?_; intro v1 w1 own1 grow1
       have b1 : Below w.heap.size w w1 := B0.out.grown grow1 k2 (fun k hk => (own0.lt k hk).1)
       have own1' : Own (w1.alloc (.cells #[.int .u8 ((s : Int) % 256), .int .u8 ((s : Int) / 256 % 256), .int .u8 ((s : Int) / 65536 % 256), .int .u8 ((s : Int) / 16777216)] 5)) w.heap.size v1 l := World.ownsRow.alloc (by simpa using own1) _
       have B1 := Lib.hid (b1.alloc b1.size (.cells #[.int .u8 ((s : Int) % 256), .int .u8 ((s : Int) / 256 % 256), .int .u8 ((s : Int) / 65536 % 256), .int .u8 ((s : Int) / 16777216)] 5))
       have lit := LT.out w1
       have k4 := B1.out.size
       clear own1 b1)
    | (at_builtin; refine wpl_app (t := 24) (e := 5) rfl (.tmp 8) (.tmp 20) rfl Tryz.underlying24 info5 w.heap.size _ l (leL s) rfl own1' (some ⟨w1.heap.size, 0, none⟩) 4 rfl lit (fun h => by cases h) k3 k4 ?_; intro v2 w2 own2 grow2))
  have b2 : Below w.heap.size w w2 := B1.out.grown grow2 k4 (fun k hk => (own1'.lt k hk).1)
  go_wp2_with fail
  go_ret
  exact ⟨b2, _, rfl, own2⟩

theorem beq_dec (l m : List UInt8) : decide (l = m) = (l == m) := by by_cases h : l = m <;> simp [h]
/-- Same -/
theorem same_any (ao bo : Option Addr) (l m : List UInt8) (c d : Nat) (w : World) (h1 : Byt w ao l) (h2 : Byt w bo m) (n1 : ao = none → c = 0) (n2 : bo = none → d = 0) :
    Calls Tryz.prog 43 #[.slice ao l.length c, .slice bo m.length d] w fun e w' => e = .returned (.bool (decide (l = m))) ∧ w = w' := by
  have k1 := conv_byt (P := Tryz.prog) Tryz.underlying24 Tryz.underlying5 Tryz.underlying9 ao l c h1 n1
  have k2 := conv_byt (P := Tryz.prog) Tryz.underlying24 Tryz.underlying5 Tryz.underlying9 bo m d h2 n2
  rw [beq_dec]
  clear h1 h2
  go_enter Tryz.func43, Tryz.ntmps43
  go_wp2_with fail
  go_ret
  exact ⟨rfl, rfl⟩
end Go.Proofs.YtekaboomhljdoaaGreatDoor.Cr
