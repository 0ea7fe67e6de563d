/-
  The contracts of sha's Done and Sum. Condition: the tables of sha stand in memory; what is summed is at most 2^47 - 128 bytes.
-/
import Derived.Test.YtekaboomhljdoaaGreatDoorWr
namespace Go.Proofs.YtekaboomhljdoaaGreatDoor.Sh
open Go.RowKit Go.Lib

/-- a row of bytes answered, of the call's own -/
def Row (w : World) (l : List UInt8) (e : Ending) (w' : World) : Prop := Below w.heap.size w w' ∧ ∃ v, e = .returned v ∧ Own w' w.heap.size v l
theorem box1 (w : World) (cs : Array Value) (t : TypeId) (w' : World) (hb : Below (w.heap.size + 1) (w.alloc (.cells cs t)) w') (j : Nat) : w'.cell? ⟨w.heap.size, j, none⟩ = cs[j]? := by
  rw [hb.cell (p := ⟨w.heap.size, j, none⟩) (by show w.heap.size < _; omega), World.cell?_alloc_new]
theorem ending_small (n : Nat) : (ending n).length ≤ 72 := by
  rw [ending_len]
  omega

set_option maxRecDepth 100000 in
theorem field26 (hx : Option Addr) (n cx : Nat) (bx : Option Addr) (m dx : Nat) (N : Int) (W : World) : (Instr.field 115 (.agg #[.slice hx n cx, .slice bx m dx, .int .u64 N]) 0).run Tryz.prog W = .ok (.slice hx n cx) W := by kernel_rfl
set_option maxHeartbeats 4000000 in
set_option maxRecDepth 100000 in
theorem done_good (ha : Option Addr) (hc : Nat) (ba : Option Addr) (bc : Nat) (s : Sha) (w : World) (hl : Lay w) (h : ShaV w (.agg #[.slice ha s.H.length hc, .slice ba s.B.length bc, .int .u64 (s.N : Int)]) s ha hc ba bc) (hk : chk s = true) :
    Calls Tryz.prog 97 #[.agg #[.slice ha s.H.length hc, .slice ba s.B.length bc, .int .u64 (s.N : Int)]] w (Row w (dn s)) := by
  obtain ⟨k1, k2⟩ := (chk_iff s).1 hk
  have hf : Fits s (ending s.N).length := ⟨by omega, by omega, by have := ending_small s.N; omega⟩
  have hd : dn s = beL (wr s (ending s.N)).H := by rw [dn, if_pos hk]
  have hw8 := ((chk_iff _).1 (wr_chk s (ending s.N) hk)).1
  have C7 : Hid (∀ W, Below w.heap.size w W → Calls Tryz.prog 103 #[.agg #[.slice ha s.H.length hc, .slice ba s.B.length bc, .int .u64 (s.N : Int)]] W fun e w' => e = .returned (.bool true) ∧ Below W.heap.size W w') := fun W hb => by
    have := check_any _ s ha hc ba bc W (h.below hb)
    rw [hk] at this
    exact this
  have C21 := Lib.hid (fun W => ending_any s.N h.num W)
  have C10 : Hid (∀ W ae ce, Below w.heap.size w W → Byt W ae (ending s.N) → (ae = none → ce = 0) → (ending s.N).length ≤ ce → ce ≤ 9223372036854775807 → Calls Tryz.prog 98 #[.agg #[.slice ha s.H.length hc, .slice ba s.B.length bc, .int .u64 (s.N : Int)], .slice ae (ending s.N).length ce] W (Ans W (wr s (ending s.N)))) :=
    fun W ae ce hb hby hn g1 g2 => write_any _ s ha hc ba bc (ending s.N) ae _ ce W (hl.below hb) (h.below hb) hby hn rfl g1 g2 hf
  have C20 := fun W hx cx (hw : Wrd W hx (wr s (ending s.N)).H) (g : (wr s (ending s.N)).H.length ≤ cx) => written_any hx (wr s (ending s.N)).H _ cx W hw rfl g (by rw [hw8]; decide)
  rw [← hd] at C20
  have c20 := Lib.hid C20
  have HD := Lib.hid hd
  clear C20 hd hf hw8 k1 k2 hl h hk
  obtain ⟨H, B, N⟩ := s
  simp only at *
  generalize hE : ending N = E at *
  generalize hS : wr ⟨H, B, N⟩ E = S at *
  clear hE hS HD
  have kf := field26
  go_enter Tryz.func97, Tryz.ntmps97
  go_wp2_with fail
  refine (C7.out _ ((Below.refl _ w).alloc (Nat.le_refl _) _)).mono ?_
  rintro e w1 ⟨rfl, b1⟩
  have b1' : Below (w.heap.size + 1) (w.alloc (.cells #[.slice ha H.length hc, .slice ba B.length bc, .int .u64 (N : Int)] 115)) w1 := by
    have : (w.alloc (.cells #[.slice ha H.length hc, .slice ba B.length bc, .int .u64 (N : Int)] 115)).heap.size = w.heap.size + 1 := by simp
    rw [this] at b1
    exact b1
  have K := Lib.hid (fun W (hb : Below w1.heap.size w1 W) j => box1 w _ 115 W (b1'.trans (hb.mono (by have := b1'.size; simp at this; exact this))) j)
  have BL := Lib.hid (below_chain ((Below.refl _ w).alloc (Nat.le_refl _) _) b1)
  have f0 := K.out w1 (Below.refl _ _) 0
  have f1 := K.out w1 (Below.refl _ _) 1
  have f2 := K.out w1 (Below.refl _ _) 2
  simp only [List.getElem?_toArray, List.getElem?_cons_zero, List.getElem?_cons_succ] at f0 f1 f2
  have BQ : Hid (Below w1.heap.size w1 w1.drew) := (Below.refl _ w1).drew
  clear b1 b1'
  go_wp2_with fail
  go_region_held3 (fun w' => w'.cell? ⟨w.heap.size, 0, none⟩ = some (.slice ha H.length hc) ∧ w'.cell? ⟨w.heap.size, 1, none⟩ = some (.slice ba B.length bc) ∧ w'.cell? ⟨w.heap.size, 2, none⟩ = some (.int .u64 (N : Int)))
    (first
      | go_keep
      | exact ⟨K.out _ BQ.out 0, K.out _ BQ.out 1, K.out _ BQ.out 2⟩)
    (first
      | (go_at_call 105; (with_reducible refine (C21.out _).mono ?_); rintro e w2 ⟨b2, v2, rfl, o2⟩
         obtain ⟨ae, ce, rfl, g1, g2, r2, n2⟩ := own_byt o2
         have BQ := Lib.hid (below_chain BQ.out b2)
         have R2 := Lib.hid r2
         have N2 := Lib.hid n2
         clear b2 o2 r2 n2)
      | (go_at_call 98; (with_reducible refine (C10.out _ _ _ (below_chain BL.out BQ.out) R2.out N2.out g1 g2).mono ?_); rintro e w3 ⟨b3, v3, hx, cx, bx, dx, rfl, h3⟩
         have h3v := h3.val
         subst h3v
         have BQ := Lib.hid (below_chain BQ.out b3)
         have W3 := Lib.hid h3.wrd
         have g3 := h3.hcap
         clear b3 h3)
      | (go_at_call 104; (with_reducible refine (c20.out _ _ _ W3.out g3).mono ?_); rintro e w4 ⟨b4, v4, rfl, o4⟩
         have BR := Lib.hid (below_chain BL.out BQ.out)
         have BQ := Lib.hid (below_chain BQ.out b4)
         have O4 := Lib.hid o4
         clear b4 o4))
  go_wp2_with fail
  go_ret
  exact ⟨BL.out.trans (BQ.out.mono BL.out.size), _, rfl, O4.out.low BR.out.size⟩
set_option maxHeartbeats 1000000 in
set_option maxRecDepth 100000 in
theorem done_bad (ha : Option Addr) (hc : Nat) (ba : Option Addr) (bc : Nat) (s : Sha) (w : World) (h : ShaV w (.agg #[.slice ha s.H.length hc, .slice ba s.B.length bc, .int .u64 (s.N : Int)]) s ha hc ba bc) (hk : chk s = false) :
    Calls Tryz.prog 97 #[.agg #[.slice ha s.H.length hc, .slice ba s.B.length bc, .int .u64 (s.N : Int)]] w fun e w' => Below w.heap.size w w' ∧ e = .returned (.slice none 0 0) := by
  have C7 : Hid (∀ W, Below w.heap.size w W → Calls Tryz.prog 103 #[.agg #[.slice ha s.H.length hc, .slice ba s.B.length bc, .int .u64 (s.N : Int)]] W fun e w' => e = .returned (.bool false) ∧ Below W.heap.size W w') := fun W hb => by
    have := check_any _ s ha hc ba bc W (h.below hb)
    rw [hk] at this
    exact this
  clear h hk
  have BL := Lib.hid (fun o => (Below.refl w.heap.size w).alloc (Nat.le_refl _) o)
  go_enter Tryz.func97, Tryz.ntmps97
  go_wp2_with fail
  refine (C7.out _ (BL.out _)).mono ?_
  rintro e w1 ⟨rfl, b1⟩
  have B1 := Lib.hid (below_chain (BL.out _) b1)
  clear b1
  go_wp2_with fail
  go_ret
  exact ⟨B1.out, rfl⟩
theorem done_any (v : Value) (ha : Option Addr) (hc : Nat) (ba : Option Addr) (bc : Nat) (s : Sha) (w : World) (hl : Lay w) (h : ShaV w v s ha hc ba bc) : Calls Tryz.prog 97 #[v] w (Row w (dn s)) := by
  have hv := h.val
  subst hv
  by_cases hk : chk s = true
  · exact done_good ha hc ba bc s w hl h hk
  · have hk' : chk s = false := by simpa using hk
    refine (done_bad ha hc ba bc s w h hk').mono fun e w' ⟨hb, he⟩ => ⟨hb, _, he, ?_⟩
    rw [dn, if_neg hk]
    exact World.ownsRow_nil _ _ _ _
set_option maxHeartbeats 1000000 in
set_option maxRecDepth 100000 in
theorem sum_any (b : List UInt8) (bo : Option Addr) (p c : Nat) (w : World) (hl : Lay w) (hb : Byt w bo b) (hbn : bo = none → c = 0) (hp : b.length = p) (hpc : p ≤ c) (hcc : c ≤ 9223372036854775807) (hp2 : p ≤ 140737488355200) :
    Calls Tryz.prog 88 #[.slice bo p c] w (Row w (sumS b)) := by
  have C16 := Lib.hid (new_any w hl)
  have C10 : Hid (∀ W v hx cx, Below w.heap.size w W → ShaV W v newS hx cx none 0 → Calls Tryz.prog 98 #[v, .slice bo p c] W (Ans W (wr newS b))) := fun W v hx cx hB h => write_any v newS hx cx none 0 b bo p c W (hl.below hB) h (hb.below hB) hbn hp hpc hcc ⟨by decide, by decide, hp2⟩
  have C9 : Hid (∀ W v hx cx bx dx, Below w.heap.size w W → ShaV W v (wr newS b) hx cx bx dx → Calls Tryz.prog 97 #[v] W (Row W (sumS b))) := fun W v hx cx bx dx hB h => done_any v hx cx bx dx _ W (hl.below hB) h
  clear hl hb hbn hp
  go_enter Tryz.func88, Tryz.ntmps88
  go_wp2_with fail
  refine C16.out.mono ?_
  rintro e w1 ⟨b1, v1, hx, cx, rfl, h1⟩
  have B1 := Lib.hid b1
  have H1 := Lib.hid h1
  clear b1 h1
  go_wp2_with fail
  refine (C10.out _ _ _ _ B1.out H1.out).mono ?_
  rintro e w2 ⟨b2, v2, hx2, cx2, bx2, dx2, rfl, h2⟩
  have B2 := Lib.hid (below_chain B1.out b2)
  have H2 := Lib.hid h2
  clear b2 h2
  go_wp2_with fail
  refine (C9.out _ _ _ _ _ _ B2.out H2.out).mono ?_
  rintro e w3 ⟨b3, v3, rfl, o3⟩
  have B3 := Lib.hid (below_chain B2.out b3)
  have O3 := Lib.hid (o3.low B2.out.size)
  clear b3 o3
  go_wp2_with fail
  go_ret
  exact ⟨B3.out, _, rfl, O3.out⟩
end Go.Proofs.YtekaboomhljdoaaGreatDoor.Sh
