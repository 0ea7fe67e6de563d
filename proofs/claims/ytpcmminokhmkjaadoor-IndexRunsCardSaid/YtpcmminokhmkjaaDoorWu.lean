/-
  The contracts of the document's own Done, of whatever digest, and of its Sum.
-/
import Derived.Test.YtpcmminokhmkjaaDoorWt
namespace Go.Proofs.YtpcmminokhmkjaaDoor.Sh
open Go.RowKit Go.Lib

set_option maxHeartbeats 1000000 in
set_option maxRecDepth 100000 in
theorem refdone_bad (ha : Option Addr) (hc : Nat) (ba : Option Addr) (bc : Nat) (s : Sha) (w : World) (h : ShaV w (.agg #[.slice ha s.H.length hc, .slice ba s.B.length bc, .int .u64 (s.N : Int)]) s ha hc ba bc) (hk : chk s = false) :
    Calls Tryd.prog 42 #[.agg #[.slice ha s.H.length hc, .slice ba s.B.length bc, .int .u64 (s.N : Int)]] w fun e w' => Below w.heap.size w w' ∧ e = .returned (.slice none 0 0) := by
  have C7 : Hid (∀ W, Below w.heap.size w W → Calls Tryd.prog 55 #[.agg #[.slice ha s.H.length hc, .slice ba s.B.length bc, .int .u64 (s.N : Int)]] W fun e w' => e = .returned (.bool false) ∧ Below W.heap.size W w') := fun W hb => by
    have := refcheck_any _ s ha hc ba bc W (h.below hb)
    rw [hk] at this
    exact this
  clear h hk
  have BL := Lib.hid (fun o => (Below.refl w.heap.size w).alloc (Nat.le_refl _) o)
  go_enter Tryd.func42, Tryd.ntmps42
  go_wp2_with fail
  refine (C7.out _ (BL.out _)).mono ?_
  rintro e w1 ⟨rfl, b1⟩
  have B1 := Lib.hid (below_chain (BL.out _) b1)
  clear b1
  go_wp2_with fail
  go_ret
  exact ⟨B1.out, rfl⟩
theorem refdone_any (v : Value) (ha : Option Addr) (hc : Nat) (ba : Option Addr) (bc : Nat) (s : Sha) (w : World) (h : ShaV w v s ha hc ba bc) : Calls Tryd.prog 42 #[v] w (Row w (dn s)) := by
  have hv := h.val
  subst hv
  by_cases hk : chk s = true
  · exact refdone_good ha hc ba bc s w h hk
  · have hk' : chk s = false := by simpa using hk
    refine (refdone_bad ha hc ba bc s w h hk').mono fun e w' ⟨hb, he⟩ => ⟨hb, _, he, ?_⟩
    rw [dn, if_neg hk]
    exact World.ownsRow_nil _ _ _ _
set_option maxHeartbeats 1000000 in
set_option maxRecDepth 100000 in
theorem refsum_any (b : List UInt8) (bo : Option Addr) (p c : Nat) (w : World) (hb : Byt w bo b) (hbn : bo = none → c = 0) (hp : b.length = p) (hp2 : p ≤ 140737488355200) :
    Calls Tryd.prog 31 #[.slice bo p c] w (Row w (sumS b)) := by
  have C16 := Lib.hid (refnew_any w)
  have C10 : Hid (∀ W v hx cx, Below w.heap.size w W → ShaV W v newS hx cx none 0 → Calls Tryd.prog 43 #[v, .slice bo p c] W (Ans W (wr newS b))) := fun W v hx cx hB h => refwrite_any v newS hx cx none 0 b bo p c W h (hb.below hB) hbn hp ⟨by decide, by decide, hp2⟩
  have C9 : Hid (∀ W v hx cx bx dx, Below w.heap.size w W → ShaV W v (wr newS b) hx cx bx dx → Calls Tryd.prog 42 #[v] W (Row W (sumS b))) := fun W v hx cx bx dx hB h => refdone_any v hx cx bx dx _ W h
  clear hb hbn hp
  go_enter Tryd.func31, Tryd.ntmps31
  go_wp2_with fail
  refine C16.out.mono ?_
  rintro e w1 ⟨b1, v1, hx, cx, rfl, h1⟩
  have B1 := Lib.hid b1
  have H1 := Lib.hid h1
  clear b1 h1
  go_wp2_with fail
  refine (C10.out _ _ _ _ B1.out H1.out).mono ?_
  rintro e w2 ⟨b2, v2, hx2, cx2, bx2, dx2, rfl, h2⟩
  have B2 := Lib.hid (below_chain B1.out b2)
  have H2 := Lib.hid h2
  clear b2 h2
  go_wp2_with fail
  refine (C9.out _ _ _ _ _ _ B2.out H2.out).mono ?_
  rintro e w3 ⟨b3, v3, rfl, o3⟩
  have B3 := Lib.hid (below_chain B2.out b3)
  have O3 := Lib.hid (o3.low B2.out.size)
  clear b3 o3
  go_wp2_with fail
  go_ret
  exact ⟨B3.out, _, rfl, O3.out⟩
end Go.Proofs.YtpcmminokhmkjaaDoor.Sh
