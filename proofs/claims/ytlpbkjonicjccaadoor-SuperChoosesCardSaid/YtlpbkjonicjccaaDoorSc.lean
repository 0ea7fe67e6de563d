/-
  The contracts of super's right and of the document's own Super. Conditions: each law's own.
-/
import Derived.Test.YtlpbkjonicjccaaDoorSa
import Derived.Test.YtlpbkjonicjccaaDoorKy
namespace Go.Proofs.YtlpbkjonicjccaaDoor.Sh
open Go.RowKit Go.Lib

set_option maxHeartbeats 1000000 in
set_option maxRecDepth 100000 in
theorem okp_any (g : Int) (r : ByteArray) (ao : Option Addr) (p : List Int) (n c : Nat) (w : World) (hz : Zrw w ao p) (hpn : p.length = n) (hn : n ≤ 9223372036854775807) (hr : r.size ≤ 9223372036854775807) :
    Calls Tryd.prog 19 #[.agg #[.int .i64 g, .string r, .slice ao n c]] w fun e w' => e = .returned (.bool (okP ⟨g, r, p⟩)) ∧ Below w.heap.size w w' := by
  have b1 : Below w.heap.size w (w.alloc (.cells #[.int .i64 g, .string r, .slice ao n c] 25)) := (Below.refl _ w).alloc (Nat.le_refl _) _
  obtain ⟨w1, hw1⟩ : ∃ w1, w1 = w.alloc (.cells #[.int .i64 g, .string r, .slice ao n c] 25) := ⟨_, rfl⟩
  have CK := Lib.hid (check_key r w1 hr)
  rw [← hw1] at b1
  have HB := Lib.hid b1
  have CR := Lib.hid (fun (W : World) (hb : Below w1.heap.size w1 W) => rising_any ao p n c W (hz.below (below_chain b1 hb)) hpn hn)
  rw [hw1] at CK CR HB
  have d2 : ∀ W, Below (w.alloc (.cells #[.int .i64 g, .string r, .slice ao n c] 25)).heap.size (w.alloc (.cells #[.int .i64 g, .string r, .slice ao n c] 25)) W → W.cell? ⟨w.heap.size, 2, none⟩ = some (.slice ao n c) := fun W hb => by
    rw [hb.cell (p := ⟨w.heap.size, 2, none⟩) (by simp), World.cell?_alloc_new]
    rfl
  have D2 := Lib.hid d2
  unfold okP
  clear hz hpn b1 hw1 d2
  by_cases h1 : 1 ≤ g
  · have e1 : decide (1 ≤ g) = true := by simp [h1]
    by_cases h2 : g ≤ 4611686018427387903
    · have e2 : decide (g ≤ 4611686018427387903) = true := by simp [h2]
      have E : Hid ((decide (1 ≤ g) && decide (g ≤ 4611686018427387903) && (keyBytes r.data.toList).isSome && riseL 0 p) = ((keyBytes r.data.toList).isSome && riseL 0 p)) := by show _ = _; rw [e1, e2]; rfl
      rw [show ({ g := g, r := r, p := p } : SP).g = g from rfl, show ({ g := g, r := r, p := p } : SP).r = r from rfl, show ({ g := g, r := r, p := p } : SP).p = p from rfl, E.out]
      clear h1 h2
      cases hk : (keyBytes r.data.toList).isSome with
      | true =>
        rw [hk] at CK
        go_enter Tryd.func19, Tryd.ntmps19
        go_wp2_with fail
        refine CK.out.mono ?_
        rintro e w2 ⟨rfl, hb2⟩
        have dd := D2.out w2 hb2
        have CR2 := Lib.hid (CR.out w2 hb2)
        have HB2 := Lib.hid (below_chain HB.out hb2)
        clear hb2
        go_wp2_with fail
        refine CR2.out.mono ?_
        rintro e w3 ⟨rfl, rfl⟩
        go_wp2_with fail
        go_ret
        exact ⟨rfl, HB2.out⟩
      | false =>
        rw [hk] at CK
        go_enter Tryd.func19, Tryd.ntmps19
        go_wp2_with fail
        refine CK.out.mono ?_
        rintro e w2 ⟨rfl, hb2⟩
        have HB2 := Lib.hid (below_chain HB.out hb2)
        clear hb2
        go_wp2_with fail
        go_ret
        exact ⟨rfl, HB2.out⟩
    · have e2 : decide (g ≤ 4611686018427387903) = false := by simp [h2]
      have E : Hid ((decide (1 ≤ g) && decide (g ≤ 4611686018427387903) && (keyBytes r.data.toList).isSome && riseL 0 p) = false) := by show _ = _; rw [e1, e2]; rfl
      rw [show ({ g := g, r := r, p := p } : SP).g = g from rfl, show ({ g := g, r := r, p := p } : SP).r = r from rfl, show ({ g := g, r := r, p := p } : SP).p = p from rfl, E.out]
      clear h1 h2
      go_enter Tryd.func19, Tryd.ntmps19
      go_wp2_with fail
      go_ret
      exact ⟨rfl, HB.out⟩
  · have e1 : decide (1 ≤ g) = false := by simp [h1]
    have E : Hid ((decide (1 ≤ g) && decide (g ≤ 4611686018427387903) && (keyBytes r.data.toList).isSome && riseL 0 p) = false) := by show _ = _; rw [e1]; rfl
    rw [show ({ g := g, r := r, p := p } : SP).g = g from rfl, show ({ g := g, r := r, p := p } : SP).r = r from rfl, show ({ g := g, r := r, p := p } : SP).p = p from rfl, E.out]
    clear h1
    go_enter Tryd.func19, Tryd.ntmps19
    go_wp2_with fail
    go_ret
    exact ⟨rfl, HB.out⟩
/-- what stands behind: the least that the next pack may be -/
def leastOf (p : List Int) (i : Nat) : Int := if i = 0 then 0 else p.getD (i - 1) 0 + 1
set_option maxHeartbeats 4000000 in
set_option maxRecDepth 100000 in
theorem refokp_any (g : Int) (r : ByteArray) (ao : Option Addr) (p : List Int) (n c : Nat) (w : World) (hz : Zrw w ao p) (hpn : p.length = n) (hn : n ≤ 9223372036854775807) (hr : r.size ≤ 9223372036854775807) :
    Calls Tryd.prog 23 #[.agg #[.int .i64 g, .string r, .slice ao n c]] w fun e w' => e = .returned (.bool (okP ⟨g, r, p⟩)) ∧ Below w.heap.size w w' := by
  have b1 : Below w.heap.size w (w.alloc (.cells #[.int .i64 g, .string r, .slice ao n c] 25)) := (Below.refl _ w).alloc (Nat.le_refl _) _
  have hd : ∀ j, j < 3 → (w.alloc (.cells #[.int .i64 g, .string r, .slice ao n c] 25)).cell? ⟨w.heap.size, j, none⟩ = (#[Value.int .i64 g, .string r, .slice ao n c] : Array Value)[j]? := fun j _ => World.cell?_alloc_new _ _ _ _
  obtain ⟨w1, hw1⟩ : ∃ w1, w1 = w.alloc (.cells #[.int .i64 g, .string r, .slice ao n c] 25) := ⟨_, rfl⟩
  have hs1 : w1.heap.size = w.heap.size + 1 := by rw [hw1]; simp
  rw [← hw1] at b1 hd
  have HB := Lib.hid b1
  have HZ := Lib.hid (fun (W : World) (hb : Below w1.heap.size w1 W) => hz.below (below_chain b1 hb))
  have CK := Lib.hid (fun (W : World) => refcheck_key r W hr)
  have D0 : Hid (∀ W, Below w1.heap.size w1 W → W.cell? ⟨w.heap.size, 0, none⟩ = some (.int .i64 g)) := fun W hb => (hb.cell (p := ⟨w.heap.size, 0, none⟩) (by rw [hs1]; exact Nat.lt_succ_self _)).trans (hd 0 (by decide))
  have D1 : Hid (∀ W, Below w1.heap.size w1 W → W.cell? ⟨w.heap.size, 1, none⟩ = some (.string r)) := fun W hb => (hb.cell (p := ⟨w.heap.size, 1, none⟩) (by rw [hs1]; exact Nat.lt_succ_self _)).trans (hd 1 (by decide))
  have D2 : Hid (∀ W, Below w1.heap.size w1 W → W.cell? ⟨w.heap.size, 2, none⟩ = some (.slice ao n c)) := fun W hb => (hb.cell (p := ⟨w.heap.size, 2, none⟩) (by rw [hs1]; exact Nat.lt_succ_self _)).trans (hd 2 (by decide))
  have HP := Lib.hid hpn
  have HW := Lib.hid hw1
  clear hz hpn b1 hd
  go_enter Tryd.func23, Tryd.ntmps23
  go_wp2_with fail
  rw [← hw1]
  clear hw1 hs1
  go_loopw [3] (fun vi wr => ∃ i : Nat, i ≤ n ∧ vi = .int .i64 i ∧ Below w1.heap.size w1 wr ∧ Hid (riseL 0 p = riseL (leastOf p i) (p.drop i) ∧ (0 < i → 0 ≤ p.getD (i - 1) 0 ∧ p.getD (i - 1) 0 < 62))) (fun vi _ => n - (RowKit.intOf vi).toNat)
  case atStart => exact ⟨0, by omega, rfl, Below.refl _ _, rfl, fun h => by omega⟩
  case round =>
    obtain ⟨i, hi, rfl, hb, hh⟩ := hrel
    have c2 := D2.out wr hb
    by_cases hin : i < n
    · have hil : i < p.length := by rw [HP.out]; exact hin
      obtain ⟨b, o, rfl, hbb, hcell⟩ := HZ.out wr hb (by intro h0; rw [h0] at hil; simp at hil)
      have d1 := hcell i hil
      obtain ⟨hd, hpr⟩ := hh.out
      rw [drop_at p i hil, riseL] at hd
      have hnx : leastOf p (i + 1) = p[i] + 1 := by simp [leastOf, List.getD_eq_getElem?_getD, List.getElem?_eq_getElem hil]
      have hnx2 : p.getD (i + 1 - 1) 0 = p[i] := by simp [List.getD_eq_getElem?_getD, List.getElem?_eq_getElem hil]
      obtain ⟨q, hq⟩ : ∃ q, q = p[i] := ⟨_, rfl⟩
      have hprev : 0 < i → wr.cell? ⟨b, o + (i - 1), none⟩ = some (.int .i64 (p.getD (i - 1) 0)) := fun h0 => by
        rw [hcell (i - 1) (by omega), List.getD_eq_getElem?_getD, List.getElem?_eq_getElem (by omega)]
        rfl
      rw [← hq] at d1 hd hnx hnx2
      have HD := Lib.hid hd
      have HX := Lib.hid hnx
      have HX2 := Lib.hid hnx2
      have BB := Lib.hid hb
      clear hcell hq hd hh hil hnx hnx2 hb
      have fin : Hid (riseL 0 p = false → okP ⟨g, r, p⟩ = false) := fun h => by simp [okP, h]
      by_cases h1 : q < 0
      · have e1 : decide (q < 0) = true := by simp [h1]
        have HR : Hid (okP ⟨g, r, p⟩ = false) := fin.out (by
          have : decide (q < leastOf p i) = true := by
            unfold leastOf; split
            · simpa using h1
            · have := hpr (by omega); exact decide_eq_true (by omega)
          rw [HD.out, this]; rfl)
        clear h1 fin HD HX HX2 hpr hprev
        go_wp2_with fail
        go_quiet (fail)
        go_wp2_with fail
        go_ret
        exact ⟨ret_bool HR.out.symm, below_chain HB.out (below_drewN BB.out _)⟩
      · have e1 : decide (q < 0) = false := by simp [h1]
        by_cases h2 : 62 ≤ q
        · have e2 : decide (62 ≤ q) = true := by simp [h2]
          have HR : Hid (okP ⟨g, r, p⟩ = false) := fin.out (by
            have : decide (q < 62) = false := by simp; omega
            rw [HD.out, this]; simp)
          clear h1 h2 fin HD HX HX2 hpr hprev
          go_wp2_with fail
          go_quiet (fail)
          go_wp2_with fail
          go_ret
          exact ⟨ret_bool HR.out.symm, below_chain HB.out (below_drewN BB.out _)⟩
        · have e2 : decide (62 ≤ q) = false := by simp [h2]
          have e2b : decide (q < 62) = true := by simp; omega
          by_cases h3 : i = 0
          · subst h3
            have HR : Hid (riseL 0 p = riseL (leastOf p (0 + 1)) (p.drop (0 + 1)) ∧ (0 < 0 + 1 → 0 ≤ p.getD (0 + 1 - 1) 0 ∧ p.getD (0 + 1 - 1) 0 < 62)) := by
              refine ⟨?_, fun _ => by rw [HX2.out]; omega⟩
              have : decide (q < leastOf p 0) = false := by simp [leastOf]; omega
              rw [HX.out, HD.out, this, e2b]; rfl
            have d0 : wr.cell? ⟨b, o, none⟩ = some (.int .i64 q) := d1
            clear h1 h2 fin HD HX HX2 hpr hprev e2b d1
            go_wp2_with fail
            go_quiet (fail)
            go_wp2_with fail
            go_roundw
            case rel => exact ⟨0 + 1, by omega, by go_num, below_drewN BB.out _, HR⟩
            case measure => simp [RowKit.intOf]; omega
          · obtain ⟨k, rfl⟩ : ∃ k, i = k + 1 := ⟨i - 1, by omega⟩
            have p1 := hprev (by omega)
            have p2 := hpr (by omega)
            rw [Nat.add_sub_cancel] at p1 p2
            obtain ⟨y, hy⟩ : ∃ y, y = p.getD k 0 := ⟨_, rfl⟩
            rw [← hy] at p1 p2
            have hlo : leastOf p (k + 1) = y + 1 := by rw [leastOf, if_neg h3, Nat.add_sub_cancel, hy]
            have w1a : IntKind.i64.wrap (k : Int) = (k : Int) := IntWalk.i64_in _ (by omega)
            have q2 : (k : Int) < (n : Int) := by omega
            have q3 : (k : Int) + 1 < (n : Int) := by omega
            have q4 : k < n := by omega
            by_cases h4 : q ≤ y
            · have e4 : decide (q ≤ y) = true := by simp [h4]
              have HR : Hid (okP ⟨g, r, p⟩ = false) := fin.out (by
                have : decide (q < leastOf p (k + 1)) = true := by rw [hlo]; simp; omega
                rw [HD.out, this]; rfl)
              clear h1 h2 h3 h4 hlo hy fin HD HX HX2 hpr hprev e2b p2
              go_wp2_with fail
              go_quiet (fail)
              go_wp2_with fail
              go_ret
              exact ⟨ret_bool HR.out.symm, below_chain HB.out (below_drewN BB.out _)⟩
            · have e4 : decide (q ≤ y) = false := by simp [h4]
              have HR : Hid (riseL 0 p = riseL (leastOf p (k + 1 + 1)) (p.drop (k + 1 + 1)) ∧ (0 < k + 1 + 1 → 0 ≤ p.getD (k + 1 + 1 - 1) 0 ∧ p.getD (k + 1 + 1 - 1) 0 < 62)) := by
                refine ⟨?_, fun _ => by rw [HX2.out]; omega⟩
                have : decide (q < leastOf p (k + 1)) = false := by rw [hlo]; simp; omega
                rw [HX.out, HD.out, this, e2b]; rfl
              clear h1 h2 h3 h4 hlo hy fin HD HX HX2 hpr hprev e2b p2
              go_wp2_with fail
              go_quiet (fail)
              go_wp2_with fail
              go_roundw
              case rel => exact ⟨k + 1 + 1, by omega, by go_num, below_drewN BB.out _, HR⟩
              case measure => simp [RowKit.intOf]; omega
    · obtain rfl : i = n := by omega
      have hrise : riseL 0 p = true := by rw [hh.out.1, List.drop_of_length_le (by have := HP.out; omega)]; rfl
      have c0 := D0.out wr hb
      have c1 := D1.out wr hb
      have BB := Lib.hid hb
      have CW := Lib.hid (CK.out wr)
      have E : Hid (okP ⟨g, r, p⟩ = (decide (1 ≤ g) && decide (g ≤ 4611686018427387903) && (keyBytes r.data.toList).isSome)) := by show _ = _; rw [okP, hrise, Bool.and_true]
      clear hh hrise hb
      by_cases h1 : 1 ≤ g
      · have e1 : decide (1 ≤ g) = true := by simp [h1]
        by_cases h2 : g ≤ 4611686018427387903
        · have e2 : decide (g ≤ 4611686018427387903) = true := by simp [h2]
          have E2 : Hid ((decide (1 ≤ g) && decide (g ≤ 4611686018427387903) && (keyBytes r.data.toList).isSome) = (keyBytes r.data.toList).isSome) := by show _ = _; rw [e1, e2]; rfl
          obtain ⟨z, hz⟩ : ∃ z, z = (keyBytes r.data.toList).isSome := ⟨_, rfl⟩
          rw [← hz] at CW
          have HZZ := Lib.hid hz
          clear h1 h2 hz
          go_wp2_with fail
          refine CW.out.mono ?_
          rintro e w3 ⟨rfl, hb3⟩
          go_wp2_with fail
          go_ret
          exact ⟨ret_bool (by rw [E.out, E2.out, HZZ.out]), below_chain HB.out (below_chain BB.out hb3)⟩
        · have e2 : decide (g ≤ 4611686018427387903) = false := by simp [h2]
          have E2 : Hid ((decide (1 ≤ g) && decide (g ≤ 4611686018427387903) && (keyBytes r.data.toList).isSome) = false) := by show _ = _; rw [e1, e2]; rfl
          clear h1 h2
          go_wp2_with fail
          go_ret
          exact ⟨ret_bool (E.out.trans E2.out).symm, below_chain HB.out BB.out⟩
      · have e1 : decide (1 ≤ g) = false := by simp [h1]
        have E2 : Hid ((decide (1 ≤ g) && decide (g ≤ 4611686018427387903) && (keyBytes r.data.toList).isSome) = false) := by show _ = _; rw [e1]; rfl
        clear h1
        go_wp2_with fail
        go_ret
        exact ⟨ret_bool (E.out.trans E2.out).symm, below_chain HB.out BB.out⟩
end Go.Proofs.YtlpbkjonicjccaaDoor.Sh
