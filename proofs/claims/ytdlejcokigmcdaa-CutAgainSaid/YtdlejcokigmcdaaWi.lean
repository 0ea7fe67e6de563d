/-
  The contract of cut's Split. Condition: a content of at most a million bytes.
-/
import Derived.Test.YtdlejcokigmcdaaWh
namespace Go.Proofs.Ytdlejcokigmcdaa.Rb
open Go.ChangeShapes Go.WideShapes Go.ChangeAt Go.RowKit Go.Lib Go.ChangeMaps

/-- rows of bytes, answered in one block -/
def AnsR (w : World) (rows : List (List UInt8)) (e : Ending) (w' : World) : Prop := Below w.heap.size w w' ∧ ∃ k, e = .returned (.slice (some ⟨k, 0, none⟩) rows.length rows.length) ∧ k < w'.heap.size ∧ Rws w' k rows
theorem own_open {w : World} {B : Nat} {v : Value} {l : List UInt8} (h : Own w B v l) : ∃ ao b o c, v = .slice ao l.length c ∧ l.length ≤ c ∧ c ≤ 9223372036854775807 ∧ (l ≠ [] → ao = some ⟨b, o, none⟩) ∧ (l ≠ [] → B ≤ b) ∧ Byt w (some ⟨b, o, none⟩) l := by
  have hh := h
  obtain ⟨_, ⟨rfl, hl⟩ | ⟨g, cap, cur, rfl, hB, hg, h1, h2, _⟩⟩ := h
  · have : l = [] := List.eq_nil_of_length_eq_zero hl
    subst this
    exact ⟨none, 0, 0, 0, rfl, Nat.le_refl _, by omega, fun h => absurd rfl h, fun h => absurd rfl h, byt_nil _ _⟩
  · refine ⟨_, g, 0, cap, rfl, h1, by unfold maxLen at h2; omega, fun _ => rfl, fun _ => hB, fun _ => ⟨g, 0, rfl, (Array.getElem?_eq_some_iff.1 hg).1, fun j hj => ?_⟩⟩
    have hc := hh.cells (g := g) rfl j (.int .u8 (l[j]).toNat) (bs_get l j hj)
    rw [WideShapes.add_plain] at hc
    exact hc
theorem sp_cell_lt {wr : World} {g n b o : Nat} {l : List UInt8} {done : List (List UInt8)} (h : Sp wr g n b o l done) : g < wr.heap.size := by
  obtain ⟨vals, h1, _⟩ := h
  exact h1.lt
theorem irw_keep {w w' : World} {ao : Option Addr} {l : List Nat} (h : Irw w ao l) (hb : Below w.heap.size w w') : Irw w' ao l := h.below hb

set_option maxHeartbeats 4000000 in
set_option maxRecDepth 100000 in
theorem split_any (ao : Option Addr) (l : List UInt8) (c : Nat) (w : World) (h : Byt w ao l) (hn : ao = none → c = 0) (hc : l.length ≤ c) (hl : c ≤ 9223372036854775807) (hbig : l.length ≤ 1000000) :
    Calls Try.prog 14 #[.slice ao l.length c] w (AnsR w (chunks hit l)) := by
  have HY := Lib.hid (fun W (hB : Below w.heap.size w W) => h.below hB)
  have C10 := Lib.hid (cuts_any ao l c w h hc hl hbig)
  have CCL := Lib.hid (fun W (hB : Below w.heap.size w W) => clone_any ao l c W (h.below hB) hn (by omega))
  have hnE := chunks_count hit 0 l
  have hnL := ends_size 0 l
  obtain ⟨E, hE⟩ : ∃ E, E = ends hit 0 l := ⟨_, rfl⟩
  rw [← hE] at C10 hnE hnL
  have HE := Lib.hid hE
  obtain ⟨n, hnn⟩ : ∃ n, n = E.length := ⟨_, rfl⟩
  rw [← hnn] at hnE hnL
  have HNE := Lib.hid hnE
  have HNN := Lib.hid hnn
  have mk := fun W => make_rows n (by omega) W
  clear h hE hnn hnE
  go_enter Try.func14, Try.ntmps14
  go_wp2_with fail
  refine C10.out.mono ?_
  rintro e w1 ⟨b1, v, rfl, ho⟩
  obtain ⟨ae, ce, rfl, hce, _, hir, _⟩ := own_irw ho
  rw [← HNN.out] at hce ⊢
  have HI := Lib.hid (fun W (hB : Below w1.heap.size w1 W) => hir.below hB)
  have B1 := Lib.hid b1
  clear ho hir
  go_wp2_with fail
  have B2 := Lib.hid (below_alloc b1 (.cells (List.replicate n (Value.slice none 0 0)).toArray 25))
  refine (CCL.out _ B2.out).mono ?_
  rintro e w3 ⟨b3, v5, rfl, ho⟩
  obtain ⟨a5, b5, o5, c5, rfl, k1, k2, k3, k4, k5⟩ := own_open ho
  obtain ⟨g, hg⟩ : ∃ g, g = w1.heap.size := ⟨_, rfl⟩
  have hsz : (w1.alloc (.cells (List.replicate n (Value.slice none 0 0)).toArray 25)).heap.size = g + 1 := by simp [hg]
  have BK : Hid (Blk w3 g (List.replicate n (Value.slice none 0 0)) 25) := (Blk.new w1 _ 25 g hg).low b3
  have B3 : Hid (Below w.heap.size w w3) := below_chain B2.out b3
  have B13 : Hid (Below w1.heap.size w1 w3) := below_chain (below_alloc (Below.refl _ w1) _) b3
  have K3 := Lib.hid k3
  have K4 : Hid (l ≠ [] → b5 ≠ g) := fun hne => by have := k4 hne; omega
  have K5 := Lib.hid k5
  have GW : Hid (w1.heap.size ≤ g ∧ w.heap.size ≤ g) := ⟨by omega, by have := B1.out.size; omega⟩
  have SP0 : Hid (Sp w3 g n b5 o5 l []) := ⟨_, BK.out, by simp, fun j hj => absurd hj (Nat.not_lt_zero _)⟩
  rw [← hg]
  clear ho b3 k3 k4 k5 hsz b1
  clear hg
  have E0 : Hid (E.drop 0 = ends hit 0 (l.drop 0)) := by show _ = _; simp [HE.out]
  have R0 : Hid ([] ++ chunks hit (l.drop 0) = chunks hit l) := by show _ = _; simp
  go_wp2_with fail
  go_loopw [6, 18] (fun vp vi wr => ∃ (i p : Nat) (done : List (List UInt8)), i ≤ n ∧ vi = .int .i64 i ∧ vp = .int .i64 p ∧ p ≤ l.length ∧ Hid (done.length = i) ∧ Hid (Sp wr g n b5 o5 l done) ∧ Hid (Byt wr (some ⟨b5, o5, none⟩) l) ∧ Hid (Below w.heap.size w wr) ∧ Hid (Below w1.heap.size w1 wr) ∧ Hid (E.drop i = ends hit p (l.drop p)) ∧ Hid (done ++ chunks hit (l.drop p) = chunks hit l)) (fun _ vi _ => n - (RowKit.intOf vi).toNat)
  case atStart => exact ⟨0, 0, [], by omega, rfl, rfl, by omega, rfl, SP0.out, K5.out, B3.out, B13.out, E0.out, R0.out⟩
  case round =>
    obtain ⟨i, p, done, hi, rfl, rfl, hp, hdl, hS, hY, hB, hB1, hED, hR⟩ := hrel
    by_cases hin : i < n
    · have hEn : E.drop i ≠ [] := fun h0 => by
        have := congrArg List.length h0
        rw [List.length_drop, List.length_nil, ← HNN.out] at this
        omega
      have hpl : p < l.length := by
        rcases Nat.lt_or_ge p l.length with h1 | h1
        · exact h1
        · rw [hED.out, List.drop_eq_nil_of_le h1, ends_nil] at hEn
          exact absurd rfl hEn
      have hne : l ≠ [] := fun h0 => by rw [h0] at hpl; simp at hpl
      obtain rfl := K3.out hne
      obtain ⟨d, hd⟩ : ∃ d, d = first hit (l.drop p) := ⟨_, rfl⟩
      have hd1 : 0 < d := by rw [hd]; exact first_pos hit _ (fun h0 => by have := congrArg List.length h0; simp at this; omega)
      have hd2 : p + d ≤ l.length := by have := first_len hit (l.drop p); rw [List.length_drop] at this; omega
      have hst := hED.out.trans (ends_step l p d hpl hd)
      obtain ⟨hiE, hEq, hEd⟩ := get_drop E i _ _ hst
      have hch := chunks_step l p d hpl hd
      obtain ⟨q, hq⟩ : ∃ q, q = p + d := ⟨_, rfl⟩
      rw [← hq] at hEq hEd hch
      obtain ⟨be, oe, rfl, hlt, hcell⟩ := HI.out wr hB1.out (fun h0 => by rw [h0] at hiE; simp at hiE)
      have d1 := hcell i hiE
      rw [hEq] at d1
      have sl := fun W => slice_three b5 o5 l.length c5 p d q (by omega) hd1 (by omega) k1 W
      obtain ⟨⟨x, d2⟩, f2, hgl⟩ := sp_cell hS.out hin
      have S1 := Lib.hid (sp_next hS.out hdl.out hin hd2)
      have Y1 := Lib.hid (byt_set hY.out ⟨g, i, none⟩ (.slice (some ⟨b5, o5 + p, none⟩) d d) (fun b o hbo => by injection hbo with hbo; injection hbo with hbo; subst hbo; exact K4.out hne))
      have BB := Lib.hid (hB.out.setCell (show w.heap.size ≤ (⟨g, i, none⟩ : Addr).block from GW.out.2) (.slice (some ⟨b5, o5 + p, none⟩) d d))
      have BB1 := Lib.hid (hB1.out.setCell (show w1.heap.size ≤ (⟨g, i, none⟩ : Addr).block from GW.out.1) (.slice (some ⟨b5, o5 + p, none⟩) d d))
      have DL : Hid ((done ++ [(l.drop p).take d]).length = i + 1) := by show _ = _; rw [List.length_append, List.length_singleton, hdl.out]
      have ED1 : Hid (E.drop (i + 1) = ends hit q (l.drop q)) := hEd
      have R1 : Hid ((done ++ [(l.drop p).take d]) ++ chunks hit (l.drop q) = chunks hit l) := by
        show _ = _
        rw [← hR.out, hch, List.append_assoc]
        rfl
      have q1 : (0 : Int) ≤ (i : Int) := by omega
      have q2 : (i : Int) < (n : Int) := by omega
      have hql : q ≤ l.length := by omega
      clear hEn hst hEq hEd hch hcell hd hS hY hB hB1 hED hR hdl hiE hne hlt hq
      go_wp2_with fail
      go_roundw
      case rel => exact ⟨i + 1, q, _, by omega, by go_num, rfl, hql, DL.out, S1.out, Y1.out, BB.out, BB1.out, ED1.out, R1.out⟩
      case measure => simp [RowKit.intOf]; omega
    · obtain rfl : i = n := by omega
      have hz : ends hit p (l.drop p) = [] := by
        have := hED.out
        rw [HNN.out, List.drop_length] at this
        exact this.symm
      have hdr : l.drop p = [] := by
        by_cases h0 : l.drop p = []
        · exact h0
        · rw [ends_cons hit p _ h0] at hz
          cases hz
      have hch : Hid (done = chunks hit l) := by
        show _ = _
        have := hR.out
        rw [hdr, chunks_nil, List.append_nil] at this
        exact this
      have hk := (sp_cell_lt hS.out)
      have RW := Lib.hid (sp_end hS.out hY.out)
      clear hz hdr hR hED hS
      go_wp2_with fail
      go_ret
      rw [hch.out] at RW
      exact ⟨hB.out, g, by rw [HNE.out]; rfl, hk, RW.out⟩
end Go.Proofs.Ytdlejcokigmcdaa.Rb
