/-
  The contracts of the document's own Split and Lists. Condition: a content of at most a million bytes.
-/
import Derived.Test.YtdlejcokigmcdaaWi
namespace Go.Proofs.Ytdlejcokigmcdaa.Rb
open Go.ChangeShapes Go.WideShapes Go.ChangeAt Go.RowKit Go.Lib Go.ChangeMaps

theorem byt_drewN {w : World} {ao : Option Addr} {l : List UInt8} (h : Byt w ao l) (n : Nat) : Byt (w.drewN n) ao l := h.below (below_drewN (Below.refl _ w) n)
theorem ownsRow_low {w : World} {B B' : Nat} {e : TypeId} {v : Value} {n : Nat} {xs : List Value} (h : w.ownsRow B e 1 v n xs) (hb : B' ≤ B) : w.ownsRow B' e 1 v n xs := by
  obtain ⟨h1, h2 | ⟨g, cap, cur, e1, e2, e3⟩⟩ := h
  · exact ⟨h1, Or.inl h2⟩
  · exact ⟨h1, Or.inr ⟨g, cap, cur, e1, Nat.le_trans hb e2, e3⟩⟩

set_option maxHeartbeats 4000000 in
set_option maxRecDepth 100000 in
theorem refsplit_any (ao : Option Addr) (l : List UInt8) (c : Nat) (w : World) (h : Byt w ao l) (hc : l.length ≤ c) (hl : c ≤ 9223372036854775807) (hbig : l.length ≤ 1000000) :
    Calls Try.prog 15 #[.slice ao l.length c] w fun e w' => Below w.heap.size w w' ∧ ∃ v, e = .returned v ∧ OwnR w' w.heap.size v (chunks hit l) := by
  have HY := Lib.hid (fun W (hB : Below w.heap.size w W) => h.below hB)
  have HA : Hid (l ≠ [] → ∃ b o, ao = some ⟨b, o, none⟩) := fun hne => by
    obtain ⟨b, o, h1, _⟩ := h hne
    exact ⟨b, o, h1⟩
  have C12 := Lib.hid (refcuts_any ao l c w h hc hl hbig)
  have hnE := chunks_count hit 0 l
  have hnL := ends_size 0 l
  obtain ⟨E, hE⟩ : ∃ E, E = ends hit 0 l := ⟨_, rfl⟩
  rw [← hE] at C12 hnE hnL
  have HE := Lib.hid hE
  obtain ⟨n, hnn⟩ : ∃ n, n = E.length := ⟨_, rfl⟩
  rw [← hnn] at hnE hnL
  have HNN := Lib.hid hnn
  have E0 : Hid (E.drop 0 = ends hit 0 (l.drop 0)) := by show _ = _; simp [HE.out]
  have R0 : Hid ([] ++ chunks hit (l.drop 0) = chunks hit l) := by show _ = _; simp
  clear h hE hnn hnE
  go_enter Try.func15, Try.ntmps15
  go_wp2_with fail
  refine C12.out.mono ?_
  rintro e w1 ⟨b1, v, rfl, ho⟩
  obtain ⟨ae, ce, rfl, hce, _, hir, _⟩ := own_irw ho
  rw [← HNN.out] at hce ⊢
  have HI := Lib.hid (fun W (hB : Below w1.heap.size w1 W) => hir.below hB)
  have B1 := Lib.hid b1
  have B11 := Lib.hid (Below.refl w1.heap.size w1)
  have ON := Lib.hid (ownr_nil w1 w1.heap.size)
  clear ho hir b1
  go_wp2_with fail
  go_loopw [3, 4, 6] (fun vo vp vi wr => ∃ (i p : Nat) (done : List (List UInt8)), i ≤ n ∧ vi = .int .i64 i ∧ vp = .int .i64 p ∧ p ≤ l.length ∧ Hid (done.length = i) ∧ Hid (OwnR wr w1.heap.size vo done) ∧ Hid (Below w1.heap.size w1 wr) ∧ Hid (E.drop i = ends hit p (l.drop p)) ∧ Hid (done ++ chunks hit (l.drop p) = chunks hit l)) (fun _ _ vi _ => n - (RowKit.intOf vi).toNat)
  case atStart => exact ⟨0, 0, [], by omega, rfl, rfl, by omega, rfl, ON.out, B11.out, E0.out, R0.out⟩
  case round =>
    obtain ⟨i, p, done, hi, rfl, rfl, hp, hdl, hO, hB, hED, hR⟩ := hrel
    by_cases hin : i < n
    · have hEn : E.drop i ≠ [] := fun h0 => by
        have := congrArg List.length h0
        rw [List.length_drop, List.length_nil, ← HNN.out] at this
        omega
      have hpl : p < l.length := by
        rcases Nat.lt_or_ge p l.length with h1 | h1
        · exact h1
        · rw [hED.out, List.drop_eq_nil_of_le h1, ends_nil] at hEn
          exact absurd rfl hEn
      have hne : l ≠ [] := fun h0 => by rw [h0] at hpl; simp at hpl
      obtain ⟨b, o, rfl⟩ := HA.out hne
      obtain ⟨d, hd⟩ : ∃ d, d = first hit (l.drop p) := ⟨_, rfl⟩
      have hd1 : 0 < d := by rw [hd]; exact first_pos hit _ (fun h0 => by have := congrArg List.length h0; simp at this; omega)
      have hd2 : p + d ≤ l.length := by have := first_len hit (l.drop p); rw [List.length_drop] at this; omega
      have hst := hED.out.trans (ends_step l p d hpl hd)
      obtain ⟨hiE, hEq, hEd⟩ := get_drop E i _ _ hst
      have hch := chunks_step l p d hpl hd
      obtain ⟨q, hq⟩ : ∃ q, q = p + d := ⟨_, rfl⟩
      rw [← hq] at hEq hEd hch
      have HCE := Lib.hid (fun W (hW : Below w1.heap.size w1 W) => HI.out W hW (fun h0 => by rw [h0] at hiE; simp at hiE))
      obtain ⟨be, oe, rfl, hlt, hcell⟩ := HCE.out wr hB.out
      have DC : Hid (∀ W, Below w1.heap.size w1 W → W.cell? ⟨be, oe + i, none⟩ = some (.int .i64 (q : Int))) := fun W hW => by
        obtain ⟨b2, o2, h2, _, hc2⟩ := HCE.out W hW
        injection h2 with h2
        injection h2 with h2 h3
        subst h2
        subst h3
        have := hc2 i hiE
        rwa [hEq] at this
      have sl := fun W => slice_mid b o l.length c p d q (by omega) (by omega) (by omega) hc W
      have DL : Hid ((done ++ [(l.drop p).take d]).length = i + 1) := by show _ = _; rw [List.length_append, List.length_singleton, hdl.out]
      have ED1 : Hid (E.drop (i + 1) = ends hit q (l.drop q)) := hEd
      have R1 : Hid ((done ++ [(l.drop p).take d]) ++ chunks hit (l.drop q) = chunks hit l) := by
        show _ = _
        rw [← hR.out, hch, List.append_assoc]
        rfl
      have q1 : (0 : Int) ≤ (i : Int) := by omega
      have q2 : (i : Int) < (n : Int) := by omega
      have hql : q ≤ l.length := by omega
      -- the chunk's own copy
      have Ba := Lib.hid (below_alloc hB.out (.cells #[] 5))
      have Oa := Lib.hid (ownr_below hO.out (below_alloc (Below.refl wr.heap.size wr) (.cells #[] 5)))
      have LIT : Hid (Own (wr.alloc (.cells #[] 5)) wr.heap.size (.slice (some ⟨wr.heap.size, 0, none⟩) 0 0) []) := own_lit wr [] wr.heap.size (Nat.le_refl _) (by simp)
      have d1 := DC.out _ Ba.out
      have hlen : Hid (((l.drop p).take d).length = d) := by show _ = _; rw [List.length_take, List.length_drop]; omega
      have H1 : Hid (Byt (wr.alloc (.cells #[] 5)) (some ⟨b, o + p, none⟩) ((l.drop p).take d)) := ((HY.out _ (below_chain B1.out Ba.out)).drop p).take d
      have p1 : ([] : List UInt8).length + d ≤ 140737488355328 := by simp; omega
      have p2 : wr.heap.size ≤ (wr.alloc (.cells #[] 5)).heap.size := by simp
      have P2 := Lib.hid p2
      have X1 : Hid ((done.length + 1) * 24 ≤ 140737488355328) := by show _ ≤ _; rw [hdl.out]; omega
      have hBs := hB.out.size
      obtain ⟨row, hrow⟩ : ∃ row, row = (l.drop p).take d := ⟨_, rfl⟩
      rw [← hrow] at DL R1 hlen H1
      have BR := Lib.hid (below_alloc (Below.refl wr.heap.size wr) (.cells #[] 5))
      have OO := Lib.hid hO.out
      have WB := Lib.hid hBs
      clear hEn hst hEq hEd hch hcell hd hED hR hdl hiE hne hlt hq hO hrow hd2 hBs
      go_wp2_with (first
        | (at_builtin; refine wpl_app_len (t := 25) (e := 5) rfl (.tmp 16) (.tmp 23) rfl Try.underlying25 info5 wr.heap.size (.slice (some ⟨wr.heap.size, 0, none⟩) 0 0) [] row rfl LIT.out (some ⟨b, o + p, none⟩) d (c - p) rfl H1.out (fun h => by cases h) hlen p1 p2 ?_; intro v1 w2 own1 grow1; rw [List.nil_append] at own1; have bb := BR.out.grown grow1 p2 (fun k hk => (LIT.out.lt k hk).1); obtain ⟨a1, c1, rfl, _, _, _, _⟩ := own_byt own1; have O3 := Lib.hid (ownr_below (ownr_below OO.out bb) (below_alloc (Below.refl w2.heap.size w2) (.cells #[.slice a1 row.length c1] 25))); have U3 := Lib.hid (Own.low (World.ownsRow.alloc own1 (.cells #[.slice a1 row.length c1] 25)) WB.out); have G3 := Lib.hid (cell_new w2 #[.slice a1 row.length c1] 0 w2.heap.size (t := 25) rfl (show _ = some (Value.slice a1 row.length c1) from rfl)); have B3 := Lib.hid (below_alloc (below_chain hB.out bb) (.cells #[.slice a1 row.length c1] 25)); have p3 := B3.out.size; clear own1 grow1 bb)
        | (at_builtin; refine wpl_appr rfl (.tmp 15) (.tmp 25) rfl Try.underlying30 info25 w1.heap.size _ _ done row rfl O3.out U3.out w2.heap.size rfl G3.out X1.out p3 ?_; intro v2 w3 own3 grow3; have B4 := Lib.hid (B3.out.grown grow3 p3 (fun k hk => by obtain ⟨vals, hv, _⟩ := O3.out; exact (hv.lt k hk).1)); have O4 := Lib.hid own3; have d2 := DC.out _ B4.out; clear own3 grow3))
      go_roundw
      case rel => exact ⟨i + 1, q, done ++ [row], by omega, by go_num, rfl, hql, DL.out, O4.out, B4.out, ED1.out, R1.out⟩
      case measure => simp [RowKit.intOf]; omega
    · obtain rfl : i = n := by omega
      have hz : ends hit p (l.drop p) = [] := by
        have := hED.out
        rw [HNN.out, List.drop_length] at this
        exact this.symm
      have hdr : l.drop p = [] := by
        by_cases h0 : l.drop p = []
        · exact h0
        · rw [ends_cons hit p _ h0] at hz
          cases hz
      have hch : Hid (done = chunks hit l) := by
        show _ = _
        have := hR.out
        rw [hdr, chunks_nil, List.append_nil] at this
        exact this
      clear hz hdr hR hED
      go_wp2_with fail
      go_ret
      obtain ⟨vals, o1, o2⟩ := hO.out
      rw [← hch.out]
      exact ⟨below_chain B1.out hB.out, _, rfl, vals, ownsRow_low o1 B1.out.size, fun j hj => by obtain ⟨u, hu, hou⟩ := o2 j hj; exact ⟨u, hu, hou.low B1.out.size⟩⟩

set_option maxHeartbeats 2000000 in
set_option maxRecDepth 100000 in
theorem lists_same (n : Nat) (ao bo : Option Addr) (rows : List (List UInt8)) (c d : Nat) (w : World) (h1 : RwG w ao rows) (h2 : RwG w bo rows) (hn : rows.length = n) (hn2 : n ≤ 9223372036854775807) :
    Calls Try.prog 13 #[.slice ao n c, .slice bo n d] w fun e w' => e = .returned (.bool true) ∧ Below w.heap.size w w' := by
  have H1 := Lib.hid h1
  have H2 := Lib.hid h2
  have HL := Lib.hid hn
  clear h1 h2 hn
  go_enter Try.func13, Try.ntmps13
  go_wp2_with fail
  go_loopw [5] (fun vi wr => ∃ (i : Nat), i ≤ n ∧ vi = .int .i64 i ∧ Below w.heap.size w wr) (fun vi _ => n - (RowKit.intOf vi).toNat)
  case atStart => exact ⟨0, by omega, rfl, Below.refl _ _⟩
  case round =>
    obtain ⟨i, hi, rfl, hb⟩ := hrel
    by_cases hin : i < n
    · have l1 := HL.out
      have hne : rows ≠ [] := fun h0 => by rw [h0] at l1; simp at l1; omega
      obtain ⟨b1, rfl, hb1, hr1⟩ := (H1.out.below hb) hne
      obtain ⟨b2, rfl, hb2, hr2⟩ := (H2.out.below hb) hne
      obtain ⟨a1, c1, d1, y1, n1⟩ := hr1 i (by omega)
      obtain ⟨a2, c2, d2, y2, n2⟩ := hr2 i (by omega)
      have e1 := fun m => conv_byt (t := 25) (e := 5) (d := 9) (P := Try.prog) (w := wr.drewN m) Try.underlying25 Try.underlying5 Try.underlying9 a1 _ c1 (byt_drewN y1 m) n1
      have e2 := fun m => conv_byt (t := 25) (e := 5) (d := 9) (P := Try.prog) (w := wr.drewN m) Try.underlying25 Try.underlying5 Try.underlying9 a2 _ c2 (byt_drewN y2 m) n2
      generalize (rows[i]'(by omega)) = r at *
      generalize r.toArray = x at *
      generalize r.length = k at *
      have q1 : (0 : Int) ≤ (i : Int) := by omega
      have q2 : (i : Int) < (n : Int) := by omega
      clear hr1 hr2 y1 y2 l1 hne
      go_wp2_with fail
      go_quiet (fail)
      go_wp2_with fail
      go_roundw
      case rel => exact ⟨i + 1, by omega, by go_num, below_drewN hb _⟩
      case measure => simp [RowKit.intOf]; omega
    · obtain rfl : i = n := by omega
      go_wp2_with fail
      go_ret
      exact ⟨rfl, hb⟩
end Go.Proofs.Ytdlejcokigmcdaa.Rb
