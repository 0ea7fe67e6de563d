/-
  The contract of the document's own Sort, over rows of texts. Conditions: a row of at most 300 texts.
-/
import Derived.Test.YtjjcdlbmpopfcaaDoorKu
import Derived.Deep.RegionHeld3
import Derived.Deep.RegionLaw
namespace Go.Proofs.YtjjcdlbmpopfcaaDoor.Sh
open Go.ChangeShapes Go.WideShapes Go.ChangeAt Go.RowKit Go.Lib Go.ChangeMaps

theorem srw_alloc {w : World} {ao : Option Addr} {l : List ByteArray} (h : Srw w ao l) (o : Obj) : Srw (w.alloc o) ao l := h.below ((Below.refl _ w).alloc (Nat.le_refl _) o)
set_option maxRecDepth 100000 in
theorem slice_tos (ao : Option Addr) (len c n : Nat) (hn : n ≤ c) (W : World) :
    (Instr.slice 39 (.slice ao len c) none (some (.int .i64 (n : Int))) none).run Tryd.prog W = .ok (.slice ao n c) W := by
  have hs := run_slice_h (P := Tryd.prog) W 39 ao len c (by rw [Tryd.underlying39]; rfl) .i64 (n : Int) (by omega) (by omega)
  rw [hs]
  have e2 : ((n : Int)).toNat = n := by omega
  have e3 : Tryd.prog.elem 39 = 24 := by kernel_rfl
  rw [e2, e3]
  cases ao with
  | none => simp [Tryd.sizeOf24, sliced, Result.andThen]
  | some a => simp [Tryd.sizeOf24, sliced, Result.andThen, add_zero]

theorem step_apps0 {P : Program} {t e : TypeId} {w : World} {ops : Array Oper} {o : Oper} {a : Act} {K : Act → World → Prop} {Q : Exit → Act → World → Prop} {E : Prop} (hgd : o.guard = none) (s x : Operand)
    (ho : o.op = .call { callee := .builtin .append, args := #[s, x], argTypes := #[t, t] })
    (ht : P.underlying t = some (.slice e)) (hinf : (P.info? e).map (fun i => (i.zero, i.size, i.bytes)) = some (some (.string ⟨#[]⟩), 1, 16))
    (base : Nat) (v : Value) (xs l : List ByteArray) (hs : a.eval s = v) (hown : w.ownsRow base e 1 v xs.length (sts xs))
    (ao : Option Addr) (m c : Nat) (hx : a.eval x = .slice ao m c) (hr : Srw w ao l) (hn : ao = none → c = 0) (hm : Hid (l.length = m))
    (h47 : (xs.length + m) * 16 ≤ 140737488355328) (hbase : base ≤ w.heap.size)
    (h : ∀ v' w', w'.ownsRow base e 1 v' (xs ++ l).length (sts (xs ++ l)) → w.grownBy w' v.ownBlock → K (a.put o.dst v') w') :
    if Region.wanted o (yielded ops a.tmps) = true then Oper.wp P o a w K Q else E := by
  have hm' : l.length = m := hm
  cases ao with
  | some ad =>
    subst hm'
    exact step_apps hgd s x ho ht hinf base v xs l hs hown ad c hx hr h47 hbase h
  | none =>
    obtain rfl : l = [] := by
      cases l with
      | nil => rfl
      | cons y r =>
        obtain ⟨b, o, h0, _⟩ := hr (by simp)
        cases h0
    have hc := hn rfl
    subst hc
    have hw : Region.wanted o (yielded ops a.tmps) = true := by simp [Region.wanted, hgd]
    rw [if_pos hw]
    obtain ⟨i0, hi, _, _, _⟩ := info_parts hinf
    have hx0 : a.eval x = .slice none 0 0 := by rw [hx, ← hm']; rfl
    have hrun := run_append_owned_none (P := P) (w := w) base t o.type e i0 1 ht hi v xs.length (sts xs) hown
    unfold Oper.wp
    simp [execOp, ho, resolve, invoke, builtin, hs, hx0, hrun, Result.andThen]
    exact h v w (by simpa using hown) (World.grownBy.refl w _)
set_option maxRecDepth 100000 in
/-- the rest of a slice of texts -/
theorem slice_froms (ao : Option Addr) (len c n : Nat) (l : List ByteArray) (h1 : n ≤ len) (h3 : len = l.length) (h4 : ao = none → c = 0) (h5 : len ≤ c) :
    ∃ ao', (∀ W, (Instr.slice 39 (.slice ao len c) (some (.int .i64 (n : Int))) none none).run Tryd.prog W = .ok (.slice ao' (len - n) (c - n)) W) ∧ (∀ w, Srw w ao l → Srw w ao' (l.drop n)) ∧ (ao' = none → c - n = 0) := by
  have hs := fun W => run_slice_l (P := Tryd.prog) W 39 ao len c (by rw [Tryd.underlying39]; rfl) .i64 (n : Int) (by omega) (by omega)
  have e3 : Tryd.prog.elem 39 = 24 := by kernel_rfl
  simp only [e3, Tryd.sizeOf24, sliced, Result.andThen, Int.toNat_natCast, Nat.mul_one] at hs
  by_cases hcn : c = n
  · refine ⟨ao, fun W => by rw [hs W, if_pos hcn], fun w hb hne => ?_, fun _ => by omega⟩
    exfalso
    apply hne
    apply List.drop_of_length_le
    omega
  · cases ao with
    | none =>
      have := h4 rfl
      omega
    | some a =>
      refine ⟨some (a.add n), fun W => by rw [hs W, if_neg hcn]; rfl, fun w hb => ?_, fun h => by cases h⟩
      by_cases hl : l = []
      · subst hl
        rw [List.drop_nil]
        exact srw_nil _ _
      · obtain ⟨b, o, h0, _, _⟩ := hb hl
        injection h0 with h0
        subst h0
        rw [WideShapes.add_plain]
        exact hb.drop n
theorem owns_ne {W : World} {G b : Nat} {v : Value} {l : List ByteArray} (h : OwnS W G v l) (hb : b < G) : some b ≠ v.ownBlock := fun e => by
  have := (h.lt b e.symm).1
  omega
theorem owns_grow {w W W' : World} {G : Nat} {v : Value} {l : List ByteArray} (h : OwnS W G v l) (hb : Below G w W) (hG : G ≤ W.heap.size) (hg : W.grownBy W' v.ownBlock) : Below G w W' := hb.grown hg hG (fun k hk => (h.lt k hk).1)
theorem srw_one (w : World) (x : ByteArray) : Srw (w.alloc (.cells #[.string x] 24)) (some ⟨w.heap.size, 0, none⟩) [x] := fun _ => by
  refine ⟨w.heap.size, 0, rfl, by simp, fun j hj => ?_⟩
  obtain rfl : j = 0 := by simpa using hj
  rw [World.cell?_alloc_new]
  rfl
theorem srw_low {w W : World} {G b o : Nat} {l : List ByteArray} (h : Srw w (some ⟨b, o, none⟩) l) (hb : Below G w W) (hG : b < G) : Srw W (some ⟨b, o, none⟩) l := fun hne => by
  obtain ⟨b', o', h1, h2, h3⟩ := h hne
  injection h1 with h1
  injection h1 with h1 h4
  subst h1
  subst h4
  exact ⟨b, o, rfl, Nat.lt_of_lt_of_le h2 hb.size, fun j hj => (hb.cell (p := ⟨b, o + j, none⟩) hG).trans (h3 j hj)⟩
theorem srw_kept {W W' : World} {b o : Nat} {ob : Option Nat} {l : List ByteArray} (h : Srw W (some ⟨b, o, none⟩) l) (hg : W.grownBy W' ob) (hne : some b ≠ ob) : Srw W' (some ⟨b, o, none⟩) l := fun h0 => by
  obtain ⟨b', o', h1, h2, h3⟩ := h h0
  injection h1 with h1
  injection h1 with h1 h4
  subst h1
  subst h4
  exact ⟨b, o, rfl, Nat.lt_of_lt_of_le h2 hg.size, fun j hj => hg.cell (h3 j hj) hne⟩
theorem sort_step (l : List ByteArray) (i : Nat) (x : ByteArray) (h : l[i]? = some x) : sortU ltB (l.take (i + 1)) = ins ltB x (sortU ltB (l.take i)) := by
  rw [List.take_add_one, h, Option.toList_some, sortU_app]
theorem place_more {L : List ByteArray} {x y : ByteArray} {j : Nat} (h : ∀ t, t < j → ∃ y, L[t]? = some y ∧ ltB y x = true) (hy : L[j]? = some y) (hl : Op.bytesLess y.toList x.toList = true) : ∀ t, t < j + 1 → ∃ y, L[t]? = some y ∧ ltB y x = true := fun t ht => by
  rcases Nat.lt_or_ge t j with h1 | h1
  · exact h t h1
  · obtain rfl : t = j := by omega
    exact ⟨y, hy, hl⟩
set_option maxHeartbeats 8000000 in
set_option maxRecDepth 100000 in
theorem refsort_any (ao : Option Addr) (l : List ByteArray) (c : Nat) (w : World) (h : Srw w ao l) (hc : l.length ≤ c) (_ : c ≤ 9223372036854775807) (h300 : l.length ≤ 300) :
    Calls Tryd.prog 20 #[.slice ao l.length c] w fun e w' => Below w.heap.size w w' ∧ ∃ v, e = .returned v ∧ OwnS w' w.heap.size v (sortU ltB l) := by
  have H := Lib.hid h
  obtain ⟨n, hn⟩ : ∃ n, n = l.length := ⟨_, rfl⟩
  have HN := Lib.hid hn
  rw [← hn] at hc h300 ⊢
  clear h hn
  go_enter Tryd.func20, Tryd.ntmps20
  go_wp2_with fail
  go_loopw [3, 4] (fun vo vi wr => ∃ i : Nat, i ≤ n ∧ vi = .int .i64 i ∧ Hid (Below w.heap.size w wr) ∧ Hid (OwnS wr w.heap.size vo (sortU ltB (l.take i)))) (fun _ vi _ => n - (RowKit.intOf vi).toNat)
  case atStart => exact ⟨0, by omega, rfl, Below.refl _ _, World.ownsRow_nil _ _ _ _⟩
  case round =>
    obtain ⟨i, hi, rfl, hB, hO⟩ := hrel
    rename World => w0
    by_cases hin : i < n
    · obtain ⟨b, o, x, rfl, hb, gx, e0⟩ := srw_cell H.out i (by have := HN.out; omega)
      have ex : w0.cell? ⟨b, o + i, none⟩ = some (.string x) := (hB.out.cell (p := ⟨b, o + i, none⟩) hb).trans e0
      have EX := Lib.hid ex
      have GX := Lib.hid gx
      obtain ⟨aq, cq, rfl, hcq, hcq2, hsq, hnq⟩ := own_srw hO.out
      obtain ⟨L, hL⟩ : ∃ L, L = sortU ltB (l.take i) := ⟨_, rfl⟩
      have hlen : L.length ≤ i := by rw [hL]; exact Nat.le_trans (sortU_len _ _) (by rw [List.length_take]; omega)
      rw [← hL] at hO hcq hsq ⊢
      have HL := Lib.hid hL
      have HS := Lib.hid hsq
      obtain ⟨m, hm⟩ : ∃ m, m = L.length := ⟨_, rfl⟩
      have HM := Lib.hid hm
      rw [← hm] at hcq hlen ⊢
      have q1 : (0 : Int) ≤ (i : Int) := by omega
      have q2 : (i : Int) < (n : Int) := by omega
      clear e0 gx hL hsq hm ex
      go_wp2_with fail
      go_loopw [5] (fun vj w2 => ∃ j k : Nat, j ≤ m ∧ vj = .int .i64 j ∧ Hid (w2 = w0.drewN k) ∧ Hid (∀ t, t < j → ∃ y, L[t]? = some y ∧ ltB y x = true)) (fun vj _ => m - (RowKit.intOf vj).toNat)
      case atStart => exact ⟨0, 0, by omega, rfl, rfl, fun t ht => absurd ht (Nat.not_lt_zero _)⟩
      case round =>
        obtain ⟨j, k, hj, rfl, hw2, hlt⟩ := hrel
        have ex : wr.cell? ⟨b, o + i, none⟩ = some (.string x) := by rw [hw2.out]; exact EX.out
        by_cases hjm : j < m
        · obtain ⟨b2, o2, y, rfl, hb2, gy, ey⟩ := srw_cell HS.out j (by have := HM.out; omega)
          have ey : wr.cell? ⟨b2, o2 + j, none⟩ = some (.string y) := by rw [hw2.out]; exact ey
          have GY := Lib.hid gy
          have q3 : (0 : Int) ≤ (j : Int) := by omega
          have q4 : (j : Int) < (m : Int) := by omega
          clear gy
          cases hxy : Op.bytesLess y.toList x.toList with
          | true =>
            go_wp2_with fail
            go_quiet (fail)
            go_wp2_with fail
            go_roundw
            case rel => exact ⟨j + 1, k + nq, by omega, by go_num, by show _ = _; rw [hw2.out, World.drewN_drewN], place_more hlt.out GY.out hxy⟩
            case measure => simp [RowKit.intOf]; omega
          | false =>
            have hpl : Hid (place ltB x L = j) := place_is ltB x L j hlt.out fun z hz => by
              rw [GY.out] at hz
              injection hz with hz
              subst hz
              exact hxy
            go_wp2_with fail
            go_quiet (fail)
            go_wp2_with fail
            generalize hwv : wr.drewN nq = wv at *
            have ex2 : wv.cell? ⟨b, o + i, none⟩ = some (.string x) := by rw [← hwv]; exact ex
            have ey2 : wv.cell? ⟨b2, o2 + j, none⟩ = some (.string y) := by rw [← hwv]; exact ey
            have hwv2 : Hid (wv = w0.drewN (k + nq)) := by show _ = _; rw [← hwv, hw2.out, World.drewN_drewN]
            have jm : ((j : Int) == (m : Int)) = false := by simp; omega
            clear hwv ex ey hw2
            cases hyx : (y.toList == x.toList) with
            | true =>
              go_quiet (fail)
              go_wp2_with fail
              go_roundw
              case rel => exact ⟨i + 1, by omega, by go_num, by show Below _ _ _; rw [hwv2.out, World.drewN_drewN]; exact below_drewN hB.out _, by
                show OwnS _ _ _ _
                rw [sort_step l i x GX.out, ← HL.out, ins_at, if_pos (by rw [hpl.out, GY.out, toList_inj (eq_of_beq hyx)]), hwv2.out, World.drewN_drewN, HM.out]
                exact hO.out⟩
              case measure => simp [RowKit.intOf]; omega
            | false =>
              go_quiet (fail)
              go_wp2_with fail
              generalize hwv3 : wv.drewN nq = wx at *
              have ex3 : wx.cell? ⟨b, o + i, none⟩ = some (.string x) := by rw [← hwv3]; exact ex2
              have s1 := fun W => slice_tos (some ⟨b2, o2, none⟩) m cq j (by omega) W
              obtain ⟨af, s2, sf, nf⟩ := slice_froms (some ⟨b2, o2, none⟩) m cq j L (by omega) HM.out hnq hcq
              obtain ⟨G, hG⟩ : ∃ G, G = wx.heap.size := ⟨_, rfl⟩
              have HS2 : Hid (Srw wx (some ⟨b2, o2, none⟩) L) := by show Srw _ _ _; rw [← hwv3, hwv2.out]; exact HS.out
              have hwx : Hid (wx.heap.size = w0.heap.size) := by show _ = _; rw [← hwv3, hwv2.out]; simp
              have hbG : b < G := by have := hB.out.size; have := hwx.out; omega
              have LA : Hid (OwnS (wx.alloc (.cells #[] 24)).drew G (.slice (some ⟨wx.heap.size, 0, none⟩) 0 0) []) := owns_lit wx [] G (by omega) (by simp)
              have BA : Hid (Below G wx (wx.alloc (.cells #[] 24)).drew) := ((Below.refl _ wx).alloc (by omega) _).drew
              have SA : Hid (Srw (wx.alloc (.cells #[] 24)).drew (some ⟨b2, o2, none⟩) (L.take j)) := (srw_alloc (HS2.out.take j) _).drew
              have LT : Hid ((L.take j).length = j) := by show _ = _; rw [List.length_take]; have := HM.out; omega
              have LD : Hid ((L.drop j).length = m - j) := by show _ = _; rw [List.length_drop, HM.out]
              have pa : (([] : List ByteArray).length + j) * 16 ≤ 140737488355328 := by simp; omega
              have pb : G ≤ (wx.alloc (.cells #[] 24)).drew.heap.size := by simp; omega
              have LB : Hid (OwnS ((wx.alloc (.cells #[] 24)).alloc (.cells #[.string x] 24)).drew G (.slice (some ⟨wx.heap.size, 0, none⟩) 0 0) []) := World.ownsRow.alloc (owns_lit wx [] G (by omega) (by simp)) _
              have BB : Hid (Below G wx ((wx.alloc (.cells #[] 24)).alloc (.cells #[.string x] 24)).drew) := (((Below.refl _ wx).alloc (by omega) _).alloc (by simp; omega) _).drew
              have SB : Hid (Srw ((wx.alloc (.cells #[] 24)).alloc (.cells #[.string x] 24)).drew (some ⟨b2, o2, none⟩) (L.take j)) := (srw_alloc (srw_alloc (HS2.out.take j) _) _).drew
              have XB : Hid (Srw ((wx.alloc (.cells #[] 24)).alloc (.cells #[.string x] 24)).drew (some ⟨wx.heap.size + 1, 0, none⟩) [x]) := by have := (srw_one (wx.alloc (.cells #[] 24)) x).drew; rwa [show (wx.alloc (Obj.cells #[] 24)).heap.size = wx.heap.size + 1 by simp] at this
              have LC : Hid (OwnS ((wx.alloc (.cells #[.string x] 24)).alloc (.cells #[] 24)).drew G (.slice (some ⟨wx.heap.size + 1, 0, none⟩) 0 0) []) := by have := owns_lit (wx.alloc (.cells #[.string x] 24)) [] G (by simp; omega) (by simp); rwa [show (wx.alloc (Obj.cells #[Value.string x] 24)).heap.size = wx.heap.size + 1 by simp] at this
              have BC : Hid (Below G wx ((wx.alloc (.cells #[.string x] 24)).alloc (.cells #[] 24)).drew) := (((Below.refl _ wx).alloc (by omega) _).alloc (by simp; omega) _).drew
              have SC : Hid (Srw ((wx.alloc (.cells #[.string x] 24)).alloc (.cells #[] 24)).drew (some ⟨b2, o2, none⟩) (L.take j)) := (srw_alloc (srw_alloc (HS2.out.take j) _) _).drew
              have XC : Hid (Srw ((wx.alloc (.cells #[.string x] 24)).alloc (.cells #[] 24)).drew (some ⟨wx.heap.size, 0, none⟩) [x]) := (srw_alloc (srw_one wx x) _).drew
              have pb2 : G ≤ ((wx.alloc (.cells #[] 24)).alloc (.cells #[.string x] 24)).drew.heap.size := by simp; omega
              have pb3 : G ≤ ((wx.alloc (.cells #[.string x] 24)).alloc (.cells #[] 24)).drew.heap.size := by simp; omega
              have nxb : some (wx.heap.size + 1) ≠ (Value.slice (some ⟨wx.heap.size, 0, none⟩) 0 0).ownBlock := by simp [Value.ownBlock]
              have nxc : some wx.heap.size ≠ (Value.slice (some ⟨wx.heap.size + 1, 0, none⟩) 0 0).ownBlock := by simp [Value.ownBlock]
              have NXB := Lib.hid nxb
              have NXC := Lib.hid nxc
              have NEW : Hid (¬ L[j]? = some x) := fun h => by rw [GY.out] at h; injection h with h; subst h; simp at hyx
              clear ex2 ey2 nxb nxc
              have GB : Hid (w.heap.size ≤ G) := by show _ ≤ _; have := hB.out.size; have := hwx.out; omega
              have WX : Hid (Below w.heap.size w wx) := by show Below _ _ _; rw [← hwv3, hwv2.out]; exact below_drewN (below_drewN hB.out _) _
              have pc : ((L.take j).length + 1) * 16 ≤ 140737488355328 := by rw [LT.out]; omega
              have pd : ((L.take j ++ [x]).length + (m - j)) * 16 ≤ 140737488355328 := by rw [List.length_append, List.length_singleton, LT.out]; omega
              have hGx : G ≤ wx.heap.size := by omega
              have SF := Lib.hid (fun W (hW : Below G wx W) => sf W (HS2.out.below (by rw [← hG]; exact hW)))
              have HG := Lib.hid hG
              clear hG
              go_region_held3 (fun w' => w'.cell? ⟨b, o + i, none⟩ = some (.string x))
                (first | go_keep | exact hgrow1.cell (by assumption) (owns_ne LA.out hbG) | exact hgrow1.cell (by assumption) (owns_ne LC.out hbG) | exact hgrow2.cell (by assumption) (owns_ne hown1 hbG) | exact hgrow3.cell (by assumption) (owns_ne hown2 hbG))
                ((first
                  | (refine step_apps0 (t := 39) (e := 24) rfl (.tmp 44) (.tmp 47) rfl Tryd.underlying39 infoS G (.slice (some ⟨wx.heap.size, 0, none⟩) 0 0) [] (L.take j) (by simp [Act.eval]) LA.out (some ⟨b2, o2, none⟩) j cq (by simp [Act.eval]) SA.out hnq LT pa pb ?_; intro v1 w1 hown1 hgrow1; rw [List.nil_append] at hown1; have B1 := owns_grow LA.out BA.out pb hgrow1; have g1 := Nat.le_trans hGx B1.size)
                  | (refine step_apps0 (t := 39) (e := 24) rfl (.tmp 48) (.tmp 53) rfl Tryd.underlying39 infoS G v1 (L.take j) [x] (by simp [Act.eval]) (World.ownsRow.alloc hown1 _) (some ⟨w1.heap.size, 0, none⟩) 1 1 (by simp [Act.eval]) (srw_one w1 x) (fun h => by cases h) rfl pc (by simp; omega) ?_; intro v2 w2 hown2 hgrow2; have B2 := owns_grow (World.ownsRow.alloc hown1 (.cells #[.string x] 24)) (B1.alloc g1 (.cells #[.string x] 24)) (Nat.le_trans g1 (by simp)) hgrow2; have g2 := Nat.le_trans hGx B2.size)
                  | (refine step_apps0 (t := 39) (e := 24) rfl (.tmp 44) (.tmp 47) rfl Tryd.underlying39 infoS G (.slice (some ⟨wx.heap.size, 0, none⟩) 0 0) [] (L.take j) (by simp [Act.eval]) LB.out (some ⟨b2, o2, none⟩) j cq (by simp [Act.eval]) SB.out hnq LT pa pb2 ?_; intro v1 w1 hown1 hgrow1; rw [List.nil_append] at hown1; have B1 := owns_grow LB.out BB.out pb2 hgrow1; have g1 := Nat.le_trans hGx B1.size; have X1 := Lib.hid (srw_kept XB.out hgrow1 NXB.out))
                  | (refine step_apps0 (t := 39) (e := 24) rfl (.tmp 44) (.tmp 47) rfl Tryd.underlying39 infoS G (.slice (some ⟨wx.heap.size + 1, 0, none⟩) 0 0) [] (L.take j) (by simp [Act.eval]) LC.out (some ⟨b2, o2, none⟩) j cq (by simp [Act.eval]) SC.out hnq LT pa pb3 ?_; intro v1 w1 hown1 hgrow1; rw [List.nil_append] at hown1; have B1 := owns_grow LC.out BC.out pb3 hgrow1; have g1 := Nat.le_trans hGx B1.size; have X1 := Lib.hid (srw_kept XC.out hgrow1 NXC.out))
                  | (refine step_apps0 (t := 39) (e := 24) rfl (.tmp 48) (.tmp 53) rfl Tryd.underlying39 infoS G v1 (L.take j) [x] (by simp [Act.eval]) hown1 (some ⟨wx.heap.size + 1, 0, none⟩) 1 1 (by simp [Act.eval]) X1.out (fun h => by cases h) rfl pc g1 ?_; intro v2 w2 hown2 hgrow2; have B2 := owns_grow hown1 B1 g1 hgrow2; have g2 := Nat.le_trans hGx B2.size)
                  | (refine step_apps0 (t := 39) (e := 24) rfl (.tmp 48) (.tmp 53) rfl Tryd.underlying39 infoS G v1 (L.take j) [x] (by simp [Act.eval]) hown1 (some ⟨wx.heap.size, 0, none⟩) 1 1 (by simp [Act.eval]) X1.out (fun h => by cases h) rfl pc g1 ?_; intro v2 w2 hown2 hgrow2; have B2 := owns_grow hown1 B1 g1 hgrow2; have g2 := Nat.le_trans hGx B2.size)
                  | (refine step_apps0 (t := 39) (e := 24) rfl (.tmp 54) (.tmp 57) rfl Tryd.underlying39 infoS G v2 (L.take j ++ [x]) (L.drop j) (by simp [Act.eval]) hown2 af (m - j) (cq - j) (by simp [Act.eval]) (SF.out w2 B2) nf LD pd g2 ?_; intro v3 w3 hown3 hgrow3; have B3 := owns_grow hown2 B2 g2 hgrow3)))
              all_goals
                have hfin : Hid (OwnS w3 w.heap.size v3 (sortU ltB (l.take (i + 1)))) := by
                  show OwnS _ _ _ _
                  rw [sort_step l i x GX.out, ← HL.out, ins_at, if_neg (by rw [hpl.out]; exact NEW.out), hpl.out]
                  have h3 : OwnS w3 G v3 (L.take j ++ [x] ++ L.drop j) := hown3
                  rw [List.append_assoc] at h3
                  exact h3.low GB.out
                have hbf : Hid (Below w.heap.size w w3) := by
                  show Below _ _ _
                  exact WX.out.trans (B3.mono GB.out)
                clear hown1 hgrow1 hown2 hgrow2 hown3 hgrow3
                go_wp2_with fail
                go_roundw
                case rel => exact ⟨i + 1, by omega, by go_num, hbf.out, hfin.out⟩
                case measure => simp [RowKit.intOf]; omega
        · obtain rfl : j = m := by omega
          have hpl : Hid (place ltB x L = j) := place_is ltB x L j hlt.out fun z hz => by rw [List.getElem?_eq_none (by have := HM.out; omega)] at hz; cases hz
          go_wp2_with fail
          go_quiet (fail)
          go_wp2_with fail
          generalize hwv : wr.drewN nq = wv at *
          have ex2 : wv.cell? ⟨b, o + i, none⟩ = some (.string x) := by rw [← hwv]; exact ex
          have hwv2 : Hid (wv = w0.drewN (k + nq)) := by show _ = _; rw [← hwv, hw2.out, World.drewN_drewN]
          clear hwv ex hw2
          go_quiet (fail)
          go_wp2_with fail
          generalize hwv3 : wv.drewN nq = wx at *
          have ex3 : wx.cell? ⟨b, o + i, none⟩ = some (.string x) := by rw [← hwv3]; exact ex2
          have s1 := fun W => slice_tos aq j cq j (by omega) W
          obtain ⟨af, s2, sf, nf⟩ := slice_froms aq j cq j L (by omega) HM.out hnq hcq
          obtain ⟨G, hG⟩ : ∃ G, G = wx.heap.size := ⟨_, rfl⟩
          have HS2 : Hid (Srw wx aq L) := by show Srw _ _ _; rw [← hwv3, hwv2.out]; exact HS.out
          have hwx : Hid (wx.heap.size = w0.heap.size) := by show _ = _; rw [← hwv3, hwv2.out]; simp
          have hbG : b < G := by have := hB.out.size; have := hwx.out; omega
          have LA : Hid (OwnS (wx.alloc (.cells #[] 24)).drew G (.slice (some ⟨wx.heap.size, 0, none⟩) 0 0) []) := owns_lit wx [] G (by omega) (by simp)
          have BA : Hid (Below G wx (wx.alloc (.cells #[] 24)).drew) := ((Below.refl _ wx).alloc (by omega) _).drew
          have SA : Hid (Srw (wx.alloc (.cells #[] 24)).drew aq (L.take j)) := (srw_alloc (HS2.out.take j) _).drew
          have LT : Hid ((L.take j).length = j) := by show _ = _; rw [List.length_take]; have := HM.out; omega
          have LD : Hid ((L.drop j).length = 0) := by show _ = _; rw [List.length_drop]; have := HM.out; omega
          have pa : (([] : List ByteArray).length + j) * 16 ≤ 140737488355328 := by simp; omega
          have pb : G ≤ (wx.alloc (.cells #[] 24)).drew.heap.size := by simp; omega
          have LB : Hid (OwnS ((wx.alloc (.cells #[] 24)).alloc (.cells #[.string x] 24)).drew G (.slice (some ⟨wx.heap.size, 0, none⟩) 0 0) []) := World.ownsRow.alloc (owns_lit wx [] G (by omega) (by simp)) _
          have BB : Hid (Below G wx ((wx.alloc (.cells #[] 24)).alloc (.cells #[.string x] 24)).drew) := (((Below.refl _ wx).alloc (by omega) _).alloc (by simp; omega) _).drew
          have SB : Hid (Srw ((wx.alloc (.cells #[] 24)).alloc (.cells #[.string x] 24)).drew aq (L.take j)) := (srw_alloc (srw_alloc (HS2.out.take j) _) _).drew
          have XB : Hid (Srw ((wx.alloc (.cells #[] 24)).alloc (.cells #[.string x] 24)).drew (some ⟨wx.heap.size + 1, 0, none⟩) [x]) := by have := (srw_one (wx.alloc (.cells #[] 24)) x).drew; rwa [show (wx.alloc (Obj.cells #[] 24)).heap.size = wx.heap.size + 1 by simp] at this
          have LC : Hid (OwnS ((wx.alloc (.cells #[.string x] 24)).alloc (.cells #[] 24)).drew G (.slice (some ⟨wx.heap.size + 1, 0, none⟩) 0 0) []) := by have := owns_lit (wx.alloc (.cells #[.string x] 24)) [] G (by simp; omega) (by simp); rwa [show (wx.alloc (Obj.cells #[Value.string x] 24)).heap.size = wx.heap.size + 1 by simp] at this
          have BC : Hid (Below G wx ((wx.alloc (.cells #[.string x] 24)).alloc (.cells #[] 24)).drew) := (((Below.refl _ wx).alloc (by omega) _).alloc (by simp; omega) _).drew
          have SC : Hid (Srw ((wx.alloc (.cells #[.string x] 24)).alloc (.cells #[] 24)).drew aq (L.take j)) := (srw_alloc (srw_alloc (HS2.out.take j) _) _).drew
          have XC : Hid (Srw ((wx.alloc (.cells #[.string x] 24)).alloc (.cells #[] 24)).drew (some ⟨wx.heap.size, 0, none⟩) [x]) := (srw_alloc (srw_one wx x) _).drew
          have pb2 : G ≤ ((wx.alloc (.cells #[] 24)).alloc (.cells #[.string x] 24)).drew.heap.size := by simp; omega
          have pb3 : G ≤ ((wx.alloc (.cells #[.string x] 24)).alloc (.cells #[] 24)).drew.heap.size := by simp; omega
          have nxb : some (wx.heap.size + 1) ≠ (Value.slice (some ⟨wx.heap.size, 0, none⟩) 0 0).ownBlock := by simp [Value.ownBlock]
          have nxc : some wx.heap.size ≠ (Value.slice (some ⟨wx.heap.size + 1, 0, none⟩) 0 0).ownBlock := by simp [Value.ownBlock]
          have NXB := Lib.hid nxb
          have NXC := Lib.hid nxc
          have NEW : Hid (¬ L[j]? = some x) := fun h => by rw [List.getElem?_eq_none (by have := HM.out; omega)] at h; cases h
          clear ex2 nxb nxc
          have GB : Hid (w.heap.size ≤ G) := by show _ ≤ _; have := hB.out.size; have := hwx.out; omega
          have WX : Hid (Below w.heap.size w wx) := by show Below _ _ _; rw [← hwv3, hwv2.out]; exact below_drewN (below_drewN hB.out _) _
          have pc : ((L.take j).length + 1) * 16 ≤ 140737488355328 := by rw [LT.out]; omega
          have pd : ((L.take j ++ [x]).length + 0) * 16 ≤ 140737488355328 := by rw [List.length_append, List.length_singleton, LT.out]; omega
          have hGx : G ≤ wx.heap.size := by omega
          have SF := Lib.hid (fun W (hW : Below G wx W) => sf W (HS2.out.below (by rw [← hG]; exact hW)))
          have HG := Lib.hid hG
          clear hG
          go_region_held3 (fun w' => w'.cell? ⟨b, o + i, none⟩ = some (.string x))
            (first | go_keep | exact hgrow1.cell (by assumption) (owns_ne LA.out hbG) | exact hgrow1.cell (by assumption) (owns_ne LC.out hbG) | exact hgrow2.cell (by assumption) (owns_ne hown1 hbG) | exact hgrow3.cell (by assumption) (owns_ne hown2 hbG))
            ((first
              | (refine step_apps0 (t := 39) (e := 24) rfl (.tmp 44) (.tmp 47) rfl Tryd.underlying39 infoS G (.slice (some ⟨wx.heap.size, 0, none⟩) 0 0) [] (L.take j) (by simp [Act.eval]) LA.out aq j cq (by simp [Act.eval]) SA.out hnq LT pa pb ?_; intro v1 w1 hown1 hgrow1; rw [List.nil_append] at hown1; have B1 := owns_grow LA.out BA.out pb hgrow1; have g1 := Nat.le_trans hGx B1.size)
              | (refine step_apps0 (t := 39) (e := 24) rfl (.tmp 48) (.tmp 53) rfl Tryd.underlying39 infoS G v1 (L.take j) [x] (by simp [Act.eval]) (World.ownsRow.alloc hown1 _) (some ⟨w1.heap.size, 0, none⟩) 1 1 (by simp [Act.eval]) (srw_one w1 x) (fun h => by cases h) rfl pc (by simp; omega) ?_; intro v2 w2 hown2 hgrow2; have B2 := owns_grow (World.ownsRow.alloc hown1 (.cells #[.string x] 24)) (B1.alloc g1 (.cells #[.string x] 24)) (Nat.le_trans g1 (by simp)) hgrow2; have g2 := Nat.le_trans hGx B2.size)
              | (refine step_apps0 (t := 39) (e := 24) rfl (.tmp 44) (.tmp 47) rfl Tryd.underlying39 infoS G (.slice (some ⟨wx.heap.size, 0, none⟩) 0 0) [] (L.take j) (by simp [Act.eval]) LB.out aq j cq (by simp [Act.eval]) SB.out hnq LT pa pb2 ?_; intro v1 w1 hown1 hgrow1; rw [List.nil_append] at hown1; have B1 := owns_grow LB.out BB.out pb2 hgrow1; have g1 := Nat.le_trans hGx B1.size; have X1 := Lib.hid (srw_kept XB.out hgrow1 NXB.out))
              | (refine step_apps0 (t := 39) (e := 24) rfl (.tmp 44) (.tmp 47) rfl Tryd.underlying39 infoS G (.slice (some ⟨wx.heap.size + 1, 0, none⟩) 0 0) [] (L.take j) (by simp [Act.eval]) LC.out aq j cq (by simp [Act.eval]) SC.out hnq LT pa pb3 ?_; intro v1 w1 hown1 hgrow1; rw [List.nil_append] at hown1; have B1 := owns_grow LC.out BC.out pb3 hgrow1; have g1 := Nat.le_trans hGx B1.size; have X1 := Lib.hid (srw_kept XC.out hgrow1 NXC.out))
              | (refine step_apps0 (t := 39) (e := 24) rfl (.tmp 48) (.tmp 53) rfl Tryd.underlying39 infoS G v1 (L.take j) [x] (by simp [Act.eval]) hown1 (some ⟨wx.heap.size + 1, 0, none⟩) 1 1 (by simp [Act.eval]) X1.out (fun h => by cases h) rfl pc g1 ?_; intro v2 w2 hown2 hgrow2; have B2 := owns_grow hown1 B1 g1 hgrow2; have g2 := Nat.le_trans hGx B2.size)
              | (refine step_apps0 (t := 39) (e := 24) rfl (.tmp 48) (.tmp 53) rfl Tryd.underlying39 infoS G v1 (L.take j) [x] (by simp [Act.eval]) hown1 (some ⟨wx.heap.size, 0, none⟩) 1 1 (by simp [Act.eval]) X1.out (fun h => by cases h) rfl pc g1 ?_; intro v2 w2 hown2 hgrow2; have B2 := owns_grow hown1 B1 g1 hgrow2; have g2 := Nat.le_trans hGx B2.size)
              | (refine step_apps0 (t := 39) (e := 24) rfl (.tmp 54) (.tmp 57) rfl Tryd.underlying39 infoS G v2 (L.take j ++ [x]) (L.drop j) (by simp [Act.eval]) hown2 af 0 (cq - j) (by simp [Act.eval]) (SF.out w2 B2) nf LD pd g2 ?_; intro v3 w3 hown3 hgrow3; have B3 := owns_grow hown2 B2 g2 hgrow3)))
          all_goals
            have hfin : Hid (OwnS w3 w.heap.size v3 (sortU ltB (l.take (i + 1)))) := by
              show OwnS _ _ _ _
              rw [sort_step l i x GX.out, ← HL.out, ins_at, if_neg (by rw [hpl.out]; exact NEW.out), hpl.out]
              have h3 : OwnS w3 G v3 (L.take j ++ [x] ++ L.drop j) := hown3
              rw [List.append_assoc] at h3
              exact h3.low GB.out
            have hbf : Hid (Below w.heap.size w w3) := by
              show Below _ _ _
              exact WX.out.trans (B3.mono GB.out)
            clear hown1 hgrow1 hown2 hgrow2 hown3 hgrow3
            go_wp2_with fail
            go_roundw
            case rel => exact ⟨i + 1, by omega, by go_num, hbf.out, hfin.out⟩
            case measure => simp [RowKit.intOf]; omega
    · obtain rfl : i = n := by omega
      go_wp2_with fail
      go_ret
      have hO2 := hO.out
      rw [List.take_of_length_le (by have := HN.out; omega)] at hO2
      exact ⟨hB.out, _, rfl, hO2⟩
end Go.Proofs.YtjjcdlbmpopfcaaDoor.Sh
