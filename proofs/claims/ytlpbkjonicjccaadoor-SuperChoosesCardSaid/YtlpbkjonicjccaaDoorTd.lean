/-
  The contract of the document's own Next. Conditions: at most 300 packs.
-/
import Derived.Test.YtlpbkjonicjccaaDoorLe
import Derived.Test.YtlpbkjonicjccaaDoorRz
import Derived.Deep.RegionHeld3
import Derived.Deep.RegionLaw
namespace Go.Proofs.YtlpbkjonicjccaaDoor.Sh
open Go.ChangeShapes Go.WideShapes Go.ChangeAt Go.RowKit Go.Lib

abbrev ZB : List Value := [.int .i64 0, .string ⟨#[]⟩, .slice none 0 0]
theorem nextL_bad {s : SP} {r : ByteArray} {p : List Int} (h : okP s = false) : nextL s r p = none := by simp [nextL, h]
theorem nextL_top {s : SP} {r : ByteArray} {p : List Int} (h : s.g = 4611686018427387903) : nextL s r p = none := by
  have : okP ⟨s.g + 1, r, sortU ltI p⟩ = false := by simp [okP, h]
  simp [nextL, this]
theorem sortz_step (l : List Int) (i : Nat) (x : Int) (h : l[i]? = some x) : sortU ltI (l.take (i + 1)) = ins ltI x (sortU ltI (l.take i)) := by
  rw [List.take_add_one, h, Option.toList_some, sortU_app]
/-- append of ints -/
theorem step_appz0 {P : Program} {t e : TypeId} {w : World} {ops : Array Oper} {o : Oper} {a : Act} {K : Act → World → Prop} {Q : Exit → Act → World → Prop} {E : Prop} (hgd : o.guard = none) (s x : Operand)
    (ho : o.op = .call { callee := .builtin .append, args := #[s, x], argTypes := #[t, t] })
    (ht : P.underlying t = some (.slice e)) (hinf : (P.info? e).map (fun i => (i.zero, i.size, i.bytes)) = some (some (.int .i64 0), 1, 8))
    (base : Nat) (v : Value) (xs l : List Int) (hs : a.eval s = v) (hown : w.ownsRow base e 1 v xs.length (rz xs))
    (ao : Option Addr) (m c : Nat) (hx : a.eval x = .slice ao m c) (hr : Zrw w ao l) (hn : ao = none → c = 0) (hm : Hid (l.length = m))
    (h47 : (xs.length + m) * 8 ≤ 140737488355328) (hbase : base ≤ w.heap.size)
    (h : ∀ v' w', w'.ownsRow base e 1 v' (xs ++ l).length (rz (xs ++ l)) → w.grownBy w' v.ownBlock → K (a.put o.dst v') w') :
    if Region.wanted o (yielded ops a.tmps) = true then Oper.wp P o a w K Q else E := by
  have hm' : l.length = m := hm
  cases ao with
  | some ad =>
    subst hm'
    exact step_appz hgd s x ho ht hinf base v xs l hs hown ad c hx hr h47 hbase h
  | none =>
    obtain rfl : l = [] := by
      cases l with
      | nil => rfl
      | cons y r =>
        obtain ⟨b, o, h0, _⟩ := hr (by simp)
        cases h0
    have hc := hn rfl
    subst hc
    have hw : Region.wanted o (yielded ops a.tmps) = true := by simp [Region.wanted, hgd]
    rw [if_pos hw]
    obtain ⟨i0, hi, _, _, _⟩ := info_parts hinf
    have hx0 : a.eval x = .slice none 0 0 := by rw [hx, ← hm']; rfl
    have hrun := run_append_owned_none (P := P) (w := w) base t o.type e i0 1 ht hi v xs.length (rz xs) hown
    unfold Oper.wp
    simp [execOp, ho, resolve, invoke, builtin, hs, hx0, hrun, Result.andThen]
    exact h v w (by simpa using hown) (World.grownBy.refl w _)
set_option maxRecDepth 100000 in
theorem slice_toz (ao : Option Addr) (len c n : Nat) (hn : n ≤ c) (W : World) :
    (Instr.slice 23 (.slice ao len c) none (some (.int .i64 (n : Int))) none).run Tryd.prog W = .ok (.slice ao n c) W := by
  have hs := run_slice_h (P := Tryd.prog) W 23 ao len c (by rw [Tryd.underlying23]; rfl) .i64 (n : Int) (by omega) (by omega)
  rw [hs]
  have e2 : ((n : Int)).toNat = n := by omega
  have e3 : Tryd.prog.elem 23 = 3 := by kernel_rfl
  rw [e2, e3]
  cases ao with
  | none => simp [Tryd.sizeOf3, sliced, Result.andThen]
  | some a => simp [Tryd.sizeOf3, sliced, Result.andThen, add_zero]

set_option maxRecDepth 100000 in
/-- the rest of a slice of texts -/
theorem slice_fromz (ao : Option Addr) (len c n : Nat) (l : List Int) (h1 : n ≤ len) (h3 : len = l.length) (h4 : ao = none → c = 0) (h5 : len ≤ c) :
    ∃ ao', (∀ W, (Instr.slice 23 (.slice ao len c) (some (.int .i64 (n : Int))) none none).run Tryd.prog W = .ok (.slice ao' (len - n) (c - n)) W) ∧ (∀ w, Zrw w ao l → Zrw w ao' (l.drop n)) ∧ (ao' = none → c - n = 0) := by
  have hs := fun W => run_slice_l (P := Tryd.prog) W 23 ao len c (by rw [Tryd.underlying23]; rfl) .i64 (n : Int) (by omega) (by omega)
  have e3 : Tryd.prog.elem 23 = 3 := by kernel_rfl
  simp only [e3, Tryd.sizeOf3, sliced, Result.andThen, Int.toNat_natCast, Nat.mul_one] at hs
  by_cases hcn : c = n
  · refine ⟨ao, fun W => by rw [hs W, if_pos hcn], fun w hb hne => ?_, fun _ => by omega⟩
    exfalso
    apply hne
    apply List.drop_of_length_le
    omega
  · cases ao with
    | none =>
      have := h4 rfl
      omega
    | some a =>
      refine ⟨some (a.add n), fun W => by rw [hs W, if_neg hcn]; rfl, fun w hb => ?_, fun h => by cases h⟩
      by_cases hl : l = []
      · subst hl
        rw [List.drop_nil]
        exact zrw_nil _ _
      · obtain ⟨b, o, h0, _, _⟩ := hb hl
        injection h0 with h0
        subst h0
        rw [WideShapes.add_plain]
        exact hb.drop n
theorem ownz_ne {W : World} {G b : Nat} {v : Value} {l : List Int} (h : OwnZ W G v l) (hb : b < G) : some b ≠ v.ownBlock := fun e => by
  have := (h.lt b e.symm).1
  omega
theorem ownz_grow {w W W' : World} {G : Nat} {v : Value} {l : List Int} (h : OwnZ W G v l) (hb : Below G w W) (hG : G ≤ W.heap.size) (hg : W.grownBy W' v.ownBlock) : Below G w W' := hb.grown hg hG (fun k hk => (h.lt k hk).1)
theorem zrw_kept {W W' : World} {b o : Nat} {ob : Option Nat} {l : List Int} (h : Zrw W (some ⟨b, o, none⟩) l) (hg : W.grownBy W' ob) (hne : some b ≠ ob) : Zrw W' (some ⟨b, o, none⟩) l := fun h0 => by
  obtain ⟨b', o', h1, h2, h3⟩ := h h0
  injection h1 with h1
  injection h1 with h1 h4
  subst h1
  subst h4
  exact ⟨b, o, rfl, Nat.lt_of_lt_of_le h2 hg.size, fun j hj => hg.cell (h3 j hj) hne⟩
set_option maxHeartbeats 8000000 in
set_option maxRecDepth 100000 in
theorem refnext_any : N18 := by
  intro s v r po p np cp w hu hz hp h300 hcp hcp2 hr
  obtain ⟨g, sr, sp⟩ := s
  obtain ⟨ao, c, rfl, hsz, hsn, hsc, hsm, hsr⟩ := hu
  obtain ⟨n, hn⟩ : ∃ n, n = sp.length := ⟨_, rfl⟩
  simp only at hsz hsc hsr
  simp only [← hn] at hsc ⊢
  have B0 := Lib.hid (below_alloc' (Below.refl w.heap.size w) (Nat.le_refl _) (.cells #[.int .i64 g, .string sr, .slice ao n c] 25))
  have B1 := Lib.hid (below_alloc' B0.out (Nat.le_refl _) (.cells #[.int .i64 0, .string ⟨#[]⟩, .slice none 0 0] 25))
  have X : Hid (Bxs w ((w.alloc (.cells #[.int .i64 g, .string sr, .slice ao n c] 25)).alloc (.cells #[.int .i64 0, .string ⟨#[]⟩, .slice none 0 0] 25)) w.heap.size g sr ao n c) :=
    (Bxs.blk (w := w) w g sr ao n c).low (below_alloc' (Below.refl _ _) (Nat.le_refl _) _)
  have K6 : Hid (Blk ((w.alloc (.cells #[.int .i64 g, .string sr, .slice ao n c] 25)).alloc (.cells #[.int .i64 0, .string ⟨#[]⟩, .slice none 0 0] 25)) (w.heap.size + 1) ZB 25) :=
    Blk.new _ ZB 25 (w.heap.size + 1) (World.size_alloc _ _).symm
  have CO := Lib.hid (fun (W : World) (h : Zrw W ao sp) => refokp_any g sr ao sp n c W h hn.symm (by omega) hsr)
  have HSZ := Lib.hid (hsz.below B1.out)
  have HZ := Lib.hid (hz.below B1.out)
  have HP := Lib.hid hp
  have HR := Lib.hid hr
  clear hsz hz hn hsn hp
  go_enter Tryd.func18, Tryd.ntmps18
  have x0 := X.out.c0
  have x1 := X.out.c1
  have x2 := X.out.c2
  go_wp2_with fail
  generalize hw0 : (w.alloc (.cells #[.int .i64 g, .string sr, .slice ao n c] 25)).alloc (.cells #[.int .i64 0, .string ⟨#[]⟩, .slice none 0 0] 25) = w0 at *
  clear hw0 x0 x1 x2
  refine (CO.out _ HSZ.out).mono ?_
  rintro e w1 ⟨rfl, b1⟩
  have B2 := Lib.hid (below_chain B1.out b1)
  have X2 := Lib.hid (X.out.low b1)
  have K7 := Lib.hid (K6.out.low b1)
  have HZ2 := Lib.hid (HZ.out.below b1)
  have x0 := X2.out.c0
  clear b1 CO X K6 HSZ HZ B0 B1
  have ZERO : Hid (∀ (W : World) , Below w.heap.size w W → nextL ⟨g, sr, sp⟩ r p = none → AnsN w (nextL ⟨g, sr, sp⟩ r p) (.returned (.tuple #[.agg (ZB).toArray, .int .i64 110])) W) := fun W h1 h2 => ⟨h1, _, by rw [h2]; rfl, by rw [h2]; exact supF_none _ _⟩
  have k0 := K7.out.cell 0
  have k1 := K7.out.cell 1
  have k2 := K7.out.cell 2
  have kf := fun j => K7.out.frozen j
  simp only [List.getElem?_cons_zero, List.getElem?_cons_succ] at k0 k1 k2
  rcases Bool.eq_false_or_eq_true (okP ⟨g, sr, sp⟩) with hok | hok
  · rw [hok]
    by_cases hg : g = 4611686018427387903
    · have HN := Lib.hid (nextL_top (s := ⟨g, sr, sp⟩) (r := r) (p := p) hg)
      have e4 : (g == 4611686018427387903) = true := by simp [hg]
      clear hok hg
      go_wp2_with fail
      exact bodyPost_ret (results_row_tmp rfl _ _ (w.heap.size + 1) 25 _ _ _ rfl rfl (((K7.out.set 0 (.int .i64 0)).set 1 (.string ⟨#[]⟩)).set 2 (.slice none 0 0)) Tryd.underlying25 rfl (size25 _ _ _)) rfl
        (by exact ZERO.out _ (((B2.out.setCell (p := ⟨w.heap.size + 1, 0, none⟩) (Nat.le_succ _) (.int .i64 0)).setCell (p := ⟨w.heap.size + 1, 1, none⟩) (Nat.le_succ _) (.string ⟨#[]⟩)).setCell (p := ⟨w.heap.size + 1, 2, none⟩) (Nat.le_succ _) (.slice none 0 0)) HN.out)
    · have e4 : (g == 4611686018427387903) = false := by simpa using hg
      have HOK := Lib.hid hok
      obtain ⟨_, _, _, _, hg1, hg2, _⟩ := okP_key hok
      have w1a : IntKind.i64.wrap (g + 1) = g + 1 := IntWalk.i64_in _ (by have : g ≤ 4611686018427387903 := hg2; have : 1 ≤ g := hg1; omega)
      clear hok k0 k1 k2 kf
      go_wp2_with fail
      have al1 := below_alloc' (Below.refl w1.heap.size w1) (Nat.le_refl _) (.cells #[.int .i64 (g + 1), .string r, .slice none 0 0] 25)
      have K8 : Hid (Blk (w1.alloc (.cells #[.int .i64 (g + 1), .string r, .slice none 0 0] 25)) w1.heap.size [.int .i64 (g + 1), .string r, .slice none 0 0] 25) := Blk.new _ _ _ _ rfl
      have D2 := Lib.hid al1
      have SZ2 : Hid (w1.heap.size < (w1.alloc (.cells #[.int .i64 (g + 1), .string r, .slice none 0 0] 25)).heap.size) := by show _ < _; rw [World.size_alloc]; omega
      generalize hw2 : w1.alloc (.cells #[.int .i64 (g + 1), .string r, .slice none 0 0] 25) = w2 at *
      obtain ⟨k8, hk8⟩ : ∃ k, k = w1.heap.size := ⟨_, rfl⟩
      have HK8 := Lib.hid hk8
      rw [← hk8] at K8 SZ2 ⊢
      clear hw2 al1 hk8 x0
      have own0 : Hid (OwnZ w2 w2.heap.size (.slice none 0 0) (sortU ltI (p.take 0))) := World.ownsRow_nil _ _ _ _
      go_loopw [9] (fun vi wr => ∃ (i : Nat) (v : Value), i ≤ np ∧ vi = .int .i64 i ∧ Hid (Below w1.heap.size w1 wr) ∧ w2.heap.size ≤ wr.heap.size ∧ Hid (Blk wr k8 [.int .i64 (g + 1), .string r, v] 25) ∧ Hid (OwnZ wr w2.heap.size v (sortU ltI (p.take i)))) (fun vi _ => np - (RowKit.intOf vi).toNat)
      case atStart => exact ⟨0, .slice none 0 0, by omega, rfl, D2.out, Nat.le_refl _, K8.out, own0.out⟩
      case round =>
        obtain ⟨i, v, hi, rfl, hD, hsz3, hK, hO⟩ := hrel
        rename World => w3
        by_cases hin : i < np
        · have hil : i < p.length := by rw [HP.out]; exact hin
          obtain ⟨b, o, rfl, hb, hcell⟩ := HZ2.out (by intro h0; rw [h0] at hil; cases hil)
          have e0 := (hD.out.cell (p := ⟨b, o + i, none⟩) hb).trans (hcell i hil)
          obtain ⟨x, hx⟩ : ∃ x, x = p[i] := ⟨_, rfl⟩
          have GX : Hid (p[i]? = some x) := by show _ = _; rw [hx]; exact List.getElem?_eq_getElem hil
          rw [← hx] at e0
          have EX := Lib.hid e0
          have HBB := Lib.hid hb
          obtain ⟨aq, cq, rfl, hcq, hcq2, hsq, hnq⟩ := own_zrw hO.out
          obtain ⟨L, hL⟩ : ∃ L, L = sortU ltI (p.take i) := ⟨_, rfl⟩
          have hlen : L.length ≤ i := by rw [hL]; exact Nat.le_trans (sortU_len _ _) (by rw [List.length_take]; omega)
          rw [← hL] at hO hcq hsq hK
          have HL := Lib.hid hL
          have HS := Lib.hid hsq
          obtain ⟨m, hm⟩ : ∃ m, m = L.length := ⟨_, rfl⟩
          have HM := Lib.hid hm
          rw [← hm] at hcq hlen hK hO
          have KK := Lib.hid hK.out
          have t2 := hK.out.cell 2
          simp only [List.getElem?_cons_zero, List.getElem?_cons_succ] at t2
          have T2 := Lib.hid t2
          have q1 : (0 : Int) ≤ (i : Int) := by omega
          have q2 : (i : Int) < (np : Int) := by omega
          clear hx hL hsq hm e0 hcell hil hb hK
          go_wp2_with fail
          go_loopw [10] (fun vj w2 => ∃ j k : Nat, j ≤ m ∧ vj = .int .i64 j ∧ Hid (w2 = w3.drewN k) ∧ Hid (∀ t, t < j → ∃ y, L[t]? = some y ∧ ltI y x = true)) (fun vj _ => m - (RowKit.intOf vj).toNat)
          case atStart => exact ⟨0, 0, by omega, rfl, rfl, fun t ht => absurd ht (Nat.not_lt_zero _)⟩
          case round =>
            obtain ⟨j, k, hj, rfl, hw2, hlt⟩ := hrel
            have ex : wr.cell? ⟨b, o + i, none⟩ = some (.int .i64 x) := by rw [hw2.out]; exact EX.out
            have t2 : wr.cell? ⟨k8, 2, none⟩ = some (.slice aq m cq) := by rw [hw2.out]; exact T2.out
            by_cases hjm : j < m
            · obtain ⟨b2, o2, rfl, hb2, hcy⟩ := HS.out (by intro h0; have := HM.out; rw [h0] at this; simp at this; omega)
              obtain ⟨y, hy⟩ : ∃ y, y = L[j]'(by have := HM.out; omega) := ⟨_, rfl⟩
              have ey : wr.cell? ⟨b2, o2 + j, none⟩ = some (.int .i64 y) := by rw [hw2.out, hy]; exact hcy j (by have := HM.out; omega)
              have GY : Hid (L[j]? = some y) := by show _ = _; rw [hy]; exact List.getElem?_eq_getElem _
              have q3 : (0 : Int) ≤ (j : Int) := by omega
              have q4 : (j : Int) < (m : Int) := by omega
              clear hy hcy hb2
              by_cases hxy : y < x
              · have e5 : decide (y < x) = true := by simp [hxy]
                go_wp2_with fail
                go_quiet (fail)
                go_wp2_with fail
                go_roundw
                case rel => exact ⟨j + 1, k + nq, by omega, by go_num, by show _ = _; rw [hw2.out, World.drewN_drewN], fun t ht => by
                  rcases Nat.lt_or_ge t j with h1 | h1
                  · exact hlt.out t h1
                  · obtain rfl : t = j := by omega
                    exact ⟨y, GY.out, e5⟩⟩
                case measure => simp [RowKit.intOf]; omega
              · have e5 : decide (y < x) = false := by simp; omega
                have hpl : Hid (place ltI x L = j) := place_is ltI x L j hlt.out fun z hz => by
                  rw [GY.out] at hz
                  injection hz with hz
                  subst hz
                  exact e5
                go_wp2_with fail
                go_quiet (fail)
                go_wp2_with fail
                generalize hwv : wr.drewN nq = wv at *
                have ex2 : wv.cell? ⟨b, o + i, none⟩ = some (.int .i64 x) := by rw [← hwv]; exact ex
                have ey2 : wv.cell? ⟨b2, o2 + j, none⟩ = some (.int .i64 y) := by rw [← hwv]; exact ey
                have t22 : wv.cell? ⟨k8, 2, none⟩ = some (.slice (some ⟨b2, o2, none⟩) m cq) := by rw [← hwv]; exact t2
                have hwv2 : Hid (wv = w3.drewN (k + nq)) := by show _ = _; rw [← hwv, hw2.out, World.drewN_drewN]
                have jm : ((j : Int) == (m : Int)) = false := by simp; omega
                clear hwv ex ey t2 hw2
                by_cases hyx : y = x
                · have e6 : (y != x) = false := by simp [hyx]
                  go_quiet (fail)
                  go_wp2_with fail
                  go_roundw
                  case rel => exact ⟨i + 1, .slice (some ⟨b2, o2, none⟩) m cq, by omega, by go_num, by show Below _ _ _; rw [hwv2.out, World.drewN_drewN]; exact below_drewN hD.out _, by rw [hwv2.out, World.drewN_drewN]; simpa using hsz3, by
                    show Blk _ _ _ _
                    rw [hwv2.out, World.drewN_drewN]
                    exact KK.out, by
                    show OwnZ _ _ _ _
                    rw [sortz_step p i x GX.out, ← HL.out, ins_at, if_pos (by rw [hpl.out, GY.out, hyx]), hwv2.out, World.drewN_drewN]
                    exact hO.out⟩
                  case measure => simp [RowKit.intOf]; omega
                · have e6 : (y != x) = true := by simp [hyx]
                  go_quiet (fail)
                  go_wp2_with fail
                  generalize hwv3 : wv.drewN nq = wx at *
                  have HS2 : Hid (Zrw wx (some ⟨b2, o2, none⟩) L) := by show Zrw _ _ _; rw [← hwv3, hwv2.out]; exact HS.out
                  have DX : Hid (Below w1.heap.size w1 wx) := by show Below _ _ _; rw [← hwv3, hwv2.out]; exact below_drewN (below_drewN hD.out _) _
                  have KX : Hid (Blk wx k8 [.int .i64 (g + 1), .string r, .slice (some ⟨b2, o2, none⟩) m cq] 25) := by show Blk _ _ _ _; rw [← hwv3, hwv2.out]; exact KK.out
                  have SZX : Hid (w2.heap.size ≤ wx.heap.size) := by show _ ≤ _; rw [← hwv3, hwv2.out]; simpa using hsz3
                  have ex3 : wx.cell? ⟨b, o + i, none⟩ = some (.int .i64 x) := by rw [← hwv3]; exact ex2
                  have t23 : wx.cell? ⟨k8, 2, none⟩ = some (.slice (some ⟨b2, o2, none⟩) m cq) := by rw [← hwv3]; exact t22
                  have hk8x : k8 < wx.heap.size := KX.out.lt
                  have hbx : b < wx.heap.size := Nat.lt_of_lt_of_le HBB.out DX.out.size
                  have S0 : Hid (∀ W, Below wx.heap.size wx W → W.cell? ⟨b, o + i, none⟩ = some (.int .i64 x) ∧ W.cell? ⟨k8, 2, none⟩ = some (.slice (some ⟨b2, o2, none⟩) m cq)) := fun W hb => ⟨(hb.cell (p := ⟨b, o + i, none⟩) hbx).trans ex3, (hb.cell (p := ⟨k8, 2, none⟩) hk8x).trans t23⟩
                  have s1 := fun W => slice_toz (some ⟨b2, o2, none⟩) m cq j (by omega) W
                  obtain ⟨af, s2, sf, nf⟩ := slice_fromz (some ⟨b2, o2, none⟩) m cq j L (by omega) HM.out hnq hcq
                  have LA : Hid (OwnZ  (wx.alloc (.cells #[] 3)).drew wx.heap.size (.slice (some ⟨wx.heap.size, 0, none⟩) 0 0) []) := ownz_lit wx [] wx.heap.size (by omega) (by simp)
                  have BA : Hid (Below wx.heap.size wx  (wx.alloc (.cells #[] 3)).drew) := ((Below.refl _ wx).alloc (by omega) _).drew
                  have SA : Hid (Zrw  (wx.alloc (.cells #[] 3)).drew (some ⟨b2, o2, none⟩) (L.take j)) := (Zrw.alloc (HS2.out.take j) _).drew
                  have LT : Hid ((L.take j).length = j) := by show _ = _; rw [List.length_take]; have := HM.out; omega
                  have LD : Hid ((L.drop j).length = (m - j)) := by show _ = _; rw [List.length_drop, HM.out]
                  have pa : (([] : List Int).length + j) * 8 ≤ 140737488355328 := by first | (simp; done) | (simp; omega)
                  have pb : wx.heap.size ≤  (wx.alloc (.cells #[] 3)).drew.heap.size := by first | (simp; done) | (simp; omega)
                  have LB : Hid (OwnZ ( (wx.alloc (.cells #[] 3)).alloc (.cells #[.int .i64 x] 3)).drew wx.heap.size (.slice (some ⟨wx.heap.size, 0, none⟩) 0 0) []) := World.ownsRow.alloc (ownz_lit wx [] wx.heap.size (by omega) (by simp)) _
                  have BB : Hid (Below wx.heap.size wx ( (wx.alloc (.cells #[] 3)).alloc (.cells #[.int .i64 x] 3)).drew) := (((Below.refl _ wx).alloc (by omega) _).alloc (by first | (simp; done) | (simp; omega)) _).drew
                  have SB : Hid (Zrw ( (wx.alloc (.cells #[] 3)).alloc (.cells #[.int .i64 x] 3)).drew (some ⟨b2, o2, none⟩) (L.take j)) := (Zrw.alloc (Zrw.alloc (HS2.out.take j) _) _).drew
                  have XB : Hid (Zrw ( (wx.alloc (.cells #[] 3)).alloc (.cells #[.int .i64 x] 3)).drew (some ⟨wx.heap.size + 1, 0, none⟩) [x]) := by have := (zrw_uno  (wx.alloc (.cells #[] 3)) x).drew; rwa [show  (wx.alloc (Obj.cells #[] 3)).heap.size = wx.heap.size + 1 by simp] at this
                  have LC : Hid (OwnZ ( (wx.alloc (.cells #[.int .i64 x] 3)).alloc (.cells #[] 3)).drew wx.heap.size (.slice (some ⟨wx.heap.size + 1, 0, none⟩) 0 0) []) := by have := ownz_lit  (wx.alloc (.cells #[.int .i64 x] 3)) [] wx.heap.size (by first | (simp; done) | (simp; omega)) (by simp); rwa [show  (wx.alloc (Obj.cells #[Value.int .i64 x] 3)).heap.size = wx.heap.size + 1 by simp] at this
                  have BC : Hid (Below wx.heap.size wx ( (wx.alloc (.cells #[.int .i64 x] 3)).alloc (.cells #[] 3)).drew) := (((Below.refl _ wx).alloc (by omega) _).alloc (by first | (simp; done) | (simp; omega)) _).drew
                  have SC : Hid (Zrw ( (wx.alloc (.cells #[.int .i64 x] 3)).alloc (.cells #[] 3)).drew (some ⟨b2, o2, none⟩) (L.take j)) := (Zrw.alloc (Zrw.alloc (HS2.out.take j) _) _).drew
                  have XC : Hid (Zrw ( (wx.alloc (.cells #[.int .i64 x] 3)).alloc (.cells #[] 3)).drew (some ⟨wx.heap.size, 0, none⟩) [x]) := (Zrw.alloc (zrw_uno wx x) _).drew
                  have pb2 : wx.heap.size ≤ ( (wx.alloc (.cells #[] 3)).alloc (.cells #[.int .i64 x] 3)).drew.heap.size := by first | (simp; done) | (simp; omega)
                  have pb3 : wx.heap.size ≤ ( (wx.alloc (.cells #[.int .i64 x] 3)).alloc (.cells #[] 3)).drew.heap.size := by first | (simp; done) | (simp; omega)
                  have nxb : some (wx.heap.size + 1) ≠ (Value.slice (some ⟨wx.heap.size, 0, none⟩) 0 0).ownBlock := by simp [Value.ownBlock]
                  have nxc : some wx.heap.size ≠ (Value.slice (some ⟨wx.heap.size + 1, 0, none⟩) 0 0).ownBlock := by simp [Value.ownBlock]
                  have NXB := Lib.hid nxb
                  have NXC := Lib.hid nxc
                  have NEW : Hid (¬ L[j]? = some x) := fun h => by rw [GY.out] at h; injection h with h; exact hyx h
                  have pc : ((L.take j).length + 1) * 8 ≤ 140737488355328 := by rw [LT.out]; omega
                  have pd : ((L.take j ++ [x]).length + (m - j)) * 8 ≤ 140737488355328 := by rw [List.length_append, List.length_singleton, LT.out]; omega
                  have SF := Lib.hid (fun W (hW : Below wx.heap.size wx W) => sf W (HS2.out.below hW))
                  clear hwv3 ex2 ey2 t22 nxb nxc hyx e5 e6 t2
                  refine region_z 18 (S := fun W => W.cell? ⟨b, o + i, none⟩ = some (.int .i64 x) ∧ W.cell? ⟨k8, 2, none⟩ = some (.slice (some ⟨b2, o2, none⟩) m cq)) (by kernel_rfl) (by with_reducible refine S0.out _ ?_; (repeat' (first | (with_reducible exact B3) | (with_reducible exact B2) | (with_reducible exact B1) | (with_reducible exact Below.refl _ _) | (with_reducible refine below_alloc' ?_ (Nat.le_refl _) _) | (with_reducible refine Below.drew ?_)))) (fun hHeld => ?_)
                  refine anyz_take (i := 1) (oi := { dst := some 68, op := Op.fieldAddr 25 (Operand.tmp 8) 2, type := 0, pos := "ref.go:102", after := #[], guard := none }) (v := .pointer (some ⟨k8, 2, none⟩)) rfl (by kernel_rfl) (by kernel_rfl) (by kernel_rfl) (by kernel_rfl) (fun _ _ _ h => h) (Or.inl ⟨by rfl, fun w hSw => by (try dsimp only at hSw); go_simp⟩) (by assumption) ?_
                  (try simp only [Act.put, List.setIfInBounds_toArray, List.set_cons_zero, List.set_cons_succ])
                  refine anyz_take (i := 2) (oi := { dst := some 69, op := Op.load 23 (Operand.tmp 68), type := 23, pos := "ref.go:102", after := #[{ on := 1, ground := Ground.data }], guard := none }) (v := .slice (some ⟨b2, o2, none⟩) m cq) rfl (by kernel_rfl) (by kernel_rfl) (by kernel_rfl) (by kernel_rfl) (fun _ _ _ h => h) (Or.inl ⟨by rfl, fun w hSw => by (try dsimp only at hSw); go_simp⟩) (by assumption) ?_
                  (try simp only [Act.put, List.setIfInBounds_toArray, List.set_cons_zero, List.set_cons_succ])
                  refine anyz_take (i := 3) (oi := { dst := some 70, op := Op.move (Operand.tmp 10), type := 3, pos := "ref.go:102", after := #[], guard := none }) (v := .int .i64 (j : Int)) rfl (by kernel_rfl) (by kernel_rfl) (by kernel_rfl) (by kernel_rfl) (fun _ _ _ h => h) (Or.inl ⟨by rfl, fun w hSw => by (try dsimp only at hSw); go_simp⟩) (by assumption) ?_
                  (try simp only [Act.put, List.setIfInBounds_toArray, List.set_cons_zero, List.set_cons_succ])
                  refine anyz_take (i := 4) (oi := { dst := some 71, op := Op.slice 23 (Operand.tmp 69) none (some (Operand.tmp 70)) none, type := 23, pos := "ref.go:102", after := #[{ on := 2, ground := Ground.data }, { on := 3, ground := Ground.data }], guard := none }) (v := .slice (some ⟨b2, o2, none⟩) j cq) rfl (by kernel_rfl) (by kernel_rfl) (by kernel_rfl) (by kernel_rfl) (fun _ _ _ h => h) (Or.inl ⟨by rfl, fun w hSw => by (try dsimp only at hSw); go_simp⟩) (by assumption) ?_
                  (try simp only [Act.put, List.setIfInBounds_toArray, List.set_cons_zero, List.set_cons_succ])
                  refine anyz_take (i := 6) (oi := { dst := some 73, op := Op.move (Operand.tmp 2), type := 23, pos := "ref.go:102", after := #[], guard := none }) (v := .slice (some ⟨b, o, none⟩) np cp) rfl (by kernel_rfl) (by kernel_rfl) (by kernel_rfl) (by kernel_rfl) (fun _ _ _ h => h) (Or.inl ⟨by rfl, fun w hSw => by (try dsimp only at hSw); go_simp⟩) (by assumption) ?_
                  (try simp only [Act.put, List.setIfInBounds_toArray, List.set_cons_zero, List.set_cons_succ])
                  refine anyz_take (i := 7) (oi := { dst := some 74, op := Op.move (Operand.tmp 9), type := 3, pos := "ref.go:102", after := #[], guard := none }) (v := .int .i64 (i : Int)) rfl (by kernel_rfl) (by kernel_rfl) (by kernel_rfl) (by kernel_rfl) (fun _ _ _ h => h) (Or.inl ⟨by rfl, fun w hSw => by (try dsimp only at hSw); go_simp⟩) (by assumption) ?_
                  (try simp only [Act.put, List.setIfInBounds_toArray, List.set_cons_zero, List.set_cons_succ])
                  refine anyz_take (i := 8) (oi := { dst := some 75, op := Op.indexAddr 23 (Operand.tmp 73) (Operand.tmp 74), type := 0, pos := "ref.go:102", after := #[{ on := 6, ground := Ground.data }, { on := 7, ground := Ground.data }], guard := none }) (v := .pointer (some ⟨b, o + i, none⟩)) rfl (by kernel_rfl) (by kernel_rfl) (by kernel_rfl) (by kernel_rfl) (fun _ _ _ h => h) (Or.inl ⟨by rfl, fun w hSw => by (try dsimp only at hSw); go_simp⟩) (by assumption) ?_
                  (try simp only [Act.put, List.setIfInBounds_toArray, List.set_cons_zero, List.set_cons_succ])
                  refine anyz_take (i := 9) (oi := { dst := some 76, op := Op.load 3 (Operand.tmp 75), type := 3, pos := "ref.go:102", after := #[{ on := 8, ground := Ground.data }], guard := none }) (v := .int .i64 x) rfl (by kernel_rfl) (by kernel_rfl) (by kernel_rfl) (by kernel_rfl) (fun _ _ _ h => h) (Or.inl ⟨by rfl, fun w hSw => by (try dsimp only at hSw); go_simp⟩) (by assumption) ?_
                  (try simp only [Act.put, List.setIfInBounds_toArray, List.set_cons_zero, List.set_cons_succ])
                  refine anyz_take (i := 12) (oi := { dst := some 79, op := Op.fieldAddr 25 (Operand.tmp 8) 2, type := 0, pos := "ref.go:102", after := #[], guard := none }) (v := .pointer (some ⟨k8, 2, none⟩)) rfl (by kernel_rfl) (by kernel_rfl) (by kernel_rfl) (by kernel_rfl) (fun _ _ _ h => h) (Or.inl ⟨by rfl, fun w hSw => by (try dsimp only at hSw); go_simp⟩) (by assumption) ?_
                  (try simp only [Act.put, List.setIfInBounds_toArray, List.set_cons_zero, List.set_cons_succ])
                  refine anyz_take (i := 13) (oi := { dst := some 80, op := Op.load 23 (Operand.tmp 79), type := 23, pos := "ref.go:102", after := #[{ on := 12, ground := Ground.data }], guard := none }) (v := .slice (some ⟨b2, o2, none⟩) m cq) rfl (by kernel_rfl) (by kernel_rfl) (by kernel_rfl) (by kernel_rfl) (fun _ _ _ h => h) (Or.inl ⟨by rfl, fun w hSw => by (try dsimp only at hSw); go_simp⟩) (by assumption) ?_
                  (try simp only [Act.put, List.setIfInBounds_toArray, List.set_cons_zero, List.set_cons_succ])
                  refine anyz_take (i := 14) (oi := { dst := some 81, op := Op.move (Operand.tmp 10), type := 3, pos := "ref.go:102", after := #[], guard := none }) (v := .int .i64 (j : Int)) rfl (by kernel_rfl) (by kernel_rfl) (by kernel_rfl) (by kernel_rfl) (fun _ _ _ h => h) (Or.inl ⟨by rfl, fun w hSw => by (try dsimp only at hSw); go_simp⟩) (by assumption) ?_
                  (try simp only [Act.put, List.setIfInBounds_toArray, List.set_cons_zero, List.set_cons_succ])
                  refine anyz_take (i := 15) (oi := { dst := some 82, op := Op.slice 23 (Operand.tmp 80) (some (Operand.tmp 81)) none none, type := 23, pos := "ref.go:102", after := #[{ on := 13, ground := Ground.data }, { on := 14, ground := Ground.data }], guard := none }) (v := .slice af (m - j) (cq - j)) rfl (by kernel_rfl) (by kernel_rfl) (by kernel_rfl) (by kernel_rfl) (fun _ _ _ h => h) (Or.inl ⟨by rfl, fun w hSw => by (try dsimp only at hSw); go_simp⟩) (by assumption) ?_
                  (try simp only [Act.put, List.setIfInBounds_toArray, List.set_cons_zero, List.set_cons_succ])
                  refine anyz_ready (rs := [0, 10]) (by kernel_rfl) (by simp) ?_
                  refine AllZ.cons (o := { dst := some 67, op := Op.buildSlice 23 0 #[], type := 23, pos := "ref.go:102", after := #[], guard := none }) rfl (fun K hK => ?_) ?_
                  · skip
                    go_simp
                    refine hK.out _ _ ?_ (fun hHeld => ?_)
                    · (try dsimp only)
                      with_reducible refine S0.out _ ?_; (repeat' (first | (with_reducible exact B3) | (with_reducible exact B2) | (with_reducible exact B1) | (with_reducible exact Below.refl _ _) | (with_reducible refine below_alloc' ?_ (Nat.le_refl _) _) | (with_reducible refine Below.drew ?_)))
                    clear hK K
                    (try simp only [Act.put, List.setIfInBounds_toArray, List.set_cons_zero, List.set_cons_succ])
                    refine anyz_ready (rs := [5, 10]) (by kernel_rfl) (by simp) ?_
                    refine AllZ.cons (o := { dst := some 72, op := Op.call { callee := Callee.builtin Builtin.append, args := #[Operand.tmp 67, Operand.tmp 71], argTypes := #[23, 23] }, type := 23, pos := "ref.go:102", after := #[{ on := 0, ground := Ground.data }, { on := 4, ground := Ground.data }], guard := none }) rfl (fun K hK => ?_) ?_
                    · skip
                      (first
                        | (refine step_appz0 (t := 23) (e := 3) rfl (.tmp 67) (.tmp 71) rfl Tryd.underlying23 info3 wx.heap.size (.slice (some ⟨wx.heap.size, 0, none⟩) 0 0) [] (L.take j) (by simp [Act.eval]) LA.out (some ⟨b2, o2, none⟩) j cq (by simp [Act.eval]) SA.out hnq LT pa pb ?_; intro va1 wa1 hown1 hgrow1; rw [List.nil_append] at hown1; have B1 := ownz_grow LA.out BA.out pb hgrow1; have g1 := B1.size)
                        | (refine step_appz0 (t := 23) (e := 3) rfl (.tmp 67) (.tmp 71) rfl Tryd.underlying23 info3 wx.heap.size (.slice (some ⟨wx.heap.size, 0, none⟩) 0 0) [] (L.take j) (by simp [Act.eval]) LB.out (some ⟨b2, o2, none⟩) j cq (by simp [Act.eval]) SB.out hnq LT pa pb2 ?_; intro va1 wa1 hown1 hgrow1; rw [List.nil_append] at hown1; have B1 := ownz_grow LB.out BB.out pb2 hgrow1; have g1 := B1.size; have X1 := Lib.hid (zrw_kept XB.out hgrow1 NXB.out))
                        | (refine step_appz0 (t := 23) (e := 3) rfl (.tmp 67) (.tmp 71) rfl Tryd.underlying23 info3 wx.heap.size (.slice (some ⟨wx.heap.size + 1, 0, none⟩) 0 0) [] (L.take j) (by simp [Act.eval]) LC.out (some ⟨b2, o2, none⟩) j cq (by simp [Act.eval]) SC.out hnq LT pa pb3 ?_; intro va1 wa1 hown1 hgrow1; rw [List.nil_append] at hown1; have B1 := ownz_grow LC.out BC.out pb3 hgrow1; have g1 := B1.size; have X1 := Lib.hid (zrw_kept XC.out hgrow1 NXC.out)))
                      refine hK.out _ _ ?_ (fun hHeld => ?_)
                      · (try dsimp only)
                        with_reducible refine S0.out _ ?_; (repeat' (first | (with_reducible exact B3) | (with_reducible exact B2) | (with_reducible exact B1) | (with_reducible exact Below.refl _ _) | (with_reducible refine below_alloc' ?_ (Nat.le_refl _) _) | (with_reducible refine Below.drew ?_)))
                      clear hK K
                      (try simp only [Act.put, List.setIfInBounds_toArray, List.set_cons_zero, List.set_cons_succ])
                      refine anyz_ready (rs := [10]) (by kernel_rfl) (by simp) ?_
                      refine AllZ.cons (o := { dst := some 77, op := Op.buildSlice 23 1 #[(0, Operand.tmp 76)], type := 23, pos := "ref.go:102", after := #[{ on := 9, ground := Ground.data }], guard := none }) rfl (fun K hK => ?_) AllZ.nil
                      go_simp
                      refine hK.out _ _ ?_ (fun hHeld => ?_)
                      · (try dsimp only)
                        with_reducible refine S0.out _ ?_; (repeat' (first | (with_reducible exact B3) | (with_reducible exact B2) | (with_reducible exact B1) | (with_reducible exact Below.refl _ _) | (with_reducible refine below_alloc' ?_ (Nat.le_refl _) _) | (with_reducible refine Below.drew ?_)))
                      clear hK K
                      (try simp only [Act.put, List.setIfInBounds_toArray, List.set_cons_zero, List.set_cons_succ])
                      refine anyz_ready (rs := [11]) (by kernel_rfl) (by simp) ?_
                      refine AllZ.cons (o := { dst := some 78, op := Op.call { callee := Callee.builtin Builtin.append, args := #[Operand.tmp 72, Operand.tmp 77], argTypes := #[23, 23] }, type := 23, pos := "ref.go:102", after := #[{ on := 5, ground := Ground.data }, { on := 10, ground := Ground.data }, { on := 5, ground := Ground.chain }], guard := none }) rfl (fun K hK => ?_) AllZ.nil
                      (first
                        | (refine step_appz0 (t := 23) (e := 3) rfl (.tmp 72) (.tmp 77) rfl Tryd.underlying23 info3 wx.heap.size va1 (L.take j) [x] (by simp [Act.eval]) (World.ownsRow.alloc hown1 _) (some ⟨wa1.heap.size, 0, none⟩) 1 1 (by simp [Act.eval]) (zrw_uno wa1 x) (fun h => by cases h) rfl pc (by simp; omega) ?_; intro va2 w2b hown2 hgrow2; have B2 := ownz_grow (World.ownsRow.alloc hown1 (.cells #[.int .i64 x] 3)) (B1.alloc g1 (.cells #[.int .i64 x] 3)) (Nat.le_trans g1 (by simp)) hgrow2; have g2 := B2.size)
                        | (refine step_appz0 (t := 23) (e := 3) rfl (.tmp 72) (.tmp 77) rfl Tryd.underlying23 info3 wx.heap.size va1 (L.take j) [x] (by simp [Act.eval]) hown1 (some ⟨wx.heap.size + 1, 0, none⟩) 1 1 (by simp [Act.eval]) X1.out (fun h => by cases h) rfl pc g1 ?_; intro va2 w2b hown2 hgrow2; have B2 := ownz_grow hown1 B1 g1 hgrow2; have g2 := B2.size)
                        | (refine step_appz0 (t := 23) (e := 3) rfl (.tmp 72) (.tmp 77) rfl Tryd.underlying23 info3 wx.heap.size va1 (L.take j) [x] (by simp [Act.eval]) hown1 (some ⟨wx.heap.size, 0, none⟩) 1 1 (by simp [Act.eval]) X1.out (fun h => by cases h) rfl pc g1 ?_; intro va2 w2b hown2 hgrow2; have B2 := ownz_grow hown1 B1 g1 hgrow2; have g2 := B2.size))
                      refine hK.out _ _ ?_ (fun hHeld => ?_)
                      · (try dsimp only)
                        with_reducible refine S0.out _ ?_; (repeat' (first | (with_reducible exact B3) | (with_reducible exact B2) | (with_reducible exact B1) | (with_reducible exact Below.refl _ _) | (with_reducible refine below_alloc' ?_ (Nat.le_refl _) _) | (with_reducible refine Below.drew ?_)))
                      clear hK K
                      (try simp only [Act.put, List.setIfInBounds_toArray, List.set_cons_zero, List.set_cons_succ])
                      refine anyz_ready (rs := [16]) (by kernel_rfl) (by simp) ?_
                      refine AllZ.cons (o := { dst := some 83, op := Op.call { callee := Callee.builtin Builtin.append, args := #[Operand.tmp 78, Operand.tmp 82], argTypes := #[23, 23] }, type := 23, pos := "ref.go:102", after := #[{ on := 11, ground := Ground.data }, { on := 15, ground := Ground.data }, { on := 11, ground := Ground.chain }], guard := none }) rfl (fun K hK => ?_) AllZ.nil
                      (refine step_appz0 (t := 23) (e := 3) rfl (.tmp 78) (.tmp 82) rfl Tryd.underlying23 info3 wx.heap.size va2 (L.take j ++ [x]) (L.drop j) (by simp [Act.eval]) hown2 af (m - j) (cq - j) (by simp [Act.eval]) (SF.out w2b B2) nf LD pd g2 ?_; intro v3 w3b hown3 hgrow3; have B3 := ownz_grow hown2 B2 g2 hgrow3; obtain ⟨a9, c9, hv9, _, _, _, _⟩ := own_zrw hown3; obtain ⟨q9, hq9⟩ : ∃ q, q = (L.take j ++ [x] ++ L.drop j).length := ⟨_, rfl⟩; rw [← hq9] at hv9; subst hv9; clear hq9)
                      refine hK.out _ _ ?_ (fun hHeld => ?_)
                      · (try dsimp only)
                        with_reducible refine S0.out _ ?_; (repeat' (first | (with_reducible exact B3) | (with_reducible exact B2) | (with_reducible exact B1) | (with_reducible exact Below.refl _ _) | (with_reducible refine below_alloc' ?_ (Nat.le_refl _) _) | (with_reducible refine Below.drew ?_)))
                      clear hK K
                      (try simp only [Act.put, List.setIfInBounds_toArray, List.set_cons_zero, List.set_cons_succ])
                      refine anyz_take (i := 17) (oi := { dst := some 84, op := Op.fieldAddr 25 (Operand.tmp 8) 2, type := 0, pos := "ref.go:102", after := #[{ on := 0, ground := Ground.phase }, { on := 1, ground := Ground.phase }, { on := 2, ground := Ground.phase }, { on := 3, ground := Ground.phase }, { on := 4, ground := Ground.phase }, { on := 5, ground := Ground.phase }, { on := 6, ground := Ground.phase }, { on := 7, ground := Ground.phase }, { on := 8, ground := Ground.phase }, { on := 9, ground := Ground.phase }, { on := 10, ground := Ground.phase }, { on := 11, ground := Ground.phase }, { on := 12, ground := Ground.phase }, { on := 13, ground := Ground.phase }, { on := 14, ground := Ground.phase }, { on := 15, ground := Ground.phase }, { on := 16, ground := Ground.phase }], guard := none }) (v := .pointer (some ⟨k8, 2, none⟩)) rfl (by kernel_rfl) (by kernel_rfl) (by kernel_rfl) (by kernel_rfl) (fun _ _ _ h => h) (Or.inl ⟨by rfl, fun w hSw => by (try dsimp only at hSw); go_simp⟩) (by assumption) ?_
                      (try simp only [Act.put, List.setIfInBounds_toArray, List.set_cons_zero, List.set_cons_succ])
                      refine anyz_ready (rs := [18]) (by kernel_rfl) (by simp) ?_
                      have KF := Lib.hid (KX.out.below B3 hk8x)
                      have u2 := KF.out.cell 2
                      have uf := KF.out.frozen 2
                      simp only [List.getElem?_cons_zero, List.getElem?_cons_succ] at u2
                      refine AllZ.last (o := { dst := none, op := Op.store 23 (Operand.tmp 84) (Operand.tmp 83), type := 0, pos := "ref.go:102", after := #[{ on := 17, ground := Ground.data }, { on := 16, ground := Ground.data }, { on := 16, ground := Ground.chain }, { on := 0, ground := Ground.phase }, { on := 1, ground := Ground.phase }, { on := 2, ground := Ground.phase }, { on := 3, ground := Ground.phase }, { on := 4, ground := Ground.phase }, { on := 5, ground := Ground.phase }, { on := 6, ground := Ground.phase }, { on := 7, ground := Ground.phase }, { on := 8, ground := Ground.phase }, { on := 9, ground := Ground.phase }, { on := 10, ground := Ground.phase }, { on := 11, ground := Ground.phase }, { on := 12, ground := Ground.phase }, { on := 13, ground := Ground.phase }, { on := 14, ground := Ground.phase }, { on := 15, ground := Ground.phase }, { on := 16, ground := Ground.phase }], guard := none }) rfl (fun K hK => ?_)
                      go_simp
                      refine hK.out _ _ ?_
                      refine anyz_done (by kernel_rfl) ?_ _
                      clear hK K
                      have O9 : Hid (OwnZ (w3b.setCell ⟨k8, 2, none⟩ (.slice a9 q9 c9)) w2.heap.size (.slice a9 q9 c9) (sortU ltI (p.take (i + 1)))) := by
                        show OwnZ _ _ _ _
                        rw [sortz_step p i x GX.out, ← HL.out, ins_at, if_neg (by rw [hpl.out]; exact NEW.out), hpl.out]
                        have h3 : OwnZ w3b wx.heap.size (.slice a9 q9 c9) (L.take j ++ [x] ++ L.drop j) := hown3
                        rw [List.append_assoc] at h3
                        exact ownz_set (h3.low SZX.out) SZ2.out
                      have K9 := Lib.hid (KF.out.set 2 (.slice a9 q9 c9))
                      have D9 : Hid (Below w1.heap.size w1 (w3b.setCell ⟨k8, 2, none⟩ (.slice a9 q9 c9))) := (DX.out.trans (B3.mono DX.out.size)).setCell (p := ⟨k8, 2, none⟩) (Nat.le_of_eq HK8.out.symm) _
                      have S9 : Hid (w2.heap.size ≤ (w3b.setCell ⟨k8, 2, none⟩ (.slice a9 q9 c9)).heap.size) := by show _ ≤ _; rw [World.size_setCell]; exact Nat.le_trans SZX.out B3.size
                      go_wp2_with fail
                      go_roundw
                      case rel => exact ⟨i + 1, .slice a9 q9 c9, by omega, by go_num, D9.out, S9.out, K9.out, O9.out⟩
                      case measure => simp [RowKit.intOf]; omega
                    refine AllZ.cons (o := { dst := some 77, op := Op.buildSlice 23 1 #[(0, Operand.tmp 76)], type := 23, pos := "ref.go:102", after := #[{ on := 9, ground := Ground.data }], guard := none }) rfl (fun K hK => ?_) AllZ.nil
                    go_simp
                    refine hK.out _ _ ?_ (fun hHeld => ?_)
                    · (try dsimp only)
                      with_reducible refine S0.out _ ?_; (repeat' (first | (with_reducible exact B3) | (with_reducible exact B2) | (with_reducible exact B1) | (with_reducible exact Below.refl _ _) | (with_reducible refine below_alloc' ?_ (Nat.le_refl _) _) | (with_reducible refine Below.drew ?_)))
                    clear hK K
                    (try simp only [Act.put, List.setIfInBounds_toArray, List.set_cons_zero, List.set_cons_succ])
                    refine anyz_ready (rs := [5]) (by kernel_rfl) (by simp) ?_
                    refine AllZ.cons (o := { dst := some 72, op := Op.call { callee := Callee.builtin Builtin.append, args := #[Operand.tmp 67, Operand.tmp 71], argTypes := #[23, 23] }, type := 23, pos := "ref.go:102", after := #[{ on := 0, ground := Ground.data }, { on := 4, ground := Ground.data }], guard := none }) rfl (fun K hK => ?_) AllZ.nil
                    (first
                      | (refine step_appz0 (t := 23) (e := 3) rfl (.tmp 67) (.tmp 71) rfl Tryd.underlying23 info3 wx.heap.size (.slice (some ⟨wx.heap.size, 0, none⟩) 0 0) [] (L.take j) (by simp [Act.eval]) LA.out (some ⟨b2, o2, none⟩) j cq (by simp [Act.eval]) SA.out hnq LT pa pb ?_; intro va1 wa1 hown1 hgrow1; rw [List.nil_append] at hown1; have B1 := ownz_grow LA.out BA.out pb hgrow1; have g1 := B1.size)
                      | (refine step_appz0 (t := 23) (e := 3) rfl (.tmp 67) (.tmp 71) rfl Tryd.underlying23 info3 wx.heap.size (.slice (some ⟨wx.heap.size, 0, none⟩) 0 0) [] (L.take j) (by simp [Act.eval]) LB.out (some ⟨b2, o2, none⟩) j cq (by simp [Act.eval]) SB.out hnq LT pa pb2 ?_; intro va1 wa1 hown1 hgrow1; rw [List.nil_append] at hown1; have B1 := ownz_grow LB.out BB.out pb2 hgrow1; have g1 := B1.size; have X1 := Lib.hid (zrw_kept XB.out hgrow1 NXB.out))
                      | (refine step_appz0 (t := 23) (e := 3) rfl (.tmp 67) (.tmp 71) rfl Tryd.underlying23 info3 wx.heap.size (.slice (some ⟨wx.heap.size + 1, 0, none⟩) 0 0) [] (L.take j) (by simp [Act.eval]) LC.out (some ⟨b2, o2, none⟩) j cq (by simp [Act.eval]) SC.out hnq LT pa pb3 ?_; intro va1 wa1 hown1 hgrow1; rw [List.nil_append] at hown1; have B1 := ownz_grow LC.out BC.out pb3 hgrow1; have g1 := B1.size; have X1 := Lib.hid (zrw_kept XC.out hgrow1 NXC.out)))
                    refine hK.out _ _ ?_ (fun hHeld => ?_)
                    · (try dsimp only)
                      with_reducible refine S0.out _ ?_; (repeat' (first | (with_reducible exact B3) | (with_reducible exact B2) | (with_reducible exact B1) | (with_reducible exact Below.refl _ _) | (with_reducible refine below_alloc' ?_ (Nat.le_refl _) _) | (with_reducible refine Below.drew ?_)))
                    clear hK K
                    (try simp only [Act.put, List.setIfInBounds_toArray, List.set_cons_zero, List.set_cons_succ])
                    refine anyz_ready (rs := [11]) (by kernel_rfl) (by simp) ?_
                    refine AllZ.cons (o := { dst := some 78, op := Op.call { callee := Callee.builtin Builtin.append, args := #[Operand.tmp 72, Operand.tmp 77], argTypes := #[23, 23] }, type := 23, pos := "ref.go:102", after := #[{ on := 5, ground := Ground.data }, { on := 10, ground := Ground.data }, { on := 5, ground := Ground.chain }], guard := none }) rfl (fun K hK => ?_) AllZ.nil
                    (first
                      | (refine step_appz0 (t := 23) (e := 3) rfl (.tmp 72) (.tmp 77) rfl Tryd.underlying23 info3 wx.heap.size va1 (L.take j) [x] (by simp [Act.eval]) (World.ownsRow.alloc hown1 _) (some ⟨wa1.heap.size, 0, none⟩) 1 1 (by simp [Act.eval]) (zrw_uno wa1 x) (fun h => by cases h) rfl pc (by simp; omega) ?_; intro va2 w2b hown2 hgrow2; have B2 := ownz_grow (World.ownsRow.alloc hown1 (.cells #[.int .i64 x] 3)) (B1.alloc g1 (.cells #[.int .i64 x] 3)) (Nat.le_trans g1 (by simp)) hgrow2; have g2 := B2.size)
                      | (refine step_appz0 (t := 23) (e := 3) rfl (.tmp 72) (.tmp 77) rfl Tryd.underlying23 info3 wx.heap.size va1 (L.take j) [x] (by simp [Act.eval]) hown1 (some ⟨wx.heap.size + 1, 0, none⟩) 1 1 (by simp [Act.eval]) X1.out (fun h => by cases h) rfl pc g1 ?_; intro va2 w2b hown2 hgrow2; have B2 := ownz_grow hown1 B1 g1 hgrow2; have g2 := B2.size)
                      | (refine step_appz0 (t := 23) (e := 3) rfl (.tmp 72) (.tmp 77) rfl Tryd.underlying23 info3 wx.heap.size va1 (L.take j) [x] (by simp [Act.eval]) hown1 (some ⟨wx.heap.size, 0, none⟩) 1 1 (by simp [Act.eval]) X1.out (fun h => by cases h) rfl pc g1 ?_; intro va2 w2b hown2 hgrow2; have B2 := ownz_grow hown1 B1 g1 hgrow2; have g2 := B2.size))
                    refine hK.out _ _ ?_ (fun hHeld => ?_)
                    · (try dsimp only)
                      with_reducible refine S0.out _ ?_; (repeat' (first | (with_reducible exact B3) | (with_reducible exact B2) | (with_reducible exact B1) | (with_reducible exact Below.refl _ _) | (with_reducible refine below_alloc' ?_ (Nat.le_refl _) _) | (with_reducible refine Below.drew ?_)))
                    clear hK K
                    (try simp only [Act.put, List.setIfInBounds_toArray, List.set_cons_zero, List.set_cons_succ])
                    refine anyz_ready (rs := [16]) (by kernel_rfl) (by simp) ?_
                    refine AllZ.cons (o := { dst := some 83, op := Op.call { callee := Callee.builtin Builtin.append, args := #[Operand.tmp 78, Operand.tmp 82], argTypes := #[23, 23] }, type := 23, pos := "ref.go:102", after := #[{ on := 11, ground := Ground.data }, { on := 15, ground := Ground.data }, { on := 11, ground := Ground.chain }], guard := none }) rfl (fun K hK => ?_) AllZ.nil
                    (refine step_appz0 (t := 23) (e := 3) rfl (.tmp 78) (.tmp 82) rfl Tryd.underlying23 info3 wx.heap.size va2 (L.take j ++ [x]) (L.drop j) (by simp [Act.eval]) hown2 af (m - j) (cq - j) (by simp [Act.eval]) (SF.out w2b B2) nf LD pd g2 ?_; intro v3 w3b hown3 hgrow3; have B3 := ownz_grow hown2 B2 g2 hgrow3; obtain ⟨a9, c9, hv9, _, _, _, _⟩ := own_zrw hown3; obtain ⟨q9, hq9⟩ : ∃ q, q = (L.take j ++ [x] ++ L.drop j).length := ⟨_, rfl⟩; rw [← hq9] at hv9; subst hv9; clear hq9)
                    refine hK.out _ _ ?_ (fun hHeld => ?_)
                    · (try dsimp only)
                      with_reducible refine S0.out _ ?_; (repeat' (first | (with_reducible exact B3) | (with_reducible exact B2) | (with_reducible exact B1) | (with_reducible exact Below.refl _ _) | (with_reducible refine below_alloc' ?_ (Nat.le_refl _) _) | (with_reducible refine Below.drew ?_)))
                    clear hK K
                    (try simp only [Act.put, List.setIfInBounds_toArray, List.set_cons_zero, List.set_cons_succ])
                    refine anyz_take (i := 17) (oi := { dst := some 84, op := Op.fieldAddr 25 (Operand.tmp 8) 2, type := 0, pos := "ref.go:102", after := #[{ on := 0, ground := Ground.phase }, { on := 1, ground := Ground.phase }, { on := 2, ground := Ground.phase }, { on := 3, ground := Ground.phase }, { on := 4, ground := Ground.phase }, { on := 5, ground := Ground.phase }, { on := 6, ground := Ground.phase }, { on := 7, ground := Ground.phase }, { on := 8, ground := Ground.phase }, { on := 9, ground := Ground.phase }, { on := 10, ground := Ground.phase }, { on := 11, ground := Ground.phase }, { on := 12, ground := Ground.phase }, { on := 13, ground := Ground.phase }, { on := 14, ground := Ground.phase }, { on := 15, ground := Ground.phase }, { on := 16, ground := Ground.phase }], guard := none }) (v := .pointer (some ⟨k8, 2, none⟩)) rfl (by kernel_rfl) (by kernel_rfl) (by kernel_rfl) (by kernel_rfl) (fun _ _ _ h => h) (Or.inl ⟨by rfl, fun w hSw => by (try dsimp only at hSw); go_simp⟩) (by assumption) ?_
                    (try simp only [Act.put, List.setIfInBounds_toArray, List.set_cons_zero, List.set_cons_succ])
                    refine anyz_ready (rs := [18]) (by kernel_rfl) (by simp) ?_
                    have KF := Lib.hid (KX.out.below B3 hk8x)
                    have u2 := KF.out.cell 2
                    have uf := KF.out.frozen 2
                    simp only [List.getElem?_cons_zero, List.getElem?_cons_succ] at u2
                    refine AllZ.last (o := { dst := none, op := Op.store 23 (Operand.tmp 84) (Operand.tmp 83), type := 0, pos := "ref.go:102", after := #[{ on := 17, ground := Ground.data }, { on := 16, ground := Ground.data }, { on := 16, ground := Ground.chain }, { on := 0, ground := Ground.phase }, { on := 1, ground := Ground.phase }, { on := 2, ground := Ground.phase }, { on := 3, ground := Ground.phase }, { on := 4, ground := Ground.phase }, { on := 5, ground := Ground.phase }, { on := 6, ground := Ground.phase }, { on := 7, ground := Ground.phase }, { on := 8, ground := Ground.phase }, { on := 9, ground := Ground.phase }, { on := 10, ground := Ground.phase }, { on := 11, ground := Ground.phase }, { on := 12, ground := Ground.phase }, { on := 13, ground := Ground.phase }, { on := 14, ground := Ground.phase }, { on := 15, ground := Ground.phase }, { on := 16, ground := Ground.phase }], guard := none }) rfl (fun K hK => ?_)
                    go_simp
                    refine hK.out _ _ ?_
                    refine anyz_done (by kernel_rfl) ?_ _
                    clear hK K
                    have O9 : Hid (OwnZ (w3b.setCell ⟨k8, 2, none⟩ (.slice a9 q9 c9)) w2.heap.size (.slice a9 q9 c9) (sortU ltI (p.take (i + 1)))) := by
                      show OwnZ _ _ _ _
                      rw [sortz_step p i x GX.out, ← HL.out, ins_at, if_neg (by rw [hpl.out]; exact NEW.out), hpl.out]
                      have h3 : OwnZ w3b wx.heap.size (.slice a9 q9 c9) (L.take j ++ [x] ++ L.drop j) := hown3
                      rw [List.append_assoc] at h3
                      exact ownz_set (h3.low SZX.out) SZ2.out
                    have K9 := Lib.hid (KF.out.set 2 (.slice a9 q9 c9))
                    have D9 : Hid (Below w1.heap.size w1 (w3b.setCell ⟨k8, 2, none⟩ (.slice a9 q9 c9))) := (DX.out.trans (B3.mono DX.out.size)).setCell (p := ⟨k8, 2, none⟩) (Nat.le_of_eq HK8.out.symm) _
                    have S9 : Hid (w2.heap.size ≤ (w3b.setCell ⟨k8, 2, none⟩ (.slice a9 q9 c9)).heap.size) := by show _ ≤ _; rw [World.size_setCell]; exact Nat.le_trans SZX.out B3.size
                    go_wp2_with fail
                    go_roundw
                    case rel => exact ⟨i + 1, .slice a9 q9 c9, by omega, by go_num, D9.out, S9.out, K9.out, O9.out⟩
                    case measure => simp [RowKit.intOf]; omega
                  refine AllZ.cons (o := { dst := some 77, op := Op.buildSlice 23 1 #[(0, Operand.tmp 76)], type := 23, pos := "ref.go:102", after := #[{ on := 9, ground := Ground.data }], guard := none }) rfl (fun K hK => ?_) AllZ.nil
                  go_simp
                  refine hK.out _ _ ?_ (fun hHeld => ?_)
                  · (try dsimp only)
                    with_reducible refine S0.out _ ?_; (repeat' (first | (with_reducible exact B3) | (with_reducible exact B2) | (with_reducible exact B1) | (with_reducible exact Below.refl _ _) | (with_reducible refine below_alloc' ?_ (Nat.le_refl _) _) | (with_reducible refine Below.drew ?_)))
                  clear hK K
                  (try simp only [Act.put, List.setIfInBounds_toArray, List.set_cons_zero, List.set_cons_succ])
                  refine anyz_ready (rs := [0]) (by kernel_rfl) (by simp) ?_
                  refine AllZ.cons (o := { dst := some 67, op := Op.buildSlice 23 0 #[], type := 23, pos := "ref.go:102", after := #[], guard := none }) rfl (fun K hK => ?_) AllZ.nil
                  go_simp
                  refine hK.out _ _ ?_ (fun hHeld => ?_)
                  · (try dsimp only)
                    with_reducible refine S0.out _ ?_; (repeat' (first | (with_reducible exact B3) | (with_reducible exact B2) | (with_reducible exact B1) | (with_reducible exact Below.refl _ _) | (with_reducible refine below_alloc' ?_ (Nat.le_refl _) _) | (with_reducible refine Below.drew ?_)))
                  clear hK K
                  (try simp only [Act.put, List.setIfInBounds_toArray, List.set_cons_zero, List.set_cons_succ])
                  refine anyz_ready (rs := [5]) (by kernel_rfl) (by simp) ?_
                  refine AllZ.cons (o := { dst := some 72, op := Op.call { callee := Callee.builtin Builtin.append, args := #[Operand.tmp 67, Operand.tmp 71], argTypes := #[23, 23] }, type := 23, pos := "ref.go:102", after := #[{ on := 0, ground := Ground.data }, { on := 4, ground := Ground.data }], guard := none }) rfl (fun K hK => ?_) AllZ.nil
                  (first
                    | (refine step_appz0 (t := 23) (e := 3) rfl (.tmp 67) (.tmp 71) rfl Tryd.underlying23 info3 wx.heap.size (.slice (some ⟨wx.heap.size, 0, none⟩) 0 0) [] (L.take j) (by simp [Act.eval]) LA.out (some ⟨b2, o2, none⟩) j cq (by simp [Act.eval]) SA.out hnq LT pa pb ?_; intro va1 wa1 hown1 hgrow1; rw [List.nil_append] at hown1; have B1 := ownz_grow LA.out BA.out pb hgrow1; have g1 := B1.size)
                    | (refine step_appz0 (t := 23) (e := 3) rfl (.tmp 67) (.tmp 71) rfl Tryd.underlying23 info3 wx.heap.size (.slice (some ⟨wx.heap.size, 0, none⟩) 0 0) [] (L.take j) (by simp [Act.eval]) LB.out (some ⟨b2, o2, none⟩) j cq (by simp [Act.eval]) SB.out hnq LT pa pb2 ?_; intro va1 wa1 hown1 hgrow1; rw [List.nil_append] at hown1; have B1 := ownz_grow LB.out BB.out pb2 hgrow1; have g1 := B1.size; have X1 := Lib.hid (zrw_kept XB.out hgrow1 NXB.out))
                    | (refine step_appz0 (t := 23) (e := 3) rfl (.tmp 67) (.tmp 71) rfl Tryd.underlying23 info3 wx.heap.size (.slice (some ⟨wx.heap.size + 1, 0, none⟩) 0 0) [] (L.take j) (by simp [Act.eval]) LC.out (some ⟨b2, o2, none⟩) j cq (by simp [Act.eval]) SC.out hnq LT pa pb3 ?_; intro va1 wa1 hown1 hgrow1; rw [List.nil_append] at hown1; have B1 := ownz_grow LC.out BC.out pb3 hgrow1; have g1 := B1.size; have X1 := Lib.hid (zrw_kept XC.out hgrow1 NXC.out)))
                  refine hK.out _ _ ?_ (fun hHeld => ?_)
                  · (try dsimp only)
                    with_reducible refine S0.out _ ?_; (repeat' (first | (with_reducible exact B3) | (with_reducible exact B2) | (with_reducible exact B1) | (with_reducible exact Below.refl _ _) | (with_reducible refine below_alloc' ?_ (Nat.le_refl _) _) | (with_reducible refine Below.drew ?_)))
                  clear hK K
                  (try simp only [Act.put, List.setIfInBounds_toArray, List.set_cons_zero, List.set_cons_succ])
                  refine anyz_ready (rs := [11]) (by kernel_rfl) (by simp) ?_
                  refine AllZ.cons (o := { dst := some 78, op := Op.call { callee := Callee.builtin Builtin.append, args := #[Operand.tmp 72, Operand.tmp 77], argTypes := #[23, 23] }, type := 23, pos := "ref.go:102", after := #[{ on := 5, ground := Ground.data }, { on := 10, ground := Ground.data }, { on := 5, ground := Ground.chain }], guard := none }) rfl (fun K hK => ?_) AllZ.nil
                  (first
                    | (refine step_appz0 (t := 23) (e := 3) rfl (.tmp 72) (.tmp 77) rfl Tryd.underlying23 info3 wx.heap.size va1 (L.take j) [x] (by simp [Act.eval]) (World.ownsRow.alloc hown1 _) (some ⟨wa1.heap.size, 0, none⟩) 1 1 (by simp [Act.eval]) (zrw_uno wa1 x) (fun h => by cases h) rfl pc (by simp; omega) ?_; intro va2 w2b hown2 hgrow2; have B2 := ownz_grow (World.ownsRow.alloc hown1 (.cells #[.int .i64 x] 3)) (B1.alloc g1 (.cells #[.int .i64 x] 3)) (Nat.le_trans g1 (by simp)) hgrow2; have g2 := B2.size)
                    | (refine step_appz0 (t := 23) (e := 3) rfl (.tmp 72) (.tmp 77) rfl Tryd.underlying23 info3 wx.heap.size va1 (L.take j) [x] (by simp [Act.eval]) hown1 (some ⟨wx.heap.size + 1, 0, none⟩) 1 1 (by simp [Act.eval]) X1.out (fun h => by cases h) rfl pc g1 ?_; intro va2 w2b hown2 hgrow2; have B2 := ownz_grow hown1 B1 g1 hgrow2; have g2 := B2.size)
                    | (refine step_appz0 (t := 23) (e := 3) rfl (.tmp 72) (.tmp 77) rfl Tryd.underlying23 info3 wx.heap.size va1 (L.take j) [x] (by simp [Act.eval]) hown1 (some ⟨wx.heap.size, 0, none⟩) 1 1 (by simp [Act.eval]) X1.out (fun h => by cases h) rfl pc g1 ?_; intro va2 w2b hown2 hgrow2; have B2 := ownz_grow hown1 B1 g1 hgrow2; have g2 := B2.size))
                  refine hK.out _ _ ?_ (fun hHeld => ?_)
                  · (try dsimp only)
                    with_reducible refine S0.out _ ?_; (repeat' (first | (with_reducible exact B3) | (with_reducible exact B2) | (with_reducible exact B1) | (with_reducible exact Below.refl _ _) | (with_reducible refine below_alloc' ?_ (Nat.le_refl _) _) | (with_reducible refine Below.drew ?_)))
                  clear hK K
                  (try simp only [Act.put, List.setIfInBounds_toArray, List.set_cons_zero, List.set_cons_succ])
                  refine anyz_ready (rs := [16]) (by kernel_rfl) (by simp) ?_
                  refine AllZ.cons (o := { dst := some 83, op := Op.call { callee := Callee.builtin Builtin.append, args := #[Operand.tmp 78, Operand.tmp 82], argTypes := #[23, 23] }, type := 23, pos := "ref.go:102", after := #[{ on := 11, ground := Ground.data }, { on := 15, ground := Ground.data }, { on := 11, ground := Ground.chain }], guard := none }) rfl (fun K hK => ?_) AllZ.nil
                  (refine step_appz0 (t := 23) (e := 3) rfl (.tmp 78) (.tmp 82) rfl Tryd.underlying23 info3 wx.heap.size va2 (L.take j ++ [x]) (L.drop j) (by simp [Act.eval]) hown2 af (m - j) (cq - j) (by simp [Act.eval]) (SF.out w2b B2) nf LD pd g2 ?_; intro v3 w3b hown3 hgrow3; have B3 := ownz_grow hown2 B2 g2 hgrow3; obtain ⟨a9, c9, hv9, _, _, _, _⟩ := own_zrw hown3; obtain ⟨q9, hq9⟩ : ∃ q, q = (L.take j ++ [x] ++ L.drop j).length := ⟨_, rfl⟩; rw [← hq9] at hv9; subst hv9; clear hq9)
                  refine hK.out _ _ ?_ (fun hHeld => ?_)
                  · (try dsimp only)
                    with_reducible refine S0.out _ ?_; (repeat' (first | (with_reducible exact B3) | (with_reducible exact B2) | (with_reducible exact B1) | (with_reducible exact Below.refl _ _) | (with_reducible refine below_alloc' ?_ (Nat.le_refl _) _) | (with_reducible refine Below.drew ?_)))
                  clear hK K
                  (try simp only [Act.put, List.setIfInBounds_toArray, List.set_cons_zero, List.set_cons_succ])
                  refine anyz_take (i := 17) (oi := { dst := some 84, op := Op.fieldAddr 25 (Operand.tmp 8) 2, type := 0, pos := "ref.go:102", after := #[{ on := 0, ground := Ground.phase }, { on := 1, ground := Ground.phase }, { on := 2, ground := Ground.phase }, { on := 3, ground := Ground.phase }, { on := 4, ground := Ground.phase }, { on := 5, ground := Ground.phase }, { on := 6, ground := Ground.phase }, { on := 7, ground := Ground.phase }, { on := 8, ground := Ground.phase }, { on := 9, ground := Ground.phase }, { on := 10, ground := Ground.phase }, { on := 11, ground := Ground.phase }, { on := 12, ground := Ground.phase }, { on := 13, ground := Ground.phase }, { on := 14, ground := Ground.phase }, { on := 15, ground := Ground.phase }, { on := 16, ground := Ground.phase }], guard := none }) (v := .pointer (some ⟨k8, 2, none⟩)) rfl (by kernel_rfl) (by kernel_rfl) (by kernel_rfl) (by kernel_rfl) (fun _ _ _ h => h) (Or.inl ⟨by rfl, fun w hSw => by (try dsimp only at hSw); go_simp⟩) (by assumption) ?_
                  (try simp only [Act.put, List.setIfInBounds_toArray, List.set_cons_zero, List.set_cons_succ])
                  refine anyz_ready (rs := [18]) (by kernel_rfl) (by simp) ?_
                  have KF := Lib.hid (KX.out.below B3 hk8x)
                  have u2 := KF.out.cell 2
                  have uf := KF.out.frozen 2
                  simp only [List.getElem?_cons_zero, List.getElem?_cons_succ] at u2
                  refine AllZ.last (o := { dst := none, op := Op.store 23 (Operand.tmp 84) (Operand.tmp 83), type := 0, pos := "ref.go:102", after := #[{ on := 17, ground := Ground.data }, { on := 16, ground := Ground.data }, { on := 16, ground := Ground.chain }, { on := 0, ground := Ground.phase }, { on := 1, ground := Ground.phase }, { on := 2, ground := Ground.phase }, { on := 3, ground := Ground.phase }, { on := 4, ground := Ground.phase }, { on := 5, ground := Ground.phase }, { on := 6, ground := Ground.phase }, { on := 7, ground := Ground.phase }, { on := 8, ground := Ground.phase }, { on := 9, ground := Ground.phase }, { on := 10, ground := Ground.phase }, { on := 11, ground := Ground.phase }, { on := 12, ground := Ground.phase }, { on := 13, ground := Ground.phase }, { on := 14, ground := Ground.phase }, { on := 15, ground := Ground.phase }, { on := 16, ground := Ground.phase }], guard := none }) rfl (fun K hK => ?_)
                  go_simp
                  refine hK.out _ _ ?_
                  refine anyz_done (by kernel_rfl) ?_ _
                  clear hK K
                  have O9 : Hid (OwnZ (w3b.setCell ⟨k8, 2, none⟩ (.slice a9 q9 c9)) w2.heap.size (.slice a9 q9 c9) (sortU ltI (p.take (i + 1)))) := by
                    show OwnZ _ _ _ _
                    rw [sortz_step p i x GX.out, ← HL.out, ins_at, if_neg (by rw [hpl.out]; exact NEW.out), hpl.out]
                    have h3 : OwnZ w3b wx.heap.size (.slice a9 q9 c9) (L.take j ++ [x] ++ L.drop j) := hown3
                    rw [List.append_assoc] at h3
                    exact ownz_set (h3.low SZX.out) SZ2.out
                  have K9 := Lib.hid (KF.out.set 2 (.slice a9 q9 c9))
                  have D9 : Hid (Below w1.heap.size w1 (w3b.setCell ⟨k8, 2, none⟩ (.slice a9 q9 c9))) := (DX.out.trans (B3.mono DX.out.size)).setCell (p := ⟨k8, 2, none⟩) (Nat.le_of_eq HK8.out.symm) _
                  have S9 : Hid (w2.heap.size ≤ (w3b.setCell ⟨k8, 2, none⟩ (.slice a9 q9 c9)).heap.size) := by show _ ≤ _; rw [World.size_setCell]; exact Nat.le_trans SZX.out B3.size
                  go_wp2_with fail
                  go_roundw
                  case rel => exact ⟨i + 1, .slice a9 q9 c9, by omega, by go_num, D9.out, S9.out, K9.out, O9.out⟩
                  case measure => simp [RowKit.intOf]; omega
            · obtain rfl : j = m := by omega
              have hpl : Hid (place ltI x L = j) := place_is ltI x L j hlt.out fun z hz => by rw [List.getElem?_eq_none (by have := HM.out; omega)] at hz; cases hz
              go_wp2_with fail
              go_quiet (fail)
              go_wp2_with fail
              generalize hwv : wr.drewN nq = wv at *
              have ex2 : wv.cell? ⟨b, o + i, none⟩ = some (.int .i64 x) := by rw [← hwv]; exact ex
              have t22 : wv.cell? ⟨k8, 2, none⟩ = some (.slice aq j cq) := by rw [← hwv]; exact t2
              have hwv2 : Hid (wv = w3.drewN (k + nq)) := by show _ = _; rw [← hwv, hw2.out, World.drewN_drewN]
              clear hwv ex t2 hw2
              go_quiet (fail)
              go_wp2_with fail
              generalize hwv3 : wv.drewN nq = wx at *
              have HS2 : Hid (Zrw wx aq L) := by show Zrw _ _ _; rw [← hwv3, hwv2.out]; exact HS.out
              have DX : Hid (Below w1.heap.size w1 wx) := by show Below _ _ _; rw [← hwv3, hwv2.out]; exact below_drewN (below_drewN hD.out _) _
              have KX : Hid (Blk wx k8 [.int .i64 (g + 1), .string r, .slice aq j cq] 25) := by show Blk _ _ _ _; rw [← hwv3, hwv2.out]; exact KK.out
              have SZX : Hid (w2.heap.size ≤ wx.heap.size) := by show _ ≤ _; rw [← hwv3, hwv2.out]; simpa using hsz3
              have ex3 : wx.cell? ⟨b, o + i, none⟩ = some (.int .i64 x) := by rw [← hwv3]; exact ex2
              have t23 : wx.cell? ⟨k8, 2, none⟩ = some (.slice aq j cq) := by rw [← hwv3]; exact t22
              have hk8x : k8 < wx.heap.size := KX.out.lt
              have hbx : b < wx.heap.size := Nat.lt_of_lt_of_le HBB.out DX.out.size
              have S0 : Hid (∀ W, Below wx.heap.size wx W → W.cell? ⟨b, o + i, none⟩ = some (.int .i64 x) ∧ W.cell? ⟨k8, 2, none⟩ = some (.slice aq j cq)) := fun W hb => ⟨(hb.cell (p := ⟨b, o + i, none⟩) hbx).trans ex3, (hb.cell (p := ⟨k8, 2, none⟩) hk8x).trans t23⟩
              have s1 := fun W => slice_toz aq j cq j (by omega) W
              obtain ⟨af, s2, sf, nf⟩ := slice_fromz aq j cq j L (by omega) HM.out hnq hcq
              rw [Nat.sub_self] at s2
              have LA : Hid (OwnZ  (wx.alloc (.cells #[] 3)).drew wx.heap.size (.slice (some ⟨wx.heap.size, 0, none⟩) 0 0) []) := ownz_lit wx [] wx.heap.size (by omega) (by simp)
              have BA : Hid (Below wx.heap.size wx  (wx.alloc (.cells #[] 3)).drew) := ((Below.refl _ wx).alloc (by omega) _).drew
              have SA : Hid (Zrw  (wx.alloc (.cells #[] 3)).drew aq (L.take j)) := (Zrw.alloc (HS2.out.take j) _).drew
              have LT : Hid ((L.take j).length = j) := by show _ = _; rw [List.length_take]; have := HM.out; omega
              have LD : Hid ((L.drop j).length = 0) := by show _ = _; rw [List.length_drop]; have := HM.out; omega
              have pa : (([] : List Int).length + j) * 8 ≤ 140737488355328 := by first | (simp; done) | (simp; omega)
              have pb : wx.heap.size ≤  (wx.alloc (.cells #[] 3)).drew.heap.size := by first | (simp; done) | (simp; omega)
              have LB : Hid (OwnZ ( (wx.alloc (.cells #[] 3)).alloc (.cells #[.int .i64 x] 3)).drew wx.heap.size (.slice (some ⟨wx.heap.size, 0, none⟩) 0 0) []) := World.ownsRow.alloc (ownz_lit wx [] wx.heap.size (by omega) (by simp)) _
              have BB : Hid (Below wx.heap.size wx ( (wx.alloc (.cells #[] 3)).alloc (.cells #[.int .i64 x] 3)).drew) := (((Below.refl _ wx).alloc (by omega) _).alloc (by first | (simp; done) | (simp; omega)) _).drew
              have SB : Hid (Zrw ( (wx.alloc (.cells #[] 3)).alloc (.cells #[.int .i64 x] 3)).drew aq (L.take j)) := (Zrw.alloc (Zrw.alloc (HS2.out.take j) _) _).drew
              have XB : Hid (Zrw ( (wx.alloc (.cells #[] 3)).alloc (.cells #[.int .i64 x] 3)).drew (some ⟨wx.heap.size + 1, 0, none⟩) [x]) := by have := (zrw_uno  (wx.alloc (.cells #[] 3)) x).drew; rwa [show  (wx.alloc (Obj.cells #[] 3)).heap.size = wx.heap.size + 1 by simp] at this
              have LC : Hid (OwnZ ( (wx.alloc (.cells #[.int .i64 x] 3)).alloc (.cells #[] 3)).drew wx.heap.size (.slice (some ⟨wx.heap.size + 1, 0, none⟩) 0 0) []) := by have := ownz_lit  (wx.alloc (.cells #[.int .i64 x] 3)) [] wx.heap.size (by first | (simp; done) | (simp; omega)) (by simp); rwa [show  (wx.alloc (Obj.cells #[Value.int .i64 x] 3)).heap.size = wx.heap.size + 1 by simp] at this
              have BC : Hid (Below wx.heap.size wx ( (wx.alloc (.cells #[.int .i64 x] 3)).alloc (.cells #[] 3)).drew) := (((Below.refl _ wx).alloc (by omega) _).alloc (by first | (simp; done) | (simp; omega)) _).drew
              have SC : Hid (Zrw ( (wx.alloc (.cells #[.int .i64 x] 3)).alloc (.cells #[] 3)).drew aq (L.take j)) := (Zrw.alloc (Zrw.alloc (HS2.out.take j) _) _).drew
              have XC : Hid (Zrw ( (wx.alloc (.cells #[.int .i64 x] 3)).alloc (.cells #[] 3)).drew (some ⟨wx.heap.size, 0, none⟩) [x]) := (Zrw.alloc (zrw_uno wx x) _).drew
              have pb2 : wx.heap.size ≤ ( (wx.alloc (.cells #[] 3)).alloc (.cells #[.int .i64 x] 3)).drew.heap.size := by first | (simp; done) | (simp; omega)
              have pb3 : wx.heap.size ≤ ( (wx.alloc (.cells #[.int .i64 x] 3)).alloc (.cells #[] 3)).drew.heap.size := by first | (simp; done) | (simp; omega)
              have nxb : some (wx.heap.size + 1) ≠ (Value.slice (some ⟨wx.heap.size, 0, none⟩) 0 0).ownBlock := by simp [Value.ownBlock]
              have nxc : some wx.heap.size ≠ (Value.slice (some ⟨wx.heap.size + 1, 0, none⟩) 0 0).ownBlock := by simp [Value.ownBlock]
              have NXB := Lib.hid nxb
              have NXC := Lib.hid nxc
              have NEW : Hid (¬ L[j]? = some x) := fun h => by rw [List.getElem?_eq_none (by have := HM.out; omega)] at h; cases h
              have pc : ((L.take j).length + 1) * 8 ≤ 140737488355328 := by rw [LT.out]; omega
              have pd : ((L.take j ++ [x]).length + 0) * 8 ≤ 140737488355328 := by rw [List.length_append, List.length_singleton, LT.out]; omega
              have SF := Lib.hid (fun W (hW : Below wx.heap.size wx W) => sf W (HS2.out.below hW))
              clear hwv3 ex2 t22 nxb nxc
              refine region_z 18 (S := fun W => W.cell? ⟨b, o + i, none⟩ = some (.int .i64 x) ∧ W.cell? ⟨k8, 2, none⟩ = some (.slice aq j cq)) (by kernel_rfl) (by with_reducible refine S0.out _ ?_; (repeat' (first | (with_reducible exact B3) | (with_reducible exact B2) | (with_reducible exact B1) | (with_reducible exact Below.refl _ _) | (with_reducible refine below_alloc' ?_ (Nat.le_refl _) _) | (with_reducible refine Below.drew ?_)))) (fun hHeld => ?_)
              refine anyz_take (i := 1) (oi := { dst := some 68, op := Op.fieldAddr 25 (Operand.tmp 8) 2, type := 0, pos := "ref.go:102", after := #[], guard := none }) (v := .pointer (some ⟨k8, 2, none⟩)) rfl (by kernel_rfl) (by kernel_rfl) (by kernel_rfl) (by kernel_rfl) (fun _ _ _ h => h) (Or.inl ⟨by rfl, fun w hSw => by (try dsimp only at hSw); go_simp⟩) (by assumption) ?_
              (try simp only [Act.put, List.setIfInBounds_toArray, List.set_cons_zero, List.set_cons_succ])
              refine anyz_take (i := 2) (oi := { dst := some 69, op := Op.load 23 (Operand.tmp 68), type := 23, pos := "ref.go:102", after := #[{ on := 1, ground := Ground.data }], guard := none }) (v := .slice aq j cq) rfl (by kernel_rfl) (by kernel_rfl) (by kernel_rfl) (by kernel_rfl) (fun _ _ _ h => h) (Or.inl ⟨by rfl, fun w hSw => by (try dsimp only at hSw); go_simp⟩) (by assumption) ?_
              (try simp only [Act.put, List.setIfInBounds_toArray, List.set_cons_zero, List.set_cons_succ])
              refine anyz_take (i := 3) (oi := { dst := some 70, op := Op.move (Operand.tmp 10), type := 3, pos := "ref.go:102", after := #[], guard := none }) (v := .int .i64 (j : Int)) rfl (by kernel_rfl) (by kernel_rfl) (by kernel_rfl) (by kernel_rfl) (fun _ _ _ h => h) (Or.inl ⟨by rfl, fun w hSw => by (try dsimp only at hSw); go_simp⟩) (by assumption) ?_
              (try simp only [Act.put, List.setIfInBounds_toArray, List.set_cons_zero, List.set_cons_succ])
              refine anyz_take (i := 4) (oi := { dst := some 71, op := Op.slice 23 (Operand.tmp 69) none (some (Operand.tmp 70)) none, type := 23, pos := "ref.go:102", after := #[{ on := 2, ground := Ground.data }, { on := 3, ground := Ground.data }], guard := none }) (v := .slice aq j cq) rfl (by kernel_rfl) (by kernel_rfl) (by kernel_rfl) (by kernel_rfl) (fun _ _ _ h => h) (Or.inl ⟨by rfl, fun w hSw => by (try dsimp only at hSw); go_simp⟩) (by assumption) ?_
              (try simp only [Act.put, List.setIfInBounds_toArray, List.set_cons_zero, List.set_cons_succ])
              refine anyz_take (i := 6) (oi := { dst := some 73, op := Op.move (Operand.tmp 2), type := 23, pos := "ref.go:102", after := #[], guard := none }) (v := .slice (some ⟨b, o, none⟩) np cp) rfl (by kernel_rfl) (by kernel_rfl) (by kernel_rfl) (by kernel_rfl) (fun _ _ _ h => h) (Or.inl ⟨by rfl, fun w hSw => by (try dsimp only at hSw); go_simp⟩) (by assumption) ?_
              (try simp only [Act.put, List.setIfInBounds_toArray, List.set_cons_zero, List.set_cons_succ])
              refine anyz_take (i := 7) (oi := { dst := some 74, op := Op.move (Operand.tmp 9), type := 3, pos := "ref.go:102", after := #[], guard := none }) (v := .int .i64 (i : Int)) rfl (by kernel_rfl) (by kernel_rfl) (by kernel_rfl) (by kernel_rfl) (fun _ _ _ h => h) (Or.inl ⟨by rfl, fun w hSw => by (try dsimp only at hSw); go_simp⟩) (by assumption) ?_
              (try simp only [Act.put, List.setIfInBounds_toArray, List.set_cons_zero, List.set_cons_succ])
              refine anyz_take (i := 8) (oi := { dst := some 75, op := Op.indexAddr 23 (Operand.tmp 73) (Operand.tmp 74), type := 0, pos := "ref.go:102", after := #[{ on := 6, ground := Ground.data }, { on := 7, ground := Ground.data }], guard := none }) (v := .pointer (some ⟨b, o + i, none⟩)) rfl (by kernel_rfl) (by kernel_rfl) (by kernel_rfl) (by kernel_rfl) (fun _ _ _ h => h) (Or.inl ⟨by rfl, fun w hSw => by (try dsimp only at hSw); go_simp⟩) (by assumption) ?_
              (try simp only [Act.put, List.setIfInBounds_toArray, List.set_cons_zero, List.set_cons_succ])
              refine anyz_take (i := 9) (oi := { dst := some 76, op := Op.load 3 (Operand.tmp 75), type := 3, pos := "ref.go:102", after := #[{ on := 8, ground := Ground.data }], guard := none }) (v := .int .i64 x) rfl (by kernel_rfl) (by kernel_rfl) (by kernel_rfl) (by kernel_rfl) (fun _ _ _ h => h) (Or.inl ⟨by rfl, fun w hSw => by (try dsimp only at hSw); go_simp⟩) (by assumption) ?_
              (try simp only [Act.put, List.setIfInBounds_toArray, List.set_cons_zero, List.set_cons_succ])
              refine anyz_take (i := 12) (oi := { dst := some 79, op := Op.fieldAddr 25 (Operand.tmp 8) 2, type := 0, pos := "ref.go:102", after := #[], guard := none }) (v := .pointer (some ⟨k8, 2, none⟩)) rfl (by kernel_rfl) (by kernel_rfl) (by kernel_rfl) (by kernel_rfl) (fun _ _ _ h => h) (Or.inl ⟨by rfl, fun w hSw => by (try dsimp only at hSw); go_simp⟩) (by assumption) ?_
              (try simp only [Act.put, List.setIfInBounds_toArray, List.set_cons_zero, List.set_cons_succ])
              refine anyz_take (i := 13) (oi := { dst := some 80, op := Op.load 23 (Operand.tmp 79), type := 23, pos := "ref.go:102", after := #[{ on := 12, ground := Ground.data }], guard := none }) (v := .slice aq j cq) rfl (by kernel_rfl) (by kernel_rfl) (by kernel_rfl) (by kernel_rfl) (fun _ _ _ h => h) (Or.inl ⟨by rfl, fun w hSw => by (try dsimp only at hSw); go_simp⟩) (by assumption) ?_
              (try simp only [Act.put, List.setIfInBounds_toArray, List.set_cons_zero, List.set_cons_succ])
              refine anyz_take (i := 14) (oi := { dst := some 81, op := Op.move (Operand.tmp 10), type := 3, pos := "ref.go:102", after := #[], guard := none }) (v := .int .i64 (j : Int)) rfl (by kernel_rfl) (by kernel_rfl) (by kernel_rfl) (by kernel_rfl) (fun _ _ _ h => h) (Or.inl ⟨by rfl, fun w hSw => by (try dsimp only at hSw); go_simp⟩) (by assumption) ?_
              (try simp only [Act.put, List.setIfInBounds_toArray, List.set_cons_zero, List.set_cons_succ])
              refine anyz_take (i := 15) (oi := { dst := some 82, op := Op.slice 23 (Operand.tmp 80) (some (Operand.tmp 81)) none none, type := 23, pos := "ref.go:102", after := #[{ on := 13, ground := Ground.data }, { on := 14, ground := Ground.data }], guard := none }) (v := .slice af 0 (cq - j)) rfl (by kernel_rfl) (by kernel_rfl) (by kernel_rfl) (by kernel_rfl) (fun _ _ _ h => h) (Or.inl ⟨by rfl, fun w hSw => by (try dsimp only at hSw); go_simp⟩) (by assumption) ?_
              (try simp only [Act.put, List.setIfInBounds_toArray, List.set_cons_zero, List.set_cons_succ])
              refine anyz_ready (rs := [0, 10]) (by kernel_rfl) (by simp) ?_
              refine AllZ.cons (o := { dst := some 67, op := Op.buildSlice 23 0 #[], type := 23, pos := "ref.go:102", after := #[], guard := none }) rfl (fun K hK => ?_) ?_
              · skip
                go_simp
                refine hK.out _ _ ?_ (fun hHeld => ?_)
                · (try dsimp only)
                  with_reducible refine S0.out _ ?_; (repeat' (first | (with_reducible exact B3) | (with_reducible exact B2) | (with_reducible exact B1) | (with_reducible exact Below.refl _ _) | (with_reducible refine below_alloc' ?_ (Nat.le_refl _) _) | (with_reducible refine Below.drew ?_)))
                clear hK K
                (try simp only [Act.put, List.setIfInBounds_toArray, List.set_cons_zero, List.set_cons_succ])
                refine anyz_ready (rs := [5, 10]) (by kernel_rfl) (by simp) ?_
                refine AllZ.cons (o := { dst := some 72, op := Op.call { callee := Callee.builtin Builtin.append, args := #[Operand.tmp 67, Operand.tmp 71], argTypes := #[23, 23] }, type := 23, pos := "ref.go:102", after := #[{ on := 0, ground := Ground.data }, { on := 4, ground := Ground.data }], guard := none }) rfl (fun K hK => ?_) ?_
                · skip
                  (first
                    | (refine step_appz0 (t := 23) (e := 3) rfl (.tmp 67) (.tmp 71) rfl Tryd.underlying23 info3 wx.heap.size (.slice (some ⟨wx.heap.size, 0, none⟩) 0 0) [] (L.take j) (by simp [Act.eval]) LA.out aq j cq (by simp [Act.eval]) SA.out hnq LT pa pb ?_; intro va1 wa1 hown1 hgrow1; rw [List.nil_append] at hown1; have B1 := ownz_grow LA.out BA.out pb hgrow1; have g1 := B1.size)
                    | (refine step_appz0 (t := 23) (e := 3) rfl (.tmp 67) (.tmp 71) rfl Tryd.underlying23 info3 wx.heap.size (.slice (some ⟨wx.heap.size, 0, none⟩) 0 0) [] (L.take j) (by simp [Act.eval]) LB.out aq j cq (by simp [Act.eval]) SB.out hnq LT pa pb2 ?_; intro va1 wa1 hown1 hgrow1; rw [List.nil_append] at hown1; have B1 := ownz_grow LB.out BB.out pb2 hgrow1; have g1 := B1.size; have X1 := Lib.hid (zrw_kept XB.out hgrow1 NXB.out))
                    | (refine step_appz0 (t := 23) (e := 3) rfl (.tmp 67) (.tmp 71) rfl Tryd.underlying23 info3 wx.heap.size (.slice (some ⟨wx.heap.size + 1, 0, none⟩) 0 0) [] (L.take j) (by simp [Act.eval]) LC.out aq j cq (by simp [Act.eval]) SC.out hnq LT pa pb3 ?_; intro va1 wa1 hown1 hgrow1; rw [List.nil_append] at hown1; have B1 := ownz_grow LC.out BC.out pb3 hgrow1; have g1 := B1.size; have X1 := Lib.hid (zrw_kept XC.out hgrow1 NXC.out)))
                  refine hK.out _ _ ?_ (fun hHeld => ?_)
                  · (try dsimp only)
                    with_reducible refine S0.out _ ?_; (repeat' (first | (with_reducible exact B3) | (with_reducible exact B2) | (with_reducible exact B1) | (with_reducible exact Below.refl _ _) | (with_reducible refine below_alloc' ?_ (Nat.le_refl _) _) | (with_reducible refine Below.drew ?_)))
                  clear hK K
                  (try simp only [Act.put, List.setIfInBounds_toArray, List.set_cons_zero, List.set_cons_succ])
                  refine anyz_ready (rs := [10]) (by kernel_rfl) (by simp) ?_
                  refine AllZ.cons (o := { dst := some 77, op := Op.buildSlice 23 1 #[(0, Operand.tmp 76)], type := 23, pos := "ref.go:102", after := #[{ on := 9, ground := Ground.data }], guard := none }) rfl (fun K hK => ?_) AllZ.nil
                  go_simp
                  refine hK.out _ _ ?_ (fun hHeld => ?_)
                  · (try dsimp only)
                    with_reducible refine S0.out _ ?_; (repeat' (first | (with_reducible exact B3) | (with_reducible exact B2) | (with_reducible exact B1) | (with_reducible exact Below.refl _ _) | (with_reducible refine below_alloc' ?_ (Nat.le_refl _) _) | (with_reducible refine Below.drew ?_)))
                  clear hK K
                  (try simp only [Act.put, List.setIfInBounds_toArray, List.set_cons_zero, List.set_cons_succ])
                  refine anyz_ready (rs := [11]) (by kernel_rfl) (by simp) ?_
                  refine AllZ.cons (o := { dst := some 78, op := Op.call { callee := Callee.builtin Builtin.append, args := #[Operand.tmp 72, Operand.tmp 77], argTypes := #[23, 23] }, type := 23, pos := "ref.go:102", after := #[{ on := 5, ground := Ground.data }, { on := 10, ground := Ground.data }, { on := 5, ground := Ground.chain }], guard := none }) rfl (fun K hK => ?_) AllZ.nil
                  (first
                    | (refine step_appz0 (t := 23) (e := 3) rfl (.tmp 72) (.tmp 77) rfl Tryd.underlying23 info3 wx.heap.size va1 (L.take j) [x] (by simp [Act.eval]) (World.ownsRow.alloc hown1 _) (some ⟨wa1.heap.size, 0, none⟩) 1 1 (by simp [Act.eval]) (zrw_uno wa1 x) (fun h => by cases h) rfl pc (by simp; omega) ?_; intro va2 w2b hown2 hgrow2; have B2 := ownz_grow (World.ownsRow.alloc hown1 (.cells #[.int .i64 x] 3)) (B1.alloc g1 (.cells #[.int .i64 x] 3)) (Nat.le_trans g1 (by simp)) hgrow2; have g2 := B2.size)
                    | (refine step_appz0 (t := 23) (e := 3) rfl (.tmp 72) (.tmp 77) rfl Tryd.underlying23 info3 wx.heap.size va1 (L.take j) [x] (by simp [Act.eval]) hown1 (some ⟨wx.heap.size + 1, 0, none⟩) 1 1 (by simp [Act.eval]) X1.out (fun h => by cases h) rfl pc g1 ?_; intro va2 w2b hown2 hgrow2; have B2 := ownz_grow hown1 B1 g1 hgrow2; have g2 := B2.size)
                    | (refine step_appz0 (t := 23) (e := 3) rfl (.tmp 72) (.tmp 77) rfl Tryd.underlying23 info3 wx.heap.size va1 (L.take j) [x] (by simp [Act.eval]) hown1 (some ⟨wx.heap.size, 0, none⟩) 1 1 (by simp [Act.eval]) X1.out (fun h => by cases h) rfl pc g1 ?_; intro va2 w2b hown2 hgrow2; have B2 := ownz_grow hown1 B1 g1 hgrow2; have g2 := B2.size))
                  refine hK.out _ _ ?_ (fun hHeld => ?_)
                  · (try dsimp only)
                    with_reducible refine S0.out _ ?_; (repeat' (first | (with_reducible exact B3) | (with_reducible exact B2) | (with_reducible exact B1) | (with_reducible exact Below.refl _ _) | (with_reducible refine below_alloc' ?_ (Nat.le_refl _) _) | (with_reducible refine Below.drew ?_)))
                  clear hK K
                  (try simp only [Act.put, List.setIfInBounds_toArray, List.set_cons_zero, List.set_cons_succ])
                  refine anyz_ready (rs := [16]) (by kernel_rfl) (by simp) ?_
                  refine AllZ.cons (o := { dst := some 83, op := Op.call { callee := Callee.builtin Builtin.append, args := #[Operand.tmp 78, Operand.tmp 82], argTypes := #[23, 23] }, type := 23, pos := "ref.go:102", after := #[{ on := 11, ground := Ground.data }, { on := 15, ground := Ground.data }, { on := 11, ground := Ground.chain }], guard := none }) rfl (fun K hK => ?_) AllZ.nil
                  (refine step_appz0 (t := 23) (e := 3) rfl (.tmp 78) (.tmp 82) rfl Tryd.underlying23 info3 wx.heap.size va2 (L.take j ++ [x]) (L.drop j) (by simp [Act.eval]) hown2 af 0 (cq - j) (by simp [Act.eval]) (SF.out w2b B2) nf LD pd g2 ?_; intro v3 w3b hown3 hgrow3; have B3 := ownz_grow hown2 B2 g2 hgrow3; obtain ⟨a9, c9, hv9, _, _, _, _⟩ := own_zrw hown3; obtain ⟨q9, hq9⟩ : ∃ q, q = (L.take j ++ [x] ++ L.drop j).length := ⟨_, rfl⟩; rw [← hq9] at hv9; subst hv9; clear hq9)
                  refine hK.out _ _ ?_ (fun hHeld => ?_)
                  · (try dsimp only)
                    with_reducible refine S0.out _ ?_; (repeat' (first | (with_reducible exact B3) | (with_reducible exact B2) | (with_reducible exact B1) | (with_reducible exact Below.refl _ _) | (with_reducible refine below_alloc' ?_ (Nat.le_refl _) _) | (with_reducible refine Below.drew ?_)))
                  clear hK K
                  (try simp only [Act.put, List.setIfInBounds_toArray, List.set_cons_zero, List.set_cons_succ])
                  refine anyz_take (i := 17) (oi := { dst := some 84, op := Op.fieldAddr 25 (Operand.tmp 8) 2, type := 0, pos := "ref.go:102", after := #[{ on := 0, ground := Ground.phase }, { on := 1, ground := Ground.phase }, { on := 2, ground := Ground.phase }, { on := 3, ground := Ground.phase }, { on := 4, ground := Ground.phase }, { on := 5, ground := Ground.phase }, { on := 6, ground := Ground.phase }, { on := 7, ground := Ground.phase }, { on := 8, ground := Ground.phase }, { on := 9, ground := Ground.phase }, { on := 10, ground := Ground.phase }, { on := 11, ground := Ground.phase }, { on := 12, ground := Ground.phase }, { on := 13, ground := Ground.phase }, { on := 14, ground := Ground.phase }, { on := 15, ground := Ground.phase }, { on := 16, ground := Ground.phase }], guard := none }) (v := .pointer (some ⟨k8, 2, none⟩)) rfl (by kernel_rfl) (by kernel_rfl) (by kernel_rfl) (by kernel_rfl) (fun _ _ _ h => h) (Or.inl ⟨by rfl, fun w hSw => by (try dsimp only at hSw); go_simp⟩) (by assumption) ?_
                  (try simp only [Act.put, List.setIfInBounds_toArray, List.set_cons_zero, List.set_cons_succ])
                  refine anyz_ready (rs := [18]) (by kernel_rfl) (by simp) ?_
                  have KF := Lib.hid (KX.out.below B3 hk8x)
                  have u2 := KF.out.cell 2
                  have uf := KF.out.frozen 2
                  simp only [List.getElem?_cons_zero, List.getElem?_cons_succ] at u2
                  refine AllZ.last (o := { dst := none, op := Op.store 23 (Operand.tmp 84) (Operand.tmp 83), type := 0, pos := "ref.go:102", after := #[{ on := 17, ground := Ground.data }, { on := 16, ground := Ground.data }, { on := 16, ground := Ground.chain }, { on := 0, ground := Ground.phase }, { on := 1, ground := Ground.phase }, { on := 2, ground := Ground.phase }, { on := 3, ground := Ground.phase }, { on := 4, ground := Ground.phase }, { on := 5, ground := Ground.phase }, { on := 6, ground := Ground.phase }, { on := 7, ground := Ground.phase }, { on := 8, ground := Ground.phase }, { on := 9, ground := Ground.phase }, { on := 10, ground := Ground.phase }, { on := 11, ground := Ground.phase }, { on := 12, ground := Ground.phase }, { on := 13, ground := Ground.phase }, { on := 14, ground := Ground.phase }, { on := 15, ground := Ground.phase }, { on := 16, ground := Ground.phase }], guard := none }) rfl (fun K hK => ?_)
                  go_simp
                  refine hK.out _ _ ?_
                  refine anyz_done (by kernel_rfl) ?_ _
                  clear hK K
                  have O9 : Hid (OwnZ (w3b.setCell ⟨k8, 2, none⟩ (.slice a9 q9 c9)) w2.heap.size (.slice a9 q9 c9) (sortU ltI (p.take (i + 1)))) := by
                    show OwnZ _ _ _ _
                    rw [sortz_step p i x GX.out, ← HL.out, ins_at, if_neg (by rw [hpl.out]; exact NEW.out), hpl.out]
                    have h3 : OwnZ w3b wx.heap.size (.slice a9 q9 c9) (L.take j ++ [x] ++ L.drop j) := hown3
                    rw [List.append_assoc] at h3
                    exact ownz_set (h3.low SZX.out) SZ2.out
                  have K9 := Lib.hid (KF.out.set 2 (.slice a9 q9 c9))
                  have D9 : Hid (Below w1.heap.size w1 (w3b.setCell ⟨k8, 2, none⟩ (.slice a9 q9 c9))) := (DX.out.trans (B3.mono DX.out.size)).setCell (p := ⟨k8, 2, none⟩) (Nat.le_of_eq HK8.out.symm) _
                  have S9 : Hid (w2.heap.size ≤ (w3b.setCell ⟨k8, 2, none⟩ (.slice a9 q9 c9)).heap.size) := by show _ ≤ _; rw [World.size_setCell]; exact Nat.le_trans SZX.out B3.size
                  go_wp2_with fail
                  go_roundw
                  case rel => exact ⟨i + 1, .slice a9 q9 c9, by omega, by go_num, D9.out, S9.out, K9.out, O9.out⟩
                  case measure => simp [RowKit.intOf]; omega
                refine AllZ.cons (o := { dst := some 77, op := Op.buildSlice 23 1 #[(0, Operand.tmp 76)], type := 23, pos := "ref.go:102", after := #[{ on := 9, ground := Ground.data }], guard := none }) rfl (fun K hK => ?_) AllZ.nil
                go_simp
                refine hK.out _ _ ?_ (fun hHeld => ?_)
                · (try dsimp only)
                  with_reducible refine S0.out _ ?_; (repeat' (first | (with_reducible exact B3) | (with_reducible exact B2) | (with_reducible exact B1) | (with_reducible exact Below.refl _ _) | (with_reducible refine below_alloc' ?_ (Nat.le_refl _) _) | (with_reducible refine Below.drew ?_)))
                clear hK K
                (try simp only [Act.put, List.setIfInBounds_toArray, List.set_cons_zero, List.set_cons_succ])
                refine anyz_ready (rs := [5]) (by kernel_rfl) (by simp) ?_
                refine AllZ.cons (o := { dst := some 72, op := Op.call { callee := Callee.builtin Builtin.append, args := #[Operand.tmp 67, Operand.tmp 71], argTypes := #[23, 23] }, type := 23, pos := "ref.go:102", after := #[{ on := 0, ground := Ground.data }, { on := 4, ground := Ground.data }], guard := none }) rfl (fun K hK => ?_) AllZ.nil
                (first
                  | (refine step_appz0 (t := 23) (e := 3) rfl (.tmp 67) (.tmp 71) rfl Tryd.underlying23 info3 wx.heap.size (.slice (some ⟨wx.heap.size, 0, none⟩) 0 0) [] (L.take j) (by simp [Act.eval]) LA.out aq j cq (by simp [Act.eval]) SA.out hnq LT pa pb ?_; intro va1 wa1 hown1 hgrow1; rw [List.nil_append] at hown1; have B1 := ownz_grow LA.out BA.out pb hgrow1; have g1 := B1.size)
                  | (refine step_appz0 (t := 23) (e := 3) rfl (.tmp 67) (.tmp 71) rfl Tryd.underlying23 info3 wx.heap.size (.slice (some ⟨wx.heap.size, 0, none⟩) 0 0) [] (L.take j) (by simp [Act.eval]) LB.out aq j cq (by simp [Act.eval]) SB.out hnq LT pa pb2 ?_; intro va1 wa1 hown1 hgrow1; rw [List.nil_append] at hown1; have B1 := ownz_grow LB.out BB.out pb2 hgrow1; have g1 := B1.size; have X1 := Lib.hid (zrw_kept XB.out hgrow1 NXB.out))
                  | (refine step_appz0 (t := 23) (e := 3) rfl (.tmp 67) (.tmp 71) rfl Tryd.underlying23 info3 wx.heap.size (.slice (some ⟨wx.heap.size + 1, 0, none⟩) 0 0) [] (L.take j) (by simp [Act.eval]) LC.out aq j cq (by simp [Act.eval]) SC.out hnq LT pa pb3 ?_; intro va1 wa1 hown1 hgrow1; rw [List.nil_append] at hown1; have B1 := ownz_grow LC.out BC.out pb3 hgrow1; have g1 := B1.size; have X1 := Lib.hid (zrw_kept XC.out hgrow1 NXC.out)))
                refine hK.out _ _ ?_ (fun hHeld => ?_)
                · (try dsimp only)
                  with_reducible refine S0.out _ ?_; (repeat' (first | (with_reducible exact B3) | (with_reducible exact B2) | (with_reducible exact B1) | (with_reducible exact Below.refl _ _) | (with_reducible refine below_alloc' ?_ (Nat.le_refl _) _) | (with_reducible refine Below.drew ?_)))
                clear hK K
                (try simp only [Act.put, List.setIfInBounds_toArray, List.set_cons_zero, List.set_cons_succ])
                refine anyz_ready (rs := [11]) (by kernel_rfl) (by simp) ?_
                refine AllZ.cons (o := { dst := some 78, op := Op.call { callee := Callee.builtin Builtin.append, args := #[Operand.tmp 72, Operand.tmp 77], argTypes := #[23, 23] }, type := 23, pos := "ref.go:102", after := #[{ on := 5, ground := Ground.data }, { on := 10, ground := Ground.data }, { on := 5, ground := Ground.chain }], guard := none }) rfl (fun K hK => ?_) AllZ.nil
                (first
                  | (refine step_appz0 (t := 23) (e := 3) rfl (.tmp 72) (.tmp 77) rfl Tryd.underlying23 info3 wx.heap.size va1 (L.take j) [x] (by simp [Act.eval]) (World.ownsRow.alloc hown1 _) (some ⟨wa1.heap.size, 0, none⟩) 1 1 (by simp [Act.eval]) (zrw_uno wa1 x) (fun h => by cases h) rfl pc (by simp; omega) ?_; intro va2 w2b hown2 hgrow2; have B2 := ownz_grow (World.ownsRow.alloc hown1 (.cells #[.int .i64 x] 3)) (B1.alloc g1 (.cells #[.int .i64 x] 3)) (Nat.le_trans g1 (by simp)) hgrow2; have g2 := B2.size)
                  | (refine step_appz0 (t := 23) (e := 3) rfl (.tmp 72) (.tmp 77) rfl Tryd.underlying23 info3 wx.heap.size va1 (L.take j) [x] (by simp [Act.eval]) hown1 (some ⟨wx.heap.size + 1, 0, none⟩) 1 1 (by simp [Act.eval]) X1.out (fun h => by cases h) rfl pc g1 ?_; intro va2 w2b hown2 hgrow2; have B2 := ownz_grow hown1 B1 g1 hgrow2; have g2 := B2.size)
                  | (refine step_appz0 (t := 23) (e := 3) rfl (.tmp 72) (.tmp 77) rfl Tryd.underlying23 info3 wx.heap.size va1 (L.take j) [x] (by simp [Act.eval]) hown1 (some ⟨wx.heap.size, 0, none⟩) 1 1 (by simp [Act.eval]) X1.out (fun h => by cases h) rfl pc g1 ?_; intro va2 w2b hown2 hgrow2; have B2 := ownz_grow hown1 B1 g1 hgrow2; have g2 := B2.size))
                refine hK.out _ _ ?_ (fun hHeld => ?_)
                · (try dsimp only)
                  with_reducible refine S0.out _ ?_; (repeat' (first | (with_reducible exact B3) | (with_reducible exact B2) | (with_reducible exact B1) | (with_reducible exact Below.refl _ _) | (with_reducible refine below_alloc' ?_ (Nat.le_refl _) _) | (with_reducible refine Below.drew ?_)))
                clear hK K
                (try simp only [Act.put, List.setIfInBounds_toArray, List.set_cons_zero, List.set_cons_succ])
                refine anyz_ready (rs := [16]) (by kernel_rfl) (by simp) ?_
                refine AllZ.cons (o := { dst := some 83, op := Op.call { callee := Callee.builtin Builtin.append, args := #[Operand.tmp 78, Operand.tmp 82], argTypes := #[23, 23] }, type := 23, pos := "ref.go:102", after := #[{ on := 11, ground := Ground.data }, { on := 15, ground := Ground.data }, { on := 11, ground := Ground.chain }], guard := none }) rfl (fun K hK => ?_) AllZ.nil
                (refine step_appz0 (t := 23) (e := 3) rfl (.tmp 78) (.tmp 82) rfl Tryd.underlying23 info3 wx.heap.size va2 (L.take j ++ [x]) (L.drop j) (by simp [Act.eval]) hown2 af 0 (cq - j) (by simp [Act.eval]) (SF.out w2b B2) nf LD pd g2 ?_; intro v3 w3b hown3 hgrow3; have B3 := ownz_grow hown2 B2 g2 hgrow3; obtain ⟨a9, c9, hv9, _, _, _, _⟩ := own_zrw hown3; obtain ⟨q9, hq9⟩ : ∃ q, q = (L.take j ++ [x] ++ L.drop j).length := ⟨_, rfl⟩; rw [← hq9] at hv9; subst hv9; clear hq9)
                refine hK.out _ _ ?_ (fun hHeld => ?_)
                · (try dsimp only)
                  with_reducible refine S0.out _ ?_; (repeat' (first | (with_reducible exact B3) | (with_reducible exact B2) | (with_reducible exact B1) | (with_reducible exact Below.refl _ _) | (with_reducible refine below_alloc' ?_ (Nat.le_refl _) _) | (with_reducible refine Below.drew ?_)))
                clear hK K
                (try simp only [Act.put, List.setIfInBounds_toArray, List.set_cons_zero, List.set_cons_succ])
                refine anyz_take (i := 17) (oi := { dst := some 84, op := Op.fieldAddr 25 (Operand.tmp 8) 2, type := 0, pos := "ref.go:102", after := #[{ on := 0, ground := Ground.phase }, { on := 1, ground := Ground.phase }, { on := 2, ground := Ground.phase }, { on := 3, ground := Ground.phase }, { on := 4, ground := Ground.phase }, { on := 5, ground := Ground.phase }, { on := 6, ground := Ground.phase }, { on := 7, ground := Ground.phase }, { on := 8, ground := Ground.phase }, { on := 9, ground := Ground.phase }, { on := 10, ground := Ground.phase }, { on := 11, ground := Ground.phase }, { on := 12, ground := Ground.phase }, { on := 13, ground := Ground.phase }, { on := 14, ground := Ground.phase }, { on := 15, ground := Ground.phase }, { on := 16, ground := Ground.phase }], guard := none }) (v := .pointer (some ⟨k8, 2, none⟩)) rfl (by kernel_rfl) (by kernel_rfl) (by kernel_rfl) (by kernel_rfl) (fun _ _ _ h => h) (Or.inl ⟨by rfl, fun w hSw => by (try dsimp only at hSw); go_simp⟩) (by assumption) ?_
                (try simp only [Act.put, List.setIfInBounds_toArray, List.set_cons_zero, List.set_cons_succ])
                refine anyz_ready (rs := [18]) (by kernel_rfl) (by simp) ?_
                have KF := Lib.hid (KX.out.below B3 hk8x)
                have u2 := KF.out.cell 2
                have uf := KF.out.frozen 2
                simp only [List.getElem?_cons_zero, List.getElem?_cons_succ] at u2
                refine AllZ.last (o := { dst := none, op := Op.store 23 (Operand.tmp 84) (Operand.tmp 83), type := 0, pos := "ref.go:102", after := #[{ on := 17, ground := Ground.data }, { on := 16, ground := Ground.data }, { on := 16, ground := Ground.chain }, { on := 0, ground := Ground.phase }, { on := 1, ground := Ground.phase }, { on := 2, ground := Ground.phase }, { on := 3, ground := Ground.phase }, { on := 4, ground := Ground.phase }, { on := 5, ground := Ground.phase }, { on := 6, ground := Ground.phase }, { on := 7, ground := Ground.phase }, { on := 8, ground := Ground.phase }, { on := 9, ground := Ground.phase }, { on := 10, ground := Ground.phase }, { on := 11, ground := Ground.phase }, { on := 12, ground := Ground.phase }, { on := 13, ground := Ground.phase }, { on := 14, ground := Ground.phase }, { on := 15, ground := Ground.phase }, { on := 16, ground := Ground.phase }], guard := none }) rfl (fun K hK => ?_)
                go_simp
                refine hK.out _ _ ?_
                refine anyz_done (by kernel_rfl) ?_ _
                clear hK K
                have O9 : Hid (OwnZ (w3b.setCell ⟨k8, 2, none⟩ (.slice a9 q9 c9)) w2.heap.size (.slice a9 q9 c9) (sortU ltI (p.take (i + 1)))) := by
                  show OwnZ _ _ _ _
                  rw [sortz_step p i x GX.out, ← HL.out, ins_at, if_neg (by rw [hpl.out]; exact NEW.out), hpl.out]
                  have h3 : OwnZ w3b wx.heap.size (.slice a9 q9 c9) (L.take j ++ [x] ++ L.drop j) := hown3
                  rw [List.append_assoc] at h3
                  exact ownz_set (h3.low SZX.out) SZ2.out
                have K9 := Lib.hid (KF.out.set 2 (.slice a9 q9 c9))
                have D9 : Hid (Below w1.heap.size w1 (w3b.setCell ⟨k8, 2, none⟩ (.slice a9 q9 c9))) := (DX.out.trans (B3.mono DX.out.size)).setCell (p := ⟨k8, 2, none⟩) (Nat.le_of_eq HK8.out.symm) _
                have S9 : Hid (w2.heap.size ≤ (w3b.setCell ⟨k8, 2, none⟩ (.slice a9 q9 c9)).heap.size) := by show _ ≤ _; rw [World.size_setCell]; exact Nat.le_trans SZX.out B3.size
                go_wp2_with fail
                go_roundw
                case rel => exact ⟨i + 1, .slice a9 q9 c9, by omega, by go_num, D9.out, S9.out, K9.out, O9.out⟩
                case measure => simp [RowKit.intOf]; omega
              refine AllZ.cons (o := { dst := some 77, op := Op.buildSlice 23 1 #[(0, Operand.tmp 76)], type := 23, pos := "ref.go:102", after := #[{ on := 9, ground := Ground.data }], guard := none }) rfl (fun K hK => ?_) AllZ.nil
              go_simp
              refine hK.out _ _ ?_ (fun hHeld => ?_)
              · (try dsimp only)
                with_reducible refine S0.out _ ?_; (repeat' (first | (with_reducible exact B3) | (with_reducible exact B2) | (with_reducible exact B1) | (with_reducible exact Below.refl _ _) | (with_reducible refine below_alloc' ?_ (Nat.le_refl _) _) | (with_reducible refine Below.drew ?_)))
              clear hK K
              (try simp only [Act.put, List.setIfInBounds_toArray, List.set_cons_zero, List.set_cons_succ])
              refine anyz_ready (rs := [0]) (by kernel_rfl) (by simp) ?_
              refine AllZ.cons (o := { dst := some 67, op := Op.buildSlice 23 0 #[], type := 23, pos := "ref.go:102", after := #[], guard := none }) rfl (fun K hK => ?_) AllZ.nil
              go_simp
              refine hK.out _ _ ?_ (fun hHeld => ?_)
              · (try dsimp only)
                with_reducible refine S0.out _ ?_; (repeat' (first | (with_reducible exact B3) | (with_reducible exact B2) | (with_reducible exact B1) | (with_reducible exact Below.refl _ _) | (with_reducible refine below_alloc' ?_ (Nat.le_refl _) _) | (with_reducible refine Below.drew ?_)))
              clear hK K
              (try simp only [Act.put, List.setIfInBounds_toArray, List.set_cons_zero, List.set_cons_succ])
              refine anyz_ready (rs := [5]) (by kernel_rfl) (by simp) ?_
              refine AllZ.cons (o := { dst := some 72, op := Op.call { callee := Callee.builtin Builtin.append, args := #[Operand.tmp 67, Operand.tmp 71], argTypes := #[23, 23] }, type := 23, pos := "ref.go:102", after := #[{ on := 0, ground := Ground.data }, { on := 4, ground := Ground.data }], guard := none }) rfl (fun K hK => ?_) AllZ.nil
              (first
                | (refine step_appz0 (t := 23) (e := 3) rfl (.tmp 67) (.tmp 71) rfl Tryd.underlying23 info3 wx.heap.size (.slice (some ⟨wx.heap.size, 0, none⟩) 0 0) [] (L.take j) (by simp [Act.eval]) LA.out aq j cq (by simp [Act.eval]) SA.out hnq LT pa pb ?_; intro va1 wa1 hown1 hgrow1; rw [List.nil_append] at hown1; have B1 := ownz_grow LA.out BA.out pb hgrow1; have g1 := B1.size)
                | (refine step_appz0 (t := 23) (e := 3) rfl (.tmp 67) (.tmp 71) rfl Tryd.underlying23 info3 wx.heap.size (.slice (some ⟨wx.heap.size, 0, none⟩) 0 0) [] (L.take j) (by simp [Act.eval]) LB.out aq j cq (by simp [Act.eval]) SB.out hnq LT pa pb2 ?_; intro va1 wa1 hown1 hgrow1; rw [List.nil_append] at hown1; have B1 := ownz_grow LB.out BB.out pb2 hgrow1; have g1 := B1.size; have X1 := Lib.hid (zrw_kept XB.out hgrow1 NXB.out))
                | (refine step_appz0 (t := 23) (e := 3) rfl (.tmp 67) (.tmp 71) rfl Tryd.underlying23 info3 wx.heap.size (.slice (some ⟨wx.heap.size + 1, 0, none⟩) 0 0) [] (L.take j) (by simp [Act.eval]) LC.out aq j cq (by simp [Act.eval]) SC.out hnq LT pa pb3 ?_; intro va1 wa1 hown1 hgrow1; rw [List.nil_append] at hown1; have B1 := ownz_grow LC.out BC.out pb3 hgrow1; have g1 := B1.size; have X1 := Lib.hid (zrw_kept XC.out hgrow1 NXC.out)))
              refine hK.out _ _ ?_ (fun hHeld => ?_)
              · (try dsimp only)
                with_reducible refine S0.out _ ?_; (repeat' (first | (with_reducible exact B3) | (with_reducible exact B2) | (with_reducible exact B1) | (with_reducible exact Below.refl _ _) | (with_reducible refine below_alloc' ?_ (Nat.le_refl _) _) | (with_reducible refine Below.drew ?_)))
              clear hK K
              (try simp only [Act.put, List.setIfInBounds_toArray, List.set_cons_zero, List.set_cons_succ])
              refine anyz_ready (rs := [11]) (by kernel_rfl) (by simp) ?_
              refine AllZ.cons (o := { dst := some 78, op := Op.call { callee := Callee.builtin Builtin.append, args := #[Operand.tmp 72, Operand.tmp 77], argTypes := #[23, 23] }, type := 23, pos := "ref.go:102", after := #[{ on := 5, ground := Ground.data }, { on := 10, ground := Ground.data }, { on := 5, ground := Ground.chain }], guard := none }) rfl (fun K hK => ?_) AllZ.nil
              (first
                | (refine step_appz0 (t := 23) (e := 3) rfl (.tmp 72) (.tmp 77) rfl Tryd.underlying23 info3 wx.heap.size va1 (L.take j) [x] (by simp [Act.eval]) (World.ownsRow.alloc hown1 _) (some ⟨wa1.heap.size, 0, none⟩) 1 1 (by simp [Act.eval]) (zrw_uno wa1 x) (fun h => by cases h) rfl pc (by simp; omega) ?_; intro va2 w2b hown2 hgrow2; have B2 := ownz_grow (World.ownsRow.alloc hown1 (.cells #[.int .i64 x] 3)) (B1.alloc g1 (.cells #[.int .i64 x] 3)) (Nat.le_trans g1 (by simp)) hgrow2; have g2 := B2.size)
                | (refine step_appz0 (t := 23) (e := 3) rfl (.tmp 72) (.tmp 77) rfl Tryd.underlying23 info3 wx.heap.size va1 (L.take j) [x] (by simp [Act.eval]) hown1 (some ⟨wx.heap.size + 1, 0, none⟩) 1 1 (by simp [Act.eval]) X1.out (fun h => by cases h) rfl pc g1 ?_; intro va2 w2b hown2 hgrow2; have B2 := ownz_grow hown1 B1 g1 hgrow2; have g2 := B2.size)
                | (refine step_appz0 (t := 23) (e := 3) rfl (.tmp 72) (.tmp 77) rfl Tryd.underlying23 info3 wx.heap.size va1 (L.take j) [x] (by simp [Act.eval]) hown1 (some ⟨wx.heap.size, 0, none⟩) 1 1 (by simp [Act.eval]) X1.out (fun h => by cases h) rfl pc g1 ?_; intro va2 w2b hown2 hgrow2; have B2 := ownz_grow hown1 B1 g1 hgrow2; have g2 := B2.size))
              refine hK.out _ _ ?_ (fun hHeld => ?_)
              · (try dsimp only)
                with_reducible refine S0.out _ ?_; (repeat' (first | (with_reducible exact B3) | (with_reducible exact B2) | (with_reducible exact B1) | (with_reducible exact Below.refl _ _) | (with_reducible refine below_alloc' ?_ (Nat.le_refl _) _) | (with_reducible refine Below.drew ?_)))
              clear hK K
              (try simp only [Act.put, List.setIfInBounds_toArray, List.set_cons_zero, List.set_cons_succ])
              refine anyz_ready (rs := [16]) (by kernel_rfl) (by simp) ?_
              refine AllZ.cons (o := { dst := some 83, op := Op.call { callee := Callee.builtin Builtin.append, args := #[Operand.tmp 78, Operand.tmp 82], argTypes := #[23, 23] }, type := 23, pos := "ref.go:102", after := #[{ on := 11, ground := Ground.data }, { on := 15, ground := Ground.data }, { on := 11, ground := Ground.chain }], guard := none }) rfl (fun K hK => ?_) AllZ.nil
              (refine step_appz0 (t := 23) (e := 3) rfl (.tmp 78) (.tmp 82) rfl Tryd.underlying23 info3 wx.heap.size va2 (L.take j ++ [x]) (L.drop j) (by simp [Act.eval]) hown2 af 0 (cq - j) (by simp [Act.eval]) (SF.out w2b B2) nf LD pd g2 ?_; intro v3 w3b hown3 hgrow3; have B3 := ownz_grow hown2 B2 g2 hgrow3; obtain ⟨a9, c9, hv9, _, _, _, _⟩ := own_zrw hown3; obtain ⟨q9, hq9⟩ : ∃ q, q = (L.take j ++ [x] ++ L.drop j).length := ⟨_, rfl⟩; rw [← hq9] at hv9; subst hv9; clear hq9)
              refine hK.out _ _ ?_ (fun hHeld => ?_)
              · (try dsimp only)
                with_reducible refine S0.out _ ?_; (repeat' (first | (with_reducible exact B3) | (with_reducible exact B2) | (with_reducible exact B1) | (with_reducible exact Below.refl _ _) | (with_reducible refine below_alloc' ?_ (Nat.le_refl _) _) | (with_reducible refine Below.drew ?_)))
              clear hK K
              (try simp only [Act.put, List.setIfInBounds_toArray, List.set_cons_zero, List.set_cons_succ])
              refine anyz_take (i := 17) (oi := { dst := some 84, op := Op.fieldAddr 25 (Operand.tmp 8) 2, type := 0, pos := "ref.go:102", after := #[{ on := 0, ground := Ground.phase }, { on := 1, ground := Ground.phase }, { on := 2, ground := Ground.phase }, { on := 3, ground := Ground.phase }, { on := 4, ground := Ground.phase }, { on := 5, ground := Ground.phase }, { on := 6, ground := Ground.phase }, { on := 7, ground := Ground.phase }, { on := 8, ground := Ground.phase }, { on := 9, ground := Ground.phase }, { on := 10, ground := Ground.phase }, { on := 11, ground := Ground.phase }, { on := 12, ground := Ground.phase }, { on := 13, ground := Ground.phase }, { on := 14, ground := Ground.phase }, { on := 15, ground := Ground.phase }, { on := 16, ground := Ground.phase }], guard := none }) (v := .pointer (some ⟨k8, 2, none⟩)) rfl (by kernel_rfl) (by kernel_rfl) (by kernel_rfl) (by kernel_rfl) (fun _ _ _ h => h) (Or.inl ⟨by rfl, fun w hSw => by (try dsimp only at hSw); go_simp⟩) (by assumption) ?_
              (try simp only [Act.put, List.setIfInBounds_toArray, List.set_cons_zero, List.set_cons_succ])
              refine anyz_ready (rs := [18]) (by kernel_rfl) (by simp) ?_
              have KF := Lib.hid (KX.out.below B3 hk8x)
              have u2 := KF.out.cell 2
              have uf := KF.out.frozen 2
              simp only [List.getElem?_cons_zero, List.getElem?_cons_succ] at u2
              refine AllZ.last (o := { dst := none, op := Op.store 23 (Operand.tmp 84) (Operand.tmp 83), type := 0, pos := "ref.go:102", after := #[{ on := 17, ground := Ground.data }, { on := 16, ground := Ground.data }, { on := 16, ground := Ground.chain }, { on := 0, ground := Ground.phase }, { on := 1, ground := Ground.phase }, { on := 2, ground := Ground.phase }, { on := 3, ground := Ground.phase }, { on := 4, ground := Ground.phase }, { on := 5, ground := Ground.phase }, { on := 6, ground := Ground.phase }, { on := 7, ground := Ground.phase }, { on := 8, ground := Ground.phase }, { on := 9, ground := Ground.phase }, { on := 10, ground := Ground.phase }, { on := 11, ground := Ground.phase }, { on := 12, ground := Ground.phase }, { on := 13, ground := Ground.phase }, { on := 14, ground := Ground.phase }, { on := 15, ground := Ground.phase }, { on := 16, ground := Ground.phase }], guard := none }) rfl (fun K hK => ?_)
              go_simp
              refine hK.out _ _ ?_
              refine anyz_done (by kernel_rfl) ?_ _
              clear hK K
              have O9 : Hid (OwnZ (w3b.setCell ⟨k8, 2, none⟩ (.slice a9 q9 c9)) w2.heap.size (.slice a9 q9 c9) (sortU ltI (p.take (i + 1)))) := by
                show OwnZ _ _ _ _
                rw [sortz_step p i x GX.out, ← HL.out, ins_at, if_neg (by rw [hpl.out]; exact NEW.out), hpl.out]
                have h3 : OwnZ w3b wx.heap.size (.slice a9 q9 c9) (L.take j ++ [x] ++ L.drop j) := hown3
                rw [List.append_assoc] at h3
                exact ownz_set (h3.low SZX.out) SZ2.out
              have K9 := Lib.hid (KF.out.set 2 (.slice a9 q9 c9))
              have D9 : Hid (Below w1.heap.size w1 (w3b.setCell ⟨k8, 2, none⟩ (.slice a9 q9 c9))) := (DX.out.trans (B3.mono DX.out.size)).setCell (p := ⟨k8, 2, none⟩) (Nat.le_of_eq HK8.out.symm) _
              have S9 : Hid (w2.heap.size ≤ (w3b.setCell ⟨k8, 2, none⟩ (.slice a9 q9 c9)).heap.size) := by show _ ≤ _; rw [World.size_setCell]; exact Nat.le_trans SZX.out B3.size
              go_wp2_with fail
              go_roundw
              case rel => exact ⟨i + 1, .slice a9 q9 c9, by omega, by go_num, D9.out, S9.out, K9.out, O9.out⟩
              case measure => simp [RowKit.intOf]; omega
        · obtain rfl : i = np := by omega
          have ho := hO.out
          rw [List.take_of_length_le (by rw [HP.out]; exact Nat.le_refl _)] at ho
          obtain ⟨ap, cp2, rfl, hcq, hmq, hzq, hnq⟩ := own_zrw ho
          have hfar : ∀ b o, ap = some ⟨b, o, none⟩ → w2.heap.size ≤ b := fun b o e => (ho.lt b (by rw [e]; rfl)).1
          obtain ⟨q, hq⟩ : ∃ q, q = sortU ltI p := ⟨_, rfl⟩
          rw [← hq] at hcq hzq
          rw [← hq] at hK
          obtain ⟨nq, hnq2⟩ : ∃ nq, nq = q.length := ⟨_, rfl⟩
          rw [← hnq2] at hcq hK
          have CQ := Lib.hid (refokp_any (g + 1) r ap q nq cp2 w3 hzq hnq2.symm (by omega) HR.out)
          have t0 := hK.out.cell 0
          have t1 := hK.out.cell 1
          have t2 := hK.out.cell 2
          simp only [List.getElem?_cons_zero, List.getElem?_cons_succ] at t0 t1 t2
          have HQ := Lib.hid hq
          have HNQ2 := Lib.hid hnq2
          have HZQ := Lib.hid hzq
          have HFAR := Lib.hid hfar
          have HNQ := Lib.hid hnq
          have HNX : Hid (nextL ⟨g, sr, sp⟩ r p = if okP ⟨g + 1, r, q⟩ = true then some ⟨g + 1, r, q⟩ else none) := by show _ = _; rw [hq]; simp [nextL, HOK.out]
          have KB := Lib.hid hK.out
          have BW3 := Lib.hid (below_chain B2.out hD.out)
          have K73 := Lib.hid (K7.out.low hD.out)
          have HWS : Hid (w.heap.size + 1 < w2.heap.size) := by show _ < _; have := K7.out.lt; have := SZ2.out; have := HK8.out; omega
          clear ho hfar hzq hq hnq2 hnq hK hO hD hi
          go_wp2_with fail
          refine CQ.out.mono ?_
          rintro e w4 ⟨rfl, b4⟩
          have B4 := Lib.hid (below_chain BW3.out b4)
          have K4 := Lib.hid (K73.out.low b4)
          have KB4 := Lib.hid (KB.out.low b4)
          have Z4 := Lib.hid (HZQ.out.below b4)
          have t0 := KB4.out.cell 0
          have t1 := KB4.out.cell 1
          have t2 := KB4.out.cell 2
          have k0 := K4.out.cell 0
          have k1 := K4.out.cell 1
          have k2 := K4.out.cell 2
          have kf := fun j => K4.out.frozen j
          simp only [List.getElem?_cons_zero, List.getElem?_cons_succ] at t0 t1 t2 k0 k1 k2
          clear b4 CQ BW3 K73 KB HZQ
          rcases Bool.eq_false_or_eq_true (okP ⟨g + 1, r, q⟩) with hok2 | hok2
          · rw [hok2]
            have hx := HNX.out
            rw [if_pos hok2] at hx
            have HX := Lib.hid hx
            have FA : ∀ b o, ap = some ⟨b, o, none⟩ → w.heap.size + 1 < b := fun b o e => Nat.lt_of_lt_of_le HWS.out (HFAR.out b o e)
            have HFA := Lib.hid FA
            clear hok2 hx FA
            go_wp2_with fail
            exact bodyPost_ret (results_row_tmp rfl _ _ (w.heap.size + 1) 25 _ _ _ rfl rfl (((K4.out.set 0 (.int .i64 (g + 1))).set 1 (.string r)).set 2 (.slice ap nq cp2)) Tryd.underlying25 rfl (size25 _ _ _)) rfl
              ⟨((B4.out.setCell (p := ⟨w.heap.size + 1, 0, none⟩) (Nat.le_succ _) (.int .i64 (g + 1))).setCell (p := ⟨w.heap.size + 1, 1, none⟩) (Nat.le_succ _) (.string r)).setCell (p := ⟨w.heap.size + 1, 2, none⟩) (Nat.le_succ _) (.slice ap nq cp2), _, by rw [HX.out]; rfl, by
                rw [HX.out, Option.getD_some]
                exact ⟨ap, cp2, by rw [← HNQ2.out]; rfl, zrw_set (zrw_set (zrw_set Z4.out _ _ HFA.out) _ _ HFA.out) _ _ HFA.out, HNQ.out, by rw [← HNQ2.out]; exact hcq, hmq, HR.out, fun b o e => by have := HFA.out b o e; omega⟩⟩
          · rw [hok2]
            have hx := HNX.out
            rw [if_neg (by rw [hok2]; decide)] at hx
            have HX := Lib.hid hx
            clear hok2 hx
            go_wp2_with fail
            exact bodyPost_ret (results_row_tmp rfl _ _ (w.heap.size + 1) 25 _ _ _ rfl rfl (((K4.out.set 0 (.int .i64 0)).set 1 (.string ⟨#[]⟩)).set 2 (.slice none 0 0)) Tryd.underlying25 rfl (size25 _ _ _)) rfl
              (by exact ZERO.out _ (((B4.out.setCell (p := ⟨w.heap.size + 1, 0, none⟩) (Nat.le_succ _) (.int .i64 0)).setCell (p := ⟨w.heap.size + 1, 1, none⟩) (Nat.le_succ _) (.string ⟨#[]⟩)).setCell (p := ⟨w.heap.size + 1, 2, none⟩) (Nat.le_succ _) (.slice none 0 0)) HX.out)
  · rw [hok]
    have HN := Lib.hid (nextL_bad (s := ⟨g, sr, sp⟩) (r := r) (p := p) hok)
    clear hok
    go_wp2_with fail
    exact bodyPost_ret (results_row_tmp rfl _ _ (w.heap.size + 1) 25 _ _ _ rfl rfl (((K7.out.set 0 (.int .i64 0)).set 1 (.string ⟨#[]⟩)).set 2 (.slice none 0 0)) Tryd.underlying25 rfl (size25 _ _ _)) rfl
      (by exact ZERO.out _ (((B2.out.setCell (p := ⟨w.heap.size + 1, 0, none⟩) (Nat.le_succ _) (.int .i64 0)).setCell (p := ⟨w.heap.size + 1, 1, none⟩) (Nat.le_succ _) (.string ⟨#[]⟩)).setCell (p := ⟨w.heap.size + 1, 2, none⟩) (Nat.le_succ _) (.slice none 0 0)) HN.out)
end Go.Proofs.YtlpbkjonicjccaaDoor.Sh
