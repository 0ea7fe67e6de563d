/-
  The walk of the statement KeyKinds. Condition: the tables of sha stand in memory.
-/
import Derived.Test.YtjjcdlbmpopfcaaDoorLa
import Derived.BigFrame
namespace Go.Proofs.YtjjcdlbmpopfcaaDoor.Sh
open Go.RowKit Go.Lib

/-- append of bytes to a row of the call's own, at an operation that is guarded, and wanted -/
theorem wpl_app_w {P : Program} {t e : TypeId} {w : World} {ops : Array Oper} {rest : List Oper} {o : Oper} {a : Act} {Q : Exit → Act → World → Prop} (hw : Region.wanted o (yielded ops a.tmps) = true) (s x : Operand)
    (ho : o.op = .call { callee := .builtin .append, args := #[s, x], argTypes := #[t, t] })
    (ht : P.underlying t = some (.slice e)) (hinf : (P.info? e).map (fun i => (i.zero, i.size, i.bytes)) = some (some (.int .u8 0), 1, 1))
    (base : Nat) (v : Value) (xs l : List UInt8) (hs : a.eval s = v) (hown : w.ownsRow base e 1 v xs.length (bs xs))
    (ao : Option Addr) (c : Nat) (hx : a.eval x = .slice ao l.length c) (hr : Byt w ao l) (hn : ao = none → c = 0)
    (h47 : xs.length + l.length ≤ 140737488355328) (hbase : base ≤ w.heap.size)
    (h : ∀ v' w', w'.ownsRow base e 1 v' (xs ++ l).length (bs (xs ++ l)) → w.grownBy w' v.ownBlock → wpList P ops Q rest (a.put o.dst v') w') : wpList P ops Q (o :: rest) a w := by
  obtain ⟨i0, hi, hz0, hz1, hz2⟩ := info_parts hinf
  refine BigFrame.wpList_want hw fun K hK => ?_
  cases ao with
  | none =>
    obtain rfl : l = [] := by
      cases l with
      | nil => rfl
      | cons y r =>
        obtain ⟨b, o, h0, _⟩ := hr (by simp)
        cases h0
    have hc := hn rfl
    subst hc
    have hrun := run_append_owned_none (P := P) (w := w) base t o.type e i0 1 ht hi v xs.length (bs xs) hown
    have hx0 : a.eval x = .slice none 0 0 := hx
    unfold Oper.wp
    simp [execOp, ho, resolve, invoke, builtin, hs, hx0, hrun, Result.andThen]
    exact hK _ _ (h v w (by simpa using hown) (World.grownBy.refl w _))
  | some ad =>
    refine wp_append_own w s x t ho base e i0 (.int .u8 0) 1 1 ht hi hz0 hz1 hz2 rfl (by decide) v xs.length (bs xs) hs hown ad l.length c (bs l) hx (by simp [bs]) ?_ (bs_one l)
      (by unfold maxLen; omega) (by omega) hbase (fun v' w' h1 h2 _ => hK _ _ (h v' w' (by rw [List.length_append, bs_app]; exact h1) h2))
    intro j u hj
    have hjl : j < l.length := by
      have := (List.getElem?_eq_some_iff.1 hj).1
      simpa [bs] using this
    obtain ⟨b, o', h0, _, hcell⟩ := hr (by intro h0; rw [h0] at hjl; simp at hjl)
    injection h0 with h0
    subst h0
    rw [WideShapes.add_plain, hcell j hjl]
    rw [bs_get l j hjl] at hj
    exact hj
theorem wpl_app_wl {P : Program} {t e : TypeId} {w : World} {ops : Array Oper} {rest : List Oper} {o : Oper} {a : Act} {Q : Exit → Act → World → Prop} (hw : Region.wanted o (yielded ops a.tmps) = true) (s x : Operand)
    (ho : o.op = .call { callee := .builtin .append, args := #[s, x], argTypes := #[t, t] })
    (ht : P.underlying t = some (.slice e)) (hinf : (P.info? e).map (fun i => (i.zero, i.size, i.bytes)) = some (some (.int .u8 0), 1, 1))
    (base : Nat) (v : Value) (xs l : List UInt8) (hs : a.eval s = v) (hown : w.ownsRow base e 1 v xs.length (bs xs))
    (ao : Option Addr) (m c : Nat) (hx : a.eval x = .slice ao m c) (hr : Byt w ao l) (hn : ao = none → c = 0) (hm : Hid (l.length = m))
    (h47 : xs.length + m ≤ 140737488355328) (hbase : base ≤ w.heap.size)
    (h : ∀ v' w', w'.ownsRow base e 1 v' (xs ++ l).length (bs (xs ++ l)) → w.grownBy w' v.ownBlock → wpList P ops Q rest (a.put o.dst v') w') : wpList P ops Q (o :: rest) a w := by
  have hm' : l.length = m := hm
  subst hm'
  exact wpl_app_w hw s x ho ht hinf base v xs l hs hown ao c hx hr hn h47 hbase h
theorem kb_more (kind : Int) : kb (kind + 256) = kb kind := by unfold kb; congr 2; omega
theorem kb_less (kind : Int) : kb (kind - 256) = kb kind := by unfold kb; congr 2; omega
theorem keyS_more (kind : Int) (l : List UInt8) : keyS (kind + 256) l = keyS kind l := by unfold keyS; rw [kb_more]
theorem keyS_less (kind : Int) (l : List UInt8) : keyS (kind - 256) l = keyS kind l := by unfold keyS; rw [kb_less]
set_option maxHeartbeats 4000000 in
set_option maxRecDepth 100000 in
theorem kinds_law (kind : Int) (ao : Option Addr) (l : List UInt8) (c : Nat) (w : World) (hl : Lay w) (h : Byt w ao l) (hn : ao = none → c = 0) :
    Calls Tryd.prog 3 #[.int .i64 kind, .slice ao l.length c] w fun e w' => e = .returned (.bool true) ∧ Below w.heap.size w w' := by
  have H := Lib.hid h
  have LY := Lib.hid hl
  have HN := Lib.hid hn
  obtain ⟨n, hln⟩ : ∃ n, n = l.length := ⟨_, rfl⟩
  have HL : Hid (l.length = n) := hln.symm
  rw [← hln]
  clear h hl hn hln
  have C := Lib.hid (heads_any w LY.out)
  by_cases h1 : 1000 < n
  · have t1 : decide ((1000 : Int) < (n : Int)) = true := by simp; omega
    go_enter Tryd.func3, Tryd.ntmps3
    go_wp2_with fail
    refine C.out.mono ?_
    rintro e w1 ⟨rfl, hb⟩
    have HB := Lib.hid hb
    go_wp2_with fail
    go_ret
    exact ⟨rfl, HB.out⟩
  by_cases h2 : kind < 0
  · have t1 : decide ((1000 : Int) < (n : Int)) = false := by simp; omega
    have t2 : decide (kind < 0) = true := by simp; omega
    go_enter Tryd.func3, Tryd.ntmps3
    go_wp2_with fail
    refine C.out.mono ?_
    rintro e w1 ⟨rfl, hb⟩
    have HB := Lib.hid hb
    go_wp2_with fail
    go_ret
    exact ⟨rfl, HB.out⟩
  by_cases h3 : 255 < kind
  · have t1 : decide ((1000 : Int) < (n : Int)) = false := by simp; omega
    have t2 : decide (kind < 0) = false := by simp; omega
    have t3 : decide (255 < kind) = true := by simp; omega
    go_enter Tryd.func3, Tryd.ntmps3
    go_wp2_with fail
    refine C.out.mono ?_
    rintro e w1 ⟨rfl, hb⟩
    have HB := Lib.hid hb
    go_wp2_with fail
    go_ret
    exact ⟨rfl, HB.out⟩
  · have h1 : n ≤ 1000 := by omega
    have h2 : 0 ≤ kind := by omega
    have h3 : kind ≤ 255 := by omega
    clear C
    have t1 : decide ((1000 : Int) < (n : Int)) = false := by simp; omega
    have t2 : decide (kind < 0) = false := by simp; omega
    have t3 : decide (255 < kind) = false := by simp; omega
    have w1 : IntKind.i64.wrap (kind + 256) = kind + 256 := IntWalk.i64_in _ (by omega)
    have w2 : IntKind.i64.wrap (kind - 256) = kind - 256 := IntWalk.i64_in _ (by omega)
    have CA := Lib.hid (fun W (hB : Below w.heap.size w W) => of_any kind ao l n c W (LY.out.below hB) (H.out.below hB) HN.out HL.out (by omega))
    have CB := Lib.hid (fun W (hB : Below w.heap.size w W) => of_any (kind + 256) ao l n c W (LY.out.below hB) (H.out.below hB) HN.out HL.out (by omega))
    have CC := Lib.hid (fun W (hB : Below w.heap.size w W) => of_any (kind - 256) ao l n c W (LY.out.below hB) (H.out.below hB) HN.out HL.out (by omega))
    rw [keyS_more] at CB
    rw [keyS_less] at CC
    obtain ⟨K, hK⟩ : ∃ K, K = keyS kind l := ⟨_, rfl⟩
    rw [← hK] at CA CB CC
    have HK : Hid (keyS kind l = K) := hK.symm
    clear hK
    go_enter Tryd.func3, Tryd.ntmps3
    go_wp2_with fail
    refine (CA.out w (Below.refl _ _)).mono ?_
    rintro e w1 ⟨rfl, hb⟩
    have B1 := Lib.hid hb
    clear hb
    go_wp2_with fail
    refine (CB.out _ B1.out).mono ?_
    rintro e w2 ⟨rfl, hb⟩
    have B2 := Lib.hid (below_chain B1.out hb)
    clear hb
    go_wp2_with fail
    refine (CC.out _ B2.out).mono ?_
    rintro e w3 ⟨rfl, hb⟩
    have B3 := Lib.hid (below_chain B2.out hb)
    have LIT : Hid (Own (w3.alloc (.cells #[] 5)) w3.heap.size (.slice (some ⟨w3.heap.size, 0, none⟩) 0 0) []) := own_lit w3 [] w3.heap.size (Nat.le_refl _) (by simp)
    have HY := Lib.hid (H.out.below (below_alloc B3.out (.cells #[] 5)))
    have P2 : Hid (w3.heap.size ≤ (w3.alloc (.cells #[] 5)).heap.size) := by show _ ≤ _; simp
    have p1 : ([] : List UInt8).length + n ≤ 140737488355328 := by simp; omega
    clear hb
    go_wp2_with (at_builtin; refine wpl_app_wl (t := 22) (e := 5) rfl (.tmp 37) (.tmp 38) rfl Tryd.underlying22 info5 w3.heap.size _ [] l rfl LIT.out ao n c rfl HY.out HN.out HL.out p1 P2.out ?_; intro v4 w4 hown4 hgrow4)
    have hb4 := (below_alloc B3.out (.cells #[] 5)).grown hgrow4 (by have := B3.out.size; simp; omega) (by intro j hj; cases hj; exact B3.out.size)
    rw [List.nil_append] at hown4
    obtain ⟨a4, c4, rfl, hc4, _, hy4, hn4⟩ := own_byt hown4
    have CD := Lib.hid (of_any kind a4 l n c4 w4 (LY.out.below hb4) hy4 hn4 HL.out (by omega))
    have B4 := Lib.hid hb4
    rw [HL.out]
    clear hown4 hgrow4 hb4 hy4 hn4 hc4
    rw [HK.out] at CD
    refine CD.out.mono ?_
    rintro e w5 ⟨rfl, hb⟩
    have B5 := Lib.hid (below_chain B4.out hb)
    have CH := Lib.hid (heads_any w5 (LY.out.below B5.out))
    clear hb
    go_wp2_with fail
    refine CH.out.mono ?_
    rintro e w6 ⟨rfl, hb⟩
    have B6 := Lib.hid (below_chain B5.out hb)
    clear hb
    go_wp2_with fail
    go_ret
    exact ⟨rfl, B6.out⟩
end Go.Proofs.YtjjcdlbmpopfcaaDoor.Sh
