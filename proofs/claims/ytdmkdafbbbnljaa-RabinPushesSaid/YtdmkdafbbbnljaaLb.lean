/-
  The walk of the statement RabinPushes. No condition.
-/
import Derived.Test.YtdmkdafbbbnljaaLa
import Derived.Laws.MakeOwn
import Derived.Laws.OwnMore
import Derived.BigFrame
namespace Go.Proofs.Ytdmkdafbbbnljaa.Rb
open Go.RowKit Go.Lib

/-- append of bytes to a row of the call's own, at an operation that is guarded, and wanted -/
theorem wpl_app_w {P : Program} {t e : TypeId} {w : World} {ops : Array Oper} {rest : List Oper} {o : Oper} {a : Act} {Q : Exit → Act → World → Prop} (hw : Region.wanted o (yielded ops a.tmps) = true) (s x : Operand)
    (ho : o.op = .call { callee := .builtin .append, args := #[s, x], argTypes := #[t, t] })
    (ht : P.underlying t = some (.slice e)) (hinf : (P.info? e).map (fun i => (i.zero, i.size, i.bytes)) = some (some (.int .u8 0), 1, 1))
    (base : Nat) (v : Value) (xs l : List UInt8) (hs : a.eval s = v) (hown : w.ownsRow base e 1 v xs.length (bs xs))
    (ao : Option Addr) (c : Nat) (hx : a.eval x = .slice ao l.length c) (hr : Byt w ao l) (hn : ao = none → c = 0)
    (h47 : xs.length + l.length ≤ 140737488355328) (hbase : base ≤ w.heap.size)
    (h : ∀ v' w', w'.ownsRow base e 1 v' (xs ++ l).length (bs (xs ++ l)) → w.grownBy w' v.ownBlock → wpList P ops Q rest (a.put o.dst v') w') : wpList P ops Q (o :: rest) a w := by
  obtain ⟨i0, hi, hz0, hz1, hz2⟩ := info_parts hinf
  refine BigFrame.wpList_want hw fun K hK => ?_
  cases ao with
  | none =>
    obtain rfl : l = [] := by
      cases l with
      | nil => rfl
      | cons y r =>
        obtain ⟨b, o, h0, _⟩ := hr (by simp)
        cases h0
    have hc := hn rfl
    subst hc
    have hrun := run_append_owned_none (P := P) (w := w) base t o.type e i0 1 ht hi v xs.length (bs xs) hown
    have hx0 : a.eval x = .slice none 0 0 := hx
    unfold Oper.wp
    simp [execOp, ho, resolve, invoke, builtin, hs, hx0, hrun, Result.andThen]
    exact hK _ _ (h v w (by simpa using hown) (World.grownBy.refl w _))
  | some ad =>
    refine wp_append_own w s x t ho base e i0 (.int .u8 0) 1 1 ht hi hz0 hz1 hz2 rfl (by decide) v xs.length (bs xs) hs hown ad l.length c (bs l) hx (by simp [bs]) ?_ (bs_one l)
      (by unfold maxLen; omega) (by omega) hbase (fun v' w' h1 h2 _ => hK _ _ (h v' w' (by rw [List.length_append, bs_app]; exact h1) h2))
    intro j u hj
    have hjl : j < l.length := by
      have := (List.getElem?_eq_some_iff.1 hj).1
      simpa [bs] using this
    obtain ⟨b, o', h0, _, hcell⟩ := hr (by intro h0; rw [h0] at hjl; simp at hjl)
    injection h0 with h0
    subst h0
    rw [WideShapes.add_plain, hcell j hjl]
    rw [bs_get l j hjl] at hj
    exact hj
theorem made0 (n : Nat) : madeCells (Value.int .u8 0).cells n = Array.replicate n (.int .u8 0) := by
  unfold madeCells
  apply Array.ext
  · simp
  · intro i h1 h2
    simp [Value.cells, Nat.mod_one]
theorem make_u8 (n : Nat) (hn : n ≤ 281474976710656) (W : World) :
    (Instr.makeSlice 22 (.int .i64 (n : Int)) (.int .i64 (n : Int))).run Try.prog W = .ok (.slice (some ⟨W.heap.size, 0, none⟩) n n) (W.alloc (.cells (Array.replicate n (.int .u8 0)) 5)) := by
  obtain ⟨i0, hi, hz0, hz1, hz2⟩ := info_parts info5
  have h := run_make (P := Try.prog) W 22 5 i0 (.int .u8 0) Try.underlying22 hi hz0 .i64 .i64 n n (by omega) (by omega) (by rw [hz2]; omega) (by omega)
  rw [Int.toNat_natCast, hz1, Nat.mul_one, made0] at h
  exact h
theorem bs_zeros (n : Nat) : (bs (List.replicate n 0)).toArray = Array.replicate n (.int .u8 0) := by
  apply Array.ext'
  simp [bs]

set_option maxHeartbeats 2000000 in
set_option maxRecDepth 100000 in
theorem pushes_law (ao : Option Addr) (l : List UInt8) (c : Nat) (n : Int) (w : World) (h : Byt w ao l) (hnl : ao = none → c = 0) (hc : l.length ≤ c) (hc2 : c ≤ 9223372036854775807) :
    Calls Try.prog 3 #[.slice ao l.length c, .int .i64 n] w fun e w' => e = .returned (.bool true) ∧ Below w.heap.size w w' := by
  have C8 := Lib.hid heads_any
  by_cases hg : 500 < l.length
  · have d1 : ((l.length : Int) > 500) := by omega
    clear h
    go_enter Try.func3, Try.ntmps3
    go_wp2_with fail
    refine (C8.out _).mono ?_
    rintro e w1 ⟨rfl, b1⟩
    go_wp2_with fail
    go_ret
    exact ⟨rfl, b1⟩
  · have d1 : ¬ ((l.length : Int) > 500) := by omega
    by_cases hn0 : n < 0
    · clear h
      go_enter Try.func3, Try.ntmps3
      go_wp2_with fail
      refine (C8.out _).mono ?_
      rintro e w1 ⟨rfl, b1⟩
      go_wp2_with fail
      go_ret
      exact ⟨rfl, b1⟩
    · by_cases hn1 : n > 100
      · clear h
        go_enter Try.func3, Try.ntmps3
        go_wp2_with fail
        refine (C8.out _).mono ?_
        rintro e w1 ⟨rfl, b1⟩
        go_wp2_with fail
        go_ret
        exact ⟨rfl, b1⟩
      · obtain ⟨k, rfl⟩ : ∃ k : Nat, n = (k : Int) := ⟨n.toNat, by omega⟩
        have hk : k ≤ 100 := by omega
        have HC := Lib.hid h
        have C9 := Lib.hid push_any
        have C10 := Lib.hid (fun W (hB : Below w.heap.size w W) => window_any ao l c W (h.below hB) hc hc2)
        have B0 := Lib.hid (Below.refl w.heap.size w)
        have HY := Lib.hid (fun W (hB : Below w.heap.size w W) => h.below hB)
        have mk := fun W => make_u8 k (by omega) W
        clear h
        go_enter Try.func3, Try.ntmps3
        go_wp2_with fail
        go_loopw [5, 6] (fun vx vi wq => ∃ (i y q : Nat), i ≤ l.length ∧ vx = .int .u64 y ∧ vi = .int .i64 i ∧ y < 2147483648 ∧ Hid (y = win 0 (l.take i)) ∧ wq = w.drewN q) (fun _ vi _ => l.length - (RowKit.intOf vi).toNat)
        case atStart => exact ⟨0, 0, 0, by omega, rfl, rfl, by decide, rfl, rfl⟩
        case round =>
          obtain ⟨i, y, q, hi, rfl, rfl, hy, hyr, rfl⟩ := hrel
          by_cases hil : i < l.length
          · obtain ⟨b, o, rfl, hb, hcell⟩ := HC.out (by intro h0; rw [h0] at hil; simp at hil)
            have hn : Hid (push y (l[i]).toNat = win 0 (l.take (i + 1))) := by show _ = _; rw [win_take _ _ _ hil, ← hyr.out]
            have d1 := hcell i hil
            have HL := Lib.hid (push_lt y (l[i]).toNat (by omega) (l[i]).toNat_lt)
            have C1 := Lib.hid (C9.out y l[i] (by omega))
            generalize l[i] = x at *
            generalize push y x.toNat = z at *
            clear hcell hyr
            go_wp2_with fail
            refine (C1.out _).mono ?_
            rintro e w' ⟨rfl, q2, rfl⟩
            go_wp2_with fail
            go_roundw
            case rel => exact ⟨i + 1, z, q + q2, by omega, rfl, by go_num, HL.out, hn, rfl⟩
            case measure => simp [RowKit.intOf]; omega
          · obtain rfl : i = l.length := by omega
            have e : Hid (y = window l) := by show _ = _; rw [hyr.out, List.take_length]; rfl
            have B1 := Lib.hid (below_drewN B0.out q)
            clear hyr
            have WN := Lib.hid (win_zeros k l)
            obtain ⟨v, hv⟩ : ∃ v, v = window l := ⟨_, rfl⟩
            rw [← hv] at C10 e WN
            clear hv
            obtain rfl := e.out
            clear e
            go_wp2_with fail
            refine (C10.out _ B1.out).mono ?_
            rintro e w1 ⟨rfl, b1⟩
            have B2 := Lib.hid (below_chain B1.out b1)
            have hO : Own (w1.alloc (.cells (Array.replicate k (.int .u8 0)) 5)) w1.heap.size (.slice (some ⟨w1.heap.size, 0, none⟩) k k) (List.replicate k 0) := by
              have := own_lit w1 (List.replicate k 0) w1.heap.size (Nat.le_refl _) (by rw [List.length_replicate]; omega)
              rw [bs_zeros, List.length_replicate] at this
              exact this
            have hO2 : Hid ((w1.alloc (.cells (Array.replicate k (.int .u8 0)) 5)).ownsRow w1.heap.size 5 1 (.slice (some ⟨w1.heap.size, 0, none⟩) k k) (List.replicate k (0 : UInt8)).length (bs (List.replicate k 0))) := hO
            have HY2 := Lib.hid (HY.out _ (below_alloc B2.out (.cells (Array.replicate k (.int .u8 0)) 5)))
            have HL := Lib.hid (show (List.replicate k (0 : UInt8)).length + l.length ≤ 140737488355328 by rw [List.length_replicate]; omega)
            clear b1 hO
            go_wp2_with (at_builtin; refine wpl_app_w (t := 22) (e := 5) rfl (.tmp 37) (.tmp 38) rfl Try.underlying22 info5 w1.heap.size _ (List.replicate k 0) l rfl hO2.out ao c rfl HY2.out hnl HL.out (by simp) ?_; intro v' w2 own2 grow2)
            have B3 := Lib.hid ((below_alloc B2.out (.cells (Array.replicate k (.int .u8 0)) 5)).grown grow2 (by have := B2.out.size; simp; omega) (by intro j hj; cases hj; exact B2.out.size))
            obtain ⟨a3, c3, rfl, x1, x2, r3, n3⟩ := own_byt own2
            have C3 := Lib.hid (window_any a3 _ c3 w2 r3 x1 x2)
            rw [show window (List.replicate k 0 ++ l) = _ from WN.out] at C3
            clear own2 grow2 r3
            go_wp2_with fail
            refine C3.out.mono ?_
            rintro e w3 ⟨rfl, b3⟩
            have B4 := Lib.hid (below_chain B3.out b3)
            clear b3
            go_wp2_with fail
            refine (C8.out _).mono ?_
            rintro e w4 ⟨rfl, b4⟩
            have B5 := Lib.hid (below_chain B4.out b4)
            clear b4
            go_wp2_with fail
            go_ret
            exact ⟨rfl, B5.out⟩
end Go.Proofs.Ytdmkdafbbbnljaa.Rb
