/-
  The contract of the page's Cached where there is a device. Conditions: none.
-/
import Derived.Test.YtohmdcbfffgheaaXp
namespace Go.Proofs.Ytohmdcbfffgheaa.Dk
open Go.ChangeShapes Go.WideShapes Go.RowKit Go.Lib Go.Maps

section
variable {P : Program} {t e : TypeId}
theorem zs_one (l : List Int) : ∀ u ∈ zs l, u.oneCell' = true := by
  intro u hu
  simp only [zs, List.mem_map] at hu
  obtain ⟨c, _, rfl⟩ := hu
  rfl
theorem zs_at (l : List Int) (j : Nat) (h : j < l.length) : (zs l)[j]? = some (.int .i64 (l[j])) := by simp [zs, h]
/-- append of ints to an own row -/
theorem wpl_appz {w : World} {ops : Array Oper} {rest : List Oper} {o : Oper} {a : Act} {Q : Exit → Act → World → Prop} (hgd : o.guard = none) (s x : Operand)
    (ho : o.op = .call { callee := .builtin .append, args := #[s, x], argTypes := #[t, t] })
    (ht : P.underlying t = some (.slice e)) (hinf : (P.info? e).map (fun i => (i.zero, i.size, i.bytes)) = some (some (.int .i64 0), 1, 8))
    (base : Nat) (v : Value) (xs l : List Int) (hs : a.eval s = v) (hown : w.ownsRow base e 1 v xs.length (zs xs))
    (ad : Addr) (c : Nat) (hx : a.eval x = .slice (some ad) l.length c) (hr : Zrw w (some ad) l)
    (h47 : (xs.length + l.length) * 8 ≤ 140737488355328) (hbase : base ≤ w.heap.size)
    (h : ∀ v' w', w'.ownsRow base e 1 v' (xs ++ l).length (zs (xs ++ l)) → w.grownBy w' v.ownBlock → wpList P ops Q rest (a.put o.dst v') w') : wpList P ops Q (o :: rest) a w := by
  obtain ⟨i0, hi, hz0, hz1, hz2⟩ := info_parts hinf
  refine wpList_append_own w hgd s x t ho base e i0 (.int .i64 0) 1 8 ht hi hz0 hz1 hz2 rfl (by decide) v xs.length (zs xs) hs hown ad l.length c (zs l) hx (by simp [zs]) ?_ (zs_one l)
      (by unfold maxLen; omega) (by omega) hbase (fun v' w' h1 h2 _ => h v' w' (by rw [List.length_append, zs, List.map_append]; exact h1) h2)
  intro j u hj
  have hjl : j < l.length := by
    have := (List.getElem?_eq_some_iff.1 hj).1
    simpa [zs] using this
  obtain ⟨b, o', h0, _, hcell⟩ := hr (by intro h0; rw [h0] at hjl; simp at hjl)
  injection h0 with h0
  subst h0
  rw [WideShapes.add_plain, hcell j hjl]
  rw [zs_at l j hjl] at hj
  exact hj
end
theorem info3 : (Try.prog.info? 3).map (fun i => (i.zero, i.size, i.bytes)) = some (some (.int .i64 0), 1, 8) := by kernel_rfl
theorem zrw_new (w : World) (n : Int) : Zrw (w.alloc (.cells #[.int .i64 n] 3)) (some ⟨w.heap.size, 0, none⟩) [n] := fun _ => by
  refine ⟨w.heap.size, 0, rfl, by simp, fun j hj => ?_⟩
  obtain rfl : j = 0 := by simpa using hj
  rw [World.cell?_alloc_new]
  simp
variable {w : World} {A : List Nat} {g gi bb rb : Nat} {S : List (List UInt8)} {low : Int} {P : Nat → Option (List UInt8)} {dead armed : Bool} {left nw : Int}
set_option maxHeartbeats 4000000 in
set_option maxRecDepth 100000 in
theorem rcached_any (h : RefS w A g gi bb rb S low P dead armed left nw) :
    Calls Try.prog 29 #[.pointer (some ⟨g, 0, none⟩)] w fun e w' => Below w.heap.size w w' ∧ ∃ ao c, e = .returned (.slice ao (keyL P S.length).length c) ∧ (keyL P S.length).length ≤ c ∧ c ≤ 9223372036854775807 ∧ Zrw w' ao (keyL P S.length) := by
  obtain ⟨cap, k1, k2, d⟩ := h.dv
  have c2 : w.cell? ⟨g, 2, none⟩ = some (.slice (some ⟨bb, 0, none⟩) S.length S.length) := Blk.cell d 2
  have hl1 := Blk.lt d
  have hl2 := h.bo.lt
  have HB := Lib.hid h.bo
  have hn2 := h.n2
  clear d k1 k2 h
  go_enter Try.func29, Try.ntmps29
  go_wp2_with fail
  go_loopw [3, 4] (fun v vi wr => ∃ i : Nat, i ≤ S.length ∧ vi = .int .i64 i ∧ Hid (Below w.heap.size w wr) ∧ Hid (wr.ownsRow w.heap.size 3 1 v (keyL P i).length (zs (keyL P i)))) (fun _ vi _ => S.length - (RowKit.intOf vi).toNat)
  case atStart => exact ⟨0, by omega, rfl, Below.refl _ _, World.ownsRow_nil _ _ _ _⟩
  case round =>
    obtain ⟨i, hi, rfl, hB, hO⟩ := hrel
    have e2 : wr.cell? ⟨g, 2, none⟩ = some (.slice (some ⟨bb, 0, none⟩) S.length S.length) := (hB.out.cell (p := ⟨g, 2, none⟩) hl1).trans c2
    by_cases hin : i < S.length
    · have q1 : (0 : Int) ≤ (i : Int) := by omega
      have q2 : (i : Int) < (S.length : Int) := by omega
      have e3 : wr.cell? ⟨bb, i, none⟩ = some (.bool (P i).isSome) := (hB.out.cell (p := ⟨bb, i, none⟩) hl2).trans ((Blk.cell HB.out i).trans (boL_get _ _ hin))
      have KS := keyL_succ P i
      have KL := keyL_len P i
      cases hp : (P i).isSome with
      | false =>
        rw [hp] at e3 KS
        have HO : Hid (wr.ownsRow w.heap.size 3 1 u3 (keyL P (i + 1)).length (zs (keyL P (i + 1)))) := by
          rw [KS]
          simpa using hO
        clear KS
        go_wp2_with fail
        go_roundw
        case rel => exact ⟨i + 1, by omega, by go_num, hB, HO⟩
        case measure => simp [RowKit.intOf]; omega
      | true =>
        rw [hp] at e3 KS
        have hn := zrw_new wr (i : Int)
        have hbz := hB.out.size
        go_wp2_with (at_builtin; refine wpl_appz (t := 32) (e := 3) rfl (.tmp 21) (.tmp 23) rfl Try.underlying32 info3 w.heap.size _ (keyL P i) [(i : Int)] rfl (World.ownsRow.alloc hO.out _) ⟨wr.heap.size, 0, none⟩ 1 rfl hn (by simp; omega) (by simp; omega) ?_; intro v' w' hown' hgrow)
        have hb' : Hid (Below w.heap.size w w') := (hB.out.alloc hbz _).grown hgrow (by simp; omega) (fun k hk => (World.ownsRow.lt hO.out k hk).1)
        have HO : Hid (w'.ownsRow w.heap.size 3 1 v' (keyL P (i + 1)).length (zs (keyL P (i + 1)))) := by
          rw [KS]
          exact hown'
        clear hown' hgrow KS hn
        go_wp2_with fail
        go_roundw
        case rel => exact ⟨i + 1, by omega, by go_num, hb', HO⟩
        case measure => simp [RowKit.intOf]; omega
    · obtain rfl : i = S.length := by omega
      have q2 : ¬ ((S.length : Int) < (S.length : Int)) := by omega
      clear e2
      have e2 : wr.cell? ⟨g, 2, none⟩ = some (.slice (some ⟨bb, 0, none⟩) S.length S.length) := (hB.out.cell (p := ⟨g, 2, none⟩) hl1).trans c2
      obtain ⟨ao, c, hv, x1, x2, x3, _⟩ := own_zrw hO.out
      subst hv
      go_wp2_with fail
      go_ret
      exact ⟨hB.out, ao, c, rfl, x1, x2, x3⟩
end Go.Proofs.Ytohmdcbfffgheaa.Dk
