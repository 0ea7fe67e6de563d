/-
  A device and a pack on it, as a law carries them: made, flushed, crashed, started; a record appended. Conditions: each law's own.
-/
import Derived.Deep.RegionHeld3
import Derived.Test.YtekaboomhljdoaaGreatDoorGb
import Derived.Test.YtekaboomhljdoaaGreatDoorFk
import Derived.Test.YtekaboomhljdoaaGreatDoorPkA
import Derived.BigRegion
import Derived.Test.YtekaboomhljdoaaGreatDoorPkD
namespace Go.Proofs.YtekaboomhljdoaaGreatDoor.Sh
open Go

section
variable {P : Program} {ops : Array Oper} {Q : Exit → Act → World → Prop} {md : Region.Mode} {S T : World → Prop} {z : Nat}
/-- S as long as number z is not listed -/
def AnyQ (P : Program) (md : Region.Mode) (ops : Array Oper) (Q : Exit → Act → World → Prop) (S : World → Prop) (z : Nat) : Nat → Array Bool → Act → World → Prop
  | 0, listed, a, w => Region.ready md ops listed = [] ∧ Q .normal a w
  | fuel + 1, listed, a, w =>
    (Region.ready md ops listed = [] → Q .normal a w) ∧
    ∀ i ∈ Region.ready md ops listed, wpOp P ops Q i (fun a' w' => ((listed.setIfInBounds i true).getD z true = true ∨ S w') ∧ AnyQ P md ops Q S z fuel (listed.setIfInBounds i true) a' w') a w
theorem any_of_q : ∀ (fuel : Nat) (listed : Array Bool) (a : Act) (w : World), AnyQ P md ops Q S z fuel listed a w → wpAny P md ops Q fuel listed a w
  | 0, _, _, _, h => h
  | fuel + 1, _, _, _, h => ⟨h.1, fun i hi => wpOp_mono (fun a' w' h' => any_of_q fuel _ a' w' h'.2) (h.2 i hi)⟩
theorem getD_up {l : Array Bool} {i z : Nat} (h : l.getD z true = true) : (l.setIfInBounds i true).getD z true = true := by
  by_cases hiz : i = z
  · subst hiz
    rcases Nat.lt_or_ge i l.size with h' | h'
    · simp [h']
    · simp [h']
  · rw [getD_set_ne true hiz]
    exact h
theorem anyq_first {i : Nat} {oi : Oper} {v : Value} (hi : ops[i]? = some oi) (hsel : ∀ (j : Nat) (o : Oper) cs b, ops[j]? = some o → o.op ≠ .select cs b)
    (hQ : ∀ c a w, Q (.panic c) (a.put oi.dst v) w → Q (.panic c) a w) (hiz : i ≠ z)
    (hT : (∀ w, T w) ∨ ((∀ w, S w → T w) ∧ ∀ oz, ops[z]? = some oz → ∃ e ∈ oz.after, Region.binds md e = true ∧ e.on = i)) :
    ∀ (fuel : Nat) (listed : Array Bool) (a : Act) (w : World),
      (∀ j oj, ops[j]? = some oj → j ≠ i → listed.getD j true = false → (∀ e ∈ oj.after, Region.binds md e = true → e.on ≠ i) → oi.apart ops oj = true) →
      i ∈ Region.ready md ops listed → YieldsIf P ops T oi v a → ((∀ w, T w) ∨ (listed.getD z true = false ∧ S w)) → (listed.getD z true = true ∨ S w) →
      AnyQ P md ops Q S z fuel (listed.setIfInBounds i true) (a.put oi.dst v) w → AnyQ P md ops Q S z (fuel + 1) listed a w := by
  intro fuel
  induction fuel with
  | zero =>
    intro listed a w _ hr hy hI hS H
    have hTw : T w := hI.elim (fun h => h w) (fun h => hT.elim (fun h2 => h2 w) (fun h2 => h2.1 w h.2))
    refine ⟨fun h => (by rw [h] at hr; cases hr), fun j hj => ?_⟩
    by_cases hji : j = i
    · subst hji; exact hy.wpOp hi hTw ⟨hS.imp getD_up id, H⟩
    · have := ready_mono hj hji
      rw [H.1] at this
      cases this
  | succ fuel ih =>
    intro listed a w hfree hr hy hI hS H
    have hTw : T w := hI.elim (fun h => h w) (fun h => hT.elim (fun h2 => h2 w) (fun h2 => h2.1 w h.2))
    refine ⟨fun h => (by rw [h] at hr; cases hr), fun j hj => ?_⟩
    by_cases hji : j = i
    · subst hji; exact hy.wpOp hi hTw ⟨hS.imp getD_up id, H⟩
    · have h1 := H.2 j (ready_mono hj hji)
      obtain ⟨hjun, oj, hoj, hall⟩ := mem_ready.1 hj
      have hnot : ∀ e ∈ oj.after, Region.binds md e = true → e.on ≠ i := fun e he hb heq => by
        have h1 := hall e he hb
        have h0 := (mem_ready.1 hr).1
        rw [heq] at h1
        rcases Nat.lt_or_ge i listed.size with h' | h'
        · simp [h'] at h0 h1; rw [h0] at h1; cases h1
        · simp [Array.getElem?_eq_none h'] at h1
      have h2 := wpOp_putIf hoj (hfree j oj hoj hji hjun hnot) (fun cs b => hsel i oi cs b hi) (fun cs b => hsel j oj cs b hoj) hQ hy h1
      have hfree' : ∀ k ok, ops[k]? = some ok → k ≠ i → (listed.setIfInBounds j true).getD k true = false →
          (∀ e ∈ ok.after, Region.binds md e = true → e.on ≠ i) → oi.apart ops ok = true := fun k ok hk hki hun hno => by
        refine hfree k ok hk hki ?_ hno
        by_cases hjk : j = k
        · subst hjk; exact hjun
        · rw [getD_set_ne true hjk] at hun; exact hun
      refine wpOp_mono (fun a' w' h3 => ?_) h2
      have hz : (listed.setIfInBounds j true).getD z true = true ∨ S w' := h3.2.1.imp (fun h => by
        rw [← Array.setIfInBounds_comm _ _ hji, getD_set_ne true hiz] at h
        exact h) id
      refine ⟨hz, ih (listed.setIfInBounds j true) a' w' hfree' (ready_mono hr (Ne.symm hji)) h3.1 ?_ hz ?_⟩
      · rcases hI with h | ⟨hl, hs⟩
        · exact .inl h
        · rcases hT with h | ⟨h, hw⟩
          · exact .inl h
          · have hjz : j ≠ z := fun he => by
              subst he
              obtain ⟨e, he, hb, heq⟩ := hw oj hoj
              exact hnot e he hb heq
            have hl2 : (listed.setIfInBounds j true).getD z true = false := by rw [getD_set_ne true hjz]; exact hl
            refine .inr ⟨hl2, hz.resolve_left (fun h => ?_)⟩
            rw [hl2] at h
            cases h
      · rw [Array.setIfInBounds_comm _ _ hji]
        exact h3.2.2
/-- does number z wait for number i? -/
def qWaits (md : Region.Mode) (ops : Array Oper) (z i : Nat) : Bool := match ops[z]? with | some oz => oz.after.any fun e => Region.binds md e && e.on == i | none => true
theorem qwaits_spec {i : Nat} (h : qWaits md ops z i = true) : ∀ oz, ops[z]? = some oz → ∃ e ∈ oz.after, Region.binds md e = true ∧ e.on = i := by
  intro oz ho
  unfold qWaits at h
  rw [ho] at h
  simp only [Array.any_eq_true', Bool.and_eq_true, beq_iff_eq] at h
  exact h
/-- a load -/
theorem anyq_load {i : Nat} {oi : Oper} {v : Value} {fuel : Nat} {listed : Array Bool} {a : Act} {w : World} (hi : ops[i]? = some oi)
    (hs : Region.noSelect ops = true) (hf : Region.free md ops listed i = true) (hr : (Region.ready md ops listed).contains i = true) (hw : qWaits md ops z i = true) (hiz : i ≠ z) (hlz : listed.getD z true = false)
    (hQ : ∀ c a w, Q (.panic c) (a.put oi.dst v) w → Q (.panic c) a w) (hy : YieldsIf P ops S oi v a) (hS : S w)
    (h : AnyQ P md ops Q S z fuel (listed.setIfInBounds i true) (a.put oi.dst v) w) : AnyQ P md ops Q S z (fuel + 1) listed a w :=
  anyq_first (T := S) hi (Region.noSelect_spec hs) hQ hiz (.inr ⟨fun _ h => h, qwaits_spec hw⟩) fuel listed a w (Region.free_spec hi hf) (by simpa using hr) hy (.inr ⟨hlz, hS⟩) (.inr hS) h
/-- what touches no memory -/
theorem anyq_pure {i : Nat} {oi : Oper} {v : Value} {fuel : Nat} {listed : Array Bool} {a : Act} {w : World} (hi : ops[i]? = some oi)
    (hs : Region.noSelect ops = true) (hf : Region.free md ops listed i = true) (hr : (Region.ready md ops listed).contains i = true) (hiz : i ≠ z)
    (hQ : ∀ c a w, Q (.panic c) (a.put oi.dst v) w → Q (.panic c) a w) (hy : YieldsIf P ops (fun _ => True) oi v a) (hS : listed.getD z true = true ∨ S w)
    (h : AnyQ P md ops Q S z fuel (listed.setIfInBounds i true) (a.put oi.dst v) w) : AnyQ P md ops Q S z (fuel + 1) listed a w :=
  anyq_first (T := fun _ => True) hi (Region.noSelect_spec hs) hQ hiz (.inl fun _ => trivial) fuel listed a w (Region.free_spec hi hf) (by simpa using hr) hy (.inl fun _ => trivial) hS h
/-- each of the operations 'rs' comes up next -/
def AllQ (P : Program) (md : Region.Mode) (ops : Array Oper) (Q : Exit → Act → World → Prop) (S : World → Prop) (z : Nat) (fuel : Nat) (listed : Array Bool) (a : Act) (w : World) (rs : List Nat) : Prop :=
  ∀ i ∈ rs, wpOp P ops Q i (fun a' w' => ((listed.setIfInBounds i true).getD z true = true ∨ S w') ∧ AnyQ P md ops Q S z fuel (listed.setIfInBounds i true) a' w') a w
theorem AllQ.nil {fuel : Nat} {listed : Array Bool} {a : Act} {w : World} : AllQ P md ops Q S z fuel listed a w [] := fun _ h => by cases h
theorem AllQ.cons {fuel : Nat} {listed : Array Bool} {a : Act} {w : World} {i : Nat} {o : Oper} {rs : List Nat} (ho : ops[i]? = some o)
    (h : ∀ K' : Act → World → Prop, Shut (∀ a w, S w → (S w → AnyQ P md ops Q S z fuel (listed.setIfInBounds i true) a w) → K' a w) → if Region.wanted o (yielded ops a.tmps) = true then Oper.wp P o a w K' Q else K' (a.put o.dst undef) w)
    (hs : AllQ P md ops Q S z fuel listed a w rs) : AllQ P md ops Q S z fuel listed a w (i :: rs) := fun j hj => by
  rcases List.mem_cons.1 hj with rfl | hj
  · exact wpOp_step ho (fun K' hK => h K' (fun a w hS hW => hK a w ⟨.inr hS, hW hS⟩))
  · exact hs j hj
/-- number z, and what comes behind it: nothing is asked of S -/
theorem AllQ.late {fuel : Nat} {listed : Array Bool} {a : Act} {w : World} {o : Oper} {i : Nat} (hl : (listed.setIfInBounds i true).getD z true = true) (ho : ops[i]? = some o)
    (h : ∀ K' : Act → World → Prop, Shut (∀ a w, AnyQ P md ops Q S z fuel (listed.setIfInBounds i true) a w → K' a w) → if Region.wanted o (yielded ops a.tmps) = true then Oper.wp P o a w K' Q else K' (a.put o.dst undef) w) :
    AllQ P md ops Q S z fuel listed a w [i] := fun j hj => by
  obtain rfl : j = i := by simpa using hj
  exact wpOp_step ho (fun K' hK => h K' (fun a w hW => hK a w ⟨.inl hl, hW⟩))
theorem anyq_ready {rs : List Nat} {fuel : Nat} {listed : Array Bool} {a : Act} {w : World} (hr : Region.ready md ops listed = rs) (hne : rs ≠ [])
    (h : AllQ P md ops Q S z fuel listed a w rs) : AnyQ P md ops Q S z (fuel + 1) listed a w := ⟨fun h0 => absurd (hr ▸ h0) hne, hr ▸ h⟩
theorem anyq_done {listed : Array Bool} {a : Act} {w : World} (hr : Region.ready md ops listed = []) (h : Q .normal a w) : ∀ fuel, AnyQ P md ops Q S z fuel listed a w
  | 0 => ⟨hr, h⟩
  | _ + 1 => ⟨fun _ => h, by rw [hr]; simp⟩
theorem region_q (z : Nat) {id : Nat} {a : Act} {w : World} (hm : P.follows .mixedOrders = true) (hS : S w.drew)
    (h : S w.drew → AnyQ P .any ops Q S z ops.size (Array.replicate ops.size false) a w.drew) : (Code.region id ops true).wp P Q a w :=
  wp_region_any hm (any_of_q _ _ _ _ (h hS))
end
end Go.Proofs.YtekaboomhljdoaaGreatDoor.Sh
namespace Go.Proofs.YtekaboomhljdoaaGreatDoor.Sh
open Go Lb Go.RowKit Go.Lib

section
variable {P : Program} {w : World}
theorem append_fresh (base : Nat) (t ty e : TypeId) (i : TypeInfo) (z : Value) (size bytes : Nat) (ht : P.underlying t = some (.slice e)) (hi : P.info? e = some i) (hz : i.zero = some z)
    (hsize : i.size = size) (hby : i.bytes = bytes) (hzs : z.cells.size = size) (hsz : 0 < size)
    (v : Value) (n : Nat) (xs : List Value) (hown : w.ownsRow base e size v n xs)
    (a : Addr) (m c : Nat) (news : List Value) (hl : news.length = m * size) (hnews : ∀ j u, news[j]? = some u → w.cell? (a.add j) = some u) (h1 : ∀ u ∈ news, u.oneCell' = true)
    (h63 : n + m ≤ maxLen) (hbytes : (n + m) * bytes ≤ 140737488355328) (hbase : base ≤ w.heap.size) (hm : 0 < m) :
    ∃ v' w', (Builtin.append_ #[t, t] ty #[v, .slice (some a) m c]).run P w = .ok v' w' ∧ w'.ownsRow base e size v' (n + m) (xs ++ news) ∧ w.grownBy w' v.ownBlock ∧ (v'.ownBlock = v.ownBlock ∨ v'.ownBlock = some w.heap.size) := by
  obtain ⟨v', w', hr, h2, h3, _⟩ := run_append_own (P := P) w base t ty e i z size bytes ht hi hz hsize hby hzs hsz v n xs hown a m c news hl hnews h1 h63 hbytes hbase
  refine ⟨v', w', hr, h2, h3, ?_⟩
  subst hsize
  subst hby
  have hsmall : n + m ≤ 9223372036854775807 := by simp only [maxLen] at h63; omega
  rcases hown.2 with ⟨rfl, rfl⟩ | ⟨g, cap, cur, rfl, hbg, hg, hnc, hcm, hcs, htake⟩
  · have hr2 := run_append_nil (P := P) w t ty e i z ht hi hz a m c news hl hnews hm (by omega) (by have hb := hbytes; simp only [Nat.zero_add] at hb; omega)
    rw [hr2] at hr
    injection hr with e1 e2
    exact .inr (by rw [← e1]; rfl)
  · by_cases hroom : n + m ≤ cap
    · have hfit : n * i.size + news.length ≤ cur.size := by rw [hl, hcs, ← Nat.add_mul]; exact Nat.mul_le_mul_right _ hroom
      have hr2 := run_append_room (P := P) w t ty e i ht hi g n cap cur hg a m c news hl hnews h1 hroom hfit
      rw [hr2] at hr
      injection hr with e1 e2
      exact .inl (by rw [← e1]; rfl)
    · have holds : ∀ j u, xs[j]? = some u → w.cell? ((⟨g, 0, none⟩ : Addr).add j) = some u := hown.cells (g := g) rfl
      have hr2 := run_append_grow (P := P) w t ty e i z ht hi hz ⟨g, 0, none⟩ n cap xs hown.1 holds a m c news hl hnews (by omega) (by omega) (growslice_fits (by omega) hbytes)
      rw [hr2] at hr
      injection hr with e1 e2
      exact .inr (by rw [← e1]; rfl)
theorem wp_append_fresh {o : Oper} {a : Act} {K : Act → World → Prop} {Q : Exit → Act → World → Prop} (s x : Operand) (t : TypeId)
    (ho : o.op = .call { callee := .builtin .append, args := #[s, x], argTypes := #[t, t] })
    (base : Nat) (e : TypeId) (i : TypeInfo) (z : Value) (size bytes : Nat) (ht : P.underlying t = some (.slice e)) (hi : P.info? e = some i) (hz : i.zero = some z)
    (hsize : i.size = size) (hby : i.bytes = bytes) (hzs : z.cells.size = size) (hsz : 0 < size)
    (v : Value) (n : Nat) (xs : List Value) (hs : a.eval s = v) (hown : w.ownsRow base e size v n xs)
    (ad : Addr) (m c : Nat) (news : List Value) (hx : a.eval x = .slice (some ad) m c) (hl : news.length = m * size) (hnews : ∀ j u, news[j]? = some u → w.cell? (ad.add j) = some u) (h1 : ∀ u ∈ news, u.oneCell' = true)
    (h63 : n + m ≤ maxLen) (hbytes : (n + m) * bytes ≤ 140737488355328) (hbase : base ≤ w.heap.size) (hm : 0 < m)
    (h : ∀ v' w', w'.ownsRow base e size v' (n + m) (xs ++ news) → w.grownBy w' v.ownBlock → (v'.ownBlock = v.ownBlock ∨ v'.ownBlock = some w.heap.size) → K (a.put o.dst v') w') : o.wp P a w K Q := by
  obtain ⟨v', w', hr, h2, h3, h4⟩ := append_fresh (P := P) base t o.type e i z size bytes ht hi hz hsize hby hzs hsz v n xs hown ad m c news hl hnews h1 h63 hbytes hbase hm
  unfold Oper.wp execOp
  simp only [ho, resolve, invoke, builtin, Sem.run_bind, Sem.run_pure, Result.andThen_ok, List.map_toArray, List.map_cons, List.map_nil, hs, hx, hr]
  exact h v' w' h2 h3 h4
end
section
variable {w : World} {ops : Array Oper} {o : Oper} {a : Act} {K : Act → World → Prop} {Q : Exit → Act → World → Prop}
set_option maxRecDepth 100000 in
theorem wp_appf (s x : Operand) (ho : o.op = .call { callee := .builtin .append, args := #[s, x], argTypes := #[38, 38] })
    (D B : Nat) (hDB : D ≤ B) (v u : Value) (l : List Rcd) (r : Rcd) (hs : a.eval s = v) (hown : OwnG D B w l v) (hu : DatK D w u r.2)
    (g : Nat) (hx : a.eval x = .slice (some ⟨g, 0, none⟩) 1 1) (hb : Blk w g (recC r u) 29) (hn : l.length + 1 ≤ 1000000000) (hbase : B ≤ w.heap.size)
    (h : ∀ v' w', OwnG D B w' (l ++ [r]) v' → w.grownBy w' v.ownBlock → (v'.ownBlock = v.ownBlock ∨ v'.ownBlock = some w.heap.size) → K (a.put o.dst v') w') : o.wp Tryz.prog a w K Q := by
  obtain ⟨i0, hi, hz0, hz1, hz2⟩ := info_parts info29z
  obtain ⟨us, h1, h2, h3⟩ := hown
  refine wp_append_fresh s x 38 ho B 29 i0 (.agg #[.int .i64 0, .string ⟨#[]⟩, .slice none 0 0]) 3 48 Tryz.underlying38 hi hz0 hz1 hz2 rfl (by decide) v l.length (recsC l us) hs h2 ⟨g, 0, none⟩ 1 1 (recC r u) hx (by rfl) (fun j y hj => ?_) ?_ (by unfold maxLen; omega) (by omega) hbase (by decide)
    (fun v' w' k1 k2 k3 => h v' w' (ownf_app hDB h1 h2 h3 hu k1 k2) k2 k3)
  · rw [WideShapes.add_plain, Nat.zero_add, hb.cell]
    exact hj
  · intro y hy
    simp only [recC, List.mem_cons, List.not_mem_nil, or_false] at hy
    rcases hy with rfl | rfl | rfl
    · rfl
    · rfl
    · exact dat_one hu
set_option maxRecDepth 100000 in
theorem wp_appz (s x : Operand) (ho : o.op = .call { callee := .builtin .append, args := #[s, x], argTypes := #[42, 42] })
    (B : Nat) (v : Value) (xs : List Int) (y : Int) (hs : a.eval s = v) (hown : OwnZ w B v xs)
    (ad : Addr) (c : Nat) (hx : a.eval x = .slice (some ad) 1 c) (hr : Zrw w (some ad) [y]) (h47 : (xs.length + 1) * 8 ≤ 140737488355328) (hbase : B ≤ w.heap.size)
    (h : ∀ v' w', OwnZ w' B v' (xs ++ [y]) → w.grownBy w' v.ownBlock → (v'.ownBlock = v.ownBlock ∨ v'.ownBlock = some w.heap.size) → K (a.put o.dst v') w') : o.wp Tryz.prog a w K Q := by
  obtain ⟨i0, hi, hz0, hz1, hz2⟩ := info_parts info3
  refine wp_append_fresh s x 42 ho B 3 i0 (.int .i64 0) 1 8 Tryz.underlying42 hi hz0 hz1 hz2 rfl (by decide) v xs.length (rz xs) hs hown ad 1 c (rz [y]) hx (by simp [rz]) ?_ (rz_one [y])
    (by unfold maxLen; omega) (by omega) hbase (by decide) (fun v' w' h1 h2 h3 => h v' w' (by unfold OwnZ; rw [List.length_append, rz_app]; exact h1) h2 h3)
  intro j u hj
  have hjl : j < [y].length := by
    have := (List.getElem?_eq_some_iff.1 hj).1
    simpa [rz] using this
  obtain ⟨b, o', h0, _, hcell⟩ := hr (by simp)
  injection h0 with h0
  subst h0
  rw [WideShapes.add_plain, hcell j hjl]
  rw [rz_get [y] j hjl] at hj
  exact hj
theorem wanted_plain (hgd : o.guard = none) (tm : Array Value) : Region.wanted o (yielded ops tm) = true := by simp [Region.wanted, hgd]
/-- as steps of a region that draws, and of a plain one -/
theorem step_fresh {E : Prop} (hgd : o.guard = none) (h : o.wp Tryz.prog a w K Q) : if Region.wanted o (yielded ops a.tmps) = true then Oper.wp Tryz.prog o a w K Q else E := by
  rw [if_pos (wanted_plain hgd _)]
  exact h
end
end Go.Proofs.YtekaboomhljdoaaGreatDoor.Sh
namespace Go.Proofs.YtekaboomhljdoaaGreatDoor.Sh
open Lb Go.Proofs.YtekaboomhljdoaaGreatDoor.Pc Go.RowKit Go.Lib
open Go.Proofs.YtekaboomhljdoaaGreatDoor.Dk hiding Blk made_any size_any below_chain

theorem clone_own (ao : Option Addr) (n c : Nat) (l : List UInt8) (w : World) (h : Byt w ao l) (hl : l.length = n) (hbig : n ≤ 140737488355328) :
    Calls Tryz.prog 62 #[.slice ao n c] w fun e w' => Below w.heap.size w w' ∧ ∃ v, e = .returned v ∧ Own w' w.heap.size v l := by
  cases ao with
  | some p =>
    by_cases h0 : l = []
    · subst h0
      refine (Tryz.bytes_Clone_at p n c [] w (by simpa using hl) hbig (fun i hi => by simp at hl; omega)).mono ?_
      rintro e w' ⟨v, he, ho, _, hb⟩
      refine ⟨hb, v, he, ?_⟩
      have : n = 0 := by simpa using hl.symm
      subst this
      exact ho
    · obtain ⟨b, o, h1, _⟩ := h h0
      injection h1 with h1
      subst h1
      exact clone_b b o n c l w h hl hbig
  | none =>
    have e0 : l = [] := by
      by_cases h0 : l = []
      · exact h0
      · obtain ⟨b, o, h1, _⟩ := h h0
        cases h1
    subst e0
    refine (Tryz.bytes_Clone_nil n c w).mono ?_
    rintro e w' ⟨rfl, rfl⟩
    exact ⟨Below.refl _ _, _, rfl, World.ownsRow_nil _ _ _ _⟩
/-- what a record's clone is -/
def AnsK (w : World) (k : Int) (ks : ByteArray) (d : List UInt8) (e : Ending) (w' : World) : Prop := Below w.heap.size w w' ∧ ∃ v, e = .returned (.agg #[.int .i64 k, .string ks, v]) ∧ Own w' w.heap.size v d
set_option maxHeartbeats 2000000 in
set_option maxRecDepth 100000 in
theorem pclone_any (k : Int) (ks : ByteArray) (ao : Option Addr) (n c : Nat) (d : List UInt8) (w : World) (h : Byt w ao d) (hd : d.length = n) (hbig : n ≤ 140737488355328) :
    Calls Tryz.prog 36 #[.agg #[.int .i64 k, .string ks, .slice ao n c]] w (AnsK w k ks d) := by
  have B1 := al1 w (.cells #[.int .i64 k, .string ks, .slice ao n c] 29)
  have B2 := al1 (w.alloc (.cells #[.int .i64 k, .string ks, .slice ao n c] 29)) (.cells #[.int .i64 0, .string ⟨#[]⟩, .slice none 0 0] 29)
  have Y1 : Hid (Blk ((w.alloc (.cells #[.int .i64 k, .string ks, .slice ao n c] 29)).alloc (.cells #[.int .i64 0, .string ⟨#[]⟩, .slice none 0 0] 29)) w.heap.size [.int .i64 k, .string ks, .slice ao n c] 29) := (Blk.new w [.int .i64 k, .string ks, .slice ao n c] 29 w.heap.size rfl).alloc _
  have Y2 : Hid (Blk ((w.alloc (.cells #[.int .i64 k, .string ks, .slice ao n c] 29)).alloc (.cells #[.int .i64 0, .string ⟨#[]⟩, .slice none 0 0] 29)) (w.heap.size + 1) [.int .i64 0, .string ⟨#[]⟩, .slice none 0 0] 29) := Blk.new (w.alloc (.cells #[.int .i64 k, .string ks, .slice ao n c] 29)) [.int .i64 0, .string ⟨#[]⟩, .slice none 0 0] 29 (w.heap.size + 1) (by simp)
  have BB := Lib.hid (below_chain B1 B2)
  have CB := Lib.hid (clone_own ao n c d _ (h.below BB.out) hd hbig)
  have SZ : Hid (((w.alloc (.cells #[.int .i64 k, .string ks, .slice ao n c] 29)).alloc (.cells #[.int .i64 0, .string ⟨#[]⟩, .slice none 0 0] 29)).heap.size = w.heap.size + 1 + 1) := by show _ = _; simp
  have c0 := keep29 Y1.out
  have HDN := Lib.hid hd
  clear h hd B1 B2
  go_enter Tryz.func36, Tryz.ntmps36
  go_wp2_with fail
  refine CB.out.mono ?_
  rintro e w3 ⟨b3, v, rfl, hv⟩
  have K1 := Y1.out.low b3
  have K2 := Y2.out.low b3
  have B3 := Lib.hid (below_chain BB.out b3)
  have HV := Lib.hid hv
  obtain ⟨a3, c3, rfl, _, _, _, _⟩ := own_byt hv
  rw [HDN.out] at HV ⊢
  obtain ⟨d0, d1, d2⟩ := keep29 K1
  obtain ⟨e0, e1, e2⟩ := keep29 K2
  have f2 := K1.frozen 2
  have g0 := K2.frozen 0
  have g1 := K2.frozen 1
  have g2 := K2.frozen 2
  have ne : ¬ (w.heap.size + 1 = w.heap.size) := by omega
  have ne' : ¬ (w.heap.size = w.heap.size + 1) := by omega
  have HK1 := Lib.hid K1
  have HK2 := Lib.hid K2
  clear CB b3 hv K1 K2
  go_wp2_with fail
  have Z2 := HK2.out.other (a := ⟨w.heap.size, 2, none⟩) (.slice a3 n c3) (by simp)
  have Z3 := ((Z2.set 0 (.int .i64 k)).set 1 (.string ks)).set 2 (.slice a3 n c3)
  have B4 := (((B3.out.setCell (p := ⟨w.heap.size, 2, none⟩) (Nat.le_refl _) (.slice a3 n c3)).setCell (p := ⟨w.heap.size + 1, 0, none⟩) (Nat.le_succ _) (.int .i64 k)).setCell (p := ⟨w.heap.size + 1, 1, none⟩) (Nat.le_succ _) (.string ks)).setCell (p := ⟨w.heap.size + 1, 2, none⟩) (Nat.le_succ _) (.slice a3 n c3)
  refine bodyPost_ret (results_cell_row rfl _ _ (w.heap.size + 1) 29 _ (0, 0) _ rfl Z3 Tryz.underlying29 rfl (size29 _ _ _)) rfl ⟨B4, _, rfl, ?_⟩
  have sz := SZ.out
  exact (own_setfar (own_setfar (own_setfar (own_setfar HV.out _ _ (by show w.heap.size < _; omega)) _ _ (by show w.heap.size + 1 < _; omega)) _ _ (by show w.heap.size + 1 < _; omega)) _ _ (by show w.heap.size + 1 < _; omega)).low (by omega)
end Go.Proofs.YtekaboomhljdoaaGreatDoor.Sh
namespace Go.Proofs.YtekaboomhljdoaaGreatDoor.Sh
open Lb Go.RowKit Go.Lib

set_option maxRecDepth 100000 in
theorem nan_any (x : Int) (w : World) : Calls Tryz.prog 66 #[.int .i64 x] w fun e w' => e = .returned (.bool false) ∧ w' = w := by
  go_enter Tryz.func66, Tryz.ntmps66
  go_wp2_with fail
  go_ret
  exact ⟨by simp, rfl⟩
set_option maxRecDepth 100000 in
theorem nan2_any (x : Int) (w : World) : Calls Tryz.prog 82 #[.int .i64 x] w fun e w' => e = .returned (.bool false) ∧ w' = w := by
  go_enter Tryz.func82, Tryz.ntmps82
  go_wp2_with fail
  go_ret
  exact ⟨by simp, rfl⟩
set_option maxRecDepth 100000 in
theorem less_any (x y : Int) (b : Bool) (hb : decide (x < y) = b) (w : World) : Calls Tryz.prog 65 #[.int .i64 x, .int .i64 y] w fun e w' => e = .returned (.bool b) ∧ w' = w := by
  go_enter Tryz.func65, Tryz.ntmps65
  go_wp2_with fail
  refine (nan2_any _ _).mono ?_
  rintro e w1 ⟨rfl, rfl⟩
  go_wp2_with fail
  go_ret
  exact ⟨by simp, rfl⟩
/-- where a number is in a rising row -/
def Found (ps : List Int) (x : Int) (i : Nat) (b : Bool) : Prop := (b = true ∧ ps[i]? = some x) ∨ (b = false ∧ x ∉ ps)
def AnsFd (w : World) (ps : List Int) (x : Int) (e : Ending) (w' : World) : Prop := (∃ (i : Nat) (b : Bool), e = .returned (.tuple #[.int .i64 (i : Int), .bool b]) ∧ Found ps x i b) ∧ ∃ q, w' = w.drewN q
theorem found_of {ps : List Int} {x : Int} {lo : Nat} (hs : ps.Pairwise (· < ·)) (h1 : ∀ t, t < lo → ∀ y, ps[t]? = some y → y < x) (h2 : ∀ t, lo ≤ t → ∀ y, ps[t]? = some y → x ≤ y) :
    (ps[lo]? = some x) ∨ ((∀ y, ps[lo]? = some y → y ≠ x) ∧ x ∉ ps) := by
  by_cases h : ps[lo]? = some x
  · exact .inl h
  · refine .inr ⟨fun y hy e => h (e ▸ hy), fun hx => ?_⟩
    obtain ⟨t, ht, e⟩ := List.mem_iff_getElem.1 hx
    have et : ps[t]? = some x := by rw [List.getElem?_eq_getElem ht, e]
    rcases Nat.lt_or_ge t lo with h3 | h3
    · have := h1 t h3 x et
      omega
    · have hne : t ≠ lo := fun e2 => h (e2 ▸ et)
      have hlo : lo < ps.length := by omega
      have h4 := h2 lo (Nat.le_refl _) _ (List.getElem?_eq_getElem hlo)
      have h5 := List.pairwise_iff_getElem.1 hs lo t hlo ht (by omega)
      rw [e] at h5
      omega
set_option maxHeartbeats 4000000 in
set_option maxRecDepth 100000 in
theorem search_any (ao : Option Addr) (ps : List Int) (n c : Nat) (x : Int) (w : World) (h : Zrw w ao ps) (hn : ps.length = n) (hbig : n ≤ 1000000) (hs : ps.Pairwise (· < ·)) :
    Calls Tryz.prog 45 #[.slice ao n c, .int .i64 x] w (AnsFd w ps x) := by
  have H := Lib.hid h
  have HN := Lib.hid hn
  have HS := Lib.hid hs
  clear h hn hs
  go_enter Tryz.func45, Tryz.ntmps45
  go_wp2_with fail
  go_loopw [7, 8] (fun v7 v8 wr => ∃ lo hi : Nat, v7 = .int .i64 lo ∧ v8 = .int .i64 hi ∧ lo ≤ hi ∧ hi ≤ n ∧ Hid (∃ q, wr = w.drewN q) ∧ Hid (∀ t, t < lo → ∀ y, ps[t]? = some y → y < x) ∧ Hid (∀ t, hi ≤ t → ∀ y, ps[t]? = some y → x ≤ y)) (fun v7 v8 _ => (RowKit.intOf v8).toNat - (RowKit.intOf v7).toNat)
  case atStart => exact ⟨0, n, rfl, rfl, Nat.zero_le _, Nat.le_refl _, ⟨0, rfl⟩, fun t ht => absurd ht (Nat.not_lt_zero _), fun t h1 y hy => by
      have := (List.getElem?_eq_some_iff.1 hy).1
      have := HN.out
      omega⟩
  case round =>
    obtain ⟨lo, hi, rfl, rfl, hlh, hin, hQ, h1, h2⟩ := hrel
    by_cases hlt : lo < hi
    · have hlI : (lo : Int) < (hi : Int) := by omega
      obtain ⟨m, hm⟩ : ∃ m, m = (lo + hi) / 2 := ⟨_, rfl⟩
      have em : ((lo : Int) + (hi : Int)) / 2 = (m : Int) := by omega
      have hm1 : lo ≤ m := by omega
      have hm2 : m < hi := by omega
      clear hm
      obtain ⟨bb, o, rfl, hb, x0⟩ := zrw_cellW H.out m (by have := HN.out; omega)
      obtain ⟨q, rfl⟩ := hQ.out
      have mg : ps[m]? = some (ps.getD m 0) := by
        have : m < ps.length := by have := HN.out; omega
        rw [List.getD, List.getElem?_eq_getElem this]
        rfl
      have MG := Lib.hid mg
      have x1 : (w.drewN q).cell? ⟨bb, o + m, none⟩ = some (.int .i64 (ps.getD m 0)) := x0
      generalize ps.getD m 0 = y at *
      have q1 : (0 : Int) ≤ (m : Int) := by omega
      have q2 : (m : Int) < (n : Int) := by omega
      have HLT : ∃ B, decide (y < x) = B := ⟨_, rfl⟩
      obtain ⟨B, hB⟩ := HLT
      have CB := Lib.hid (fun W => less_any y x B hB W)
      have HB := Lib.hid hB
      clear x0 mg hB hb
      go_wp2_with fail
      refine (CB.out _).mono ?_
      rintro e w1 ⟨rfl, rfl⟩
      cases B with
      | true =>
        have hlt2 : y < x := by have := HB.out; simpa using this
        go_wp2_with fail
        go_roundw
        case rel => exact ⟨m + 1, hi, by go_num, rfl, by omega, hin, ⟨q, rfl⟩, fun t ht z hz => by
            rcases Nat.lt_or_ge t m with h3 | h3
            · have h5 : t < ps.length := (List.getElem?_eq_some_iff.1 hz).1
              have h6 := (List.getElem?_eq_some_iff.1 MG.out)
              have h4 := List.pairwise_iff_getElem.1 HS.out t m h5 h6.1 h3
              rw [(List.getElem?_eq_some_iff.1 hz).2, h6.2] at h4
              omega
            · obtain rfl : t = m := by omega
              rw [MG.out] at hz
              injection hz with hz
              omega, h2.out⟩
        case measure => simp [RowKit.intOf]; omega
      | false =>
        have hge2 : x ≤ y := by have := HB.out; simpa using this
        go_wp2_with fail
        go_roundw
        case rel => exact ⟨lo, m, rfl, by go_num, hm1, by omega, ⟨q, rfl⟩, h1.out, fun t ht z hz => by
            rcases Nat.lt_or_ge m t with h3 | h3
            · have h5 : t < ps.length := (List.getElem?_eq_some_iff.1 hz).1
              have h6 := (List.getElem?_eq_some_iff.1 MG.out)
              have h4 := List.pairwise_iff_getElem.1 HS.out m t h6.1 h5 h3
              rw [(List.getElem?_eq_some_iff.1 hz).2, h6.2] at h4
              omega
            · obtain rfl : t = m := by omega
              rw [MG.out] at hz
              injection hz with hz
              omega⟩
        case measure => simp [RowKit.intOf]; omega
    · obtain rfl : lo = hi := by omega
      have FO := found_of HS.out h1.out h2.out
      obtain ⟨q, rfl⟩ := hQ.out
      by_cases hlo : lo < n
      · obtain ⟨bb, o, rfl, hb, x0⟩ := zrw_cellW H.out lo (by have := HN.out; omega)
        have mg : ps[lo]? = some (ps.getD lo 0) := by
          have : lo < ps.length := by have := HN.out; omega
          rw [List.getD, List.getElem?_eq_getElem this]
          rfl
        have x1 : (w.drewN q).cell? ⟨bb, o + lo, none⟩ = some (.int .i64 (ps.getD lo 0)) := x0
        generalize ps.getD lo 0 = y at *
        have q2 : (lo : Int) < (n : Int) := by omega
        have q3 : decide ((lo : Int) < (n : Int)) = true := by simpa using hlo
        by_cases hyx : y = x
        · subst hyx
          have MG := Lib.hid mg
          clear x0 mg hb FO hlo h1 h2
          go_wp2_with fail
          go_ret2
          exact ⟨⟨lo, true, rfl, .inl ⟨rfl, MG.out⟩⟩, q, rfl⟩
        · have hno : x ∉ ps := by
            rcases FO with h | ⟨_, h⟩
            · rw [mg] at h
              injection h with h
              exact absurd h hyx
            · exact h
          have HNO := Lib.hid hno
          have q4 : (y == x) = false := by simpa using hyx
          clear x0 mg hb FO hno hlo h1 h2 hyx
          go_wp2_with fail
          refine (nan_any _ _).mono ?_
          rintro e w1 ⟨rfl, rfl⟩
          go_wp2_with fail
          go_ret2
          exact ⟨⟨lo, false, rfl, .inr ⟨rfl, HNO.out⟩⟩, q, rfl⟩
      · have hno : x ∉ ps := by
          rcases FO with h | ⟨_, h⟩
          · have := (List.getElem?_eq_some_iff.1 h).1
            have := HN.out
            omega
          · exact h
        have HNO := Lib.hid hno
        have q3 : decide ((lo : Int) < (n : Int)) = false := by simp; omega
        have q2 : ¬ (lo : Int) < (n : Int) := by omega
        clear FO hno h1 h2
        go_wp2_with fail
        go_ret2
        exact ⟨⟨lo, false, rfl, .inr ⟨rfl, HNO.out⟩⟩, q, rfl⟩
end Go.Proofs.YtekaboomhljdoaaGreatDoor.Sh
namespace Go.Proofs.YtekaboomhljdoaaGreatDoor.Sh
open Lb Go.Proofs.YtekaboomhljdoaaGreatDoor.Pc Go.RowKit Go.Lib
open Go.Proofs.YtekaboomhljdoaaGreatDoor.Dk hiding Blk made_any size_any below_chain

theorem row_fr {w w' : World} {B : Nat} {e : TypeId} {s : Nat} {v : Value} {n : Nat} {xs : List Value} (h : w.ownsRow B e s v n xs) {L : List Nat} (hf : Fr w w' L) (hL : ∀ b ∈ L, ∀ cur, w.heap[b]? ≠ some (.cells cur e (0, 0))) : w'.ownsRow B e s v n xs := by
  obtain ⟨h1, h2 | ⟨g, cap, cur, e, hB, hg, rest⟩⟩ := h
  · exact ⟨h1, Or.inl h2⟩
  · exact ⟨h1, Or.inr ⟨g, cap, cur, e, hB, (hf.block g (Array.getElem?_eq_some_iff.1 hg).1 (fun hm => hL g hm _ hg)).trans hg, rest⟩⟩
/-- blocks that are no rows of records, bytes or numbers -/
def Far (B : Nat) (w : World) (L : List Nat) : Prop := ∀ b ∈ L, B ≤ b ∧ ∀ cur t, w.heap[b]? = some (.cells cur t (0, 0)) → t ≠ 29 ∧ t ≠ 5 ∧ t ≠ 3
theorem ownf_fr {D B : Nat} {w w' : World} {l : List Rcd} {v : Value} {L : List Nat} (h : OwnG D B w l v) (hDB : D ≤ B) (hf : Fr w w' L) (hL : Far B w L) : OwnG D B w' l v := by
  obtain ⟨us, h1, h2, h3⟩ := h
  refine ⟨us, h1, row_fr h2 hf (fun b hb cur e => ((hL b hb).2 _ _ e).1 rfl), fun j hj => ?_⟩
  obtain ⟨u, hu, hd⟩ := h3 j hj
  refine ⟨u, hu, ?_⟩
  rcases hd with h | ⟨a, c, k1, k2, k3, k4, k5, k6⟩
  · exact Or.inl (row_fr h hf (fun b hb cur e => ((hL b hb).2 _ _ e).2.1 rfl))
  · refine Or.inr ⟨a, c, k1, fun hne => ?_, k3, k4, k5, k6⟩
    obtain ⟨b, o, m1, m2, m3⟩ := k2 hne
    have hb := k6 hne b o m1
    have hn : b ∉ L := fun hm => by have := (hL b hm).1; omega
    exact ⟨b, o, m1, Nat.lt_of_lt_of_le m2 hf.size, fun j hj => (hf.cell (a := ⟨b, o + j, none⟩) m2 hn).trans (m3 j hj)⟩
theorem ownz_fr {B : Nat} {w w' : World} {l : List Int} {v : Value} {L : List Nat} (h : OwnZ w B v l) (hf : Fr w w' L) (hL : Far B w L) : OwnZ w' B v l := row_fr h hf (fun b hb _ e => ((hL b hb).2 _ _ e).2.2 rfl)
theorem far_pk {B : Nat} {w : World} {p g : Nat} {a en : Int} {vr vp : Value} {sh : Bool} (h : Pkb w p g a vr vp en sh) (hB : B ≤ p) : Far B w [p] := fun b hb => by
  obtain rfl : b = p := by simpa using hb
  refine ⟨hB, fun cur t e => ?_⟩
  rw [show w.heap[b]? = _ from h] at e
  cases e
  decide
theorem far_dev {B : Nat} {w : World} {g sa mb : Nat} {low : Int} {N : Nat} {V : Nat → List UInt8} {S : List (List UInt8)} {pw : Bool} {m : Nat} (h : Dev w g sa mb low N V S pw m) (h1 : B ≤ g) (h2 : B ≤ sa) (h3 : B ≤ mb) : Far B w [g, sa, mb] := fun b hb => by
  obtain ⟨k, D, wr, d, _⟩ := h.dev
  simp only [List.mem_cons, List.not_mem_nil, or_false] at hb
  rcases hb with rfl | rfl | rfl
  · refine ⟨h1, fun cur t e => ?_⟩
    rw [show w.heap[b]? = _ from d.dv] at e
    cases e
    decide
  · refine ⟨h2, fun cur t e => ?_⟩
    rw [show w.heap[b]? = _ from d.sec] at e
    cases e
    decide
  · refine ⟨h3, fun cur t e => ?_⟩
    obtain ⟨es, cl, hb, F⟩ := d.map
    rw [hb] at e
    cases e
theorem Far.sub {B : Nat} {w : World} {L L' : List Nat} (h : Far B w L) (hs : ∀ b ∈ L', b ∈ L) : Far B w L' := fun b hb => h b (hs b hb)
/-- a pack with these records -/
structure Pac (B : Nat) (w : World) (p g : Nat) (a : Nat) (rs : List Rcd) (sh : Bool) : Prop where
  row : ∃ vr vp, Pkb w p g (a : Int) vr vp (((allR rs).length : Nat) : Int) sh ∧ OwnG 0 B w rs vr ∧ OwnZ w B vp (offs 0 rs)
  base : B ≤ p
  fit : (allR rs).length ≤ 16384
  good : ∀ r ∈ rs, GoodR r
/-- the sectors begin with these records -/
def Hold (V : Nat → List UInt8) (a : Nat) (rs : List Rcd) : Prop := (flat V a 64).take (allR rs).length = allR rs
section
variable {B : Nat} {w w' : World} {p g sa mb : Nat} {a N m : Nat} {rs : List Rcd} {sh : Bool} {L : List Nat} {low : Int} {V : Nat → List UInt8} {S : List (List UInt8)} {pw : Bool}
theorem Pac.fr (h : Pac B w p g a rs sh) (hf : Fr w w' L) (hp : p ∉ L) (hL : Far B w L) : Pac B w' p g a rs sh := by
  obtain ⟨vr, vp, h1, h2, h3⟩ := h.row
  exact ⟨⟨vr, vp, h1.fr hf hp, ownf_fr h2 (Nat.zero_le _) hf hL, ownz_fr h3 hf hL⟩, h.base, h.fit, h.good⟩
theorem Pac.later (h : Pac B w p g a rs sh) (hb : Below w.heap.size w w') : Pac B w' p g a rs sh := h.fr (fr_below hb []) (by simp) (fun b hb => absurd hb (by simp))
theorem Pac.lt (h : Pac B w p g a rs sh) : p < w.heap.size := by
  obtain ⟨vr, vp, h1, _⟩ := h.row
  exact Sh.Blk.lt h1
theorem pac_dev (h : Pac B w p g a rs sh) (hd : Dev w g sa mb low N V S pw m) : p ∉ [g, sa, mb] := by
  obtain ⟨vr, vp, h1, _⟩ := h.row
  obtain ⟨k, D, wr, d, _⟩ := hd.dev
  intro hb
  simp only [List.mem_cons, List.not_mem_nil, or_false] at hb
  have e1 : w.heap[p]? = _ := h1
  rcases hb with rfl | rfl | rfl
  · rw [show w.heap[p]? = _ from d.dv] at e1
    injection e1 with e1
    injection e1 with _ e1
    exact absurd e1 (by decide)
  · rw [show w.heap[p]? = _ from d.sec] at e1
    injection e1 with e1
    injection e1 with _ e1
    exact absurd e1 (by decide)
  · obtain ⟨es, cl, hb, F⟩ := d.map
    rw [hb] at e1
    cases e1
end
end Go.Proofs.YtekaboomhljdoaaGreatDoor.Sh
namespace Go.Proofs.YtekaboomhljdoaaGreatDoor.Sh
open Lb Go.Proofs.YtekaboomhljdoaaGreatDoor.Pc Go.RowKit Go.Lib
open Go.Proofs.YtekaboomhljdoaaGreatDoor.Dk hiding Blk made_any size_any below_chain

theorem row_low {w : World} {B B' : Nat} {e : TypeId} {s : Nat} {v : Value} {n : Nat} {xs : List Value} (h : w.ownsRow B' e s v n xs) (hb : B ≤ B') : w.ownsRow B e s v n xs := by
  obtain ⟨h1, h2 | ⟨g, cap, cur, e, hB, rest⟩⟩ := h
  · exact ⟨h1, Or.inl h2⟩
  · exact ⟨h1, Or.inr ⟨g, cap, cur, e, Nat.le_trans hb hB, rest⟩⟩
section
variable {w : World} {g sa mb : Nat} {a N m : Nat} {low : Int} {V : Nat → List UInt8} {S : List (List UInt8)} {pw : Bool}
/-- nothing, for that reason -/
def AnsNo (w : World) (z : Int) (e : Ending) (w' : World) : Prop := e = .returned (.tuple #[.pointer none, .int .i64 z]) ∧ Below w.heap.size w w'
set_option maxRecDepth 100000 in
theorem fresh_nil (a : Int) (h0 : -9223372036854775808 ≤ a) (h1 : a ≤ 9223372036854775807) (w : World) : Calls Tryz.prog 12 #[.pointer none, .int .i64 a] w (AnsNo w 90) := by
  have HW := Lib.hid (within_nil a h0 h1 w)
  clear h0 h1
  go_enter Tryz.func12, Tryz.ntmps12
  go_wp2_with fail
  refine HW.out.mono ?_
  rintro e w1 ⟨rfl, rfl⟩
  go_wp2_with fail
  go_ret2
  exact ⟨rfl, Below.refl _ _⟩
set_option maxRecDepth 100000 in
theorem open_nil (a : Int) (h0 : -9223372036854775808 ≤ a) (h1 : a ≤ 9223372036854775807) (w : World) : Calls Tryz.prog 15 #[.pointer none, .int .i64 a] w (AnsNo w 90) := by
  have HW := Lib.hid (within_nil a h0 h1 w)
  clear h0 h1
  go_enter Tryz.func15, Tryz.ntmps15
  go_wp2_with fail
  refine HW.out.mono ?_
  rintro e w1 ⟨rfl, rfl⟩
  go_wp2_with fail
  go_ret2
  exact ⟨rfl, Below.refl _ _⟩
theorem below_dn (w : World) (q : Nat) : Below w.heap.size w (w.drewN q) := ⟨rfl, rfl, rfl, Nat.le_refl _, fun _ _ => rfl⟩
set_option maxRecDepth 100000 in
theorem open_out (h : Dev w g sa mb low N V S pw m) (a : Int) (ha : withinB N a = false) : Calls Tryz.prog 15 #[.pointer (some ⟨g, 0, none⟩), .int .i64 a] w (AnsNo w 90) := by
  obtain ⟨wr, hd⟩ := h.dv
  have n1 := h.n1
  have HW := Lib.hid (within_any hd (by omega) h.n2 a)
  rw [ha] at HW
  clear h hd n1 ha
  go_enter Tryz.func15, Tryz.ntmps15
  go_wp2_with fail
  refine HW.out.mono ?_
  rintro e w1 ⟨rfl, q, rfl⟩
  go_wp2_with fail
  go_ret2
  exact ⟨rfl, below_dn _ _⟩
set_option maxRecDepth 100000 in
theorem fresh_low (h : Dev w g sa mb low N V S pw m) (ha : a + 64 ≤ N) (hl : (a : Int) < low) : Calls Tryz.prog 12 #[.pointer (some ⟨g, 0, none⟩), .int .i64 (a : Int)] w (AnsNo w 92) := by
  obtain ⟨wr, hd⟩ := h.dv
  have n1 := h.n1
  have n2 := h.n2
  have HW := Lib.hid (within_any hd (by omega) h.n2 (a : Int))
  rw [show withinB N (a : Int) = true by unfold withinB; simp; omega] at HW
  have HS := Lib.hid (fun q => Dk.size_any (w := w.drewN q) (show Dv (w.drewN q) g _ _ _ _ _ _ _ _ from hd) (by omega))
  have t1 : decide ((a : Int) < low) = true := by simpa using hl
  clear h hd n1 n2 hl
  go_enter Tryz.func12, Tryz.ntmps12
  go_wp2_with fail
  refine HW.out.mono ?_
  rintro e w1 ⟨rfl, q, rfl⟩
  go_wp2_with fail
  refine (HS.out q).mono ?_
  rintro e w1 ⟨rfl, q2, rfl⟩
  go_wp2_with fail
  go_ret2
  exact ⟨rfl, below_dn _ _⟩
/-- a pack, and with it these records -/
def AnsP (w : World) (g : Nat) (a : Nat) (rs : List Rcd) (e : Ending) (w' : World) : Prop := Below w.heap.size w w' ∧ ∃ p, e = .returned (.tuple #[.pointer (some ⟨p, 0, none⟩), .int .i64 0]) ∧ Pac w.heap.size w' p g a rs false
set_option maxHeartbeats 2000000 in
set_option maxRecDepth 100000 in
theorem fresh_ok (h : Dev w g sa mb low N V S true m) (ha : a + 64 ≤ N) (hl : low ≤ (a : Int)) : Calls Tryz.prog 12 #[.pointer (some ⟨g, 0, none⟩), .int .i64 (a : Int)] w (AnsP w g a []) := by
  obtain ⟨wr, hd⟩ := h.dv
  have n1 := h.n1
  have n2 := h.n2
  have HW := Lib.hid (within_any hd (by omega) h.n2 (a : Int))
  rw [show withinB N (a : Int) = true by unfold withinB; simp; omega] at HW
  have HS := Lib.hid (fun q => Dk.size_any (w := w.drewN q) (show Dv (w.drewN q) g _ _ _ _ _ _ _ _ from hd) (by omega))
  have t1 : decide ((a : Int) < low) = false := by simpa using hl
  have HR := Lib.hid (fun W (hb : Below w.heap.size w W) => read_dev (h.later hb) a (by omega))
  clear h hd n1 n2 hl
  go_enter Tryz.func12, Tryz.ntmps12
  go_wp2_with fail
  refine HW.out.mono ?_
  rintro e w1 ⟨rfl, q, rfl⟩
  go_wp2_with fail
  refine (HS.out q).mono ?_
  rintro e w1 ⟨rfl, q2, rfl⟩
  have B2 := Lib.hid (below_dn w (q + q2))
  go_wp2_with fail
  refine (HR.out _ B2.out).mono ?_
  rintro e w3 ⟨b3, b, rfl, hbn, hblk⟩
  have B3 := Lib.hid (B2.out.trans (b3.mono B2.out.size))
  clear b3 hblk hbn HR HW HS
  go_wp2_with fail
  go_ret2
  have sz := B3.out.size
  refine ⟨B3.out.trans (al1 w3 _ |>.mono sz), w3.heap.size, rfl, ⟨⟨.slice none 0 0, .slice none 0 0, ?_, ownf_nil _ _ _, World.ownsRow_nil _ _ _ _⟩, sz, by simp [allR], by simp⟩⟩
  exact Sh.Blk.new w3 (pkC g a (.slice none 0 0) (.slice none 0 0) 0 false) 59 _ rfl
theorem fr_set (w : World) (p o : Nat) (v : Value) : Fr w (w.setCell ⟨p, o, none⟩ v) [p] := fr_grown (gb_set w p o v) (by simp)
set_option maxHeartbeats 4000000 in
set_option maxRecDepth 100000 in
theorem open_ok (h : Dev w g sa mb low N V S true m) (ha : a + 64 ≤ N) (a0 a1 : Addr) (hE : Env w a0 a1) : Calls Tryz.prog 15 #[.pointer (some ⟨g, 0, none⟩), .int .i64 (a : Int)] w (AnsP w g a (Fr.scanL (flat V a 64)).1) := by
  obtain ⟨wr, hd⟩ := h.dv
  have n1 := h.n1
  have n2 := h.n2
  have HW := Lib.hid (within_any hd (by omega) h.n2 (a : Int))
  rw [show withinB N (a : Int) = true by unfold withinB; simp; omega] at HW
  have HG := Lib.hid (fun q => gather_dev (w := w.drewN q) (h.later (below_dn w q)) a 64 ha)
  have FL : Hid ((flat V a 64).length = 16384) := flat_len (n := 64) fun i hi => h.vl _ (by omega)
  have E0 := Lib.hid hE
  have AG := Lib.hid (scan_again (flat V a 64))
  clear h hd n1 n2 hE
  generalize flat V a 64 = F at *
  go_enter Tryz.func15, Tryz.ntmps15
  go_wp2_with fail
  refine HW.out.mono ?_
  rintro e w1 ⟨rfl, q, rfl⟩
  go_wp2_with fail
  refine (HG.out q).mono ?_
  rintro e w2 ⟨b2, v, rfl, hv⟩
  have B2 := Lib.hid ((below_dn w q).trans b2)
  obtain ⟨ao, c, rfl, hc, hcm, hy, hn⟩ := own_byt hv
  rw [FL.out] at hc ⊢
  have P2 := Lib.hid B2.out.size
  have BA := Lib.hid (B2.out.trans ((al1 w2 (.cells (pkC g a (.slice none 0 0) (.slice none 0 0) 0 false).toArray 59)).mono P2.out))
  have YP : Hid (Pkb (w2.alloc (.cells (pkC g a (.slice none 0 0) (.slice none 0 0) 0 false).toArray 59)) w2.heap.size g a (.slice none 0 0) (.slice none 0 0) 0 false) := Sh.Blk.new w2 (pkC g a (.slice none 0 0) (.slice none 0 0) 0 false) 59 _ rfl
  have HY := Lib.hid (hy.below (al1 w2 (.cells (pkC g a (.slice none 0 0) (.slice none 0 0) 0 false).toArray 59)))
  have CS := Lib.hid (scan_any ao F 16384 c a0 a1 _ (E0.out.below BA.out) HY.out hn FL.out hc hcm (by omega))
  clear HG HW hv hy b2 HY
  go_wp2_with fail
  refine CS.out.mono ?_
  rintro e w4 ⟨b4, u, v2, rfl, hu, hz⟩
  have HB4 := Lib.hid (BA.out.trans (b4.mono BA.out.size))
  have Y4 := Lib.hid (YP.out.low b4)
  obtain ⟨k1, k2, k3, k4⟩ := AG.out
  rw [k1] at hz
  rw [k2]
  have LR : (allR (Fr.scanL F).1).length ≤ 16384 := by
    have := congrArg List.length k3
    rw [List.length_take, FL.out] at this
    omega
  have HLR := Lib.hid LR
  have HG4 := Lib.hid k4
  generalize (Fr.scanL F).1 = rs at *
  have HU : Hid (OwnG 0 w.heap.size w4 rs u) := by
    obtain ⟨us, h1, h2, h3⟩ := hu
    exact ⟨us, h1, row_low h2 BA.out.size, h3⟩
  have HZ : Hid (OwnZ w4 w.heap.size v2 (offs 0 rs)) := OwnZ.low hz BA.out.size
  obtain ⟨ao1, c1, rfl, _, _, _, _⟩ := ownf_read hu
  obtain ⟨ao2, c2, rfl, _, _, _, _⟩ := own_zrw hz
  obtain ⟨p, hp⟩ : ∃ p, p = w2.heap.size := ⟨_, rfl⟩
  have P2' : Hid (w.heap.size ≤ p) := by show _ ≤ _; rw [hp]; exact P2.out
  rw [← hp] at Y4 ⊢
  obtain ⟨x0, x1, x2, x3, x4, x5⟩ := Pkb.cells Y4.out
  have f2 := Sh.Blk.frozen (show Sh.Blk _ _ _ _ from Y4.out) 2
  have f3 := Sh.Blk.frozen (show Sh.Blk _ _ _ _ from Y4.out) 3
  have f4 := Sh.Blk.frozen (show Sh.Blk _ _ _ _ from Y4.out) 4
  obtain ⟨n1, hn1⟩ : ∃ n1, n1 = rs.length := ⟨_, rfl⟩
  obtain ⟨n2, hn2⟩ : ∃ n2, n2 = (offs 0 rs).length := ⟨_, rfl⟩
  obtain ⟨n3, hn3⟩ : ∃ n3, n3 = (allR rs).length := ⟨_, rfl⟩
  have HN3 := Lib.hid hn3
  rw [← hn1] at HU ⊢
  rw [← hn2] at HZ ⊢
  rw [← hn3] at HLR ⊢
  clear hu hz AG CS b4 k1 k2 k3 k4 LR hn1 hn2 hn3 hp P2 YP B2
  go_wp2_with fail
  go_ret2
  have hF : Fr w4 (((w4.setCell ⟨p, 2, none⟩ (.slice ao1 n1 c1)).setCell ⟨p, 3, none⟩ (.slice ao2 n2 c2)).setCell ⟨p, 4, none⟩ (.int .i64 (n3 : Int))) [p] := ((fr_set w4 p 2 _).trans (fr_set _ p 3 _)).trans (fr_set _ p 4 _)
  have hfar := far_pk Y4.out P2'.out
  have hY := ((Sh.Blk.set (show Sh.Blk _ _ _ _ from Y4.out) 2 (.slice ao1 n1 c1)).set 3 (.slice ao2 n2 c2)).set 4 (.int .i64 (n3 : Int))
  refine ⟨((HB4.out.setCell P2'.out _).setCell P2'.out _).setCell P2'.out _, p, rfl, ⟨⟨.slice ao1 n1 c1, .slice ao2 n2 c2, ?_, ownf_fr HU.out (Nat.zero_le _) hF hfar, ownz_fr HZ.out hF hfar⟩, P2'.out, by rw [← HN3.out]; exact HLR.out, HG4.out⟩⟩
  rw [← HN3.out]
  exact hY
end
end Go.Proofs.YtekaboomhljdoaaGreatDoor.Sh
namespace Go.Proofs.YtekaboomhljdoaaGreatDoor.Sh
open Lb Go.Proofs.YtekaboomhljdoaaGreatDoor.Pc Go.RowKit Go.Lib
open Go.Proofs.YtekaboomhljdoaaGreatDoor.Dk hiding Blk made_any size_any below_chain

set_option maxHeartbeats 2000000 in
set_option maxRecDepth 100000 in
theorem clonez_any (ao : Option Addr) (l : List Int) (n c : Nat) (w : World) (h : Zrw w ao l) (hn : ao = none → c = 0) (hl : l.length = n) (hc : n ≤ c) (hbig : n ≤ 1000000) :
    Calls Tryz.prog 42 #[.slice ao n c] w fun e w' => Below w.heap.size w w' ∧ ∃ v, e = .returned v ∧ OwnZ w' w.heap.size v l := by
  have k0 := fun (W : World) (a : Option Addr) (n c : Nat) => Lib.run_eql_slice_nil (P := Tryz.prog) W 42 3 a n c 0 0 Tryz.underlying42
  cases ao with
  | none =>
    obtain rfl : c = 0 := hn rfl
    obtain rfl : n = 0 := by omega
    obtain rfl : l = [] := List.eq_nil_of_length_eq_zero hl
    go_enter Tryz.func42, Tryz.ntmps42
    go_wp2_with fail
    go_ret
    exact ⟨Below.refl _ _, _, rfl, World.ownsRow_nil _ _ _ _⟩
  | some p =>
    have B1 := Lib.hid (al1 w (.cells #[] 3))
    have O1 : Hid (OwnZ (w.alloc (.cells #[] 3)) w.heap.size (.slice (some ⟨w.heap.size, 0, none⟩) 0 0) []) := ownz_lit w [] w.heap.size (Nat.le_refl _) (by decide)
    have H1 := Lib.hid (h.below B1.out)
    have HL := Lib.hid hl
    have Q1 : Hid ((([] : List Int).length + n) * 8 ≤ 140737488355328) := by show _ ≤ _; simp; omega
    have P1 := Lib.hid B1.out.size
    clear h hl hn
    go_enter Tryz.func42, Tryz.ntmps42
    go_wp2_with (at_builtin; refine wpl_appz_len (t := 42) (e := 3) rfl (.tmp 5) (.tmp 6) rfl Tryz.underlying42 info3 w.heap.size (.slice (some ⟨w.heap.size, 0, none⟩) 0 0) [] l rfl O1.out (some p) n c (by rfl) H1.out (fun h => by cases h) HL.out Q1.out P1.out ?_; intro v2 w3 Z3 g3)
    go_ret
    exact ⟨Below.grown B1.out g3 P1.out (fun k hk => (World.ownsRow.lt O1.out k hk).1), _, rfl, Z3⟩
set_option maxRecDepth 100000 in
theorem records_nil (w : World) : Calls Tryz.prog 16 #[.pointer none] w fun e w' => e = .returned (.tuple #[.slice none 0 0, .slice none 0 0]) ∧ w' = w := by
  go_enter Tryz.func16, Tryz.ntmps16
  go_wp2_with fail
  refine (pmade_nil w).mono ?_
  rintro e w1 ⟨rfl, rfl⟩
  go_wp2_with fail
  go_ret2
  exact ⟨rfl, rfl⟩
set_option maxRecDepth 100000 in
theorem records_zero {w : World} {p : Nat} (c : w.cell? ⟨p, 0, none⟩ = some (.pointer none)) : Calls Tryz.prog 16 #[.pointer (some ⟨p, 0, none⟩)] w fun e w' => e = .returned (.tuple #[.slice none 0 0, .slice none 0 0]) ∧ w' = w := by
  have HM := Lib.hid (pmade_zero c)
  go_enter Tryz.func16, Tryz.ntmps16
  go_wp2_with fail
  refine HM.out.mono ?_
  rintro e w1 ⟨rfl, rfl⟩
  go_wp2_with fail
  go_ret2
  exact ⟨rfl, rfl⟩
/-- all records, and where they begin, in new memory -/
def AnsR (w : World) (rs : List Rcd) (e : Ending) (w' : World) : Prop := Below w.heap.size w w' ∧ ∃ u v, e = .returned (.tuple #[u, v]) ∧ OwnG 0 w.heap.size w' rs u ∧ OwnZ w' w.heap.size v (offs 0 rs)
theorem many (rs : List Rcd) (h : (allR rs).length ≤ 16384) : rs.length ≤ 3000 := by
  have := allR_many rs
  omega
theorem ownf_made (w : World) (B cap : Nat) (Z : Array Value) (hB : B ≤ w.heap.size) (hc : cap ≤ maxLen) (hZ : Z.size = cap * 3) : OwnG 0 B (w.alloc (.cells Z 29)) [] (.slice (some ⟨w.heap.size, 0, none⟩) 0 cap) := ⟨[], rfl, World.ownsRow_made w Z cap hB hc hZ, fun _ h => absurd h (Nat.not_lt_zero _)⟩
theorem take_one {α : Type} {l : List α} {i : Nat} {x : α} (h : l[i]? = some x) : l.take (i + 1) = l.take i ++ [x] := by
  obtain ⟨h1, h2⟩ := List.getElem?_eq_some_iff.1 h
  rw [List.take_succ_eq_append_getElem h1, h2]
set_option maxHeartbeats 4000000 in
set_option maxRecDepth 100000 in
theorem records_any {B : Nat} {w : World} {p g a : Nat} {rs : List Rcd} {sh : Bool} (h : Pac B w p g a rs sh) : Calls Tryz.prog 16 #[.pointer (some ⟨p, 0, none⟩)] w (AnsR w rs) := by
  obtain ⟨vr, vp, h1, h2, h3⟩ := h.row
  have HM := Lib.hid (pmade_any h1)
  have HN := many rs h.fit
  obtain ⟨n, hn⟩ : ∃ n, n = rs.length := ⟨_, rfl⟩
  obtain ⟨x0, x1, x2, x3, x4, x5⟩ := h1.cells
  obtain ⟨ao1, c1, rfl, hc1, hd1, fr1, nn1⟩ := ownf_read h2
  obtain ⟨ao2, c2, rfl, hc2, hd2, zr2, nn2⟩ := own_zrw h3
  have HL2 : Hid ((offs 0 rs).length = n) := by show _ = _; rw [offs_len, hn]
  rw [← hn] at x2 hc1
  rw [show (offs 0 rs).length = n from HL2.out] at x3 hc2
  have FR := Lib.hid fr1
  have ZR := Lib.hid zr2
  have NN2 := Lib.hid nn2
  have HNL := Lib.hid hn
  have n3 : n ≤ 3000 := by omega
  obtain ⟨i0, hi, hz0, hz1, hz2⟩ := info_parts info29z
  have hmk : ∀ W : World, (Instr.makeSlice 38 (.int .i64 0) (.int .i64 (n : Int))).run Tryz.prog W = _ := fun W => run_make W 38 29 i0 (.agg #[.int .i64 0, .string ⟨#[]⟩, .slice none 0 0]) Tryz.underlying38 hi hz0 .i64 .i64 0 (n : Int) (Int.le_refl _) (by omega) (by rw [hz2]; omega) (by omega)
  rw [hz1, Int.toNat_zero, Int.toNat_natCast] at hmk
  have own0 := ownf_made w w.heap.size n (madeCells (Value.agg #[.int .i64 0, .string ⟨#[]⟩, .slice none 0 0]).cells (n * 3)) (Nat.le_refl _) (by unfold maxLen; omega) (by rw [size_madeCells])
  generalize madeCells (Value.agg #[.int .i64 0, .string ⟨#[]⟩, .slice none 0 0]).cells (n * 3) = Z at *
  have O0 := Lib.hid own0
  have P1 := Lib.hid (Sh.Blk.alloc h1 (.cells Z 29))
  obtain ⟨_, _, y2, y3, _, _⟩ := Pkb.cells P1.out
  have W1 := Lib.hid (al1 w (.cells Z 29))
  have HP := Lib.hid h1
  have HGD := Lib.hid h.good
  rw [show (offs 0 rs).length = n from HL2.out] at y3
  rw [← hn] at y2
  clear h h1 h2 h3 own0 hi hz0 hz1 hz2 nn1 zr2 nn2 hn fr1
  go_enter Tryz.func16, Tryz.ntmps16
  go_wp2_with fail
  refine HM.out.mono ?_
  rintro e w1 ⟨rfl, rfl⟩
  go_wp2_with fail
  go_loopw [4, 21] (fun v4 v21 wr => ∃ i : Nat, i ≤ n ∧ v21 = .int .i64 i ∧ Hid (OwnG 0 w1.heap.size wr (rs.take i) v4) ∧ Hid (Below w1.heap.size w1 wr)) (fun _ v21 _ => n - (RowKit.intOf v21).toNat)
  case atStart => exact ⟨0, by omega, rfl, O0.out, W1.out⟩
  case round =>
    obtain ⟨i, hi, rfl, hF, hB⟩ := hrel
    by_cases hin : i < n
    · obtain ⟨r, hr⟩ : ∃ r, rs[i]? = some r := ⟨rs[i]'(by rw [← HNL.out]; exact hin), List.getElem?_eq_getElem _⟩
      obtain ⟨b, o, rfl, hb, hx⟩ := FR.out (by intro h0; rw [h0] at hr; simp at hr)
      obtain ⟨ra, rc, c0, c1', c2', hy, hrn, hrc, hrcc⟩ := hx i r hr
      have d0 := (hB.out.cell (p := ⟨b, o + i * 3, none⟩) hb).trans c0
      have d1 := (hB.out.cell (p := ⟨b, o + i * 3 + 1, none⟩) hb).trans c1'
      have d2 := (hB.out.cell (p := ⟨b, o + i * 3 + 2, none⟩) hb).trans c2'
      have inI : (i : Int) < (n : Int) := by omega
      have gl : r.2.length ≤ 140737488355328 := by have := (HGD.out r (List.mem_of_getElem? hr)).1; omega
      have TK := Lib.hid (take_one hr)
      have CK := Lib.hid (pclone_any (r.1.toNat : Int) (keyS (r.1.toNat : Nat) r.2) ra r.2.length rc r.2 (wr.alloc (.cells #[.int .i64 (r.1.toNat : Int), .string (keyS (r.1.toNat : Nat) r.2), .slice ra r.2.length rc] 29)) ((hy.below hB.out).below (al1 wr _)) rfl gl)
      have BX := Lib.hid (al1 wr (.cells #[.int .i64 (r.1.toNat : Int), .string (keyS (r.1.toNat : Nat) r.2), .slice ra r.2.length rc] 29))
      have hlen : Hid ((rs.take i).length + 1 ≤ 1000000000) := by show _ ≤ _; rw [List.length_take]; omega
      obtain ⟨kk, hkk⟩ : ∃ kk : Int, kk = (r.1.toNat : Int) := ⟨_, rfl⟩
      obtain ⟨K, hK⟩ : ∃ K, K = keyS (r.1.toNat : Nat) r.2 := ⟨_, rfl⟩
      have HKK := Lib.hid hkk
      have HK := Lib.hid hK
      rw [← hK] at d1 CK BX
      rw [← hkk] at d0 CK BX
      obtain ⟨q, hq⟩ : ∃ q, q = r.2.length := ⟨_, rfl⟩
      have HQ := Lib.hid hq
      rw [← hq] at d2 CK BX
      clear c0 c1' c2' hy hrn hrc hrcc hx hr gl hkk hK hq
      go_wp2_with fail
      refine CK.out.mono ?_
      rintro e w3 ⟨b3, v, rfl, hv⟩
      obtain ⟨a3, c3, rfl, hc3, hcm3, hy3, hn3⟩ := own_byt hv
      rw [← HQ.out] at hv hc3 ⊢
      have B3 := Lib.hid (below_chain BX.out b3)
      have bt := al1 w3 (.cells #[.int .i64 kk, .string K, .slice a3 q c3] 29)
      have F3 := Lib.hid (ownf_below (ownf_below hF.out B3.out) bt)
      have B4 := Lib.hid (below_chain (below_chain hB.out B3.out) bt)
      have D3 : Hid (DatK 0 (w3.alloc (.cells #[.int .i64 kk, .string K, .slice a3 q c3] 29)) (.slice a3 q c3) r.2) := datK_below (datK_low hv (Nat.zero_le _)) bt
      have KB : Hid (Blk (w3.alloc (.cells #[.int .i64 kk, .string K, .slice a3 q c3] 29)) w3.heap.size (recC r (.slice a3 q c3)) 29) := by
        show Blk _ _ _ _
        have hc : recC r (.slice a3 q c3) = [.int .i64 kk, .string K, .slice a3 q c3] := by rw [HKK.out, HK.out]; rfl
        rw [hc]
        exact Blk.new _ [.int .i64 kk, .string K, .slice a3 q c3] 29 _ rfl
      have P4 := Lib.hid B4.out.size
      clear CK BX b3 hv hc3 hcm3 hy3 hn3 bt hF hB d0 d1 d2
      go_wp2_with (at_builtin; refine wpl_appf rfl (.tmp 25) (.tmp 28) rfl 0 w1.heap.size (Nat.zero_le _) u4 (.slice a3 q c3) (rs.take i) r rfl F3.out D3.out w3.heap.size (by rfl) KB.out hlen.out P4.out ?_; intro v5 w5 F5 g5)
      have B5 : Below w1.heap.size w1 w5 := by
        obtain ⟨us, _, ho, _⟩ := F3.out
        exact B4.out.grown g5 P4.out (fun k hk => (World.ownsRow.lt ho k hk).1)
      go_roundw
      case rel => exact ⟨i + 1, by omega, by go_num, by show OwnG _ _ _ _ _; rw [TK.out]; exact F5, B5⟩
      case measure => simp [RowKit.intOf]; omega
    · obtain rfl : i = n := by omega
      have CZ := Lib.hid (clonez_any ao2 (offs 0 rs) i c2 wr (ZR.out.below hB.out) NN2.out HL2.out hc2 (by omega))
      have z3 := (Pkb.cells (show Pkb wr _ _ _ _ _ _ _ from (hB.out.block p (Sh.Blk.lt HP.out)).trans HP.out)).2.2.2.1
      rw [show (offs 0 rs).length = i from HL2.out] at z3
      have FT : Hid (OwnG 0 w1.heap.size wr rs u4) := by
        have := hF.out
        rw [List.take_of_length_le (by rw [HNL.out]; exact Nat.le_refl _)] at this
        exact this
      go_wp2_with fail
      refine CZ.out.mono ?_
      rintro e w6 ⟨b6, v6, rfl, hz6⟩
      go_wp2_with fail
      go_ret2
      exact ⟨below_chain hB.out b6, _, _, rfl, ownf_below FT.out b6, OwnZ.low hz6 hB.out.size⟩
end Go.Proofs.YtekaboomhljdoaaGreatDoor.Sh
namespace Go.Proofs.YtekaboomhljdoaaGreatDoor.Sh
open Lb Go.Proofs.YtekaboomhljdoaaGreatDoor.Pc Go.RowKit Go.Lib
open Go.Proofs.YtekaboomhljdoaaGreatDoor.Dk hiding Blk made_any size_any below_chain

theorem results_row_tmp1 {P : Program} {fn : Func} {p u : Tmp} {ty : TypeId} (h : fn.results = #[.cell p ty, .tmp u]) (tmps : Array Value) (w : World) (g : Nat) (t : TypeId) (cs : List Value) (d : TypeDesc) (y : Value)
    (hp : tmps.getD p undef = .pointer (some ⟨g, 0, none⟩)) (hy : tmps.getD u undef = y) (hg : Blk w g cs t)
    (hu : P.underlying ty = some d) (hd : (match d with | .struct _ | .array _ _ => true | _ => false) = true) (hi : (P.info? ty).map (·.size) = some cs.toArray.size) :
    (results fn tmps).run P w = .ok (.tuple #[.agg cs.toArray, y]) w := by
  have hp' : tmps[p]?.getD undef = .pointer (some ⟨g, 0, none⟩) := by simpa using hp
  have hy' : tmps[u]?.getD undef = y := by simpa using hy
  simp [results, h, hp', hy', asAddr, run_loadVar_row w g t ty cs.toArray (0, 0) d hg hu hd hi, Result.andThen]
/-- the record that is read -/
def AnsN (w : World) (k : UInt8) (d : List UInt8) (z : Int) (e : Ending) (w' : World) : Prop := Below w.heap.size w w' ∧ ∃ v, e = .returned (.tuple #[.agg #[.int .i64 (k.toNat : Int), .string (keyS (k.toNat : Nat) d), v], .int .i64 z, .int .i64 0]) ∧ Own w' w.heap.size v d
set_option maxHeartbeats 2000000 in
set_option maxRecDepth 100000 in
theorem next_yes (ao : Option Addr) (b : List UInt8) (n c : Nat) (a0 a1 : Addr) (w : World) (hE : Env w a0 a1) (h : Byt w ao b) (hn : ao = none → c = 0) (hb : b.length = n) (hc : n ≤ c) (hc2 : c ≤ 9223372036854775807) (k : UInt8) (d : List UInt8) (z : Nat) (hyes : Fr.nextL b = (0, k, d, z)) :
    Calls Tryz.prog 48 #[.slice ao n c] w (AnsN w k d z) := by
  have B0 := al1 w (.cells #[.int .i64 0, .string ⟨#[]⟩, .slice none 0 0] 29)
  have YB : Hid (Blk (w.alloc (.cells #[.int .i64 0, .string ⟨#[]⟩, .slice none 0 0] 29)) w.heap.size [.int .i64 0, .string ⟨#[]⟩, .slice none 0 0] 29) := Blk.new w [.int .i64 0, .string ⟨#[]⟩, .slice none 0 0] 29 w.heap.size rfl
  have hCB := first_any ao b n c a0 a1 _ (hE.below B0) (h.below B0) hn hb hc hc2
  unfold AnsF at hCB
  rw [hyes] at hCB
  have CB := Lib.hid hCB
  have E0 := Lib.hid (hE.below B0)
  have BB := Lib.hid B0
  clear hE h hb B0 hyes hCB
  go_enter Tryz.func48, Tryz.ntmps48
  go_wp2_with fail
  generalize hW1 : w.alloc (.cells #[.int .i64 0, .string ⟨#[]⟩, .slice none 0 0] 29) = W1 at *
  have SZ : Hid (w.heap.size + 1 = W1.heap.size) := by show _ = _; rw [← hW1]; simp
  clear hW1
  refine CB.out.mono ?_
  rintro e w1 ⟨b1, h9⟩
  obtain ⟨_, ⟨v, rfl, hv⟩⟩ := h9.resolve_right (fun x => x.1 rfl)
  clear h9
  obtain ⟨a3, c3, rfl, _, _, _, _⟩ := own_byt hv
  obtain ⟨q, hq⟩ : ∃ q, q = d.length := ⟨_, rfl⟩
  obtain ⟨K, hK⟩ : ∃ K, K = keyS (k.toNat : Nat) d := ⟨_, rfl⟩
  simp only at hv hq ⊢
  rw [← hq] at hv ⊢
  have HK := Lib.hid hK
  rw [← hK]
  obtain ⟨kk, hkk⟩ : ∃ kk : Int, kk = (k.toNat : Int) := ⟨_, rfl⟩
  have HKK := Lib.hid hkk
  rw [← hkk]
  have Y1 := Lib.hid (YB.out.low b1)
  have E1 := Lib.hid (E0.out.below b1)
  have B1 := Lib.hid (BB.out.trans (b1.mono BB.out.size))
  have yl := Y1.out.lt
  have CE := Lib.hid (fun W (hb : Below w1.heap.size w1 W) => errno_fr 0 .nilIface a0 a1 W (E1.out.sen.below hb) (.inl ⟨rfl, rfl⟩))
  have bt := al1 w1 (.cells #[.int .i64 kk, .string K, .slice a3 q c3] 29)
  have K2 : Hid (Blk (w1.alloc (.cells #[.int .i64 kk, .string K, .slice a3 q c3] 29)) w1.heap.size [.int .i64 kk, .string K, .slice a3 q c3] 29) := Blk.new w1 [.int .i64 kk, .string K, .slice a3 q c3] 29 w1.heap.size rfl
  have Y2 := Lib.hid (Y1.out.low bt)
  have BQ := Lib.hid bt.drew
  have B2 := Lib.hid (B1.out.trans (bt.mono B1.out.size))
  have V2 := Lib.hid (own_below hv bt)
  clear bt b1 CB hv hq hK hkk
  go_wp2_with fail
  obtain ⟨g, hg⟩ : ∃ g, g = w1.heap.size := ⟨_, rfl⟩
  rw [← hg] at K2 ⊢
  generalize w1.alloc (.cells #[.int .i64 kk, .string K, .slice a3 q c3] 29) = W2 at *
  have YQ := Lib.hid Y2.out.drew
  have KQ := Lib.hid K2.out.drew
  have B3 := Lib.hid B2.out.drew
  have V3 : Hid (Own W2.drew W1.heap.size (.slice a3 q c3) d) := V2.out
  have f0 := YQ.out.frozen 0
  have f1 := YQ.out.frozen 1
  have f2 := YQ.out.frozen 2
  have y0 := keep29 YQ.out
  have k0 := keep29 K2.out
  have ng : ¬ g = w.heap.size := by omega
  have ng' : ¬ w.heap.size = g := by omega
  clear hg
  go_region_held3 (fun w' => w'.cell? ⟨g, 0, none⟩ = some (.int .i64 kk) ∧ w'.cell? ⟨g, 1, none⟩ = some (.string K) ∧ w'.cell? ⟨g, 2, none⟩ = some (.slice a3 q c3))
    (first | go_keep | exact keep29 KQ.out)
    ((go_at_call 57; (with_reducible refine (CE.out _ BQ.out).mono ?_); rintro e w5 ⟨rfl, b5⟩; have V3 := Lib.hid (own_below V3.out b5); have YQ := Lib.hid (YQ.out.low b5); have KQ := Lib.hid (KQ.out.low b5); have B3 := Lib.hid (B3.out.trans (b5.mono B3.out.size)); have f0 := YQ.out.frozen 0; have f1 := YQ.out.frozen 1; have f2 := YQ.out.frozen 2; have y0 := keep29 YQ.out; clear b5))
  all_goals
    go_wp2_with fail
    refine bodyPost_ret (results_row_tmp2 rfl _ _ w.heap.size 29 _ _ _ _ rfl rfl rfl (((YQ.out.set 0 (.int .i64 kk)).set 1 (.string K)).set 2 (.slice a3 q c3)) Tryz.underlying29 rfl (size29 _ _ _)) rfl ?_
    have wl : w.heap.size < W1.heap.size := by have := SZ.out; omega
    refine ⟨((B3.out.setCell (Nat.le_refl _) _).setCell (Nat.le_refl _) _).setCell (Nat.le_refl _) _, .slice a3 q c3, by rw [HK.out, HKK.out]; rfl, ?_⟩
    exact (own_setfar (own_setfar (own_setfar V3.out _ _ wl) _ _ wl) _ _ wl).low (Nat.le_of_lt wl)
end Go.Proofs.YtekaboomhljdoaaGreatDoor.Sh
namespace Go.Proofs.YtekaboomhljdoaaGreatDoor.Sh
open Lb Go.Proofs.YtekaboomhljdoaaGreatDoor.Pc Go.RowKit Go.Lib
open Go.Proofs.YtekaboomhljdoaaGreatDoor.Dk hiding Blk made_any size_any below_chain

/-- no record, for that reason -/
def AnsD (w : World) (z : Int) (e : Ending) (w' : World) : Prop := e = .returned (.tuple #[.agg #[.int .i64 0, .string ⟨#[]⟩, .slice none 0 0], .int .i64 z]) ∧ Below w.heap.size w w'
/-- that record -/
def AnsY (w : World) (r : Rcd) (e : Ending) (w' : World) : Prop := Below w.heap.size w w' ∧ ∃ v, e = .returned (.tuple #[.agg #[.int .i64 (r.1.toNat : Int), .string (keyS (r.1.toNat : Nat) r.2), v], .int .i64 0]) ∧ Own w' w.heap.size v r.2
theorem zbox (w : World) : Blk (w.alloc (.cells #[.int .i64 0, .string ⟨#[]⟩, .slice none 0 0] 29)) w.heap.size [.int .i64 0, .string ⟨#[]⟩, .slice none 0 0] 29 := Blk.new w [.int .i64 0, .string ⟨#[]⟩, .slice none 0 0] 29 w.heap.size rfl
set_option maxRecDepth 100000 in
theorem pread_nil (o : Int) (w : World) : Calls Tryz.prog 21 #[.pointer none, .int .i64 o] w (AnsD w 1) := by
  have ZB := Lib.hid (zbox w)
  have B0 := Lib.hid (al1 w (.cells #[.int .i64 0, .string ⟨#[]⟩, .slice none 0 0] 29))
  go_enter Tryz.func21, Tryz.ntmps21
  go_wp2_with fail
  refine (pmade_nil _).mono ?_
  rintro e w1 ⟨rfl, rfl⟩
  have f0 := ZB.out.frozen 0
  have f1 := ZB.out.frozen 1
  have f2 := ZB.out.frozen 2
  have k0 := keep29 ZB.out
  go_wp2_with fail
  refine bodyPost_ret (results_row_tmp1 rfl _ _ w.heap.size 29 _ _ _ rfl rfl ZB.out Tryz.underlying29 rfl (size29 _ _ _)) rfl ?_
  exact ⟨rfl, B0.out⟩
set_option maxRecDepth 100000 in
theorem pread_zero {w : World} {p : Nat} (c : w.cell? ⟨p, 0, none⟩ = some (.pointer none)) (o : Int) : Calls Tryz.prog 21 #[.pointer (some ⟨p, 0, none⟩), .int .i64 o] w (AnsD w 1) := by
  have ZB := Lib.hid (zbox w)
  have B0 := Lib.hid (al1 w (.cells #[.int .i64 0, .string ⟨#[]⟩, .slice none 0 0] 29))
  have hp : p < w.heap.size := lt_of_cell c
  have HM := Lib.hid (pmade_zero (w := w.alloc (.cells #[.int .i64 0, .string ⟨#[]⟩, .slice none 0 0] 29)) (p := p) ((B0.out.cell (p := ⟨p, 0, none⟩) hp).trans c))
  clear hp
  go_enter Tryz.func21, Tryz.ntmps21
  go_wp2_with fail
  refine HM.out.mono ?_
  rintro e w1 ⟨rfl, rfl⟩
  have f0 := ZB.out.frozen 0
  have f1 := ZB.out.frozen 1
  have f2 := ZB.out.frozen 2
  have k0 := keep29 ZB.out
  go_wp2_with fail
  refine bodyPost_ret (results_row_tmp1 rfl _ _ w.heap.size 29 _ _ _ rfl rfl ZB.out Tryz.underlying29 rfl (size29 _ _ _)) rfl ?_
  exact ⟨rfl, B0.out⟩
set_option maxHeartbeats 4000000 in
set_option maxRecDepth 100000 in
theorem pread_none {B : Nat} {w : World} {p g a : Nat} {rs : List Rcd} {sh : Bool} (h : Pac B w p g a rs sh) (o : Int) (ho : o ∉ offs 0 rs) : Calls Tryz.prog 21 #[.pointer (some ⟨p, 0, none⟩), .int .i64 o] w (AnsD w 130) := by
  have ZB := Lib.hid (zbox w)
  have B0 := Lib.hid (al1 w (.cells #[.int .i64 0, .string ⟨#[]⟩, .slice none 0 0] 29))
  have h' := h.later B0.out
  obtain ⟨vr, vp, h1, h2, h3⟩ := h'.row
  have HM := Lib.hid (pmade_any h1)
  have HN := many rs h.fit
  obtain ⟨x0, x1, x2, x3, x4, x5⟩ := h1.cells
  obtain ⟨ao2, c2, rfl, hc2, hd2, zr2, nn2⟩ := own_zrw h3
  obtain ⟨n, hn⟩ : ∃ n, n = (offs 0 rs).length := ⟨_, rfl⟩
  rw [← hn] at x3
  have n3 : n ≤ 1000000 := by rw [hn, offs_len]; omega
  have HS := Lib.hid (search_any ao2 (offs 0 rs) n c2 o _ zr2 hn.symm n3 (offs_sorted rs 0))
  have HO := Lib.hid ho
  clear h h' h1 h2 h3 nn2 zr2 hn ho hc2
  go_enter Tryz.func21, Tryz.ntmps21
  go_wp2_with fail
  refine HM.out.mono ?_
  rintro e w1 ⟨rfl, rfl⟩
  go_wp2_with fail
  refine HS.out.mono ?_
  rintro e w2 ⟨⟨i, b, rfl, hf⟩, q, rfl⟩
  rcases hf with ⟨_, hf⟩ | ⟨rfl, _⟩
  · exact absurd (List.mem_of_getElem? hf) HO.out
  have ZQ : Hid (Blk ((w.alloc (.cells #[.int .i64 0, .string ⟨#[]⟩, .slice none 0 0] 29)).drewN q) w.heap.size [.int .i64 0, .string ⟨#[]⟩, .slice none 0 0] 29) := ZB.out
  have f0 := ZQ.out.frozen 0
  have f1 := ZQ.out.frozen 1
  have f2 := ZQ.out.frozen 2
  have k0 := keep29 ZQ.out
  go_wp2_with fail
  refine bodyPost_ret (results_row_tmp1 rfl _ _ w.heap.size 29 _ _ _ rfl rfl (((ZQ.out.set 0 (.int .i64 0)).set 1 (.string ⟨#[]⟩)).set 2 (.slice none 0 0)) Tryz.underlying29 rfl (size29 _ _ _)) rfl ?_
  exact ⟨rfl, (((B0.out.trans ((below_dn _ q).mono B0.out.size)).setCell (Nat.le_refl _) _).setCell (Nat.le_refl _) _).setCell (Nat.le_refl _) _⟩
theorem same_at {ps : List Int} (hs : ps.Pairwise (· < ·)) {i j : Nat} {x : Int} (h1 : ps[i]? = some x) (h2 : ps[j]? = some x) : i = j := by
  obtain ⟨i1, e1⟩ := List.getElem?_eq_some_iff.1 h1
  obtain ⟨j1, e2⟩ := List.getElem?_eq_some_iff.1 h2
  rcases Nat.lt_trichotomy i j with h | h | h
  · have := List.pairwise_iff_getElem.1 hs i j i1 j1 h
    omega
  · exact h
  · have := List.pairwise_iff_getElem.1 hs j i j1 i1 h
    omega
theorem size_rec (r : Rcd) (h : r.2.length ≤ 8192) : sizeN (r.2.length : Int) = ((recB r).length : Int) := by
  unfold sizeN
  rw [if_neg (by omega), recB_len, Int.toNat_natCast]
  omega
set_option maxHeartbeats 8000000 in
set_option maxRecDepth 100000 in
theorem pread_some {B : Nat} {w : World} {p g sa mb a N m : Nat} {rs : List Rcd} {sh : Bool} {low : Int} {V : Nat → List UInt8} {S : List (List UInt8)} (h : Pac B w p g a rs sh) (hd : Dev w g sa mb low N V S true m) (hh : Hold V a rs) (ha : a + 64 ≤ N)
    (a0 a1 : Addr) (hE : Env w a0 a1) (j : Nat) (r : Rcd) (hr : rs[j]? = some r) (o : Nat) (ho : o = (allR (rs.take j)).length) :
    Calls Tryz.prog 21 #[.pointer (some ⟨p, 0, none⟩), .int .i64 (o : Int)] w (AnsY w r) := by
  have ZB := Lib.hid (zbox w)
  have B0 := Lib.hid (al1 w (.cells #[.int .i64 0, .string ⟨#[]⟩, .slice none 0 0] 29))
  have hjl : j < rs.length := (List.getElem?_eq_some_iff.1 hr).1
  have hg := h.good r (List.mem_of_getElem? hr)
  obtain ⟨r1, r2, r3⟩ := read_rec (fun i hi => hd.vl _ (by omega)) hh h.fit j r hr hg o ho
  have n2 := hd.n2
  have fit := h.fit
  have hg1 := hg.1
  obtain ⟨f, hf⟩ : ∃ f, f = o / 256 := ⟨_, rfl⟩
  obtain ⟨s, hs⟩ : ∃ s, s = o % 256 := ⟨_, rfl⟩
  obtain ⟨Z, hZ⟩ : ∃ Z, Z = (recB r).length := ⟨_, rfl⟩
  have q1 : (o : Int) / 256 = (f : Int) := by omega
  have q2 : (o : Int) % 256 = (s : Int) := by omega
  have q0 : (0 : Int) ≤ (o : Int) := by omega
  rw [← hf, ← hs, ← hZ] at r2 r3
  rw [← hZ] at r1
  have s255 : s ≤ 255 := by omega
  have Z1 : Z ≤ 16384 := by omega
  have f1 : f ≤ 64 := by omega
  have Zp : 7 ≤ Z := by rw [hZ]; exact recB_pos r
  have h' := h.later B0.out
  have HD := Lib.hid (hd.later B0.out)
  have HE := Lib.hid (hE.below B0.out)
  obtain ⟨vr, vp, h1, h2, h3⟩ := h'.row
  have HM := Lib.hid (pmade_any h1)
  have HP := Lib.hid h1
  have HN := many rs h.fit
  have hgo : (offs 0 rs)[j]? = some (o : Int) := by rw [offs_get rs 0 j hjl, ho, Nat.zero_add]
  obtain ⟨x0, x1, x2, x3, x4, x5⟩ := h1.cells
  obtain ⟨ao1, c1, rfl, hc1, hd1, fr1, nn1⟩ := ownf_read h2
  obtain ⟨ao2, c2, rfl, hc2, hd2, zr2, nn2⟩ := own_zrw h3
  obtain ⟨n, hn⟩ : ∃ n, n = (offs 0 rs).length := ⟨_, rfl⟩
  rw [← hn] at x3
  have n3 : n ≤ 1000000 := by rw [hn, offs_len]; omega
  have HS := Lib.hid (search_any ao2 (offs 0 rs) n c2 (o : Int) _ zr2 hn.symm n3 (offs_sorted rs 0))
  have HGO := Lib.hid hgo
  have HOS := Lib.hid (offs_sorted rs 0)
  obtain ⟨nl, hnl⟩ : ∃ nl, nl = rs.length := ⟨_, rfl⟩
  rw [← hnl] at x2 hjl
  obtain ⟨b, ob, rfl, hb, hx⟩ := fr1 (by intro h0; rw [h0] at hr; simp at hr)
  obtain ⟨ra, rc, c0, c1', c2', hy, hrn, hrc, hrcc⟩ := hx j r hr
  have R3 := Lib.hid r3
  have HY := Lib.hid hy
  have sz := size_rec r hg1
  rw [← hZ] at sz
  obtain ⟨q, hq⟩ : ∃ q, q = r.2.length := ⟨_, rfl⟩
  rw [← hq] at c2' sz hg1
  obtain ⟨kk, hkk⟩ : ∃ kk : Int, kk = (r.1.toNat : Int) := ⟨_, rfl⟩
  obtain ⟨K, hK⟩ : ∃ K, K = keyS (r.1.toNat : Nat) r.2 := ⟨_, rfl⟩
  have HKK := Lib.hid hkk
  have HK := Lib.hid hK
  have HQ := Lib.hid hq
  rw [← hK] at c1'
  rw [← hkk] at c0
  obtain ⟨T, hT⟩ : ∃ T, T = (s + Z + 255) / 256 := ⟨_, rfl⟩
  rw [← hT] at r2 R3
  have ST : Hid (s ≤ 256 * T) := by show _ ≤ _; omega
  have AFT : Hid (a + f + T ≤ N) := by show _ ≤ _; omega
  have CT1 : Hid (∀ W, Calls Tryz.prog 47 #[.int .i64 (q : Int)] W fun e w' => e = .returned (.int .i64 (Z : Int)) ∧ w' = W) := fun W => by
    rw [← sz]
    exact frsize_any (q : Int) (by omega) (by omega) W
  have CT2 : Hid (∀ W, Calls Tryz.prog 46 #[.int .i64 (IntKind.i64.wrap ((s : Int) + (Z : Int)))] W fun e w' => e = .returned (.int .i64 (T : Int)) ∧ w' = W) := fun W => by
    rw [show IntKind.i64.wrap ((s : Int) + (Z : Int)) = ((s + Z : Nat) : Int) by rw [IntKind.wrap_i64]; omega, hT]
    exact touched_any (s + Z) (by omega) W
  clear h h' hd h1 h2 h3 nn1 nn2 zr2 hn ho hc2 hc1 hx hr hh hrn hrc hrcc hy hg fr1 hgo hnl hf hs hZ hkk hK hq hT sz r1 r3 hE
  go_enter Tryz.func21, Tryz.ntmps21
  go_wp2_with fail
  refine HM.out.mono ?_
  rintro e w1 ⟨rfl, rfl⟩
  generalize w.alloc (.cells #[.int .i64 0, .string ⟨#[]⟩, .slice none 0 0] 29) = w1 at *
  go_wp2_with fail
  refine HS.out.mono ?_
  rintro e w2 ⟨⟨i, bb, rfl, hfd⟩, dq, rfl⟩
  have hf2 := Or.resolve_right hfd (fun x => x.2 (List.mem_of_getElem? HGO.out))
  obtain ⟨rfl, hf3⟩ := hf2
  obtain rfl := same_at HOS.out hf3 HGO.out
  clear hfd hf3
  have d0 : (w1.drewN dq).cell? ⟨b, ob + i * 3, none⟩ = some (.int .i64 kk) := c0
  have d1 : (w1.drewN dq).cell? ⟨b, ob + i * 3 + 1, none⟩ = some (.string K) := c1'
  have d2 : (w1.drewN dq).cell? ⟨b, ob + i * 3 + 2, none⟩ = some (.slice ra q rc) := c2'
  have y2 : (w1.drewN dq).cell? ⟨p, 2, none⟩ = some (.slice (some ⟨b, ob, none⟩) nl c1) := x2
  have hjI : (i : Int) < (nl : Int) := by omega
  have HPq : Hid (Pkb (w1.drewN dq) p g (a : Int) (.slice (some ⟨b, ob, none⟩) rs.length c1) (.slice ao2 (offs 0 rs).length c2) (((allR rs).length : Nat) : Int) sh) := HP.out
  have HDq : Hid (Dev (w1.drewN dq) g sa mb low N V S true m) := HD.out.later (below_dn w1 dq)
  have HEq : Hid (Env (w1.drewN dq) a0 a1) := HE.out.below (below_dn w1 dq)
  have ZBq : Hid (Blk (w1.drewN dq) w.heap.size [.int .i64 0, .string ⟨#[]⟩, .slice none 0 0] 29) := ZB.out
  have Bq := Lib.hid (B0.out.trans ((below_dn w1 dq).mono B0.out.size))
  clear c0 c1' c2' x2 x0 x1 x3 x4 x5 HP HD HE ZB B0 HS HM
  generalize w1.drewN dq = w2 at *
  have YK : Hid (Blk (w2.alloc (.cells #[.int .i64 kk, .string K, .slice ra q rc] 29)) w2.heap.size [.int .i64 kk, .string K, .slice ra q rc] 29) := Blk.new w2 [.int .i64 kk, .string K, .slice ra q rc] 29 w2.heap.size rfl
  have BK := al1 w2 (.cells #[.int .i64 kk, .string K, .slice ra q rc] 29)
  have P3 : Hid (Pkb (w2.alloc (.cells #[.int .i64 kk, .string K, .slice ra q rc] 29)) p g (a : Int) (.slice (some ⟨b, ob, none⟩) rs.length c1) (.slice ao2 (offs 0 rs).length c2) (((allR rs).length : Nat) : Int) sh) := Sh.Blk.alloc HPq.out _
  have D3 := Lib.hid (HDq.out.later BK)
  have E3 := Lib.hid (HEq.out.below BK)
  have Z3 := Lib.hid (ZBq.out.low BK)
  have B3 := Lib.hid (below_chain Bq.out BK)
  clear BK HPq HDq HEq ZBq Bq
  go_wp2_with fail
  obtain ⟨g8, hg8⟩ : ∃ g8, g8 = w2.heap.size := ⟨_, rfl⟩
  rw [← hg8] at YK ⊢
  generalize w2.alloc (.cells #[.int .i64 kk, .string K, .slice ra q rc] 29) = w3 at *
  obtain ⟨x0, x1, _, _, _, _⟩ := Pkb.cells P3.out
  have k2 := (keep29 YK.out).2.2
  have BQ := Lib.hid (Below.refl w3.heap.size w3).drew
  have CT3 : Hid (∀ W, Below w3.heap.size w3 W → Calls Tryz.prog 40 #[.func (.func 32) #[.pointer (some ⟨g, 0, none⟩)] #[], .int .i64 (IntKind.i64.wrap ((a : Int) + (f : Int))), .int .i64 (T : Int)] W (Got W (flat V (a + f) T))) := by
    intro W hW
    rw [show IntKind.i64.wrap ((a : Int) + (f : Int)) = ((a + f : Nat) : Int) by rw [IntKind.wrap_i64]; omega]
    exact gather_dev (D3.out.later hW) (a + f) T (by omega)
  clear hg8 d0 d1 d2 y2
  go_region_held3 (fun w' => w'.cell? ⟨p, 0, none⟩ = some (.pointer (some ⟨g, 0, none⟩)) ∧ w'.cell? ⟨p, 1, none⟩ = some (.int .i64 (a : Int)) ∧ w'.cell? ⟨g8, 2, none⟩ = some (.slice ra q rc))
    (first | go_keep | exact ⟨x0, x1, k2⟩)
    ((first
      | (go_at_call 47; (with_reducible refine (CT1.out _).mono ?_); rintro e w5 ⟨rfl, rfl⟩)
      | (go_at_call 46; (with_reducible refine (CT2.out _).mono ?_); rintro e w5 ⟨rfl, rfl⟩)
      | (go_at_call 40; (with_reducible refine (CT3.out _ BQ.out).mono ?_); rintro e w5 ⟨b5, vv, rfl, hv5⟩; obtain ⟨x0, x1, _, _, _, _⟩ := Pkb.cells (Sh.Blk.low (w := w3.drew) P3.out b5); have k2 := (keep29 (Sh.Blk.low (w := w3.drew) YK.out b5)).2.2)))
  all_goals
    obtain ⟨av, cv, rfl, hcv, hcm, hyv, hnv⟩ := own_byt hv5
    have fl : (flat V (a + f) T).length = 256 * T := flat_len fun i hi => D3.out.vl _ (Nat.lt_of_lt_of_le (Nat.add_lt_add_left hi _) AFT.out)
    obtain ⟨tb, htb⟩ : ∃ tb, tb = (flat V (a + f) T).length := ⟨_, rfl⟩
    rw [← htb] at hcv fl ⊢
    have B5 := Lib.hid (below_chain BQ.out b5)
    have stb : s ≤ tb := by rw [fl]; exact ST.out
    obtain ⟨a', sl, by', nn'⟩ := slice_from av tb cv s (flat V (a + f) T) stb htb hnv hcv
    have BT := Lib.hid (below_chain B3.out B5.out)
    have ZT := Lib.hid (Z3.out.low B5.out)
    have YT := Lib.hid (YK.out.low B5.out)
    have CN := Lib.hid (next_yes a' ((flat V (a + f) T).drop s) (tb - s) (cv - s) a0 a1 w5 (E3.out.below B5.out) (by' w5 hyv) nn' (by rw [List.length_drop, ← htb]) (Nat.sub_le_sub_right hcv s) (Nat.le_trans (Nat.sub_le _ _) hcm) r.1 r.2 Z R3.out)
    clear hv5 b5 hyv hnv by' nn' htb B5 CT1 CT2 CT3 fl
    go_wp2_with fail
    refine CN.out.mono ?_
    rintro e w6 ⟨b6, v6, rfl, hv6⟩
    obtain ⟨a6, c6, rfl, _, _, _, _⟩ := own_byt hv6
    rw [← HQ.out, ← HKK.out, show keyS kk r.2 = K by rw [HKK.out, HK.out]]
    rw [← HQ.out] at hv6
    have b7 := al1 w6 (.cells #[.int .i64 kk, .string K, .slice a6 q c6] 29)
    have b67 := below_chain b6 b7
    have Y7 : Hid (Blk (w6.alloc (.cells #[.int .i64 kk, .string K, .slice a6 q c6] 29)) w6.heap.size [.int .i64 kk, .string K, .slice a6 q c6] 29) := Blk.new w6 [.int .i64 kk, .string K, .slice a6 q c6] 29 w6.heap.size rfl
    have Y8 := Lib.hid (YT.out.low b67)
    have Z8 := Lib.hid (ZT.out.low b67)
    have V8 := Lib.hid (own_below hv6 b7)
    have B8 := Lib.hid (below_chain BT.out b67)
    have WL : Hid (w.heap.size < w5.heap.size) := ZT.out.lt
    have f0 := Z8.out.frozen 0
    have f1 := Z8.out.frozen 1
    have f2 := Z8.out.frozen 2
    obtain ⟨z0, z1, z2⟩ := keep29 Z8.out
    obtain ⟨u0, u1, u2⟩ := keep29 Y7.out
    obtain ⟨t0, t1, t2⟩ := keep29 Y8.out
    clear b6 b7 b67 hv6 CN x0 x1 k2 YT ZT BT
    go_wp2_with fail
    refine bodyPost_ret (results_row_tmp1 rfl _ _ w.heap.size 29 _ _ _ rfl rfl (((Z8.out.set 0 (.int .i64 kk)).set 1 (.string K)).set 2 (.slice a6 q c6)) Tryz.underlying29 rfl (size29 _ _ _)) rfl ?_
    refine ⟨((B8.out.setCell (Nat.le_refl _) _).setCell (Nat.le_refl _) _).setCell (Nat.le_refl _) _, .slice a6 q c6, by rw [HK.out, HKK.out]; rfl, ?_⟩
    exact (own_setfar (own_setfar (own_setfar V8.out _ _ WL.out) _ _ WL.out) _ _ WL.out).low (Nat.le_of_lt WL.out)
end Go.Proofs.YtekaboomhljdoaaGreatDoor.Sh
namespace Go.Proofs.YtekaboomhljdoaaGreatDoor.Sh
open Lb Go.Proofs.YtekaboomhljdoaaGreatDoor.Pc Go.RowKit Go.Lib
open Go.Proofs.YtekaboomhljdoaaGreatDoor.Dk hiding Blk made_any size_any below_chain

section
variable {B : Nat} {w : World} {p g sa mb a N m : Nat} {rs : List Rcd} {sh : Bool} {low : Int} {V : Nat → List UInt8} {S : List (List UInt8)} {pw : Bool} {vr vp : Value} {en : Int}
def AnsI (w : World) (z : Int) (e : Ending) (w' : World) : Prop := e = .returned (.tuple #[.int .i64 0, .int .i64 z]) ∧ Below w.heap.size w w'
set_option maxHeartbeats 2000000 in
set_option maxRecDepth 100000 in
theorem pwrite_dead (hP : Pkb w p g (a : Int) vr vp (en : Int) sh) (hD : Dev w g sa mb low N V S false m) (ao : Option Addr) (n c : Nat) (h0 : 0 ≤ en) (h1 : en ≤ 16384) :
    Calls Tryz.prog 35 #[.pointer (some ⟨p, 0, none⟩), .slice ao n c] w fun e w' => e = .returned (.int .i64 91) ∧ Below w.heap.size w w' := by
  obtain ⟨f, hf⟩ : ∃ f : Int, f = en / 256 := ⟨_, rfl⟩
  obtain ⟨s, hs⟩ : ∃ s : Int, s = en % 256 := ⟨_, rfl⟩
  have q1 : en / 256 = f := hf.symm
  have q2 : en % 256 = s := hs.symm
  have hP1 : Hid (Pkb w.drew p g (a : Int) vr vp en sh) := hP
  have hD1 : Hid (Dev w.drew g sa mb low N V S false m) := hD.later (Below.refl _ w).drew
  have BW := Lib.hid (Below.refl w.heap.size w).drew
  obtain ⟨_, _, _, _, c4, _⟩ := hP.cells
  clear hP hD hs hf
  go_enter Tryz.func35, Tryz.ntmps35
  go_wp2_with fail
  go_region
  generalize w.drew = w1 at *
  obtain ⟨k0, k1, _, _, _, _⟩ := Pkb.cells hP1.out
  have CR : Hid (∀ W x, Below w1.heap.size w1 W → Calls Tryz.prog 32 #[.pointer (some ⟨g, 0, none⟩), .int .i64 x] W fun e w' => e = .returned (.tuple #[.slice none 0 0, .int .i64 91]) ∧ w' = W) := fun W x hW => read_off (hD1.out.later hW) x
  have BQ := Lib.hid (Below.refl w1.heap.size w1).drew
  go_wp2_with fail
  go_region_held3 (fun w' => w'.cell? ⟨p, 0, none⟩ = some (.pointer (some ⟨g, 0, none⟩)) ∧ w'.cell? ⟨p, 1, none⟩ = some (.int .i64 (a : Int)))
    (first | go_keep | exact ⟨k0, k1⟩)
    ((go_at_call 32; (with_reducible refine (CR.out _ _ BQ.out).mono ?_); rintro e w5 ⟨rfl, rfl⟩))
  all_goals
    go_wp2_with fail
    go_ret
    exact ⟨rfl, below_chain BW.out BQ.out⟩
theorem cells_rec (k : Int) (ks : ByteArray) (ao : Option Addr) (n c : Nat) (w : World) : Blk (w.alloc (.cells #[.int .i64 k, .string ks, .slice ao n c] 29)) w.heap.size [.int .i64 k, .string ks, .slice ao n c] 29 := Blk.new w [.int .i64 k, .string ks, .slice ao n c] 29 w.heap.size rfl
variable {k : Int} {ks : ByteArray} {ao : Option Addr} {n c : Nat} {d : List UInt8}
set_option maxRecDepth 100000 in
theorem append_nil (w : World) : Calls Tryz.prog 13 #[.pointer none, .agg #[.int .i64 k, .string ks, .slice ao n c]] w (AnsI w 1) := by
  have B0 := Lib.hid (al1 w (.cells #[.int .i64 k, .string ks, .slice ao n c] 29))
  go_enter Tryz.func13, Tryz.ntmps13
  go_wp2_with fail
  refine (pmade_nil _).mono ?_
  rintro e w1 ⟨rfl, rfl⟩
  go_wp2_with fail
  go_ret2
  exact ⟨rfl, B0.out⟩
set_option maxRecDepth 100000 in
theorem append_zero (c0 : w.cell? ⟨p, 0, none⟩ = some (.pointer none)) : Calls Tryz.prog 13 #[.pointer (some ⟨p, 0, none⟩), .agg #[.int .i64 k, .string ks, .slice ao n c]] w (AnsI w 1) := by
  have B0 := Lib.hid (al1 w (.cells #[.int .i64 k, .string ks, .slice ao n c] 29))
  have HM := Lib.hid (pmade_zero (w := w.alloc (.cells #[.int .i64 k, .string ks, .slice ao n c] 29)) (p := p) ((B0.out.cell (p := ⟨p, 0, none⟩) (lt_of_cell c0)).trans c0))
  go_enter Tryz.func13, Tryz.ntmps13
  go_wp2_with fail
  refine HM.out.mono ?_
  rintro e w1 ⟨rfl, rfl⟩
  go_wp2_with fail
  go_ret2
  exact ⟨rfl, B0.out⟩
set_option maxHeartbeats 2000000 in
set_option maxRecDepth 100000 in
theorem append_no (h : Pac B w p g a rs sh) (a0 a1 : Addr) (hE : Env w a0 a1) (hd : Byt w ao d) (hn : ao = none → c = 0) (hl : d.length = n) (hn63 : n ≤ 9223372036854775807) (h0 : putE k ks d ≠ 0) :
    Calls Tryz.prog 13 #[.pointer (some ⟨p, 0, none⟩), .agg #[.int .i64 k, .string ks, .slice ao n c]] w (AnsI w (putE k ks d : Nat)) := by
  have B0 := Lib.hid (al1 w (.cells #[.int .i64 k, .string ks, .slice ao n c] 29))
  obtain ⟨vr, vp, h1, _, _⟩ := (h.later B0.out).row
  have HM := Lib.hid (pmade_any h1)
  have CP := Lib.hid (frput_any k ks ao d n c a0 a1 _ (hE.below B0.out) (hd.below B0.out) hn hl hn63)
  obtain ⟨z, hz⟩ : ∃ z, z = putE k ks d := ⟨_, rfl⟩
  unfold AnsPut at CP
  rw [← hz] at CP h0 ⊢
  have t0 : (((z : Nat) : Int) != 0) = true := by simp; omega
  clear h h1 hE hd hn hl hz h0
  go_enter Tryz.func13, Tryz.ntmps13
  go_wp2_with fail
  refine HM.out.mono ?_
  rintro e w1 ⟨rfl, rfl⟩
  go_wp2_with fail
  refine CP.out.mono ?_
  rintro e w2 ⟨b2, v, rfl, _⟩
  have B2 := Lib.hid (below_chain B0.out b2)
  clear b2 CP
  go_wp2_with fail
  go_ret2
  exact ⟨rfl, B2.out⟩
set_option maxHeartbeats 2000000 in
set_option maxRecDepth 100000 in
theorem append_full (h : Pac B w p g a rs sh) (a0 a1 : Addr) (hE : Env w a0 a1) (hd : Byt w ao d) (hn : ao = none → c = 0) (hl : d.length = n) (hn63 : n ≤ 9223372036854775807) (h0 : putE k ks d = 0) (hf : roomN ((allR rs).length : Nat) sh < ((Fr.frL (kb k) d).length : Int)) :
    Calls Tryz.prog 13 #[.pointer (some ⟨p, 0, none⟩), .agg #[.int .i64 k, .string ks, .slice ao n c]] w (AnsI w 100) := by
  have B0 := Lib.hid (al1 w (.cells #[.int .i64 k, .string ks, .slice ao n c] 29))
  have HP := Lib.hid (h.later B0.out)
  have fit := h.fit
  obtain ⟨vr, vp, h1, _, _⟩ := HP.out.row
  have HM := Lib.hid (pmade_any h1)
  have CP := Lib.hid (frput_any k ks ao d n c a0 a1 _ (hE.below B0.out) (hd.below B0.out) hn hl hn63)
  unfold AnsPut at CP
  rw [h0, if_pos rfl] at CP
  have CR := Lib.hid (fun W (hb : Below (w.alloc (.cells #[.int .i64 k, .string ks, .slice ao n c] 29)).heap.size (w.alloc (.cells #[.int .i64 k, .string ks, .slice ao n c] 29)) W) => room_any (h1.fr (fr_below hb []) (by simp)) (by omega) (by omega))
  obtain ⟨R, hR⟩ : ∃ R, R = roomN ((allR rs).length : Nat) sh := ⟨_, rfl⟩
  obtain ⟨F, hF⟩ : ∃ F, F = Fr.frL (kb k) d := ⟨_, rfl⟩
  obtain ⟨x, hx⟩ : ∃ x, x = F.length := ⟨_, rfl⟩
  rw [← hR] at CR hf
  rw [← hF] at CP hf
  rw [← hx] at hf
  have HX := Lib.hid hx
  have t1 : decide (R < (x : Int)) = true := by simpa using hf
  clear h h1 hE hd hn hl h0 HP hR hF hx hf
  go_enter Tryz.func13, Tryz.ntmps13
  go_wp2_with fail
  refine HM.out.mono ?_
  rintro e w1 ⟨rfl, rfl⟩
  go_wp2_with fail
  refine CP.out.mono ?_
  rintro e w2 ⟨b2, v, rfl, hv⟩
  obtain ⟨a3, c3, rfl, _, _, _, _⟩ := own_byt hv
  rw [← HX.out]
  have CR2 := Lib.hid (CR.out _ b2)
  have B2 := Lib.hid (below_chain B0.out b2)
  clear b2 CP hv CR
  go_wp2_with fail
  refine CR2.out.mono ?_
  rintro e w3 ⟨rfl, rfl⟩
  go_wp2_with fail
  go_ret2
  exact ⟨rfl, B2.out⟩
end
end Go.Proofs.YtekaboomhljdoaaGreatDoor.Sh
namespace Go.Proofs.YtekaboomhljdoaaGreatDoor.Sh
open Lb Go.Proofs.YtekaboomhljdoaaGreatDoor.Pc Go.RowKit Go.Lib
open Go.Proofs.YtekaboomhljdoaaGreatDoor.Dk hiding Blk made_any size_any below_chain

section
variable {B : Nat} {w : World} {p g sa mb a N m : Nat} {rs : List Rcd} {sh : Bool} {low : Int} {V : Nat → List UInt8} {S : List (List UInt8)} {pw : Bool} {vr vp : Value} {en : Int} {k : Int} {ks : ByteArray} {ao : Option Addr} {n c : Nat} {d : List UInt8}
set_option maxHeartbeats 2000000 in
set_option maxRecDepth 100000 in
theorem append_dead (h : Pac B w p g a rs false) (hD : Dev w g sa mb low N V S false m) (a0 a1 : Addr) (hE : Env w a0 a1) (hd : Byt w ao d) (hn : ao = none → c = 0) (hl : d.length = n) (hn63 : n ≤ 9223372036854775807) (h0 : putE k ks d = 0) (hf : (allR rs).length + (Fr.frL (kb k) d).length ≤ 16384) :
    Calls Tryz.prog 13 #[.pointer (some ⟨p, 0, none⟩), .agg #[.int .i64 k, .string ks, .slice ao n c]] w fun e w' => e = .returned (.tuple #[.int .i64 0, .int .i64 91]) ∧ Fr w w' [p] ∧ Pac B w' p g a rs true := by
  have B0 := Lib.hid (al1 w (.cells #[.int .i64 k, .string ks, .slice ao n c] 29))
  have HP := Lib.hid (h.later B0.out)
  have fit := h.fit
  obtain ⟨vr, vp, h1, _, _⟩ := HP.out.row
  have HM := Lib.hid (pmade_any h1)
  have CP := Lib.hid (frput_any k ks ao d n c a0 a1 _ (hE.below B0.out) (hd.below B0.out) hn hl hn63)
  unfold AnsPut at CP
  rw [h0, if_pos rfl] at CP
  have CR := Lib.hid (fun W (hb : Below (w.alloc (.cells #[.int .i64 k, .string ks, .slice ao n c] 29)).heap.size (w.alloc (.cells #[.int .i64 k, .string ks, .slice ao n c] 29)) W) => room_any (h1.fr (fr_below hb []) (by simp)) (by omega) (by omega))
  have HD := Lib.hid (hD.later B0.out)
  obtain ⟨R, hR⟩ : ∃ R, R = roomN ((allR rs).length : Nat) false := ⟨_, rfl⟩
  have hR2 : R = 16384 - ((allR rs).length : Nat) := by rw [hR]; rfl
  obtain ⟨F, hF⟩ : ∃ F, F = Fr.frL (kb k) d := ⟨_, rfl⟩
  obtain ⟨x, hx⟩ : ∃ x, x = F.length := ⟨_, rfl⟩
  rw [← hR] at CR
  rw [← hF] at CP hf
  rw [← hx] at hf
  have HX := Lib.hid hx
  have t1 : decide (R < (x : Int)) = false := by simp; omega
  have PL := Lib.hid h.lt
  have HBP := Lib.hid h.base
  clear h h1 hE hd hn hl h0 hR hF hx hR2 hD
  go_enter Tryz.func13, Tryz.ntmps13
  go_wp2_with fail
  refine HM.out.mono ?_
  rintro e w1 ⟨rfl, rfl⟩
  go_wp2_with fail
  refine CP.out.mono ?_
  rintro e w2 ⟨b2, v, rfl, hv⟩
  obtain ⟨a3, c3, rfl, _, _, _, _⟩ := own_byt hv
  rw [← HX.out]
  have CR2 := Lib.hid (CR.out _ b2)
  have B2 := Lib.hid (below_chain B0.out b2)
  have HP2 := Lib.hid (HP.out.later b2)
  have HD2 := Lib.hid (HD.out.later b2)
  clear b2 CP hv CR HP HD HM
  go_wp2_with fail
  refine CR2.out.mono ?_
  rintro e w3 ⟨rfl, rfl⟩
  obtain ⟨vr, vp, h1, h2, h3⟩ := HP2.out.row
  have CW := Lib.hid (pwrite_dead h1 HD2.out a3 x c3 (by omega) (by omega))
  clear h1 h2 h3
  go_wp2_with fail
  refine CW.out.mono ?_
  rintro e w4 ⟨rfl, b4⟩
  have B4 := Lib.hid (below_chain B2.out b4)
  have HP4 := Lib.hid (HP2.out.later b4)
  clear b4 CW HP2
  obtain ⟨vr, vp, h1, h2, h3⟩ := HP4.out.row
  obtain ⟨_, _, _, _, _, y5⟩ := h1.cells
  have f5 := Sh.Blk.frozen (show Sh.Blk _ _ _ _ from h1) 5
  have H1 := Lib.hid h1
  have H2 := Lib.hid h2
  have H3 := Lib.hid h3
  have HG := Lib.hid HP4.out.good
  clear h1 h2 h3
  go_wp2_with fail
  go_ret2
  have hfar := far_pk H1.out HBP.out
  have hF := fr_set w4 p 5 (.bool true)
  exact ⟨rfl, (fr_below B4.out [p]).trans hF, ⟨⟨vr, vp, Sh.Blk.set (show Sh.Blk _ _ _ _ from H1.out) 5 (.bool true), ownf_fr H2.out (Nat.zero_le _) hF hfar, ownz_fr H3.out hF hfar⟩, HBP.out, fit, HG.out⟩⟩
end
end Go.Proofs.YtekaboomhljdoaaGreatDoor.Sh
namespace Go.Proofs.YtekaboomhljdoaaGreatDoor.Sh
open Lb Go.Proofs.YtekaboomhljdoaaGreatDoor.Pc Go.RowKit Go.Lib
open Go.Proofs.YtekaboomhljdoaaGreatDoor.Dk hiding Blk made_any size_any below_chain

section
variable {B : Nat} {w : World} {p g sa mb a N m : Nat} {rs : List Rcd} {sh : Bool} {low : Int} {V : Nat → List UInt8} {S : List (List UInt8)} {pw : Bool} {vr vp : Value} {en : Int} {k : Int} {ks : ByteArray} {ao : Option Addr} {n c : Nat} {d : List UInt8}
theorem byt_dev {w : World} {g sa mb : Nat} {low : Int} {N : Nat} {V : Nat → List UInt8} {S : List (List UInt8)} {pw : Bool} {m : Nat} (h : Dev w g sa mb low N V S pw m) {ao : Option Addr} {d : List UInt8} (hd : Byt w ao d) {w' : World} (hf : Fr w w' [g, mb]) : Byt w' ao d := fun hne => by
  obtain ⟨b, o, rfl, hb, hc⟩ := hd hne
  refine ⟨b, o, rfl, Nat.lt_of_lt_of_le hb hf.size, fun j hj => (hf.cell (a := ⟨b, o + j, none⟩) hb ?_).trans (hc j hj)⟩
  obtain ⟨k, D, wr, dv, _⟩ := h.dev
  have h1 := hc j hj
  intro hm
  simp only [List.mem_cons, List.not_mem_nil, or_false] at hm
  rcases hm with rfl | rfl
  · rw [Dk.Blk.cell dv.dv] at h1
    have h2 := List.mem_of_getElem? h1
    simp [dvC] at h2
  · obtain ⟨es, cl, hb2, F⟩ := dv.map
    simp [World.cell?, hb2] at h1
theorem zrw_one (w : World) (x : Int) : Zrw (w.alloc (.cells #[.int .i64 x] 3)) (some ⟨w.heap.size, 0, none⟩) [x] := fun _ => ⟨w.heap.size, 0, rfl, by simp, fun j hj => by
  obtain rfl : j = 0 := by simp at hj; omega
  rw [World.cell?_alloc_new]
  rfl⟩
theorem fr_grown_l {w w' : World} {b : Option Nat} {L : List Nat} (h : w.grownBy w' b) (hb : ∀ k, b = some k → k ∈ L) : Fr w w' L := ⟨h.os, h.tape, h.output, h.size, fun i hi hn => h.block i hi (fun e => hn (hb i e.symm))⟩
theorem zrw_fr {w w' : World} {b o : Nat} {l : List Int} {L : List Nat} (h : Zrw w (some ⟨b, o, none⟩) l) (hf : Fr w w' L) (hb : b ∉ L) : Zrw w' (some ⟨b, o, none⟩) l := fun hl => by
  obtain ⟨b2, o2, h1, h2, h3⟩ := h hl
  cases h1
  exact ⟨b, o, rfl, Nat.lt_of_lt_of_le h2 hf.size, fun j hj => (hf.cell (a := ⟨b, o + j, none⟩) h2 hb).trans (h3 j hj)⟩
/-- the blocks of a pack's rows -/
def rowsOf (w : World) (p : Nat) : List Nat := (match w.cell? ⟨p, 2, none⟩ with | some u => u.ownBlock.toList | none => []) ++ (match w.cell? ⟨p, 3, none⟩ with | some u => u.ownBlock.toList | none => [])
theorem rowsOf_pk {w : World} {p g : Nat} {a en : Int} {vr vp : Value} {sh : Bool} (h : Pkb w p g a vr vp en sh) : rowsOf w p = vr.ownBlock.toList ++ vp.ownBlock.toList := by
  obtain ⟨_, _, c2, c3, _, _⟩ := h.cells
  unfold rowsOf
  rw [c2, c3]
theorem own_type {w : World} {B : Nat} {e : TypeId} {s : Nat} {v : Value} {n : Nat} {xs : List Value} (h : w.ownsRow B e s v n xs) {q : Nat} (hq : v.ownBlock = some q) : B ≤ q ∧ q < w.heap.size ∧ ∃ cur, w.heap[q]? = some (.cells cur e (0, 0)) := by
  obtain ⟨h1, h2⟩ := World.ownsRow.lt h q hq
  exact ⟨h1, h2, block_of h hq⟩
theorem rows_far {B : Nat} {w : World} {p g sa mb a N m : Nat} {rs : List Rcd} {sh : Bool} {low : Int} {V : Nat → List UInt8} {S : List (List UInt8)} {pw : Bool} (h : Pac B w p g a rs sh) (hd : Dev w g sa mb low N V S pw m) :
    ∀ q ∈ rowsOf w p, B ≤ q ∧ q < w.heap.size ∧ q ∉ [p, g, sa, mb] := by
  obtain ⟨vr, vp, h1, ⟨us, h2, h2o, h2d⟩, h3⟩ := h.row
  obtain ⟨k, D, wr, d, _⟩ := hd.dev
  intro q hq
  rw [rowsOf_pk h1] at hq
  have key : B ≤ q ∧ q < w.heap.size ∧ ∃ cur t, w.heap[q]? = some (.cells cur t (0, 0)) ∧ (t = 29 ∨ t = 3) := by
    rcases List.mem_append.1 hq with hq | hq
    · obtain ⟨k1, k2, cur, k3⟩ := own_type h2o (by simpa using hq)
      exact ⟨k1, k2, cur, 29, k3, .inl rfl⟩
    · obtain ⟨k1, k2, cur, k3⟩ := own_type h3 (by simpa using hq)
      exact ⟨k1, k2, cur, 3, k3, .inr rfl⟩
  obtain ⟨k1, k2, cur, t, k3, k4⟩ := key
  refine ⟨k1, k2, fun hm => ?_⟩
  simp only [List.mem_cons, List.not_mem_nil, or_false] at hm
  rcases hm with rfl | rfl | rfl | rfl
  · rw [show w.heap[q]? = _ from h1] at k3
    injection k3 with k3
    injection k3 with _ k3
    subst k3
    exact absurd k4 (by decide)
  · rw [show w.heap[q]? = _ from d.dv] at k3
    injection k3 with k3
    injection k3 with _ k3
    subst k3
    exact absurd k4 (by decide)
  · rw [show w.heap[q]? = _ from d.sec] at k3
    injection k3 with k3
    injection k3 with _ k3
    subst k3
    exact absurd k4 (by decide)
  · obtain ⟨es, cl, hb, F⟩ := d.map
    rw [hb] at k3
    cases k3
theorem ownz_below {w w' : World} {B : Nat} {v : Value} {l : List Int} (h : OwnZ w B v l) (hb : Below w.heap.size w w') : OwnZ w' B v l := row_below h hb
theorem ownz_kept_f {w w' : World} {B : Nat} {v u : Value} {ps : List Int} {rs : List Rcd} (h : OwnZ w B v ps) (hf : OwnG 0 B w rs u) (hg : w.grownBy w' u.ownBlock) : OwnZ w' B v ps := by
  obtain ⟨us, _, ho, _⟩ := hf
  exact World.ownsRow.kept h hg (apartT h ho (by decide))
theorem ownf_kept_z {w w' : World} {B : Nat} {v u : Value} {ps : List Int} {rs : List Rcd} (h : OwnG 0 B w rs u) (hz : OwnZ w B v ps) (hg : w.grownBy w' v.ownBlock) : OwnG 0 B w' rs u := ownf_kept h (Nat.zero_le _) hz (by decide) (by decide) hg
theorem new_or {w w0 : World} {v v' : Value} (h : v'.ownBlock = v.ownBlock ∨ v'.ownBlock = some w.heap.size) (hs : w0.heap.size ≤ w.heap.size) : ∀ q, v'.ownBlock = some q → v.ownBlock = some q ∨ w0.heap.size ≤ q := fun q hq => by
  rcases h with h | h
  · exact .inl (h ▸ hq)
  · rw [h] at hq
    injection hq with hq
    exact .inr (hq ▸ hs)
/-- the record stands behind the last one -/
def AnsA (B : Nat) (w : World) (p g sa mb a : Nat) (low : Int) (N : Nat) (V : Nat → List UInt8) (S : List (List UInt8)) (m : Nat) (rs : List Rcd) (r : Rcd) (e : Ending) (w' : World) : Prop :=
  e = .returned (.tuple #[.int .i64 (((allR rs).length : Nat) : Int), .int .i64 0]) ∧ Fr w w' ([p, g, sa, mb] ++ rowsOf w p) ∧ Pac B w' p g a (rs ++ [r]) false ∧ Dev w' g sa mb low N (appV V a (allR rs).length (recB r)) S true (m + 65) ∧ ∀ q ∈ rowsOf w' p, q ∈ rowsOf w p ∨ w.heap.size ≤ q
theorem Fr.mono {w w' : World} {L L' : List Nat} (h : Fr w w' L) (hs : ∀ b ∈ L, b ∈ L') : Fr w w' L' := ⟨h.os, h.tape, h.output, h.size, fun i hi hn => h.block i hi (fun hm => hn (hs i hm))⟩
theorem putE_good {k : Int} {ks : ByteArray} {d : List UInt8} (h : putE k ks d = 0) : GoodR (kb k, d) ∧ ks = keyS (k.toNat : Nat) d ∧ ((kb k).toNat : Int) = k := by
  unfold putE at h
  split at h
  · rename_i h1
    simp only [Bool.and_eq_true, decide_eq_true_eq, beq_iff_eq] at h1
    obtain ⟨⟨k1, k2⟩, k3⟩ := h1
    have k4 : 1 ≤ k ∧ k ≤ 4 := by unfold kindB at k1; simpa using k1
    have e1 : (kb k).toNat = k.toNat := by
      unfold kb
      rw [UInt8.toNat_ofNat']
      omega
    have e2 : ((k.toNat : Nat) : Int) = k := by omega
    exact ⟨⟨k2, by simp only; omega, by simp only; omega⟩, by rw [e2]; exact toList_inj k3, by rw [e1]; exact e2⟩
  · exact absurd h (by decide)
theorem append_fin {B : Nat} {w wq w16 : World} {p g sa mb a N m en x lr lz G : Nat} {rs : List Rcd} {r : Rcd} {low : Int} {V : Nat → List UInt8} {S : List (List UInt8)} {v2 v3 : Value} {a9 a16 : Option Addr} {c9 c16 : Nat} {ps : List Int} {L : List Nat}
    (PP : Pkb w16 p g (a : Int) v2 v3 (en : Int) false) (hB : B ≤ p) (F5 : Fr w wq [p, g, sa, mb]) (FC : Fr wq w16 L) (hL : L = rowsOf w p) (NL : p ∉ L ∧ g ∉ L ∧ sa ∉ L ∧ mb ∉ L ∧ G ∉ L) (nin : ¬p = g ∧ ¬p = sa ∧ ¬p = mb)
    (HD : Dev wq g sa mb low N V S true m) (OG : OwnG 0 B w16 (rs ++ [r]) (.slice a9 (lr + 1) c9)) (OZ : OwnZ w16 B (.slice a16 (lz + 1) c16) (ps ++ [(en : Int)])) (EN : (allR (rs ++ [r])).length = en + x) (fit : en + x ≤ 16384) (GD : ∀ q ∈ rs ++ [r], GoodR q)
    (N9 : ∀ q, Value.ownBlock (.slice a9 (lr + 1) c9) = some q → Value.ownBlock v2 = some q ∨ wq.heap.size ≤ q) (N16 : ∀ q, Value.ownBlock (.slice a16 (lz + 1) c16) = some q → Value.ownBlock v3 = some q ∨ wq.heap.size ≤ q)
    (RR : rowsOf w p = Option.toList (Value.ownBlock v2) ++ Option.toList (Value.ownBlock v3)) (HPS : offs 0 (rs ++ [r]) = ps ++ [(en : Int)]) :
    Fr w (((w16.setCell ⟨p, 2, none⟩ (.slice a9 (lr + 1) c9)).setCell ⟨p, 3, none⟩ (.slice a16 (lz + 1) c16)).setCell ⟨p, 4, none⟩ (.int .i64 ((en : Int) + (x : Int)))) ([p, g, sa, mb] ++ rowsOf w p) ∧
    Pac B (((w16.setCell ⟨p, 2, none⟩ (.slice a9 (lr + 1) c9)).setCell ⟨p, 3, none⟩ (.slice a16 (lz + 1) c16)).setCell ⟨p, 4, none⟩ (.int .i64 ((en : Int) + (x : Int)))) p g a (rs ++ [r]) false ∧
    Dev (((w16.setCell ⟨p, 2, none⟩ (.slice a9 (lr + 1) c9)).setCell ⟨p, 3, none⟩ (.slice a16 (lz + 1) c16)).setCell ⟨p, 4, none⟩ (.int .i64 ((en : Int) + (x : Int)))) g sa mb low N V S true m ∧
    ∀ q ∈ rowsOf (((w16.setCell ⟨p, 2, none⟩ (.slice a9 (lr + 1) c9)).setCell ⟨p, 3, none⟩ (.slice a16 (lz + 1) c16)).setCell ⟨p, 4, none⟩ (.int .i64 ((en : Int) + (x : Int)))) p, q ∈ rowsOf w p ∨ w.heap.size ≤ q := by
  have hF : Fr w16 (((w16.setCell ⟨p, 2, none⟩ (.slice a9 (lr + 1) c9)).setCell ⟨p, 3, none⟩ (.slice a16 (lz + 1) c16)).setCell ⟨p, 4, none⟩ (.int .i64 ((en : Int) + (x : Int)))) [p] := ((fr_set w16 p 2 _).trans (fr_set _ p 3 _)).trans (fr_set _ p 4 _)
  have hY : Pkb (((w16.setCell ⟨p, 2, none⟩ (.slice a9 (lr + 1) c9)).setCell ⟨p, 3, none⟩ (.slice a16 (lz + 1) c16)).setCell ⟨p, 4, none⟩ (.int .i64 ((en : Int) + (x : Int)))) p g (a : Int) (.slice a9 (lr + 1) c9) (.slice a16 (lz + 1) c16) ((en : Int) + (x : Int)) false := ((Sh.Blk.set (show Sh.Blk _ _ _ _ from PP) 2 (.slice a9 (lr + 1) c9)).set 3 (.slice a16 (lz + 1) c16)).set 4 (.int .i64 ((en : Int) + (x : Int)))
  have far := far_pk PP hB
  generalize (((w16.setCell ⟨p, 2, none⟩ (.slice a9 (lr + 1) c9)).setCell ⟨p, 3, none⟩ (.slice a16 (lz + 1) c16)).setCell ⟨p, 4, none⟩ (.int .i64 ((en : Int) + (x : Int)))) = w9 at *
  refine ⟨?_, ?_, ?_, ?_⟩
  · refine ((Fr.mono F5 (fun b hb => List.mem_append_left _ hb)).trans (Fr.mono FC (fun b hb => List.mem_append_right _ (hL ▸ hb)))).trans (Fr.mono hF (by simp))
  · refine ⟨⟨.slice a9 (lr + 1) c9, .slice a16 (lz + 1) c16, ?_, ownf_fr OG (Nat.zero_le _) hF far, ?_⟩, hB, by omega, GD⟩
    · rw [EN]
      push_cast
      exact hY
    · rw [HPS]
      exact ownz_fr OZ hF far
  · exact (HD.fr FC NL.2.1 NL.2.2.1 NL.2.2.2.1).fr hF (by simp; exact fun h => nin.1 h.symm) (by simp; exact fun h => nin.2.1 h.symm) (by simp; exact fun h => nin.2.2 h.symm)
  · intro q hq
    have sz := F5.size
    rw [rowsOf_pk hY] at hq
    rw [RR]
    rcases List.mem_append.1 hq with hq | hq
    · rcases N9 q (by simpa using hq) with h | h
      · exact .inl (List.mem_append_left _ (by simp [h]))
      · exact .inr (Nat.le_trans sz h)
    · rcases N16 q (by simpa using hq) with h | h
      · exact .inl (List.mem_append_right _ (by simp [h]))
      · exact .inr (Nat.le_trans sz h)
set_option maxHeartbeats 2000000 in
set_option maxRecDepth 100000 in
theorem append_ok (h : Pac B w p g a rs false) (hD : Dev w g sa mb low N V S true m) (ha : a + 64 ≤ N) (hlo : low ≤ (a : Int)) (hm : m ≤ 900000) (hg : B ≤ g) (hsa : B ≤ sa) (hmb : B ≤ mb) (a0 a1 : Addr) (hE : Env w a0 a1) (hd : Byt w ao d) (hn : ao = none → c = 0) (hl : d.length = n) (hn63 : n ≤ 9223372036854775807) (h0 : putE k ks d = 0) (hf : (allR rs).length + (Fr.frL (kb k) d).length ≤ 16384) :
    Calls Tryz.prog 13 #[.pointer (some ⟨p, 0, none⟩), .agg #[.int .i64 k, .string ks, .slice ao n c]] w (AnsA B w p g sa mb a low N V S m rs (kb k, d)) := by
  have GR := Lib.hid (putE_good h0)
  have HP0 := Lib.hid h
  have HD0 := Lib.hid hD
  have GLT := Lib.hid hD.lt
  have N47 : Hid (n ≤ 140737488355328) := by have := (putE_good h0).1.1; show _ ≤ _; rw [← hl]; simp only at this; omega
  have HDT := Lib.hid hd
  have HLN := Lib.hid hl
  have B0 := Lib.hid (al1 w (.cells #[.int .i64 k, .string ks, .slice ao n c] 29))
  have HP := Lib.hid (h.later B0.out)
  have fit := h.fit
  obtain ⟨vr, vp, h1, _, _⟩ := HP.out.row
  have HM := Lib.hid (pmade_any h1)
  have CP := Lib.hid (frput_any k ks ao d n c a0 a1 _ (hE.below B0.out) (hd.below B0.out) hn hl hn63)
  unfold AnsPut at CP
  rw [h0, if_pos rfl] at CP
  have CR := Lib.hid (fun W (hb : Below (w.alloc (.cells #[.int .i64 k, .string ks, .slice ao n c] 29)).heap.size (w.alloc (.cells #[.int .i64 k, .string ks, .slice ao n c] 29)) W) => room_any (h1.fr (fr_below hb []) (by simp)) (by omega) (by omega))
  have HD := Lib.hid (hD.later B0.out)
  obtain ⟨R, hR⟩ : ∃ R, R = roomN ((allR rs).length : Nat) false := ⟨_, rfl⟩
  have hR2 : R = 16384 - ((allR rs).length : Nat) := by rw [hR]; rfl
  obtain ⟨F, hF⟩ : ∃ F, F = Fr.frL (kb k) d := ⟨_, rfl⟩
  obtain ⟨x, hx⟩ : ∃ x, x = F.length := ⟨_, rfl⟩
  rw [← hR] at CR
  rw [← hF] at CP hf
  rw [← hx] at hf
  have HX := Lib.hid hx
  have t1 : decide (R < (x : Int)) = false := by simp; omega
  have PL := Lib.hid h.lt
  have HBP := Lib.hid h.base
  have HF := Lib.hid hF
  clear h h1 hE hd hn hl h0 hR hF hx hR2 hD
  go_enter Tryz.func13, Tryz.ntmps13
  go_wp2_with fail
  refine HM.out.mono ?_
  rintro e w1 ⟨rfl, rfl⟩
  go_wp2_with fail
  refine CP.out.mono ?_
  rintro e w2 ⟨b2, v, rfl, hv⟩
  obtain ⟨a3, c3, rfl, _, _, hy3, _⟩ := own_byt hv
  have R2 := Lib.hid hy3
  rw [← HX.out]
  have CR2 := Lib.hid (CR.out _ b2)
  have B12 := Lib.hid b2
  have B2 := Lib.hid (below_chain B0.out b2)
  have HP2 := Lib.hid (HP.out.later b2)
  have HD2 := Lib.hid (HD.out.later b2)
  clear b2 CP hv CR HP HD HM
  go_wp2_with fail
  refine CR2.out.mono ?_
  rintro e w3 ⟨rfl, rfl⟩
  obtain ⟨vr, vp, h1, h2, h3⟩ := HP2.out.row
  have nin := pac_dev HP2.out HD2.out
  simp only [List.mem_cons, List.not_mem_nil, or_false, not_or] at nin
  have fx : 0 < x := by have := recB_pos (kb k, d); rw [show recB (kb k, d) = F from HF.out.symm, ← HX.out] at this; omega
  have CW := Lib.hid (pwrite_any h1 HD2.out ha hlo hm nin.1 nin.2.2 a3 c3 F R2.out HX.out.symm fx hf)
  clear h1 h2 h3
  go_wp2_with fail
  refine CW.out.mono ?_
  rintro e w4 ⟨rfl, hF4, hD4⟩
  have nin2 : p ∉ [g, mb] := by simp; exact ⟨nin.1, nin.2.2⟩
  have far2 := (far_dev HD2.out hg hsa hmb).sub (L' := [g, mb]) (by simp)
  have HD4 := Lib.hid hD4
  have FW4 : Hid (Fr w w4 [g, mb]) := (fr_below B2.out [g, mb]).trans hF4
  have HDB := Lib.hid (byt_dev HD2.out ((HDT.out.below B2.out)) hF4)
  have BXX : Hid (Blk w4 w.heap.size [.int .i64 k, .string ks, .slice ao n c] 29) := by
    have b1 := (cells_rec k ks ao n c w).low B12.out
    exact (hF4.block _ (Sh.Blk.lt b1) (by simp; exact ⟨by have := GLT.out; omega, by have := GLT.out; omega⟩)).trans b1
  have far0 := (far_dev HD0.out hg hsa hmb).sub (L' := [g, mb]) (by simp)
  clear CW hF4 hD4 far2 HP2 HD2 B12 B2 CR2 R2 hy3 HDT
  obtain ⟨vr, vp, h1, h2, h3⟩ := HP0.out.row
  obtain ⟨L, hL⟩ : ∃ L, L = rowsOf w p := ⟨_, rfl⟩
  have hLr := rowsOf_pk h1
  obtain ⟨ar, cr, rfl, _, _, _, _⟩ := ownf_read h2
  obtain ⟨az, cz, rfl, _, _, _, _⟩ := own_zrw h3
  obtain ⟨lr, hlr⟩ : ∃ lr, lr = rs.length := ⟨_, rfl⟩
  obtain ⟨lz, hlz⟩ : ∃ lz, lz = (offs 0 rs).length := ⟨_, rfl⟩
  obtain ⟨en, hen⟩ : ∃ en, en = (allR rs).length := ⟨_, rfl⟩
  obtain ⟨ps, hps⟩ : ∃ ps, ps = offs 0 rs := ⟨_, rfl⟩
  have RN := many rs fit
  have RL : Hid (rs.length + 1 ≤ 1000000000) := by show _ ≤ _; omega
  have LR1 : Hid ((rs ++ [((kb k, d) : Rcd)]).length = lr + 1) := by show _ = _; rw [hlr]; simp
  rw [← hlr] at h1 h2 hLr
  rw [← hlz] at h1 h3 hLr
  rw [← hen] at h1 hf
  rw [← hps] at h3 hlz
  have LZ1 : Hid ((ps ++ [(en : Int)]).length = lz + 1) := by show _ = _; rw [hlz]; simp
  have ZL : Hid ((ps.length + 1) * 8 ≤ 140737488355328) := by show _ ≤ _; rw [hps, offs_len]; omega
  have INR : Hid (∀ q, Value.ownBlock (.slice ar lr cr) = some q → q ∈ L) := fun q hq => by rw [hL, hLr, hq]; simp
  have INZ : Hid (∀ q, Value.ownBlock (.slice az lz cz) = some q → q ∈ L) := fun q hq => by rw [hL, hLr, hq]; simp
  have RF := rows_far HP0.out HD0.out
  rw [← hL] at RF
  have LLT : Hid (∀ q ∈ L, q < w4.drew.heap.size) := fun q hq => Nat.lt_of_lt_of_le (RF q hq).2.1 FW4.out.size
  have NL : Hid (p ∉ L ∧ g ∉ L ∧ sa ∉ L ∧ mb ∉ L ∧ w.heap.size ∉ L) := by
    refine ⟨fun h => (RF p h).2.2 (by simp), fun h => (RF g h).2.2 (by simp), fun h => (RF sa h).2.2 (by simp), fun h => (RF mb h).2.2 (by simp), fun h => ?_⟩
    have := (RF _ h).2.1
    omega
  have FW5 : Hid (Fr w w4.drew [g, mb]) := FW4.out.trans (fr_below (Below.refl _ w4).drew [g, mb])
  have PK : Hid (Pkb w4.drew p g a (.slice ar lr cr) (.slice az lz cz) (en : Int) false) := h1.fr FW5.out nin2
  have OG4 : Hid (OwnG 0 B w4.drew rs (.slice ar lr cr)) := ownf_fr h2 (Nat.zero_le _) FW5.out far0
  have OZ4 : Hid (OwnZ w4.drew B (.slice az lz cz) ps) := ownz_fr h3 FW5.out far0
  have BX4 : Hid (Blk w4.drew w.heap.size [.int .i64 k, .string ks, .slice ao n c] 29) := BXX.out
  have HD5 : Hid (Dev w4.drew g sa mb low N (appV V a en F) S true (m + 65)) := by rw [hen]; exact HD4.out.later (Below.refl _ w4).drew
  have F5 : Hid (Fr w w4.drew [p, g, sa, mb]) := Fr.mono FW5.out (by intro b hb; simp at hb ⊢; rcases hb with h | h <;> simp [h])
  have CK : Hid (∀ W, Below w4.drew.heap.size w4.drew W → Calls Tryz.prog 36 #[.agg #[.int .i64 k, .string ks, .slice ao n c]] W (AnsK W k ks d)) := fun W hW => pclone_any k ks ao n c d W ((HDB.out.drew).below hW) HLN.out N47.out
  have HBW : Hid (B ≤ w4.drew.heap.size) := Nat.le_trans (Nat.le_trans HBP.out (Nat.le_of_lt PL.out)) FW4.out.size
  have BW := Lib.hid (Below.refl w4.drew.heap.size w4.drew)
  have FC := Lib.hid (Fr.refl w4.drew L)
  have S0 : Hid (∀ W, Fr w4.drew W L → W.cell? ⟨p, 2, none⟩ = some (.slice ar lr cr) ∧ W.cell? ⟨p, 3, none⟩ = some (.slice az lz cz) ∧ W.cell? ⟨w.heap.size, 0, none⟩ = some (.int .i64 k) ∧ W.cell? ⟨w.heap.size, 1, none⟩ = some (.string ks) ∧ W.cell? ⟨w.heap.size, 2, none⟩ = some (.slice ao n c)) := fun W hW => by
    obtain ⟨_, _, c2, c3, _, _⟩ := Pkb.cells (PK.out.fr hW NL.out.1)
    have bb : Blk W w.heap.size [.int .i64 k, .string ks, .slice ao n c] 29 := (hW.block _ (Sh.Blk.lt BX4.out) NL.out.2.2.2.2).trans BX4.out
    exact ⟨c2, c3, keep29 bb⟩
  have REC : Hid (∀ (W : World) a5 c5, Blk (W.alloc (.cells #[.int .i64 k, .string ks, .slice a5 n c5] 29)) W.heap.size (recC (kb k, d) (.slice a5 n c5)) 29) := fun W a5 c5 => by
    have hc : recC (kb k, d) (.slice a5 n c5) = [.int .i64 k, .string ks, .slice a5 n c5] := by
      unfold recC
      rw [GR.out.2.1]
      simp only
      rw [GR.out.2.2, show (k.toNat : Int) = k by have := GR.out.2.2; omega]
    rw [hc]
    exact Blk.new W [.int .i64 k, .string ks, .slice a5 n c5] 29 _ rfl
  have y4 := (Pkb.cells (show Pkb w4 _ _ _ _ _ _ _ from PK.out)).2.2.2.2.1
  have EN : Hid ((allR (rs ++ [((kb k, d) : Rcd)])).length = en + x) := by
    show _ = _
    rw [allR_app, allR_one, List.length_append, ← hen, HX.out, HF.out]
    rfl
  have RR : Hid (rowsOf w p = Option.toList (Value.ownBlock (.slice ar lr cr)) ++ Option.toList (Value.ownBlock (.slice az lz cz))) := hLr
  have HPS : Hid (offs 0 (rs ++ [((kb k, d) : Rcd)]) = ps ++ [(en : Int)]) := by
    show _ = _
    rw [offs_app, ← hps, Nat.zero_add, ← hen]
    rfl
  have HLL := Lib.hid hL
  have HEN := Lib.hid hen
  have GD : Hid (∀ r ∈ rs ++ [((kb k, d) : Rcd)], GoodR r) := fun r hr => by
    rcases List.mem_append.1 hr with hr | hr
    · exact HP0.out.good r hr
    · obtain rfl : r = (kb k, d) := by simpa using hr
      exact GR.out.1
  clear h1 h2 h3 hLr RF hlr hlz hen hps hL far0 FW4 FW5 HDB BXX HP0 HD0 HD4
  go_wp2_with fail
  obtain ⟨G, hG⟩ : ∃ G, G = w.heap.size := ⟨_, rfl⟩
  have HGG := Lib.hid hG
  rw [← hG] at S0 NL BX4 ⊢
  clear hG
  refine region_q 19 (S := (fun W => W.cell? ⟨p, 2, none⟩ = some (.slice ar lr cr) ∧ W.cell? ⟨p, 3, none⟩ = some (.slice az lz cz) ∧ W.cell? ⟨G, 0, none⟩ = some (.int .i64 k) ∧ W.cell? ⟨G, 1, none⟩ = some (.string ks) ∧ W.cell? ⟨G, 2, none⟩ = some (.slice ao n c))) (by kernel_rfl) (S0.out _ FC.out) (fun hHeld => ?_)
  generalize w4.drew = wq at *
  refine anyq_pure (i := 0) (oi := { dst := some 39, op := Op.move (Operand.tmp 0), type := 35, pos := "pack.go:72", after := #[], guard := none }) (v := .pointer (some ⟨p, 0, none⟩)) rfl (by kernel_rfl) (by kernel_rfl) (by kernel_rfl) (by decide) (fun _ _ _ h => h) (Or.inl ⟨by rfl, fun w _ => by go_simp⟩) (Or.inr hHeld) ?_
  (try simp only [Act.put, List.setIfInBounds_toArray, List.set_cons_zero, List.set_cons_succ])
  refine anyq_pure (i := 1) (oi := { dst := some 40, op := Op.move (Operand.tmp 0), type := 35, pos := "pack.go:72", after := #[{ on := 19, ground := Ground.gcOnly Departure.lateStores }], guard := none }) (v := .pointer (some ⟨p, 0, none⟩)) rfl (by kernel_rfl) (by kernel_rfl) (by kernel_rfl) (by decide) (fun _ _ _ h => h) (Or.inl ⟨by rfl, fun w _ => by go_simp⟩) (Or.inr hHeld) ?_
  (try simp only [Act.put, List.setIfInBounds_toArray, List.set_cons_zero, List.set_cons_succ])
  refine anyq_pure (i := 2) (oi := { dst := some 41, op := Op.move (Operand.tmp 0), type := 35, pos := "pack.go:72", after := #[], guard := none }) (v := .pointer (some ⟨p, 0, none⟩)) rfl (by kernel_rfl) (by kernel_rfl) (by kernel_rfl) (by decide) (fun _ _ _ h => h) (Or.inl ⟨by rfl, fun w _ => by go_simp⟩) (Or.inr hHeld) ?_
  (try simp only [Act.put, List.setIfInBounds_toArray, List.set_cons_zero, List.set_cons_succ])
  refine anyq_pure (i := 3) (oi := { dst := some 42, op := Op.nilCheck (Operand.tmp 41), type := 0, pos := "pack.go:72", after := #[{ on := 2, ground := Ground.data }], guard := none }) (v := .pointer (some ⟨p, 0, none⟩)) rfl (by kernel_rfl) (by kernel_rfl) (by kernel_rfl) (by decide) (fun _ _ _ h => h) (Or.inl ⟨by rfl, fun w _ => by go_simp⟩) (Or.inr hHeld) ?_
  (try simp only [Act.put, List.setIfInBounds_toArray, List.set_cons_zero, List.set_cons_succ])
  refine anyq_pure (i := 4) (oi := { dst := some 43, op := Op.fieldAddr 59 (Operand.tmp 42) 2, type := 0, pos := "pack.go:72", after := #[{ on := 3, ground := Ground.data }], guard := none }) (v := .pointer (some ⟨p, 2, none⟩)) rfl (by kernel_rfl) (by kernel_rfl) (by kernel_rfl) (by decide) (fun _ _ _ h => h) (Or.inl ⟨by rfl, fun w _ => by go_simp⟩) (Or.inr hHeld) ?_
  (try simp only [Act.put, List.setIfInBounds_toArray, List.set_cons_zero, List.set_cons_succ])
  refine anyq_load (i := 5) (oi := { dst := some 44, op := Op.load 38 (Operand.tmp 43), type := 38, pos := "pack.go:72", after := #[{ on := 4, ground := Ground.data }], guard := none }) (v := .slice ar lr cr) rfl (by kernel_rfl) (by kernel_rfl) (by kernel_rfl) (by kernel_rfl) (by decide) (by kernel_rfl) (fun _ _ _ h => h) (Or.inl ⟨by rfl, fun w hSw => by obtain ⟨s1, s2, s3, s4, s5⟩ := hSw; go_simp⟩) hHeld ?_
  (try simp only [Act.put, List.setIfInBounds_toArray, List.set_cons_zero, List.set_cons_succ])
  refine anyq_load (i := 6) (oi := { dst := some 45, op := Op.load 29 (Operand.tmp 3), type := 29, pos := "pack.go:72", after := #[], guard := none }) (v := .agg #[.int .i64 k, .string ks, .slice ao n c]) rfl (by kernel_rfl) (by kernel_rfl) (by kernel_rfl) (by kernel_rfl) (by decide) (by kernel_rfl) (fun _ _ _ h => h) (Or.inl ⟨by rfl, fun w hSw => by obtain ⟨s1, s2, s3, s4, s5⟩ := hSw; go_simp⟩) hHeld ?_
  (try simp only [Act.put, List.setIfInBounds_toArray, List.set_cons_zero, List.set_cons_succ])
  refine anyq_pure (i := 10) (oi := { dst := some 49, op := Op.move (Operand.tmp 0), type := 35, pos := "pack.go:72", after := #[], guard := none }) (v := .pointer (some ⟨p, 0, none⟩)) rfl (by kernel_rfl) (by kernel_rfl) (by kernel_rfl) (by decide) (fun _ _ _ h => h) (Or.inl ⟨by rfl, fun w _ => by go_simp⟩) (Or.inr hHeld) ?_
  (try simp only [Act.put, List.setIfInBounds_toArray, List.set_cons_zero, List.set_cons_succ])
  refine anyq_pure (i := 11) (oi := { dst := some 50, op := Op.nilCheck (Operand.tmp 49), type := 0, pos := "pack.go:72", after := #[{ on := 10, ground := Ground.data }], guard := none }) (v := .pointer (some ⟨p, 0, none⟩)) rfl (by kernel_rfl) (by kernel_rfl) (by kernel_rfl) (by decide) (fun _ _ _ h => h) (Or.inl ⟨by rfl, fun w _ => by go_simp⟩) (Or.inr hHeld) ?_
  (try simp only [Act.put, List.setIfInBounds_toArray, List.set_cons_zero, List.set_cons_succ])
  refine anyq_pure (i := 12) (oi := { dst := some 51, op := Op.fieldAddr 59 (Operand.tmp 50) 3, type := 0, pos := "pack.go:72", after := #[{ on := 11, ground := Ground.data }], guard := none }) (v := .pointer (some ⟨p, 3, none⟩)) rfl (by kernel_rfl) (by kernel_rfl) (by kernel_rfl) (by decide) (fun _ _ _ h => h) (Or.inl ⟨by rfl, fun w _ => by go_simp⟩) (Or.inr hHeld) ?_
  (try simp only [Act.put, List.setIfInBounds_toArray, List.set_cons_zero, List.set_cons_succ])
  refine anyq_load (i := 13) (oi := { dst := some 52, op := Op.load 42 (Operand.tmp 51), type := 42, pos := "pack.go:72", after := #[{ on := 12, ground := Ground.data }], guard := none }) (v := .slice az lz cz) rfl (by kernel_rfl) (by kernel_rfl) (by kernel_rfl) (by kernel_rfl) (by decide) (by kernel_rfl) (fun _ _ _ h => h) (Or.inl ⟨by rfl, fun w hSw => by obtain ⟨s1, s2, s3, s4, s5⟩ := hSw; go_simp⟩) hHeld ?_
  (try simp only [Act.put, List.setIfInBounds_toArray, List.set_cons_zero, List.set_cons_succ])
  refine anyq_pure (i := 14) (oi := { dst := some 53, op := Op.move (Operand.tmp 9), type := 3, pos := "pack.go:72", after := #[], guard := none }) (v := .int .i64 (en : Int)) rfl (by kernel_rfl) (by kernel_rfl) (by kernel_rfl) (by decide) (fun _ _ _ h => h) (Or.inl ⟨by rfl, fun w _ => by go_simp⟩) (Or.inr hHeld) ?_
  (try simp only [Act.put, List.setIfInBounds_toArray, List.set_cons_zero, List.set_cons_succ])
  refine anyq_ready (rs := [7, 15]) (by kernel_rfl) (by simp) ?_
  refine AllQ.cons (o := { dst := some 46, op := Op.call { callee := Callee.value (Operand.func 36), args := #[Operand.tmp 45], argTypes := #[29] }, type := 29, pos := "pack.go:72", after := #[{ on := 6, ground := Ground.data }], guard := none }) rfl (fun K hK => ?_) ?_
  · skip
    go_simp
    go_at_call 36
    with_reducible refine (CK.out _ BW.out).mono ?_
    rintro e w5 ⟨b5, v5, rfl, hv5⟩
    obtain ⟨a5, c5, rfl, _, _, _, _⟩ := own_byt hv5
    rw [HLN.out] at hv5 ⊢
    have DK : Hid (DatK 0 w5 (.slice a5 n c5) d) := datK_low hv5 (Nat.zero_le _)
    have BW := Lib.hid (below_chain BW.out b5)
    have FC := Lib.hid (FC.out.trans (fr_below b5 L))
    clear b5 hv5
    refine hK.out _ _ ?_ (fun hHeld => ?_)
    · exact S0.out _ FC.out
    clear hK K
    (try simp only [Act.put, List.setIfInBounds_toArray, List.set_cons_zero, List.set_cons_succ])
    refine anyq_ready (rs := [8, 15]) (by kernel_rfl) (by simp) ?_
    refine AllQ.cons (o := { dst := some 47, op := Op.buildSlice 38 1 #[(0, Operand.tmp 46)], type := 38, pos := "pack.go:72", after := #[{ on := 7, ground := Ground.data }], guard := none }) rfl (fun K hK => ?_) ?_
    · skip
      go_simp
      obtain ⟨gk, hgk⟩ : ∃ gk, gk = (World.heap w5).size := ⟨_, rfl⟩
      have b8 := al1 w5 (.cells #[.int .i64 k, .string ks, .slice a5 n c5] 29)
      have KB : Hid (Blk (World.alloc w5 (.cells #[.int .i64 k, .string ks, .slice a5 n c5] 29)) gk (recC (kb k, d) (.slice a5 n c5)) 29) := by rw [hgk]; exact REC.out _ a5 c5
      rw [← hgk]
      have BW := Lib.hid (below_chain BW.out b8)
      have FC := Lib.hid (FC.out.trans (fr_below b8 L))
      have DK := Lib.hid (datK_below DK.out b8)
      generalize hw8 : World.alloc w5 (.cells #[.int .i64 k, .string ks, .slice a5 n c5] 29) = w8 at *
      clear b8 hgk hw8
      refine hK.out _ _ ?_ (fun hHeld => ?_)
      · exact S0.out _ FC.out
      clear hK K
      (try simp only [Act.put, List.setIfInBounds_toArray, List.set_cons_zero, List.set_cons_succ])
      refine anyq_ready (rs := [9, 15]) (by kernel_rfl) (by simp) ?_
      refine AllQ.cons (o := { dst := some 48, op := Op.call { callee := Callee.builtin Builtin.append, args := #[Operand.tmp 44, Operand.tmp 47], argTypes := #[38, 38] }, type := 38, pos := "pack.go:72", after := #[{ on := 5, ground := Ground.data }, { on := 8, ground := Ground.data }, { on := 7, ground := Ground.chain }], guard := none }) rfl (fun K hK => ?_) ?_
      · skip
        have OG := Lib.hid (ownf_below OG4.out BW.out)
        have OZ := Lib.hid (ownz_below OZ4.out BW.out)
        have PB := Lib.hid (Nat.le_trans HBW.out BW.out.size)
        refine step_fresh rfl (wp_appf (.tmp 44) (.tmp 47) rfl 0 B (Nat.zero_le _) (.slice ar lr cr) (.slice a5 n c5) rs (kb k, d) (by simp [Act.eval]) OG.out DK.out gk (by simp [Act.eval]) KB.out RL.out PB.out ?_)
        intro v9 w9 hF9 hg9 hN9
        have N9 := Lib.hid (new_or hN9 FC.out.size)
        obtain ⟨a9, c9, rfl, _, _, _, _⟩ := ownf_read hF9
        rw [LR1.out] at hF9 N9 ⊢
        have OZ := Lib.hid (ownz_kept_f OZ.out OG.out hg9)
        have OG := Lib.hid hF9
        have FC := Lib.hid (FC.out.trans (fr_grown_l hg9 INR.out))
        clear hF9 hg9 hN9 BW DK KB PB
        refine hK.out _ _ ?_ (fun hHeld => ?_)
        · exact S0.out _ FC.out
        clear hK K
        (try simp only [Act.put, List.setIfInBounds_toArray, List.set_cons_zero, List.set_cons_succ])
        refine anyq_ready (rs := [15]) (by kernel_rfl) (by simp) ?_
        refine AllQ.cons (o := { dst := some 54, op := Op.buildSlice 42 1 #[(0, Operand.tmp 53)], type := 42, pos := "pack.go:72", after := #[{ on := 14, ground := Ground.data }], guard := none }) rfl (fun K hK => ?_) AllQ.nil
        go_simp
        obtain ⟨gz, hgz⟩ : ∃ gz, gz = (World.heap w9).size := ⟨_, rfl⟩
        have b15 := al1 w9 (.cells #[.int .i64 (en : Int)] 3)
        have XB : Hid (Zrw (World.alloc w9 (.cells #[.int .i64 (en : Int)] 3)) (some ⟨gz, 0, none⟩) [(en : Int)]) := by rw [hgz]; exact zrw_one _ _
        have GZ : Hid (wq.heap.size ≤ gz) := by rw [hgz]; exact FC.out.size
        rw [← hgz]
        have FC := Lib.hid (FC.out.trans (fr_below b15 L))
        have OG := Lib.hid (ownf_below OG.out b15)
        have OZ := Lib.hid (ownz_below OZ.out b15)
        generalize hw15 : World.alloc w9 (.cells #[.int .i64 (en : Int)] 3) = w15 at *
        clear b15 hgz hw15
        refine hK.out _ _ ?_ (fun hHeld => ?_)
        · exact S0.out _ FC.out
        clear hK K
        (try simp only [Act.put, List.setIfInBounds_toArray, List.set_cons_zero, List.set_cons_succ])
        refine anyq_ready (rs := [16]) (by kernel_rfl) (by simp) ?_
        refine AllQ.cons (o := { dst := some 55, op := Op.call { callee := Callee.builtin Builtin.append, args := #[Operand.tmp 52, Operand.tmp 54], argTypes := #[42, 42] }, type := 42, pos := "pack.go:72", after := #[{ on := 13, ground := Ground.data }, { on := 15, ground := Ground.data }, { on := 9, ground := Ground.chain }], guard := none }) rfl (fun K hK => ?_) AllQ.nil
        have PB := Lib.hid (Nat.le_trans HBW.out FC.out.size)
        refine step_fresh rfl (wp_appz (.tmp 52) (.tmp 54) rfl B (.slice az lz cz) ps (en : Int) (by simp [Act.eval]) OZ.out ⟨gz, 0, none⟩ 1 (by simp [Act.eval]) XB.out ZL.out PB.out ?_)
        intro v16 w16 hZ16 hg16 hN16
        have N16 := Lib.hid (new_or hN16 FC.out.size)
        have OG := Lib.hid (ownf_kept_z OG.out OZ.out hg16)
        have OZ := Lib.hid hZ16
        obtain ⟨a16, c16, rfl, _, _, _, _⟩ := own_zrw hZ16
        rw [LZ1.out] at OZ N16 ⊢
        have FC := Lib.hid (FC.out.trans (fr_grown_l hg16 INZ.out))
        clear hZ16 hg16 hN16 PB XB
        refine hK.out _ _ ?_ (fun hHeld => ?_)
        · exact S0.out _ FC.out
        clear hK K
        (try simp only [Act.put, List.setIfInBounds_toArray, List.set_cons_zero, List.set_cons_succ])
        refine anyq_pure (i := 17) (oi := { dst := some 56, op := Op.nilCheck (Operand.tmp 39), type := 0, pos := "pack.go:72", after := #[{ on := 0, ground := Ground.data }, { on := 0, ground := Ground.phase }, { on := 1, ground := Ground.textOnly Departure.lateStores }, { on := 2, ground := Ground.phase }, { on := 3, ground := Ground.phase }, { on := 4, ground := Ground.phase }, { on := 5, ground := Ground.phase }, { on := 6, ground := Ground.phase }, { on := 7, ground := Ground.phase }, { on := 8, ground := Ground.phase }, { on := 9, ground := Ground.phase }, { on := 10, ground := Ground.textOnly Departure.lateStores }, { on := 11, ground := Ground.textOnly Departure.lateStoresUnsure }, { on := 12, ground := Ground.textOnly Departure.lateStoresUnsure }, { on := 13, ground := Ground.phase }, { on := 14, ground := Ground.textOnly Departure.lateStores }, { on := 15, ground := Ground.textOnly Departure.lateStoresUnsure }, { on := 16, ground := Ground.phase }], guard := none }) (v := .pointer (some ⟨p, 0, none⟩)) rfl (by kernel_rfl) (by kernel_rfl) (by kernel_rfl) (by decide) (fun _ _ _ h => h) (Or.inl ⟨by rfl, fun w _ => by go_simp⟩) (Or.inr hHeld) ?_
        (try simp only [Act.put, List.setIfInBounds_toArray, List.set_cons_zero, List.set_cons_succ])
        refine anyq_pure (i := 18) (oi := { dst := some 57, op := Op.fieldAddr 59 (Operand.tmp 56) 2, type := 0, pos := "pack.go:72", after := #[{ on := 17, ground := Ground.data }, { on := 0, ground := Ground.phase }, { on := 1, ground := Ground.textOnly Departure.lateStores }, { on := 2, ground := Ground.phase }, { on := 3, ground := Ground.phase }, { on := 4, ground := Ground.phase }, { on := 5, ground := Ground.phase }, { on := 6, ground := Ground.phase }, { on := 7, ground := Ground.phase }, { on := 8, ground := Ground.phase }, { on := 9, ground := Ground.phase }, { on := 10, ground := Ground.textOnly Departure.lateStores }, { on := 11, ground := Ground.textOnly Departure.lateStoresUnsure }, { on := 12, ground := Ground.textOnly Departure.lateStoresUnsure }, { on := 13, ground := Ground.phase }, { on := 14, ground := Ground.textOnly Departure.lateStores }, { on := 15, ground := Ground.textOnly Departure.lateStoresUnsure }, { on := 16, ground := Ground.phase }], guard := none }) (v := .pointer (some ⟨p, 2, none⟩)) rfl (by kernel_rfl) (by kernel_rfl) (by kernel_rfl) (by decide) (fun _ _ _ h => h) (Or.inl ⟨by rfl, fun w _ => by go_simp⟩) (Or.inr hHeld) ?_
        (try simp only [Act.put, List.setIfInBounds_toArray, List.set_cons_zero, List.set_cons_succ])
        refine anyq_ready (rs := [19]) (by kernel_rfl) (by simp) ?_
        refine AllQ.late (i := 19) (o := { dst := none, op := Op.store 38 (Operand.tmp 57) (Operand.tmp 48), type := 0, pos := "pack.go:72", after := #[{ on := 18, ground := Ground.data }, { on := 9, ground := Ground.data }, { on := 16, ground := Ground.chain }, { on := 0, ground := Ground.phase }, { on := 1, ground := Ground.textOnly Departure.lateStores }, { on := 2, ground := Ground.phase }, { on := 3, ground := Ground.phase }, { on := 4, ground := Ground.phase }, { on := 5, ground := Ground.phase }, { on := 6, ground := Ground.phase }, { on := 7, ground := Ground.phase }, { on := 8, ground := Ground.phase }, { on := 9, ground := Ground.phase }, { on := 10, ground := Ground.textOnly Departure.lateStores }, { on := 11, ground := Ground.textOnly Departure.lateStoresUnsure }, { on := 12, ground := Ground.textOnly Departure.lateStoresUnsure }, { on := 13, ground := Ground.phase }, { on := 14, ground := Ground.textOnly Departure.lateStores }, { on := 15, ground := Ground.textOnly Departure.lateStoresUnsure }, { on := 16, ground := Ground.phase }], guard := none }) (by kernel_rfl) rfl (fun K hK => ?_)
        have PP := Lib.hid (PK.out.fr FC.out NL.out.1)
        obtain ⟨u0, u1, u2, u3, u4, u5⟩ := Pkb.cells PP.out
        have uf2 := Sh.Blk.frozen (show Sh.Blk _ _ _ _ from PP.out) 2
        have uf3 := Sh.Blk.frozen (show Sh.Blk _ _ _ _ from PP.out) 3
        go_simp
        refine hK.out _ _ ?_
        clear hK K
        (try simp only [Act.put, List.setIfInBounds_toArray, List.set_cons_zero, List.set_cons_succ])
        refine anyq_pure (i := 20) (oi := { dst := some 58, op := Op.nilCheck (Operand.tmp 40), type := 0, pos := "pack.go:72", after := #[{ on := 1, ground := Ground.data }, { on := 0, ground := Ground.phase }, { on := 1, ground := Ground.phase }, { on := 2, ground := Ground.phase }, { on := 3, ground := Ground.phase }, { on := 4, ground := Ground.phase }, { on := 5, ground := Ground.phase }, { on := 6, ground := Ground.phase }, { on := 7, ground := Ground.phase }, { on := 8, ground := Ground.phase }, { on := 9, ground := Ground.phase }, { on := 10, ground := Ground.phase }, { on := 11, ground := Ground.phase }, { on := 12, ground := Ground.phase }, { on := 13, ground := Ground.phase }, { on := 14, ground := Ground.phase }, { on := 15, ground := Ground.phase }, { on := 16, ground := Ground.phase }, { on := 17, ground := Ground.phase }, { on := 18, ground := Ground.phase }, { on := 19, ground := Ground.phase }], guard := none }) (v := .pointer (some ⟨p, 0, none⟩)) rfl (by kernel_rfl) (by kernel_rfl) (by kernel_rfl) (by decide) (fun _ _ _ h => h) (Or.inl ⟨by rfl, fun w _ => by go_simp⟩) (Or.inl (by kernel_rfl)) ?_
        (try simp only [Act.put, List.setIfInBounds_toArray, List.set_cons_zero, List.set_cons_succ])
        refine anyq_pure (i := 21) (oi := { dst := some 59, op := Op.fieldAddr 59 (Operand.tmp 58) 3, type := 0, pos := "pack.go:72", after := #[{ on := 20, ground := Ground.data }, { on := 0, ground := Ground.phase }, { on := 1, ground := Ground.phase }, { on := 2, ground := Ground.phase }, { on := 3, ground := Ground.phase }, { on := 4, ground := Ground.phase }, { on := 5, ground := Ground.phase }, { on := 6, ground := Ground.phase }, { on := 7, ground := Ground.phase }, { on := 8, ground := Ground.phase }, { on := 9, ground := Ground.phase }, { on := 10, ground := Ground.phase }, { on := 11, ground := Ground.phase }, { on := 12, ground := Ground.phase }, { on := 13, ground := Ground.phase }, { on := 14, ground := Ground.phase }, { on := 15, ground := Ground.phase }, { on := 16, ground := Ground.phase }, { on := 17, ground := Ground.phase }, { on := 18, ground := Ground.phase }, { on := 19, ground := Ground.phase }], guard := none }) (v := .pointer (some ⟨p, 3, none⟩)) rfl (by kernel_rfl) (by kernel_rfl) (by kernel_rfl) (by decide) (fun _ _ _ h => h) (Or.inl ⟨by rfl, fun w _ => by go_simp⟩) (Or.inl (by kernel_rfl)) ?_
        (try simp only [Act.put, List.setIfInBounds_toArray, List.set_cons_zero, List.set_cons_succ])
        refine anyq_ready (rs := [22]) (by kernel_rfl) (by simp) ?_
        refine AllQ.late (i := 22) (o := { dst := none, op := Op.store 42 (Operand.tmp 59) (Operand.tmp 55), type := 0, pos := "pack.go:72", after := #[{ on := 21, ground := Ground.data }, { on := 16, ground := Ground.data }, { on := 19, ground := Ground.chain }, { on := 0, ground := Ground.phase }, { on := 1, ground := Ground.phase }, { on := 2, ground := Ground.phase }, { on := 3, ground := Ground.phase }, { on := 4, ground := Ground.phase }, { on := 5, ground := Ground.phase }, { on := 6, ground := Ground.phase }, { on := 7, ground := Ground.phase }, { on := 8, ground := Ground.phase }, { on := 9, ground := Ground.phase }, { on := 10, ground := Ground.phase }, { on := 11, ground := Ground.phase }, { on := 12, ground := Ground.phase }, { on := 13, ground := Ground.phase }, { on := 14, ground := Ground.phase }, { on := 15, ground := Ground.phase }, { on := 16, ground := Ground.phase }, { on := 17, ground := Ground.phase }, { on := 18, ground := Ground.phase }, { on := 19, ground := Ground.phase }], guard := none }) (by kernel_rfl) rfl (fun K hK => ?_)
        go_simp
        refine hK.out _ _ ?_
        clear hK K
        (try simp only [Act.put, List.setIfInBounds_toArray, List.set_cons_zero, List.set_cons_succ])
        refine anyq_done (by kernel_rfl) ?_ _
        have Q2 := (Sh.Blk.set (show Sh.Blk _ _ _ _ from PP.out) 2 (.slice a9 (lr + 1) c9)).set 3 (.slice a16 (lz + 1) c16)
        have z4 : (World.setCell (World.setCell w16 ⟨p, 2, none⟩ (.slice a9 (lr + 1) c9)) ⟨p, 3, none⟩ (.slice a16 (lz + 1) c16)).cell? ⟨p, 4, none⟩ = some (.int .i64 (en : Int)) := Sh.Blk.cell Q2 4
        have zf4 := Sh.Blk.frozen Q2 4
        have FIN := Lib.hid (append_fin PP.out HBP.out F5.out FC.out HLL.out NL.out nin HD5.out OG.out OZ.out EN.out hf GD.out N9.out N16.out RR.out HPS.out)
        clear Q2 OG OZ FC N9 N16 u0 u1 u2 u3 u4 u5 uf2 uf3 PP
        go_wp2_with fail
        go_ret2
        unfold AnsA
        rw [← HEN.out, show recB ((kb k, d) : Rcd) = F from HF.out.symm]
        exact ⟨rfl, FIN.out⟩
      refine AllQ.cons (o := { dst := some 54, op := Op.buildSlice 42 1 #[(0, Operand.tmp 53)], type := 42, pos := "pack.go:72", after := #[{ on := 14, ground := Ground.data }], guard := none }) rfl (fun K hK => ?_) AllQ.nil
      go_simp
      obtain ⟨gz, hgz⟩ : ∃ gz, gz = (World.heap w8).size := ⟨_, rfl⟩
      have b15 := al1 w8 (.cells #[.int .i64 (en : Int)] 3)
      have XB : Hid (Zrw (World.alloc w8 (.cells #[.int .i64 (en : Int)] 3)) (some ⟨gz, 0, none⟩) [(en : Int)]) := by rw [hgz]; exact zrw_one _ _
      have GZ : Hid (wq.heap.size ≤ gz) := by rw [hgz]; exact FC.out.size
      rw [← hgz]
      have BW := Lib.hid (below_chain BW.out b15)
      have FC := Lib.hid (FC.out.trans (fr_below b15 L))
      have DK := Lib.hid (datK_below DK.out b15)
      have KB := Lib.hid (Sh.Blk.low KB.out b15)
      generalize hw15 : World.alloc w8 (.cells #[.int .i64 (en : Int)] 3) = w15 at *
      clear b15 hgz hw15
      refine hK.out _ _ ?_ (fun hHeld => ?_)
      · exact S0.out _ FC.out
      clear hK K
      (try simp only [Act.put, List.setIfInBounds_toArray, List.set_cons_zero, List.set_cons_succ])
      refine anyq_ready (rs := [9]) (by kernel_rfl) (by simp) ?_
      refine AllQ.cons (o := { dst := some 48, op := Op.call { callee := Callee.builtin Builtin.append, args := #[Operand.tmp 44, Operand.tmp 47], argTypes := #[38, 38] }, type := 38, pos := "pack.go:72", after := #[{ on := 5, ground := Ground.data }, { on := 8, ground := Ground.data }, { on := 7, ground := Ground.chain }], guard := none }) rfl (fun K hK => ?_) AllQ.nil
      have OG := Lib.hid (ownf_below OG4.out BW.out)
      have OZ := Lib.hid (ownz_below OZ4.out BW.out)
      have PB := Lib.hid (Nat.le_trans HBW.out BW.out.size)
      refine step_fresh rfl (wp_appf (.tmp 44) (.tmp 47) rfl 0 B (Nat.zero_le _) (.slice ar lr cr) (.slice a5 n c5) rs (kb k, d) (by simp [Act.eval]) OG.out DK.out gk (by simp [Act.eval]) KB.out RL.out PB.out ?_)
      intro v9 w9 hF9 hg9 hN9
      have N9 := Lib.hid (new_or hN9 FC.out.size)
      obtain ⟨a9, c9, rfl, _, _, _, _⟩ := ownf_read hF9
      rw [LR1.out] at hF9 N9 ⊢
      have OZ := Lib.hid (ownz_kept_f OZ.out OG.out hg9)
      have OG := Lib.hid hF9
      have FC := Lib.hid (FC.out.trans (fr_grown_l hg9 INR.out))
      have XB := Lib.hid (zrw_fr XB.out (fr_grown_l hg9 INR.out) (fun hm => absurd (LLT.out _ hm) (Nat.not_lt.2 GZ.out)))
      clear hF9 hg9 hN9 BW DK KB PB
      refine hK.out _ _ ?_ (fun hHeld => ?_)
      · exact S0.out _ FC.out
      clear hK K
      (try simp only [Act.put, List.setIfInBounds_toArray, List.set_cons_zero, List.set_cons_succ])
      refine anyq_ready (rs := [16]) (by kernel_rfl) (by simp) ?_
      refine AllQ.cons (o := { dst := some 55, op := Op.call { callee := Callee.builtin Builtin.append, args := #[Operand.tmp 52, Operand.tmp 54], argTypes := #[42, 42] }, type := 42, pos := "pack.go:72", after := #[{ on := 13, ground := Ground.data }, { on := 15, ground := Ground.data }, { on := 9, ground := Ground.chain }], guard := none }) rfl (fun K hK => ?_) AllQ.nil
      have PB := Lib.hid (Nat.le_trans HBW.out FC.out.size)
      refine step_fresh rfl (wp_appz (.tmp 52) (.tmp 54) rfl B (.slice az lz cz) ps (en : Int) (by simp [Act.eval]) OZ.out ⟨gz, 0, none⟩ 1 (by simp [Act.eval]) XB.out ZL.out PB.out ?_)
      intro v16 w16 hZ16 hg16 hN16
      have N16 := Lib.hid (new_or hN16 FC.out.size)
      have OG := Lib.hid (ownf_kept_z OG.out OZ.out hg16)
      have OZ := Lib.hid hZ16
      obtain ⟨a16, c16, rfl, _, _, _, _⟩ := own_zrw hZ16
      rw [LZ1.out] at OZ N16 ⊢
      have FC := Lib.hid (FC.out.trans (fr_grown_l hg16 INZ.out))
      clear hZ16 hg16 hN16 PB XB
      refine hK.out _ _ ?_ (fun hHeld => ?_)
      · exact S0.out _ FC.out
      clear hK K
      (try simp only [Act.put, List.setIfInBounds_toArray, List.set_cons_zero, List.set_cons_succ])
      refine anyq_pure (i := 17) (oi := { dst := some 56, op := Op.nilCheck (Operand.tmp 39), type := 0, pos := "pack.go:72", after := #[{ on := 0, ground := Ground.data }, { on := 0, ground := Ground.phase }, { on := 1, ground := Ground.textOnly Departure.lateStores }, { on := 2, ground := Ground.phase }, { on := 3, ground := Ground.phase }, { on := 4, ground := Ground.phase }, { on := 5, ground := Ground.phase }, { on := 6, ground := Ground.phase }, { on := 7, ground := Ground.phase }, { on := 8, ground := Ground.phase }, { on := 9, ground := Ground.phase }, { on := 10, ground := Ground.textOnly Departure.lateStores }, { on := 11, ground := Ground.textOnly Departure.lateStoresUnsure }, { on := 12, ground := Ground.textOnly Departure.lateStoresUnsure }, { on := 13, ground := Ground.phase }, { on := 14, ground := Ground.textOnly Departure.lateStores }, { on := 15, ground := Ground.textOnly Departure.lateStoresUnsure }, { on := 16, ground := Ground.phase }], guard := none }) (v := .pointer (some ⟨p, 0, none⟩)) rfl (by kernel_rfl) (by kernel_rfl) (by kernel_rfl) (by decide) (fun _ _ _ h => h) (Or.inl ⟨by rfl, fun w _ => by go_simp⟩) (Or.inr hHeld) ?_
      (try simp only [Act.put, List.setIfInBounds_toArray, List.set_cons_zero, List.set_cons_succ])
      refine anyq_pure (i := 18) (oi := { dst := some 57, op := Op.fieldAddr 59 (Operand.tmp 56) 2, type := 0, pos := "pack.go:72", after := #[{ on := 17, ground := Ground.data }, { on := 0, ground := Ground.phase }, { on := 1, ground := Ground.textOnly Departure.lateStores }, { on := 2, ground := Ground.phase }, { on := 3, ground := Ground.phase }, { on := 4, ground := Ground.phase }, { on := 5, ground := Ground.phase }, { on := 6, ground := Ground.phase }, { on := 7, ground := Ground.phase }, { on := 8, ground := Ground.phase }, { on := 9, ground := Ground.phase }, { on := 10, ground := Ground.textOnly Departure.lateStores }, { on := 11, ground := Ground.textOnly Departure.lateStoresUnsure }, { on := 12, ground := Ground.textOnly Departure.lateStoresUnsure }, { on := 13, ground := Ground.phase }, { on := 14, ground := Ground.textOnly Departure.lateStores }, { on := 15, ground := Ground.textOnly Departure.lateStoresUnsure }, { on := 16, ground := Ground.phase }], guard := none }) (v := .pointer (some ⟨p, 2, none⟩)) rfl (by kernel_rfl) (by kernel_rfl) (by kernel_rfl) (by decide) (fun _ _ _ h => h) (Or.inl ⟨by rfl, fun w _ => by go_simp⟩) (Or.inr hHeld) ?_
      (try simp only [Act.put, List.setIfInBounds_toArray, List.set_cons_zero, List.set_cons_succ])
      refine anyq_ready (rs := [19]) (by kernel_rfl) (by simp) ?_
      refine AllQ.late (i := 19) (o := { dst := none, op := Op.store 38 (Operand.tmp 57) (Operand.tmp 48), type := 0, pos := "pack.go:72", after := #[{ on := 18, ground := Ground.data }, { on := 9, ground := Ground.data }, { on := 16, ground := Ground.chain }, { on := 0, ground := Ground.phase }, { on := 1, ground := Ground.textOnly Departure.lateStores }, { on := 2, ground := Ground.phase }, { on := 3, ground := Ground.phase }, { on := 4, ground := Ground.phase }, { on := 5, ground := Ground.phase }, { on := 6, ground := Ground.phase }, { on := 7, ground := Ground.phase }, { on := 8, ground := Ground.phase }, { on := 9, ground := Ground.phase }, { on := 10, ground := Ground.textOnly Departure.lateStores }, { on := 11, ground := Ground.textOnly Departure.lateStoresUnsure }, { on := 12, ground := Ground.textOnly Departure.lateStoresUnsure }, { on := 13, ground := Ground.phase }, { on := 14, ground := Ground.textOnly Departure.lateStores }, { on := 15, ground := Ground.textOnly Departure.lateStoresUnsure }, { on := 16, ground := Ground.phase }], guard := none }) (by kernel_rfl) rfl (fun K hK => ?_)
      have PP := Lib.hid (PK.out.fr FC.out NL.out.1)
      obtain ⟨u0, u1, u2, u3, u4, u5⟩ := Pkb.cells PP.out
      have uf2 := Sh.Blk.frozen (show Sh.Blk _ _ _ _ from PP.out) 2
      have uf3 := Sh.Blk.frozen (show Sh.Blk _ _ _ _ from PP.out) 3
      go_simp
      refine hK.out _ _ ?_
      clear hK K
      (try simp only [Act.put, List.setIfInBounds_toArray, List.set_cons_zero, List.set_cons_succ])
      refine anyq_pure (i := 20) (oi := { dst := some 58, op := Op.nilCheck (Operand.tmp 40), type := 0, pos := "pack.go:72", after := #[{ on := 1, ground := Ground.data }, { on := 0, ground := Ground.phase }, { on := 1, ground := Ground.phase }, { on := 2, ground := Ground.phase }, { on := 3, ground := Ground.phase }, { on := 4, ground := Ground.phase }, { on := 5, ground := Ground.phase }, { on := 6, ground := Ground.phase }, { on := 7, ground := Ground.phase }, { on := 8, ground := Ground.phase }, { on := 9, ground := Ground.phase }, { on := 10, ground := Ground.phase }, { on := 11, ground := Ground.phase }, { on := 12, ground := Ground.phase }, { on := 13, ground := Ground.phase }, { on := 14, ground := Ground.phase }, { on := 15, ground := Ground.phase }, { on := 16, ground := Ground.phase }, { on := 17, ground := Ground.phase }, { on := 18, ground := Ground.phase }, { on := 19, ground := Ground.phase }], guard := none }) (v := .pointer (some ⟨p, 0, none⟩)) rfl (by kernel_rfl) (by kernel_rfl) (by kernel_rfl) (by decide) (fun _ _ _ h => h) (Or.inl ⟨by rfl, fun w _ => by go_simp⟩) (Or.inl (by kernel_rfl)) ?_
      (try simp only [Act.put, List.setIfInBounds_toArray, List.set_cons_zero, List.set_cons_succ])
      refine anyq_pure (i := 21) (oi := { dst := some 59, op := Op.fieldAddr 59 (Operand.tmp 58) 3, type := 0, pos := "pack.go:72", after := #[{ on := 20, ground := Ground.data }, { on := 0, ground := Ground.phase }, { on := 1, ground := Ground.phase }, { on := 2, ground := Ground.phase }, { on := 3, ground := Ground.phase }, { on := 4, ground := Ground.phase }, { on := 5, ground := Ground.phase }, { on := 6, ground := Ground.phase }, { on := 7, ground := Ground.phase }, { on := 8, ground := Ground.phase }, { on := 9, ground := Ground.phase }, { on := 10, ground := Ground.phase }, { on := 11, ground := Ground.phase }, { on := 12, ground := Ground.phase }, { on := 13, ground := Ground.phase }, { on := 14, ground := Ground.phase }, { on := 15, ground := Ground.phase }, { on := 16, ground := Ground.phase }, { on := 17, ground := Ground.phase }, { on := 18, ground := Ground.phase }, { on := 19, ground := Ground.phase }], guard := none }) (v := .pointer (some ⟨p, 3, none⟩)) rfl (by kernel_rfl) (by kernel_rfl) (by kernel_rfl) (by decide) (fun _ _ _ h => h) (Or.inl ⟨by rfl, fun w _ => by go_simp⟩) (Or.inl (by kernel_rfl)) ?_
      (try simp only [Act.put, List.setIfInBounds_toArray, List.set_cons_zero, List.set_cons_succ])
      refine anyq_ready (rs := [22]) (by kernel_rfl) (by simp) ?_
      refine AllQ.late (i := 22) (o := { dst := none, op := Op.store 42 (Operand.tmp 59) (Operand.tmp 55), type := 0, pos := "pack.go:72", after := #[{ on := 21, ground := Ground.data }, { on := 16, ground := Ground.data }, { on := 19, ground := Ground.chain }, { on := 0, ground := Ground.phase }, { on := 1, ground := Ground.phase }, { on := 2, ground := Ground.phase }, { on := 3, ground := Ground.phase }, { on := 4, ground := Ground.phase }, { on := 5, ground := Ground.phase }, { on := 6, ground := Ground.phase }, { on := 7, ground := Ground.phase }, { on := 8, ground := Ground.phase }, { on := 9, ground := Ground.phase }, { on := 10, ground := Ground.phase }, { on := 11, ground := Ground.phase }, { on := 12, ground := Ground.phase }, { on := 13, ground := Ground.phase }, { on := 14, ground := Ground.phase }, { on := 15, ground := Ground.phase }, { on := 16, ground := Ground.phase }, { on := 17, ground := Ground.phase }, { on := 18, ground := Ground.phase }, { on := 19, ground := Ground.phase }], guard := none }) (by kernel_rfl) rfl (fun K hK => ?_)
      go_simp
      refine hK.out _ _ ?_
      clear hK K
      (try simp only [Act.put, List.setIfInBounds_toArray, List.set_cons_zero, List.set_cons_succ])
      refine anyq_done (by kernel_rfl) ?_ _
      have Q2 := (Sh.Blk.set (show Sh.Blk _ _ _ _ from PP.out) 2 (.slice a9 (lr + 1) c9)).set 3 (.slice a16 (lz + 1) c16)
      have z4 : (World.setCell (World.setCell w16 ⟨p, 2, none⟩ (.slice a9 (lr + 1) c9)) ⟨p, 3, none⟩ (.slice a16 (lz + 1) c16)).cell? ⟨p, 4, none⟩ = some (.int .i64 (en : Int)) := Sh.Blk.cell Q2 4
      have zf4 := Sh.Blk.frozen Q2 4
      have FIN := Lib.hid (append_fin PP.out HBP.out F5.out FC.out HLL.out NL.out nin HD5.out OG.out OZ.out EN.out hf GD.out N9.out N16.out RR.out HPS.out)
      clear Q2 OG OZ FC N9 N16 u0 u1 u2 u3 u4 u5 uf2 uf3 PP
      go_wp2_with fail
      go_ret2
      unfold AnsA
      rw [← HEN.out, show recB ((kb k, d) : Rcd) = F from HF.out.symm]
      exact ⟨rfl, FIN.out⟩
    refine AllQ.cons (o := { dst := some 54, op := Op.buildSlice 42 1 #[(0, Operand.tmp 53)], type := 42, pos := "pack.go:72", after := #[{ on := 14, ground := Ground.data }], guard := none }) rfl (fun K hK => ?_) AllQ.nil
    go_simp
    obtain ⟨gz, hgz⟩ : ∃ gz, gz = (World.heap w5).size := ⟨_, rfl⟩
    have b15 := al1 w5 (.cells #[.int .i64 (en : Int)] 3)
    have XB : Hid (Zrw (World.alloc w5 (.cells #[.int .i64 (en : Int)] 3)) (some ⟨gz, 0, none⟩) [(en : Int)]) := by rw [hgz]; exact zrw_one _ _
    have GZ : Hid (wq.heap.size ≤ gz) := by rw [hgz]; exact FC.out.size
    rw [← hgz]
    have BW := Lib.hid (below_chain BW.out b15)
    have FC := Lib.hid (FC.out.trans (fr_below b15 L))
    have DK := Lib.hid (datK_below DK.out b15)
    generalize hw15 : World.alloc w5 (.cells #[.int .i64 (en : Int)] 3) = w15 at *
    clear b15 hgz hw15
    refine hK.out _ _ ?_ (fun hHeld => ?_)
    · exact S0.out _ FC.out
    clear hK K
    (try simp only [Act.put, List.setIfInBounds_toArray, List.set_cons_zero, List.set_cons_succ])
    refine anyq_ready (rs := [8]) (by kernel_rfl) (by simp) ?_
    refine AllQ.cons (o := { dst := some 47, op := Op.buildSlice 38 1 #[(0, Operand.tmp 46)], type := 38, pos := "pack.go:72", after := #[{ on := 7, ground := Ground.data }], guard := none }) rfl (fun K hK => ?_) AllQ.nil
    go_simp
    obtain ⟨gk, hgk⟩ : ∃ gk, gk = (World.heap w15).size := ⟨_, rfl⟩
    have b8 := al1 w15 (.cells #[.int .i64 k, .string ks, .slice a5 n c5] 29)
    have KB : Hid (Blk (World.alloc w15 (.cells #[.int .i64 k, .string ks, .slice a5 n c5] 29)) gk (recC (kb k, d) (.slice a5 n c5)) 29) := by rw [hgk]; exact REC.out _ a5 c5
    rw [← hgk]
    have BW := Lib.hid (below_chain BW.out b8)
    have FC := Lib.hid (FC.out.trans (fr_below b8 L))
    have DK := Lib.hid (datK_below DK.out b8)
    have XB := Lib.hid (Zrw.below XB.out b8)
    generalize hw8 : World.alloc w15 (.cells #[.int .i64 k, .string ks, .slice a5 n c5] 29) = w8 at *
    clear b8 hgk hw8
    refine hK.out _ _ ?_ (fun hHeld => ?_)
    · exact S0.out _ FC.out
    clear hK K
    (try simp only [Act.put, List.setIfInBounds_toArray, List.set_cons_zero, List.set_cons_succ])
    refine anyq_ready (rs := [9]) (by kernel_rfl) (by simp) ?_
    refine AllQ.cons (o := { dst := some 48, op := Op.call { callee := Callee.builtin Builtin.append, args := #[Operand.tmp 44, Operand.tmp 47], argTypes := #[38, 38] }, type := 38, pos := "pack.go:72", after := #[{ on := 5, ground := Ground.data }, { on := 8, ground := Ground.data }, { on := 7, ground := Ground.chain }], guard := none }) rfl (fun K hK => ?_) AllQ.nil
    have OG := Lib.hid (ownf_below OG4.out BW.out)
    have OZ := Lib.hid (ownz_below OZ4.out BW.out)
    have PB := Lib.hid (Nat.le_trans HBW.out BW.out.size)
    refine step_fresh rfl (wp_appf (.tmp 44) (.tmp 47) rfl 0 B (Nat.zero_le _) (.slice ar lr cr) (.slice a5 n c5) rs (kb k, d) (by simp [Act.eval]) OG.out DK.out gk (by simp [Act.eval]) KB.out RL.out PB.out ?_)
    intro v9 w9 hF9 hg9 hN9
    have N9 := Lib.hid (new_or hN9 FC.out.size)
    obtain ⟨a9, c9, rfl, _, _, _, _⟩ := ownf_read hF9
    rw [LR1.out] at hF9 N9 ⊢
    have OZ := Lib.hid (ownz_kept_f OZ.out OG.out hg9)
    have OG := Lib.hid hF9
    have FC := Lib.hid (FC.out.trans (fr_grown_l hg9 INR.out))
    have XB := Lib.hid (zrw_fr XB.out (fr_grown_l hg9 INR.out) (fun hm => absurd (LLT.out _ hm) (Nat.not_lt.2 GZ.out)))
    clear hF9 hg9 hN9 BW DK KB PB
    refine hK.out _ _ ?_ (fun hHeld => ?_)
    · exact S0.out _ FC.out
    clear hK K
    (try simp only [Act.put, List.setIfInBounds_toArray, List.set_cons_zero, List.set_cons_succ])
    refine anyq_ready (rs := [16]) (by kernel_rfl) (by simp) ?_
    refine AllQ.cons (o := { dst := some 55, op := Op.call { callee := Callee.builtin Builtin.append, args := #[Operand.tmp 52, Operand.tmp 54], argTypes := #[42, 42] }, type := 42, pos := "pack.go:72", after := #[{ on := 13, ground := Ground.data }, { on := 15, ground := Ground.data }, { on := 9, ground := Ground.chain }], guard := none }) rfl (fun K hK => ?_) AllQ.nil
    have PB := Lib.hid (Nat.le_trans HBW.out FC.out.size)
    refine step_fresh rfl (wp_appz (.tmp 52) (.tmp 54) rfl B (.slice az lz cz) ps (en : Int) (by simp [Act.eval]) OZ.out ⟨gz, 0, none⟩ 1 (by simp [Act.eval]) XB.out ZL.out PB.out ?_)
    intro v16 w16 hZ16 hg16 hN16
    have N16 := Lib.hid (new_or hN16 FC.out.size)
    have OG := Lib.hid (ownf_kept_z OG.out OZ.out hg16)
    have OZ := Lib.hid hZ16
    obtain ⟨a16, c16, rfl, _, _, _, _⟩ := own_zrw hZ16
    rw [LZ1.out] at OZ N16 ⊢
    have FC := Lib.hid (FC.out.trans (fr_grown_l hg16 INZ.out))
    clear hZ16 hg16 hN16 PB XB
    refine hK.out _ _ ?_ (fun hHeld => ?_)
    · exact S0.out _ FC.out
    clear hK K
    (try simp only [Act.put, List.setIfInBounds_toArray, List.set_cons_zero, List.set_cons_succ])
    refine anyq_pure (i := 17) (oi := { dst := some 56, op := Op.nilCheck (Operand.tmp 39), type := 0, pos := "pack.go:72", after := #[{ on := 0, ground := Ground.data }, { on := 0, ground := Ground.phase }, { on := 1, ground := Ground.textOnly Departure.lateStores }, { on := 2, ground := Ground.phase }, { on := 3, ground := Ground.phase }, { on := 4, ground := Ground.phase }, { on := 5, ground := Ground.phase }, { on := 6, ground := Ground.phase }, { on := 7, ground := Ground.phase }, { on := 8, ground := Ground.phase }, { on := 9, ground := Ground.phase }, { on := 10, ground := Ground.textOnly Departure.lateStores }, { on := 11, ground := Ground.textOnly Departure.lateStoresUnsure }, { on := 12, ground := Ground.textOnly Departure.lateStoresUnsure }, { on := 13, ground := Ground.phase }, { on := 14, ground := Ground.textOnly Departure.lateStores }, { on := 15, ground := Ground.textOnly Departure.lateStoresUnsure }, { on := 16, ground := Ground.phase }], guard := none }) (v := .pointer (some ⟨p, 0, none⟩)) rfl (by kernel_rfl) (by kernel_rfl) (by kernel_rfl) (by decide) (fun _ _ _ h => h) (Or.inl ⟨by rfl, fun w _ => by go_simp⟩) (Or.inr hHeld) ?_
    (try simp only [Act.put, List.setIfInBounds_toArray, List.set_cons_zero, List.set_cons_succ])
    refine anyq_pure (i := 18) (oi := { dst := some 57, op := Op.fieldAddr 59 (Operand.tmp 56) 2, type := 0, pos := "pack.go:72", after := #[{ on := 17, ground := Ground.data }, { on := 0, ground := Ground.phase }, { on := 1, ground := Ground.textOnly Departure.lateStores }, { on := 2, ground := Ground.phase }, { on := 3, ground := Ground.phase }, { on := 4, ground := Ground.phase }, { on := 5, ground := Ground.phase }, { on := 6, ground := Ground.phase }, { on := 7, ground := Ground.phase }, { on := 8, ground := Ground.phase }, { on := 9, ground := Ground.phase }, { on := 10, ground := Ground.textOnly Departure.lateStores }, { on := 11, ground := Ground.textOnly Departure.lateStoresUnsure }, { on := 12, ground := Ground.textOnly Departure.lateStoresUnsure }, { on := 13, ground := Ground.phase }, { on := 14, ground := Ground.textOnly Departure.lateStores }, { on := 15, ground := Ground.textOnly Departure.lateStoresUnsure }, { on := 16, ground := Ground.phase }], guard := none }) (v := .pointer (some ⟨p, 2, none⟩)) rfl (by kernel_rfl) (by kernel_rfl) (by kernel_rfl) (by decide) (fun _ _ _ h => h) (Or.inl ⟨by rfl, fun w _ => by go_simp⟩) (Or.inr hHeld) ?_
    (try simp only [Act.put, List.setIfInBounds_toArray, List.set_cons_zero, List.set_cons_succ])
    refine anyq_ready (rs := [19]) (by kernel_rfl) (by simp) ?_
    refine AllQ.late (i := 19) (o := { dst := none, op := Op.store 38 (Operand.tmp 57) (Operand.tmp 48), type := 0, pos := "pack.go:72", after := #[{ on := 18, ground := Ground.data }, { on := 9, ground := Ground.data }, { on := 16, ground := Ground.chain }, { on := 0, ground := Ground.phase }, { on := 1, ground := Ground.textOnly Departure.lateStores }, { on := 2, ground := Ground.phase }, { on := 3, ground := Ground.phase }, { on := 4, ground := Ground.phase }, { on := 5, ground := Ground.phase }, { on := 6, ground := Ground.phase }, { on := 7, ground := Ground.phase }, { on := 8, ground := Ground.phase }, { on := 9, ground := Ground.phase }, { on := 10, ground := Ground.textOnly Departure.lateStores }, { on := 11, ground := Ground.textOnly Departure.lateStoresUnsure }, { on := 12, ground := Ground.textOnly Departure.lateStoresUnsure }, { on := 13, ground := Ground.phase }, { on := 14, ground := Ground.textOnly Departure.lateStores }, { on := 15, ground := Ground.textOnly Departure.lateStoresUnsure }, { on := 16, ground := Ground.phase }], guard := none }) (by kernel_rfl) rfl (fun K hK => ?_)
    have PP := Lib.hid (PK.out.fr FC.out NL.out.1)
    obtain ⟨u0, u1, u2, u3, u4, u5⟩ := Pkb.cells PP.out
    have uf2 := Sh.Blk.frozen (show Sh.Blk _ _ _ _ from PP.out) 2
    have uf3 := Sh.Blk.frozen (show Sh.Blk _ _ _ _ from PP.out) 3
    go_simp
    refine hK.out _ _ ?_
    clear hK K
    (try simp only [Act.put, List.setIfInBounds_toArray, List.set_cons_zero, List.set_cons_succ])
    refine anyq_pure (i := 20) (oi := { dst := some 58, op := Op.nilCheck (Operand.tmp 40), type := 0, pos := "pack.go:72", after := #[{ on := 1, ground := Ground.data }, { on := 0, ground := Ground.phase }, { on := 1, ground := Ground.phase }, { on := 2, ground := Ground.phase }, { on := 3, ground := Ground.phase }, { on := 4, ground := Ground.phase }, { on := 5, ground := Ground.phase }, { on := 6, ground := Ground.phase }, { on := 7, ground := Ground.phase }, { on := 8, ground := Ground.phase }, { on := 9, ground := Ground.phase }, { on := 10, ground := Ground.phase }, { on := 11, ground := Ground.phase }, { on := 12, ground := Ground.phase }, { on := 13, ground := Ground.phase }, { on := 14, ground := Ground.phase }, { on := 15, ground := Ground.phase }, { on := 16, ground := Ground.phase }, { on := 17, ground := Ground.phase }, { on := 18, ground := Ground.phase }, { on := 19, ground := Ground.phase }], guard := none }) (v := .pointer (some ⟨p, 0, none⟩)) rfl (by kernel_rfl) (by kernel_rfl) (by kernel_rfl) (by decide) (fun _ _ _ h => h) (Or.inl ⟨by rfl, fun w _ => by go_simp⟩) (Or.inl (by kernel_rfl)) ?_
    (try simp only [Act.put, List.setIfInBounds_toArray, List.set_cons_zero, List.set_cons_succ])
    refine anyq_pure (i := 21) (oi := { dst := some 59, op := Op.fieldAddr 59 (Operand.tmp 58) 3, type := 0, pos := "pack.go:72", after := #[{ on := 20, ground := Ground.data }, { on := 0, ground := Ground.phase }, { on := 1, ground := Ground.phase }, { on := 2, ground := Ground.phase }, { on := 3, ground := Ground.phase }, { on := 4, ground := Ground.phase }, { on := 5, ground := Ground.phase }, { on := 6, ground := Ground.phase }, { on := 7, ground := Ground.phase }, { on := 8, ground := Ground.phase }, { on := 9, ground := Ground.phase }, { on := 10, ground := Ground.phase }, { on := 11, ground := Ground.phase }, { on := 12, ground := Ground.phase }, { on := 13, ground := Ground.phase }, { on := 14, ground := Ground.phase }, { on := 15, ground := Ground.phase }, { on := 16, ground := Ground.phase }, { on := 17, ground := Ground.phase }, { on := 18, ground := Ground.phase }, { on := 19, ground := Ground.phase }], guard := none }) (v := .pointer (some ⟨p, 3, none⟩)) rfl (by kernel_rfl) (by kernel_rfl) (by kernel_rfl) (by decide) (fun _ _ _ h => h) (Or.inl ⟨by rfl, fun w _ => by go_simp⟩) (Or.inl (by kernel_rfl)) ?_
    (try simp only [Act.put, List.setIfInBounds_toArray, List.set_cons_zero, List.set_cons_succ])
    refine anyq_ready (rs := [22]) (by kernel_rfl) (by simp) ?_
    refine AllQ.late (i := 22) (o := { dst := none, op := Op.store 42 (Operand.tmp 59) (Operand.tmp 55), type := 0, pos := "pack.go:72", after := #[{ on := 21, ground := Ground.data }, { on := 16, ground := Ground.data }, { on := 19, ground := Ground.chain }, { on := 0, ground := Ground.phase }, { on := 1, ground := Ground.phase }, { on := 2, ground := Ground.phase }, { on := 3, ground := Ground.phase }, { on := 4, ground := Ground.phase }, { on := 5, ground := Ground.phase }, { on := 6, ground := Ground.phase }, { on := 7, ground := Ground.phase }, { on := 8, ground := Ground.phase }, { on := 9, ground := Ground.phase }, { on := 10, ground := Ground.phase }, { on := 11, ground := Ground.phase }, { on := 12, ground := Ground.phase }, { on := 13, ground := Ground.phase }, { on := 14, ground := Ground.phase }, { on := 15, ground := Ground.phase }, { on := 16, ground := Ground.phase }, { on := 17, ground := Ground.phase }, { on := 18, ground := Ground.phase }, { on := 19, ground := Ground.phase }], guard := none }) (by kernel_rfl) rfl (fun K hK => ?_)
    go_simp
    refine hK.out _ _ ?_
    clear hK K
    (try simp only [Act.put, List.setIfInBounds_toArray, List.set_cons_zero, List.set_cons_succ])
    refine anyq_done (by kernel_rfl) ?_ _
    have Q2 := (Sh.Blk.set (show Sh.Blk _ _ _ _ from PP.out) 2 (.slice a9 (lr + 1) c9)).set 3 (.slice a16 (lz + 1) c16)
    have z4 : (World.setCell (World.setCell w16 ⟨p, 2, none⟩ (.slice a9 (lr + 1) c9)) ⟨p, 3, none⟩ (.slice a16 (lz + 1) c16)).cell? ⟨p, 4, none⟩ = some (.int .i64 (en : Int)) := Sh.Blk.cell Q2 4
    have zf4 := Sh.Blk.frozen Q2 4
    have FIN := Lib.hid (append_fin PP.out HBP.out F5.out FC.out HLL.out NL.out nin HD5.out OG.out OZ.out EN.out hf GD.out N9.out N16.out RR.out HPS.out)
    clear Q2 OG OZ FC N9 N16 u0 u1 u2 u3 u4 u5 uf2 uf3 PP
    go_wp2_with fail
    go_ret2
    unfold AnsA
    rw [← HEN.out, show recB ((kb k, d) : Rcd) = F from HF.out.symm]
    exact ⟨rfl, FIN.out⟩
  refine AllQ.cons (o := { dst := some 54, op := Op.buildSlice 42 1 #[(0, Operand.tmp 53)], type := 42, pos := "pack.go:72", after := #[{ on := 14, ground := Ground.data }], guard := none }) rfl (fun K hK => ?_) AllQ.nil
  go_simp
  obtain ⟨gz, hgz⟩ : ∃ gz, gz = (World.heap wq).size := ⟨_, rfl⟩
  have b15 := al1 wq (.cells #[.int .i64 (en : Int)] 3)
  have XB : Hid (Zrw (World.alloc wq (.cells #[.int .i64 (en : Int)] 3)) (some ⟨gz, 0, none⟩) [(en : Int)]) := by rw [hgz]; exact zrw_one _ _
  have GZ : Hid (wq.heap.size ≤ gz) := by rw [hgz]; exact FC.out.size
  rw [← hgz]
  have BW := Lib.hid (below_chain BW.out b15)
  have FC := Lib.hid (FC.out.trans (fr_below b15 L))
  generalize hw15 : World.alloc wq (.cells #[.int .i64 (en : Int)] 3) = w15 at *
  clear b15 hgz hw15
  refine hK.out _ _ ?_ (fun hHeld => ?_)
  · exact S0.out _ FC.out
  clear hK K
  (try simp only [Act.put, List.setIfInBounds_toArray, List.set_cons_zero, List.set_cons_succ])
  refine anyq_ready (rs := [7]) (by kernel_rfl) (by simp) ?_
  refine AllQ.cons (o := { dst := some 46, op := Op.call { callee := Callee.value (Operand.func 36), args := #[Operand.tmp 45], argTypes := #[29] }, type := 29, pos := "pack.go:72", after := #[{ on := 6, ground := Ground.data }], guard := none }) rfl (fun K hK => ?_) AllQ.nil
  go_simp
  go_at_call 36
  with_reducible refine (CK.out _ BW.out).mono ?_
  rintro e w5 ⟨b5, v5, rfl, hv5⟩
  obtain ⟨a5, c5, rfl, _, _, _, _⟩ := own_byt hv5
  rw [HLN.out] at hv5 ⊢
  have DK : Hid (DatK 0 w5 (.slice a5 n c5) d) := datK_low hv5 (Nat.zero_le _)
  have BW := Lib.hid (below_chain BW.out b5)
  have FC := Lib.hid (FC.out.trans (fr_below b5 L))
  have XB := Lib.hid (Zrw.below XB.out b5)
  clear b5 hv5
  refine hK.out _ _ ?_ (fun hHeld => ?_)
  · exact S0.out _ FC.out
  clear hK K
  (try simp only [Act.put, List.setIfInBounds_toArray, List.set_cons_zero, List.set_cons_succ])
  refine anyq_ready (rs := [8]) (by kernel_rfl) (by simp) ?_
  refine AllQ.cons (o := { dst := some 47, op := Op.buildSlice 38 1 #[(0, Operand.tmp 46)], type := 38, pos := "pack.go:72", after := #[{ on := 7, ground := Ground.data }], guard := none }) rfl (fun K hK => ?_) AllQ.nil
  go_simp
  obtain ⟨gk, hgk⟩ : ∃ gk, gk = (World.heap w5).size := ⟨_, rfl⟩
  have b8 := al1 w5 (.cells #[.int .i64 k, .string ks, .slice a5 n c5] 29)
  have KB : Hid (Blk (World.alloc w5 (.cells #[.int .i64 k, .string ks, .slice a5 n c5] 29)) gk (recC (kb k, d) (.slice a5 n c5)) 29) := by rw [hgk]; exact REC.out _ a5 c5
  rw [← hgk]
  have BW := Lib.hid (below_chain BW.out b8)
  have FC := Lib.hid (FC.out.trans (fr_below b8 L))
  have DK := Lib.hid (datK_below DK.out b8)
  have XB := Lib.hid (Zrw.below XB.out b8)
  generalize hw8 : World.alloc w5 (.cells #[.int .i64 k, .string ks, .slice a5 n c5] 29) = w8 at *
  clear b8 hgk hw8
  refine hK.out _ _ ?_ (fun hHeld => ?_)
  · exact S0.out _ FC.out
  clear hK K
  (try simp only [Act.put, List.setIfInBounds_toArray, List.set_cons_zero, List.set_cons_succ])
  refine anyq_ready (rs := [9]) (by kernel_rfl) (by simp) ?_
  refine AllQ.cons (o := { dst := some 48, op := Op.call { callee := Callee.builtin Builtin.append, args := #[Operand.tmp 44, Operand.tmp 47], argTypes := #[38, 38] }, type := 38, pos := "pack.go:72", after := #[{ on := 5, ground := Ground.data }, { on := 8, ground := Ground.data }, { on := 7, ground := Ground.chain }], guard := none }) rfl (fun K hK => ?_) AllQ.nil
  have OG := Lib.hid (ownf_below OG4.out BW.out)
  have OZ := Lib.hid (ownz_below OZ4.out BW.out)
  have PB := Lib.hid (Nat.le_trans HBW.out BW.out.size)
  refine step_fresh rfl (wp_appf (.tmp 44) (.tmp 47) rfl 0 B (Nat.zero_le _) (.slice ar lr cr) (.slice a5 n c5) rs (kb k, d) (by simp [Act.eval]) OG.out DK.out gk (by simp [Act.eval]) KB.out RL.out PB.out ?_)
  intro v9 w9 hF9 hg9 hN9
  have N9 := Lib.hid (new_or hN9 FC.out.size)
  obtain ⟨a9, c9, rfl, _, _, _, _⟩ := ownf_read hF9
  rw [LR1.out] at hF9 N9 ⊢
  have OZ := Lib.hid (ownz_kept_f OZ.out OG.out hg9)
  have OG := Lib.hid hF9
  have FC := Lib.hid (FC.out.trans (fr_grown_l hg9 INR.out))
  have XB := Lib.hid (zrw_fr XB.out (fr_grown_l hg9 INR.out) (fun hm => absurd (LLT.out _ hm) (Nat.not_lt.2 GZ.out)))
  clear hF9 hg9 hN9 BW DK KB PB
  refine hK.out _ _ ?_ (fun hHeld => ?_)
  · exact S0.out _ FC.out
  clear hK K
  (try simp only [Act.put, List.setIfInBounds_toArray, List.set_cons_zero, List.set_cons_succ])
  refine anyq_ready (rs := [16]) (by kernel_rfl) (by simp) ?_
  refine AllQ.cons (o := { dst := some 55, op := Op.call { callee := Callee.builtin Builtin.append, args := #[Operand.tmp 52, Operand.tmp 54], argTypes := #[42, 42] }, type := 42, pos := "pack.go:72", after := #[{ on := 13, ground := Ground.data }, { on := 15, ground := Ground.data }, { on := 9, ground := Ground.chain }], guard := none }) rfl (fun K hK => ?_) AllQ.nil
  have PB := Lib.hid (Nat.le_trans HBW.out FC.out.size)
  refine step_fresh rfl (wp_appz (.tmp 52) (.tmp 54) rfl B (.slice az lz cz) ps (en : Int) (by simp [Act.eval]) OZ.out ⟨gz, 0, none⟩ 1 (by simp [Act.eval]) XB.out ZL.out PB.out ?_)
  intro v16 w16 hZ16 hg16 hN16
  have N16 := Lib.hid (new_or hN16 FC.out.size)
  have OG := Lib.hid (ownf_kept_z OG.out OZ.out hg16)
  have OZ := Lib.hid hZ16
  obtain ⟨a16, c16, rfl, _, _, _, _⟩ := own_zrw hZ16
  rw [LZ1.out] at OZ N16 ⊢
  have FC := Lib.hid (FC.out.trans (fr_grown_l hg16 INZ.out))
  clear hZ16 hg16 hN16 PB XB
  refine hK.out _ _ ?_ (fun hHeld => ?_)
  · exact S0.out _ FC.out
  clear hK K
  (try simp only [Act.put, List.setIfInBounds_toArray, List.set_cons_zero, List.set_cons_succ])
  refine anyq_pure (i := 17) (oi := { dst := some 56, op := Op.nilCheck (Operand.tmp 39), type := 0, pos := "pack.go:72", after := #[{ on := 0, ground := Ground.data }, { on := 0, ground := Ground.phase }, { on := 1, ground := Ground.textOnly Departure.lateStores }, { on := 2, ground := Ground.phase }, { on := 3, ground := Ground.phase }, { on := 4, ground := Ground.phase }, { on := 5, ground := Ground.phase }, { on := 6, ground := Ground.phase }, { on := 7, ground := Ground.phase }, { on := 8, ground := Ground.phase }, { on := 9, ground := Ground.phase }, { on := 10, ground := Ground.textOnly Departure.lateStores }, { on := 11, ground := Ground.textOnly Departure.lateStoresUnsure }, { on := 12, ground := Ground.textOnly Departure.lateStoresUnsure }, { on := 13, ground := Ground.phase }, { on := 14, ground := Ground.textOnly Departure.lateStores }, { on := 15, ground := Ground.textOnly Departure.lateStoresUnsure }, { on := 16, ground := Ground.phase }], guard := none }) (v := .pointer (some ⟨p, 0, none⟩)) rfl (by kernel_rfl) (by kernel_rfl) (by kernel_rfl) (by decide) (fun _ _ _ h => h) (Or.inl ⟨by rfl, fun w _ => by go_simp⟩) (Or.inr hHeld) ?_
  (try simp only [Act.put, List.setIfInBounds_toArray, List.set_cons_zero, List.set_cons_succ])
  refine anyq_pure (i := 18) (oi := { dst := some 57, op := Op.fieldAddr 59 (Operand.tmp 56) 2, type := 0, pos := "pack.go:72", after := #[{ on := 17, ground := Ground.data }, { on := 0, ground := Ground.phase }, { on := 1, ground := Ground.textOnly Departure.lateStores }, { on := 2, ground := Ground.phase }, { on := 3, ground := Ground.phase }, { on := 4, ground := Ground.phase }, { on := 5, ground := Ground.phase }, { on := 6, ground := Ground.phase }, { on := 7, ground := Ground.phase }, { on := 8, ground := Ground.phase }, { on := 9, ground := Ground.phase }, { on := 10, ground := Ground.textOnly Departure.lateStores }, { on := 11, ground := Ground.textOnly Departure.lateStoresUnsure }, { on := 12, ground := Ground.textOnly Departure.lateStoresUnsure }, { on := 13, ground := Ground.phase }, { on := 14, ground := Ground.textOnly Departure.lateStores }, { on := 15, ground := Ground.textOnly Departure.lateStoresUnsure }, { on := 16, ground := Ground.phase }], guard := none }) (v := .pointer (some ⟨p, 2, none⟩)) rfl (by kernel_rfl) (by kernel_rfl) (by kernel_rfl) (by decide) (fun _ _ _ h => h) (Or.inl ⟨by rfl, fun w _ => by go_simp⟩) (Or.inr hHeld) ?_
  (try simp only [Act.put, List.setIfInBounds_toArray, List.set_cons_zero, List.set_cons_succ])
  refine anyq_ready (rs := [19]) (by kernel_rfl) (by simp) ?_
  refine AllQ.late (i := 19) (o := { dst := none, op := Op.store 38 (Operand.tmp 57) (Operand.tmp 48), type := 0, pos := "pack.go:72", after := #[{ on := 18, ground := Ground.data }, { on := 9, ground := Ground.data }, { on := 16, ground := Ground.chain }, { on := 0, ground := Ground.phase }, { on := 1, ground := Ground.textOnly Departure.lateStores }, { on := 2, ground := Ground.phase }, { on := 3, ground := Ground.phase }, { on := 4, ground := Ground.phase }, { on := 5, ground := Ground.phase }, { on := 6, ground := Ground.phase }, { on := 7, ground := Ground.phase }, { on := 8, ground := Ground.phase }, { on := 9, ground := Ground.phase }, { on := 10, ground := Ground.textOnly Departure.lateStores }, { on := 11, ground := Ground.textOnly Departure.lateStoresUnsure }, { on := 12, ground := Ground.textOnly Departure.lateStoresUnsure }, { on := 13, ground := Ground.phase }, { on := 14, ground := Ground.textOnly Departure.lateStores }, { on := 15, ground := Ground.textOnly Departure.lateStoresUnsure }, { on := 16, ground := Ground.phase }], guard := none }) (by kernel_rfl) rfl (fun K hK => ?_)
  have PP := Lib.hid (PK.out.fr FC.out NL.out.1)
  obtain ⟨u0, u1, u2, u3, u4, u5⟩ := Pkb.cells PP.out
  have uf2 := Sh.Blk.frozen (show Sh.Blk _ _ _ _ from PP.out) 2
  have uf3 := Sh.Blk.frozen (show Sh.Blk _ _ _ _ from PP.out) 3
  go_simp
  refine hK.out _ _ ?_
  clear hK K
  (try simp only [Act.put, List.setIfInBounds_toArray, List.set_cons_zero, List.set_cons_succ])
  refine anyq_pure (i := 20) (oi := { dst := some 58, op := Op.nilCheck (Operand.tmp 40), type := 0, pos := "pack.go:72", after := #[{ on := 1, ground := Ground.data }, { on := 0, ground := Ground.phase }, { on := 1, ground := Ground.phase }, { on := 2, ground := Ground.phase }, { on := 3, ground := Ground.phase }, { on := 4, ground := Ground.phase }, { on := 5, ground := Ground.phase }, { on := 6, ground := Ground.phase }, { on := 7, ground := Ground.phase }, { on := 8, ground := Ground.phase }, { on := 9, ground := Ground.phase }, { on := 10, ground := Ground.phase }, { on := 11, ground := Ground.phase }, { on := 12, ground := Ground.phase }, { on := 13, ground := Ground.phase }, { on := 14, ground := Ground.phase }, { on := 15, ground := Ground.phase }, { on := 16, ground := Ground.phase }, { on := 17, ground := Ground.phase }, { on := 18, ground := Ground.phase }, { on := 19, ground := Ground.phase }], guard := none }) (v := .pointer (some ⟨p, 0, none⟩)) rfl (by kernel_rfl) (by kernel_rfl) (by kernel_rfl) (by decide) (fun _ _ _ h => h) (Or.inl ⟨by rfl, fun w _ => by go_simp⟩) (Or.inl (by kernel_rfl)) ?_
  (try simp only [Act.put, List.setIfInBounds_toArray, List.set_cons_zero, List.set_cons_succ])
  refine anyq_pure (i := 21) (oi := { dst := some 59, op := Op.fieldAddr 59 (Operand.tmp 58) 3, type := 0, pos := "pack.go:72", after := #[{ on := 20, ground := Ground.data }, { on := 0, ground := Ground.phase }, { on := 1, ground := Ground.phase }, { on := 2, ground := Ground.phase }, { on := 3, ground := Ground.phase }, { on := 4, ground := Ground.phase }, { on := 5, ground := Ground.phase }, { on := 6, ground := Ground.phase }, { on := 7, ground := Ground.phase }, { on := 8, ground := Ground.phase }, { on := 9, ground := Ground.phase }, { on := 10, ground := Ground.phase }, { on := 11, ground := Ground.phase }, { on := 12, ground := Ground.phase }, { on := 13, ground := Ground.phase }, { on := 14, ground := Ground.phase }, { on := 15, ground := Ground.phase }, { on := 16, ground := Ground.phase }, { on := 17, ground := Ground.phase }, { on := 18, ground := Ground.phase }, { on := 19, ground := Ground.phase }], guard := none }) (v := .pointer (some ⟨p, 3, none⟩)) rfl (by kernel_rfl) (by kernel_rfl) (by kernel_rfl) (by decide) (fun _ _ _ h => h) (Or.inl ⟨by rfl, fun w _ => by go_simp⟩) (Or.inl (by kernel_rfl)) ?_
  (try simp only [Act.put, List.setIfInBounds_toArray, List.set_cons_zero, List.set_cons_succ])
  refine anyq_ready (rs := [22]) (by kernel_rfl) (by simp) ?_
  refine AllQ.late (i := 22) (o := { dst := none, op := Op.store 42 (Operand.tmp 59) (Operand.tmp 55), type := 0, pos := "pack.go:72", after := #[{ on := 21, ground := Ground.data }, { on := 16, ground := Ground.data }, { on := 19, ground := Ground.chain }, { on := 0, ground := Ground.phase }, { on := 1, ground := Ground.phase }, { on := 2, ground := Ground.phase }, { on := 3, ground := Ground.phase }, { on := 4, ground := Ground.phase }, { on := 5, ground := Ground.phase }, { on := 6, ground := Ground.phase }, { on := 7, ground := Ground.phase }, { on := 8, ground := Ground.phase }, { on := 9, ground := Ground.phase }, { on := 10, ground := Ground.phase }, { on := 11, ground := Ground.phase }, { on := 12, ground := Ground.phase }, { on := 13, ground := Ground.phase }, { on := 14, ground := Ground.phase }, { on := 15, ground := Ground.phase }, { on := 16, ground := Ground.phase }, { on := 17, ground := Ground.phase }, { on := 18, ground := Ground.phase }, { on := 19, ground := Ground.phase }], guard := none }) (by kernel_rfl) rfl (fun K hK => ?_)
  go_simp
  refine hK.out _ _ ?_
  clear hK K
  (try simp only [Act.put, List.setIfInBounds_toArray, List.set_cons_zero, List.set_cons_succ])
  refine anyq_done (by kernel_rfl) ?_ _
  have Q2 := (Sh.Blk.set (show Sh.Blk _ _ _ _ from PP.out) 2 (.slice a9 (lr + 1) c9)).set 3 (.slice a16 (lz + 1) c16)
  have z4 : (World.setCell (World.setCell w16 ⟨p, 2, none⟩ (.slice a9 (lr + 1) c9)) ⟨p, 3, none⟩ (.slice a16 (lz + 1) c16)).cell? ⟨p, 4, none⟩ = some (.int .i64 (en : Int)) := Sh.Blk.cell Q2 4
  have zf4 := Sh.Blk.frozen Q2 4
  have FIN := Lib.hid (append_fin PP.out HBP.out F5.out FC.out HLL.out NL.out nin HD5.out OG.out OZ.out EN.out hf GD.out N9.out N16.out RR.out HPS.out)
  clear Q2 OG OZ FC N9 N16 u0 u1 u2 u3 u4 u5 uf2 uf3 PP
  go_wp2_with fail
  go_ret2
  unfold AnsA
  rw [← HEN.out, show recB ((kb k, d) : Rcd) = F from HF.out.symm]
  exact ⟨rfl, FIN.out⟩

end
end Go.Proofs.YtekaboomhljdoaaGreatDoor.Sh
namespace Go.Proofs.YtekaboomhljdoaaGreatDoor.Sh
open Lb Go.Proofs.YtekaboomhljdoaaGreatDoor.Pc Go.RowKit Go.Lib
open Go.Proofs.YtekaboomhljdoaaGreatDoor.Dk hiding Blk made_any size_any below_chain

section
variable {B : Nat} {w w' : World} {p g sa mb a N m : Nat} {rs : List Rcd} {sh : Bool} {low : Int} {V : Nat → List UInt8} {S : List (List UInt8)} {pw : Bool}
theorem Pac.lower {B2 : Nat} (h : Pac B2 w p g a rs sh) (hb : B ≤ B2) : Pac B w p g a rs sh := by
  obtain ⟨vr, vp, h1, ⟨us, k1, k2, k3⟩, h3⟩ := h.row
  exact ⟨⟨vr, vp, h1, ⟨us, k1, row_low k2 hb, k3⟩, row_low h3 hb⟩, Nat.le_trans hb h.base, h.fit, h.good⟩
theorem dev_made {low : Nat} (h : DevS w g sa mb S (low : Int) 0 (.map []) true (-1) 0) (hl : S.length = N) (h1 : 1 ≤ N) (h2 : N ≤ 4096) : Dev w g sa mb (low : Int) N (fun i => S.getD i []) S true 0 := by
  have hg : ∀ i, i < N → S[i]? = some (S.getD i []) := fun i hi => by rw [List.getD, List.getElem?_eq_getElem (by omega)]; rfl
  refine ⟨⟨0, _, 0, h, Nat.le_refl _, by decide, by decide, InD.nil N, fun i hi => ?_⟩, hl, h1, h2, fun i hi => h.len _ (List.mem_of_getElem? (hg i hi))⟩
  rw [secAt, if_neg (by simp [Maps.has])]
  exact hg i hi
/-- what is flushed is in the sectors -/
theorem flush_dev (h : Dev w g sa mb low N V S true m) (hm : m ≤ 900000) : Calls Tryz.prog 14 #[.pointer (some ⟨g, 0, none⟩)] w fun e w' => e = .returned (.int .i64 0) ∧ Fr w w' [g, sa, mb] ∧ ∃ S1, (∀ i, i < N → S1[i]? = some (V i)) ∧ Dev w' g sa mb low N V S1 true (m + 1) := by
  obtain ⟨k, D, wr, d, k1, k2, k3, hI, hV⟩ := h.dev
  have n1 := h.n1
  have hz : awakeE S.length true = 0 := by rw [awakeE, if_neg (by rw [h.len]; omega), if_pos rfl]
  rw [← h.len] at hI
  refine (flush_ok d hI hz (by rw [h.len]; exact h.n2) (by decide) (by decide) (by decide) k2 (by omega)).mono ?_
  rintro e w' ⟨rfl, hF, S1, D1, ⟨f1, f2, f3⟩, hno, hd⟩
  rw [if_neg (by decide)] at hd
  have hS1 : ∀ i, i < N → S1[i]? = some (V i) := fun i hi => by
    have := f3 i
    rw [hV i hi, secAt, if_neg (by rw [hno]; decide)] at this
    exact this
  rw [h.len] at f1 f2
  exact ⟨rfl, hF, S1, hS1, ⟨⟨k, D1, wr + 1, hd, by omega, by omega, by omega, f2, fun i hi => by rw [f3 i]; exact hV i hi⟩, f1, h.n1, h.n2, h.vl⟩⟩
/-- of what was not flushed just the sectors that are kept are left -/
theorem crash_dev (h : Dev w g sa mb low N V S true m) (ao : Option Addr) (ks : List Int) (c : Nat) (hk : Keep w ao [sa, mb] ks) (hr : ∀ x ∈ ks, -9223372036854775808 ≤ x ∧ x ≤ 9223372036854775807) (hm : ks.length ≤ 1000000) :
    Calls Tryz.prog 22 #[.pointer (some ⟨g, 0, none⟩), .slice ao ks.length c] w fun e w' => e = .returned (.tuple #[]) ∧ Fr w w' [g, sa, mb] ∧ ∃ V1 S1, (∀ i, i < N → V1 i = V i ∨ S[i]? = some (V1 i)) ∧ Dev w' g sa mb low N V1 S1 false m := by
  obtain ⟨k, D, wr, d, k1, k2, k3, hI, hV⟩ := h.dev
  have n1 := h.n1
  have hlen := h.len
  rw [← h.len] at hI
  refine (crash_any d hI (by rw [h.len]; omega) (by rw [h.len]; exact h.n2) ao ks c hk hr hm).mono ?_
  rintro e w' ⟨rfl, hF, hd⟩
  have hl : (settled S D ks).1.length = N := by rw [settled_len, h.len]
  have hg : ∀ i, i < N → (settled S D ks).1[i]? = some ((settled S D ks).1.getD i []) := fun i hi => by rw [List.getD, List.getElem?_eq_getElem (by omega)]; rfl
  refine ⟨rfl, hF, fun i => (settled S D ks).1.getD i [], (settled S D ks).1, fun i hi => ?_, ⟨⟨0, _, wr, hd, Nat.zero_le _, k2, k3, InD.nil N, fun i hi => ?_⟩, hl, h.n1, h.n2, fun i hi => hd.len _ (List.mem_of_getElem? (hg i hi))⟩⟩
  · have h1 := hg i hi
    rw [settled_get ks hI (Nat.le_refl _) i] at h1
    split at h1
    · rw [hV i hi] at h1
      injection h1 with h1
      exact .inl h1.symm
    · exact .inr h1
  · rw [secAt, if_neg (by simp [Maps.has])]
    exact hg i hi
theorem start_dev (h : Dev w g sa mb low N V S pw m) : Calls Tryz.prog 23 #[.pointer (some ⟨g, 0, none⟩)] w fun e w' => e = .returned (.tuple #[]) ∧ Fr w w' [g] ∧ Dev w' g sa mb low N V S true m := by
  obtain ⟨k, D, wr, d, r⟩ := h.dev
  have n1 := h.n1
  refine (start_any d.dv (by rw [h.len]; omega)).mono ?_
  rintro e w' ⟨rfl, hg, hd⟩
  exact ⟨rfl, fr_grown hg (by simp), ⟨⟨k, D, wr, d.turn hg hd, r⟩, h.len, h.n1, h.n2, h.vl⟩⟩
/-- a device and a pack on it -/
structure Pst (B : Nat) (w : World) (g sa mb p : Nat) (low : Int) (N a : Nat) (V : Nat → List UInt8) (S : List (List UInt8)) (pw : Bool) (m : Nat) (rs : List Rcd) (sh : Bool) : Prop where
  dev : Dev w g sa mb low N V S pw m
  pac : Pac B w p g a rs sh
  hold : Hold V a rs
  bg : B ≤ g ∧ B ≤ sa ∧ B ≤ mb
  in64 : a + 64 ≤ N
theorem Pst.later (h : Pst B w g sa mb p low N a V S pw m rs sh) (hb : Below w.heap.size w w') : Pst B w' g sa mb p low N a V S pw m rs sh := ⟨h.dev.later hb, h.pac.later hb, h.hold, h.bg, h.in64⟩
theorem hold_nil (V : Nat → List UInt8) (a : Nat) : Hold V a [] := rfl
theorem hold_app {r : Rcd} (hV : ∀ i, i < 64 → (V (a + i)).length = 256) (h : Hold V a rs) (hf : (allR rs).length + (recB r).length ≤ 16384) : Hold (appV V a (allR rs).length (recB r)) a (rs ++ [r]) := by
  unfold Hold
  rw [allR_app, allR_one, List.length_append, appV_pre hV (recB_ne r) hf, h]
theorem hold_end {r : Rcd} (hV : ∀ i, i < 64 → (V (a + i)).length = 256) (hf : (allR rs).length + (recB r).length < 16384) : (flat (appV V a (allR rs).length (recB r)) a 64)[(allR (rs ++ [r])).length]? = some 0 := by
  rw [allR_app, allR_one, List.length_append]
  exact appV_end hV (recB_ne r) hf
/-- the record is appended -/
def AnsT (B : Nat) (w : World) (p g sa mb a : Nat) (low : Int) (N : Nat) (V : Nat → List UInt8) (S : List (List UInt8)) (m : Nat) (rs : List Rcd) (r : Rcd) (e : Ending) (w' : World) : Prop :=
  e = .returned (.tuple #[.int .i64 (((allR rs).length : Nat) : Int), .int .i64 0]) ∧ Fr w w' ([p, g, sa, mb] ++ rowsOf w p) ∧ Pst B w' g sa mb p low N a (appV V a (allR rs).length (recB r)) S true (m + 65) (rs ++ [r]) false ∧ (∀ q ∈ rowsOf w' p, q ∈ rowsOf w p ∨ w.heap.size ≤ q) ∧ Below B w w'
theorem append_st (h : Pst B w g sa mb p low N a V S true m rs false) (hlo : low ≤ (a : Int)) (hm : m ≤ 900000) (a0 a1 : Addr) (hE : Env w a0 a1) {k : Int} {ks : ByteArray} {ao : Option Addr} {n c : Nat} {d : List UInt8} (hd : Byt w ao d) (hn : ao = none → c = 0) (hl : d.length = n) (hn63 : n ≤ 9223372036854775807) (h0 : putE k ks d = 0) (hf : (allR rs).length + (recB (kb k, d)).length ≤ 16384) :
    Calls Tryz.prog 13 #[.pointer (some ⟨p, 0, none⟩), .agg #[.int .i64 k, .string ks, .slice ao n c]] w (AnsT B w p g sa mb a low N V S m rs (kb k, d)) := by
  have hV : ∀ i, i < 64 → (V (a + i)).length = 256 := fun i hi => h.dev.vl _ (by have := h.in64; omega)
  have hrf := rows_far h.pac h.dev
  have hB : B ≤ w.heap.size := Nat.le_trans h.pac.base (Nat.le_of_lt h.pac.lt)
  refine (append_ok h.pac h.dev h.in64 hlo hm h.bg.1 h.bg.2.1 h.bg.2.2 a0 a1 hE hd hn hl hn63 h0 hf).mono ?_
  rintro e w' ⟨rfl, hF, hP, hD, hR⟩
  refine ⟨rfl, hF, ⟨hD, hP, hold_app hV h.hold hf, h.bg, h.in64⟩, hR, Fr.below hF hB (fun q hq => ?_)⟩
  rcases List.mem_append.1 hq with hq | hq
  · simp only [List.mem_cons, List.not_mem_nil, or_false] at hq
    rcases hq with rfl | rfl | rfl | rfl
    · exact h.pac.base
    · exact h.bg.1
    · exact h.bg.2.1
    · exact h.bg.2.2
  · exact (hrf q hq).1
/-- a call that turns just the device -/
theorem Pst.dev_turn {V1 : Nat → List UInt8} {S1 : List (List UInt8)} {pw1 : Bool} {m1 : Nat} (h : Pst B w g sa mb p low N a V S pw m rs sh) (hF : Fr w w' [g, sa, mb]) (hd : Dev w' g sa mb low N V1 S1 pw1 m1) (hh : Hold V1 a rs) : Pst B w' g sa mb p low N a V1 S1 pw1 m1 rs sh ∧ Below B w w' := by
  have hp := pac_dev h.pac h.dev
  have far := far_dev h.dev h.bg.1 h.bg.2.1 h.bg.2.2
  have hB : B ≤ w.heap.size := Nat.le_trans h.pac.base (Nat.le_of_lt h.pac.lt)
  exact ⟨⟨hd, h.pac.fr hF hp far, hh, h.bg, h.in64⟩, Fr.below hF hB (fun q hq => (far q hq).1)⟩
end
end Go.Proofs.YtekaboomhljdoaaGreatDoor.Sh
