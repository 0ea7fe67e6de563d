/-
  The contract of disk's Crash. Conditions: each law's own.
-/
import Derived.Test.YtohmdcbfffgheaaWf
namespace Go.Proofs.Ytohmdcbfffgheaa.Dk
open Go.RowKit Go.Lib Go.Maps Go.ChangeMaps Go.MapKept
section
variable {P : Program} {k : TypeId} {R : Value → Option (DataW Unit × List MemPlace)} {w : World} {b n : Nat} {D : DataW Unit} {K : Act → World → Prop} {Q : Exit → Act → World → Prop}
/-- clear(m): no entry is left. -/
theorem own_clear {t e : TypeId} (h : w.ownsMap P k R b n D) (ht : P.underlying t = some (.map k e)) (ty : TypeId) : ∃ w', (Builtin.clear_ #[t] ty #[.map (some b)]).run P w = .ok (.tuple #[]) w' ∧ w'.ownsMap P k R b 0 (.map []) ∧ w.mapTurned w' b := by
  obtain ⟨es, clock, hb, F, hs, rfl⟩ := h
  refine ⟨setBlock w b (.map #[] clock), ?_, ⟨#[], clock, heap_setBlock_same hb _, ⟨by simp, stamped_empty clock, by simp⟩, Nat.le_refl _, rfl⟩, ⟨es, clock, #[], clock, hb, rfl⟩⟩
  simp [Builtin.clear_, run_underlying ht, MapKept.run_getObj_map hb, MapKept.run_setObj_map _ hb, Result.andThen, setBlock]
theorem wpList_clear_own {ops : Array Oper} {rest : List Oper} {o : Oper} {a : Act} (w : World) (hg : o.guard = none) (m : Operand) (t : TypeId) (hop : o.op = Op.call { callee := Callee.builtin Builtin.clear, args := #[m], argTypes := #[t] })
    (e : TypeId) (ht : P.underlying t = some (.map k e)) (R : Value → Option (DataW Unit × List MemPlace)) (b n : Nat) (D : DataW Unit)
    (hm : a.eval m = .map (some b)) (hown : w.ownsMap P k R b n D)
    (hK : ∀ w', w'.ownsMap P k R b 0 (.map []) → w.mapTurned w' b → wpList P ops Q rest (a.put o.dst (.tuple #[])) w') :
    wpList P ops Q (o :: rest) a w := by
  refine wpList_plain hg fun K' hK' => ?_
  obtain ⟨w', hrun, r1, r2⟩ := own_clear hown ht o.type
  unfold Oper.wp
  simp [execOp, hop, resolve, invoke, builtin, hm, hrun, Result.andThen]
  exact hK' _ _ (hK w' r1 r2)
end
/-- a cache of n sectors -/
def InD (D : DataW Unit) (n : Nat) : Prop := IsMap D ∧ ∀ i : Int, Maps.has D (.int .i64 i) = true → 0 ≤ i ∧ i < (n : Int) ∧ ∃ l : List UInt8, l.length = 256 ∧ ∀ z, D.atKey (.int .i64 i) z = .lit (.string l)
def settleS (D : DataW Unit) (S : List (List UInt8)) (i : Int) : List (List UInt8) := match D.atKey (.int .i64 i) .nil with
  | .lit (.string l) => S.set i.toNat l
  | _ => S
def settleD (D : DataW Unit) (i : Int) : DataW Unit := D.del (.int .i64 i)
theorem settleS_len (D : DataW Unit) (S : List (List UInt8)) (i : Int) : (settleS D S i).length = S.length := by
  unfold settleS
  split
  · rw [List.length_set]
  · rfl
theorem settleS_no {D : DataW Unit} {i : Int} (h : Maps.has D (.int .i64 i) = false) (S : List (List UInt8)) : settleS D S i = S := by
  unfold settleS
  rw [atKey_of_not_has h]
theorem settleD_no {D : DataW Unit} {i : Int} (h : Maps.has D (.int .i64 i) = false) : settleD D i = D := del_of_not_has h
theorem int_ne {i j : Int} (h : i ≠ j) : Lit.int .i64 i ≠ Lit.int .i64 j := fun e => by
  injection e with _ e
  exact h e
theorem isMap_del {D : DataW Unit} (h : IsMap D) (k : Lit) : IsMap (D.del k) := by
  obtain ⟨es, rfl⟩ := h
  exact ⟨_, rfl⟩
theorem InD.settle {D : DataW Unit} {n : Nat} (h : InD D n) (i : Int) : InD (settleD D i) n := by
  refine ⟨isMap_del h.1 _, fun j hj => ?_⟩
  unfold settleD at hj ⊢
  by_cases e : j = i
  · subst e
    rw [has_del_same] at hj
    cases hj
  · rw [has_del_other (int_ne e)] at hj
    obtain ⟨a1, a2, l, a3, a4⟩ := h.2 j hj
    exact ⟨a1, a2, l, a3, fun z => by rw [atKey_del_other (int_ne e)]; exact a4 z⟩
theorem InD.put {D : DataW Unit} {n : Nat} (h : InD D n) (i : Nat) (hi : i < n) (l : List UInt8) (hl : l.length = 256) : InD (D.put (.int .i64 (i : Int)) (.lit (.string l))) n := by
  have hk : WideAt.IsKeyLit (.int .i64 (i : Int)) := by trivial
  refine ⟨by obtain ⟨es, e⟩ := h.1; rw [e]; exact ⟨_, rfl⟩, fun j hj => ?_⟩
  by_cases e : j = (i : Int)
  · subst e
    exact ⟨by omega, by omega, l, hl, fun z => atKey_put_same h.1 hk _ z⟩
  · rw [has_put_other (int_ne e)] at hj
    obtain ⟨a1, a2, m, a3, a4⟩ := h.2 j hj
    exact ⟨a1, a2, m, a3, fun z => by rw [atKey_put_other (int_ne e)]; exact a4 z⟩
theorem InD.nil (n : Nat) : InD (.map []) n := ⟨⟨[], rfl⟩, fun i h => by simp [Maps.has] at h⟩
variable {w : World} {g sa mb : Nat} {S : List (List UInt8)} {low : Int} {k : Nat} {D : DataW Unit} {pw : Bool} {left wr : Int}
/-- settle, whatever sector it is -/
theorem settle_any (h : DevS w g sa mb S low k D pw left wr) (hI : InD D S.length) (hn : S.length ≤ 4096) (i : Int) (h0 : -9223372036854775808 ≤ i) (h1 : i ≤ 9223372036854775807) :
    Calls Try.prog 43 #[.pointer (some ⟨g, 0, none⟩), .int .i64 i] w fun e w' => e = .returned (.tuple #[]) ∧ Fr w w' [sa, mb] ∧ DevS w' g sa mb (settleS D S i) low k (settleD D i) pw left wr := by
  cases hh : Maps.has D (.int .i64 i) with
  | false =>
    rw [settleS_no hh, settleD_no hh]
    refine (settle_no h i h0 h1 hh (atKey_of_not_has hh _)).mono ?_
    rintro e w' ⟨he, hb⟩
    exact ⟨he, fr_below hb _, h.kept (fr_below hb []) (by simp) (by simp) (by simp)⟩
  | true =>
    obtain ⟨a1, a2, l, hl, ha⟩ := hI.2 i hh
    obtain ⟨j, rfl⟩ := Int.eq_ofNat_of_zero_le a1
    have e : settleS D S (j : Int) = S.set j l := by
      unfold settleS
      rw [ha]
      rfl
    rw [e]
    exact settle_has h j (by omega) hn l hl hh (ha _)
end Go.Proofs.Ytohmdcbfffgheaa.Dk
