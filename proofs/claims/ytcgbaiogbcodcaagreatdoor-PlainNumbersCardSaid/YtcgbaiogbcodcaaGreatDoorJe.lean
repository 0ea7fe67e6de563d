/-
  errors.As at one of plain's refusals; plain.errno. Condition: the library's variable errors.errorType is as its text lays it.
-/
import Derived.Test.YtcgbaiogbcodcaaGreatDoorKa
import Derived.LaidEql
import Derived.Stop.Asserts
import Derived.RowKitTokens
namespace Go.Proofs.YtcgbaiogbcodcaaGreatDoor.Lw
open Go.RowKit Go.Lib Go.Extern.Stop Go.Stop Go.Extern Go.Proofs.YtcgbaiogbcodcaaGreatDoor.Sh

/-- errors.errorType -/
def ErrT (w : World) : Prop := w.cell? ⟨0, 0, none⟩ = some (.iface 140 (.agg #[.pointer (some ⟨4, 52, none⟩)]))
theorem ErrT.pos {w : World} (h : ErrT w) : 0 < w.heap.size := by
  rcases Nat.lt_or_ge 0 w.heap.size with h1 | h0
  · exact h1
  · simp [ErrT, World.cell?, Array.getElem?_eq_none h0] at h
theorem ErrT.below {w w' : World} (h : ErrT w) (hb : Below w.heap.size w w') : ErrT w' := (hb.cell (p := ⟨0, 0, none⟩) h.pos).trans h
theorem ErrT.alloc {w : World} (h : ErrT w) (o : Obj) : ErrT (w.alloc o) := h.below ((Below.refl _ w).alloc (Nat.le_refl _) o)

theorem as_nil (t : Value) (w : World) : Calls Tryz.prog 46 #[.nilIface, t] w fun e w' => e = .returned (.bool false) ∧ w = w' := by
  go_enter Tryz.func46, Tryz.ntmps46
  go_wp2
  go_ret
  exact ⟨rfl, rfl⟩

abbrev TH : Value := .pointer (some ⟨4, 85, none⟩)
abbrev SH : Value := .pointer (some ⟨4, 76, none⟩)
theorem kValueOfT (t : Addr) (w : World) : (ReflectliteValue.unpack (.iface 85 (.pointer (some t)))).run Tryz.prog w
    = .ok (.agg #[TH, .pointer (some ⟨w.heap.size, 0, none⟩), .int .u64 150]) (w.alloc (.cells #[.pointer (some t)] 85)) := by kernel_rfl
theorem kTypeT (a : Addr) (w : World) : (ReflectliteValue.methodAny (ReflectliteValue.valueError "reflectlite.Value.Type" 0) (fun t _ _ _ => ReflectliteType.toType t) #[.agg #[TH, .pointer (some a), .int .u64 150]]).run Tryz.prog w
    = .ok (.iface 140 (.agg #[TH])) w := by kernel_rfl
theorem kMethodKind (h : Value) (w : World) : (Go.method 341 140 (.agg #[h]) "Kind").run Tryz.prog w = .ok (164, h) w := by kernel_rfl
theorem kKindT (w : World) : ((ReflectliteType.abiMethod fun t => (fun a : Nat => Value.int IntKind.u8 (a : Int)) <$> Rtype.kind t) #[TH]).run Tryz.prog w = .ok (.int .u8 22) w := by kernel_rfl
theorem kKindS (w : World) : ((ReflectliteType.abiMethod fun t => (fun a : Nat => Value.int IntKind.u8 (a : Int)) <$> Rtype.kind t) #[SH]).run Tryz.prog w = .ok (.int .u8 25) w := by kernel_rfl
theorem kPartsT (a : Addr) (w : World) : (ReflectliteValue.parts (.agg #[TH, .pointer (some a), .int .u64 150])).run Tryz.prog w = .ok (some (85, a, 150)) w := by kernel_rfl
theorem kIsNilT (a p : Addr) (W : World) (ha : W.cell? a = some (.pointer (some p))) :
    (ReflectliteValue.method (ReflectliteValue.valueError "reflectlite.Value.IsNil" 0) ReflectliteValue.isNil #[.agg #[TH, .pointer (some a), .int .u64 150]]).run Tryz.prog W = .ok (.bool false) W := by
  change Sem.run Tryz.prog (ReflectliteValue.parts (.agg #[TH, .pointer (some a), .int .u64 150]) >>= _) W = _
  simp only [Sem.run_bind, kPartsT, Result.andThen]
  simp [ReflectliteValue.isNil, loadVar, isAgg, underlying, Tryz.underlying85, ha, Result.andThen]
theorem kMethodElem (h : Value) (w : World) : (Go.method 341 140 (.agg #[h]) "Elem").run Tryz.prog w = .ok (174, .agg #[h]) w := by kernel_rfl
theorem kMethodImplements (h : Value) (w : World) : (Go.method 341 140 (.agg #[h]) "Implements").run Tryz.prog w = .ok (175, .agg #[h]) w := by kernel_rfl
theorem kMethodAssignableTo (h : Value) (w : World) : (Go.method 341 140 (.agg #[h]) "AssignableTo").run Tryz.prog w = .ok (172, .agg #[h]) w := by kernel_rfl
theorem kElemT (w : World) : (ReflectliteType.method ReflectliteType.elem #[.agg #[TH]]).run Tryz.prog w = .ok (.iface 140 (.agg #[SH])) w := by kernel_rfl
theorem kImplementsS (w : World) : (ReflectliteType.relation "Implements" ReflectliteType.implements_ #[.agg #[SH], .iface 140 (.agg #[.pointer (some ⟨4, 52, none⟩)])]).run Tryz.prog w = .ok (.bool true) w := by kernel_rfl
theorem kTypeOfS (v : Value) (w : World) : (ReflectliteType.typeOf #[.iface 76 v]).run Tryz.prog w = .ok (.iface 140 (.agg #[SH])) w := by kernel_rfl
theorem kAssignableS (w : World) : (ReflectliteType.relation "AssignableTo" ReflectliteType.assignableTo #[.agg #[SH], .iface 140 (.agg #[SH])]).run Tryz.prog w = .ok (.bool true) w := by kernel_rfl
theorem kValueOfS (s : ByteArray) (n : Int) (w : World) : (ReflectliteValue.unpack (.iface 76 (.agg #[.string s, .int .i64 n]))).run Tryz.prog w
    = .ok (.agg #[SH, .pointer (some ⟨w.heap.size, 0, none⟩), .int .u64 153]) (w.alloc (.cells #[.string s, .int .i64 n] 76)) := by kernel_rfl
theorem kElemOfT (w : World) : (Rtype.elem? 85).run Tryz.prog w = .ok (some 76) w := by kernel_rfl
theorem kMkS (p : Addr) (w : World) : (ReflectliteValue.mk 76 p ReflectliteValue.flagAddr).run Tryz.prog w = .ok (.agg #[SH, .pointer (some p), .int .u64 409]) w := by kernel_rfl
theorem kElemV (a p : Addr) (W : World) (ha : W.cell? a = some (.pointer (some p))) :
    (ReflectliteValue.method (ReflectliteValue.valueError "reflectlite.Value.Elem" 0) ReflectliteValue.elem #[.agg #[TH, .pointer (some a), .int .u64 150]]).run Tryz.prog W
      = .ok (.agg #[SH, .pointer (some p), .int .u64 409]) W := by
  change Sem.run Tryz.prog (ReflectliteValue.parts (.agg #[TH, .pointer (some a), .int .u64 150]) >>= _) W = _
  simp only [Sem.run_bind, kPartsT, Result.andThen]
  simp [ReflectliteValue.elem, loadVar, isAgg, underlying, Tryz.underlying85, ha, Result.andThen, kElemOfT, kMkS]
theorem kPartsSa (a : Addr) (w : World) : (ReflectliteValue.parts (.agg #[SH, .pointer (some a), .int .u64 409])).run Tryz.prog w = .ok (some (76, a, 409)) w := by kernel_rfl
theorem kPartsS (a : Addr) (w : World) : (ReflectliteValue.parts (.agg #[SH, .pointer (some a), .int .u64 153])).run Tryz.prog w = .ok (some (76, a, 153)) w := by kernel_rfl
theorem kDirect (w : World) : (Rtype.directlyAssignable 76 76).run Tryz.prog w = .ok true w := by kernel_rfl
theorem info76 : (Tryz.prog.info? 76).map (fun i => (i.zero, i.size)) = some (some (.agg #[.string ⟨#[]⟩, .int .i64 0]), 2) := by kernel_rfl
theorem kSetS (t q : Nat) (s : ByteArray) (n : Int) (u0 u1 : Value) (W : World) (b0 : W.cell? ⟨q, 0, none⟩ = some (.string s)) (b1 : W.cell? ⟨q, 1, none⟩ = some (.int .i64 n)) (h0 : W.cell? ⟨t, 0, none⟩ = some u0) (h1 : W.cell? ⟨t, 1, none⟩ = some u1) (f0 : W.frozen? ⟨t, 0, none⟩ = false) (f1 : W.frozen? ⟨t, 1, none⟩ = false) :
    (ReflectliteValue.set #[.agg #[SH, .pointer (some ⟨t, 0, none⟩), .int .u64 409], .agg #[SH, .pointer (some ⟨q, 0, none⟩), .int .u64 153]]).run Tryz.prog W
      = .ok (.tuple #[]) ((W.setCell ⟨t, 0, none⟩ (.string s)).setCell ⟨t, 1, none⟩ (.int .i64 n)) := by
  change Sem.run Tryz.prog (ReflectliteValue.parts (.agg #[SH, .pointer (some ⟨t, 0, none⟩), .int .u64 409]) >>= fun _ => ReflectliteValue.parts (.agg #[SH, .pointer (some ⟨q, 0, none⟩), .int .u64 153]) >>= _) W = _
  simp only [Sem.run_bind, kPartsSa, kPartsS, Result.andThen]
  have hl := run_loadCells_list (P := Tryz.prog) W ⟨q, 0, none⟩ [.string s, .int .i64 n] (fun j v hj => by
    match j, hj with
    | 0, hj =>
      simp only [List.getElem?_cons_zero, Option.some.injEq] at hj
      subst hj
      simpa [Addr.add] using b0
    | 1, hj =>
      simp only [List.getElem?_cons_succ, List.getElem?_cons_zero, Option.some.injEq] at hj
      subst hj
      simpa [Addr.add] using b1
    | j + 2, hj => simp at hj)
  simp only [List.length_cons, List.length_nil] at hl
  obtain ⟨i0, hi, hz⟩ := Option.map_eq_some_iff.1 info76
  simp only [Prod.mk.injEq] at hz
  obtain ⟨hz0, hz1⟩ := hz
  simp [ReflectliteValue.flagAddr, loadVar, isAgg, underlying, Tryz.underlying76, sizeOf, typeInfo, hi, hz1, hl, Result.andThen, kDirect, storeVar, Value.cells, storeCells, Addr.add]
  rw [run_store Tryz.prog W ⟨t, 0, none⟩ _ _ (by rfl)]
  simp [h0, f0]
  rw [run_store Tryz.prog _ ⟨t, 1, none⟩ _ _ (by rfl)]
  have e1 : (W.setCell ⟨t, 0, none⟩ (.string s)).cell? ⟨t, 1, none⟩ = some u1 := by rw [World.cell?_setCell_other (h := show (⟨t, 0, none⟩ : Addr) ≠ ⟨t, 1, none⟩ by simp)]; exact h1
  have e2 : (W.setCell ⟨t, 0, none⟩ (.string s)).frozen? ⟨t, 1, none⟩ = false := by simpa using f1
  simp [e1, e2]

set_option maxHeartbeats 4000000 in
set_option maxRecDepth 100000 in
theorem as_hit (s : ByteArray) (n : Int) (t : Nat) (u0 u1 : Value) (w : World) (hg : ErrT w) (ht0 : w.cell? ⟨t, 0, none⟩ = some u0) (ht1 : w.cell? ⟨t, 1, none⟩ = some u1) (hf0 : w.frozen? ⟨t, 0, none⟩ = false) (hf1 : w.frozen? ⟨t, 1, none⟩ = false) :
    Calls Tryz.prog 46 #[.iface 76 (.agg #[.string s, .int .i64 n]), .iface 85 (.pointer (some ⟨t, 0, none⟩))] w fun ev w' => ev = .returned (.bool true) ∧ w' = (((((w.alloc (.cells #[.pointer (some ⟨t, 0, none⟩)] 85)).alloc (.cells #[TH, .pointer (some ⟨w.heap.size, 0, none⟩), .int .u64 150] 114)).alloc (.cells #[TH, .pointer (some ⟨w.heap.size, 0, none⟩), .int .u64 150] 114)).alloc (.cells #[.string s, .int .i64 n] 76)).setCell ⟨t, 0, none⟩ (.string s)).setCell ⟨t, 1, none⟩ (.int .i64 n) := by
  have h24 := @run_callFunc_extern Tryz.prog 63 _ (fun args => ReflectliteValue.unpack (args.getD 0 (.tuple #[]))) Tryz.func63 (by kernel_rfl) (by kernel_rfl) (by kernel_rfl) (by kernel_rfl)
  have h25 := @run_callFunc_extern Tryz.prog 64 _ (ReflectliteValue.methodAny (ReflectliteValue.valueError "reflectlite.Value.Type" 0) (fun t _ _ _ => ReflectliteType.toType t)) Tryz.func64 (by kernel_rfl) (by kernel_rfl) (by kernel_rfl) (by kernel_rfl)
  have h26 := @run_callFunc_extern Tryz.prog 65 _ (ReflectliteValue.method (ReflectliteValue.valueError "reflectlite.Value.IsNil" 0) ReflectliteValue.isNil) Tryz.func65 (by kernel_rfl) (by kernel_rfl) (by kernel_rfl) (by kernel_rfl)
  have h45 := @run_callFunc_extern Tryz.prog 164 _ (ReflectliteType.abiMethod fun t => do pure (.int .u8 (← Rtype.kind t))) Tryz.func164 (by kernel_rfl) (by kernel_rfl) (by kernel_rfl) (by kernel_rfl)
  have h55 := @run_callFunc_extern Tryz.prog 174 _ (ReflectliteType.method ReflectliteType.elem) Tryz.func174 (by kernel_rfl) (by kernel_rfl) (by kernel_rfl) (by kernel_rfl)
  have h56 := @run_callFunc_extern Tryz.prog 175 _ (ReflectliteType.relation "Implements" ReflectliteType.implements_) Tryz.func175 (by kernel_rfl) (by kernel_rfl) (by kernel_rfl) (by kernel_rfl)
  have h28 := @run_callFunc_extern Tryz.prog 82 _ ReflectliteType.typeOf Tryz.func82 (by kernel_rfl) (by kernel_rfl) (by kernel_rfl) (by kernel_rfl)
  have h53 := @run_callFunc_extern Tryz.prog 172 _ (ReflectliteType.relation "AssignableTo" ReflectliteType.assignableTo) Tryz.func172 (by kernel_rfl) (by kernel_rfl) (by kernel_rfl) (by kernel_rfl)
  have h29 := @run_callFunc_extern Tryz.prog 83 _ (ReflectliteValue.method (ReflectliteValue.valueError "reflectlite.Value.Elem" 0) ReflectliteValue.elem) Tryz.func83 (by kernel_rfl) (by kernel_rfl) (by kernel_rfl) (by kernel_rfl)
  have h30 := @run_callFunc_extern Tryz.prog 84 _ ReflectliteValue.set Tryz.func84 (by kernel_rfl) (by kernel_rfl) (by kernel_rfl) (by kernel_rfl)
  have tO := kTypeOfS
  have mA := kMethodAssignableTo
  have aS := kAssignableS
  have vS := kValueOfS
  have vT := kValueOfT
  have yT := kTypeT
  have mK := kMethodKind
  have mE := kMethodElem
  have mI := kMethodImplements
  have kT := kKindT
  have kS := kKindS
  have eT := kElemT
  have iS := kImplementsS
  have n26 := kIsNilT ⟨w.heap.size, 0, none⟩ ⟨t, 0, none⟩ ((w.alloc (.cells #[.pointer (some ⟨t, 0, none⟩)] 85)).alloc (.cells #[TH, .pointer (some ⟨w.heap.size, 0, none⟩), .int .u64 150] 114)) (by simp)
  have hlt : 0 < w.heap.size := hg.pos
  have hg2 : ((w.alloc (.cells #[.pointer (some ⟨t, 0, none⟩)] 85)).alloc (.cells #[TH, .pointer (some ⟨w.heap.size, 0, none⟩), .int .u64 150] 114)).cell? ⟨0, 0, none⟩ = some (.iface 140 (.agg #[.pointer (some ⟨4, 52, none⟩)])) := (hg.alloc _).alloc _
  have htl : t < w.heap.size := by
    rcases Nat.lt_or_ge t w.heap.size with h | h
    · exact h
    · simp [World.cell?, Array.getElem?_eq_none h] at ht0
  have el := kElemV ⟨w.heap.size, 0, none⟩ ⟨t, 0, none⟩ (((w.alloc (.cells #[.pointer (some ⟨t, 0, none⟩)] 85)).alloc (.cells #[TH, .pointer (some ⟨w.heap.size, 0, none⟩), .int .u64 150] 114)).alloc (.cells #[TH, .pointer (some ⟨w.heap.size, 0, none⟩), .int .u64 150] 114)) (by rw [World.cell?_alloc_lt _ _ ⟨w.heap.size, 0, none⟩ (by simp; omega)]; simp)
  have st := kSetS t (w.heap.size + 1 + 1 + 1) s n u0 u1 ((((w.alloc (.cells #[.pointer (some ⟨t, 0, none⟩)] 85)).alloc (.cells #[TH, .pointer (some ⟨w.heap.size, 0, none⟩), .int .u64 150] 114)).alloc (.cells #[TH, .pointer (some ⟨w.heap.size, 0, none⟩), .int .u64 150] 114)).alloc (.cells #[.string s, .int .i64 n] 76))
    (by rw [World.cell?_alloc_at _ _ _ _ (by simp)]; rfl)
    (by rw [World.cell?_alloc_at _ _ _ _ (by simp)]; rfl)
    (by rw [World.cell?_alloc_lt _ _ ⟨t, 0, none⟩ (by simp; omega), World.cell?_alloc_lt _ _ ⟨t, 0, none⟩ (by simp; omega), World.cell?_alloc_lt _ _ ⟨t, 0, none⟩ (by simp; omega), World.cell?_alloc_lt _ _ ⟨t, 0, none⟩ htl]; exact ht0)
    (by rw [World.cell?_alloc_lt _ _ ⟨t, 1, none⟩ (by simp; omega), World.cell?_alloc_lt _ _ ⟨t, 1, none⟩ (by simp; omega), World.cell?_alloc_lt _ _ ⟨t, 1, none⟩ (by simp; omega), World.cell?_alloc_lt _ _ ⟨t, 1, none⟩ htl]; exact ht1)
    (by rw [World.frozen?_alloc_old _ _ ⟨t, 0, none⟩ (by simp; omega), World.frozen?_alloc_old _ _ ⟨t, 0, none⟩ (by simp; omega), World.frozen?_alloc_old _ _ ⟨t, 0, none⟩ (by simp; omega), World.frozen?_alloc_old _ _ ⟨t, 0, none⟩ (Nat.ne_of_lt htl)]; exact hf0)
    (by rw [World.frozen?_alloc_old _ _ ⟨t, 1, none⟩ (by simp; omega), World.frozen?_alloc_old _ _ ⟨t, 1, none⟩ (by simp; omega), World.frozen?_alloc_old _ _ ⟨t, 1, none⟩ (by simp; omega), World.frozen?_alloc_old _ _ ⟨t, 1, none⟩ (Nat.ne_of_lt htl)]; exact hf1)
  clear hg
  go_enter Tryz.func46, Tryz.ntmps46
  go_wp2
  refine wp_loop_rounds 1 ?_
  rw [rounds_succ]
  go_wp2
  go_ret
  exact ⟨rfl, rfl⟩

/-- a refusal of the store, or none: its word and its number -/
def Ref (s : ByteArray) (n : Int) : Value := .iface 76 (.agg #[.string s, .int .i64 n])

theorem errno_nil (w : World) : Calls Tryz.prog 25 #[.nilIface] w fun e w' => e = .returned (.int .i64 0) ∧ Below w.heap.size w w' := by
  go_enter Tryz.func25, Tryz.ntmps25
  go_wp2_with fail
  refine (as_nil _ _).mono ?_
  rintro e w' ⟨rfl, rfl⟩
  go_wp2_with fail
  go_ret
  exact ⟨rfl, (Below.refl _ w).alloc (Nat.le_refl _) _⟩

set_option maxHeartbeats 1000000 in
theorem errno_ref (s : ByteArray) (n : Int) (w : World) (hg : ErrT w) : Calls Tryz.prog 25 #[Ref s n] w fun e w' => e = .returned (.int .i64 n) ∧ Below w.heap.size w w' := by
  have ca := as_hit s n w.heap.size (.string ⟨#[]⟩) (.int .i64 0) (w.alloc (.cells #[.string ⟨#[]⟩, .int .i64 0] 76)) (hg.alloc _) (by simp) (by rw [World.cell?_alloc_at _ _ _ _ (by simp)]; rfl) (by simp) (by simp)
  have CA := Lib.hid ca
  clear ca
  unfold Ref
  go_enter Tryz.func25, Tryz.ntmps25
  go_wp2_with fail
  refine CA.out.mono ?_
  rintro e w' ⟨rfl, rfl⟩
  go_wp2_with fail
  go_ret
  refine ⟨rfl, ?_⟩
  exact (((((Below.refl _ w).alloc (Nat.le_refl _) _).alloc (by simp) _).alloc (by simp; omega) _).alloc (by simp; omega) _).alloc (by simp; omega) _

/-- an error as the store makes it: none, or a refusal -/
def refV (s : ByteArray) (n : Nat) : Value := if n = 0 then .nilIface else Ref s n

theorem errno_any (s : ByteArray) (n : Nat) (w : World) (hg : ErrT w) : Calls Tryz.prog 25 #[refV s n] w fun e w' => e = .returned (.int .i64 n) ∧ Below w.heap.size w w' := by
  unfold refV
  by_cases h : n = 0
  · subst h
    exact errno_nil w
  · rw [if_neg h]
    exact errno_ref s n w hg
end Go.Proofs.YtcgbaiogbcodcaaGreatDoor.Lw
