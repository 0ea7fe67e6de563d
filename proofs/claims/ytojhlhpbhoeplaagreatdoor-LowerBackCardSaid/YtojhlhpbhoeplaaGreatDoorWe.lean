/-
  The contracts of errors.As at leb's own error type, and of leb.errno: of no error 0, of a fault its number. Condition: the library's variable errors.errorType is as its text lays it.
-/
import Derived.Test.YtojhlhpbhoeplaaGreatDoorWb
import Derived.LaidEql
import Derived.Stop.Asserts
import Derived.RowKitTokens
namespace Go.Proofs.YtojhlhpbhoeplaaGreatDoor.Sh
open Lb Go.RowKit Go.Lib Go.Extern.Stop Go.Stop Go.Extern

/-- errors.errorType -/
def ErrT (w : World) : Prop := w.cell? ⟨1, 0, none⟩ = some (.iface 133 (.agg #[.pointer (some ⟨8, 48, none⟩)]))
theorem ErrT.pos {w : World} (h : ErrT w) : 1 < w.heap.size := by
  rcases Nat.lt_or_ge 1 w.heap.size with h1 | h0
  · exact h1
  · simp [ErrT, World.cell?, Array.getElem?_eq_none h0] at h
theorem ErrT.below {w w' : World} (h : ErrT w) (hb : Below w.heap.size w w') : ErrT w' := (hb.cell (p := ⟨1, 0, none⟩) h.pos).trans h
theorem ErrT.alloc {w : World} (h : ErrT w) (o : Obj) : ErrT (w.alloc o) := h.below ((Below.refl _ w).alloc (Nat.le_refl _) o)

theorem as_nil (t : Value) (w : World) : Calls Tryz.prog 88 #[.nilIface, t] w fun e w' => e = .returned (.bool false) ∧ w = w' := by
  go_enter Tryz.func88, Tryz.ntmps88
  go_wp2
  go_ret
  exact ⟨rfl, rfl⟩

abbrev TH : Value := .pointer (some ⟨8, 155, none⟩)
abbrev SH : Value := .pointer (some ⟨8, 153, none⟩)
theorem kValueOfT (t : Addr) (w : World) : (ReflectliteValue.unpack (.iface 155 (.pointer (some t)))).run Tryz.prog w
    = .ok (.agg #[TH, .pointer (some ⟨w.heap.size, 0, none⟩), .int .u64 150]) (w.alloc (.cells #[.pointer (some t)] 155)) := by kernel_rfl
theorem kTypeT (a : Addr) (w : World) : (ReflectliteValue.methodAny (ReflectliteValue.valueError "reflectlite.Value.Type" 0) (fun t _ _ _ => ReflectliteType.toType t) #[.agg #[TH, .pointer (some a), .int .u64 150]]).run Tryz.prog w
    = .ok (.iface 133 (.agg #[TH])) w := by kernel_rfl
theorem kMethodKind (h : Value) (w : World) : (Go.method 373 133 (.agg #[h]) "Kind").run Tryz.prog w = .ok (189, h) w := by kernel_rfl
theorem kKindT (w : World) : ((ReflectliteType.abiMethod fun t => (fun a : Nat => Value.int IntKind.u8 (a : Int)) <$> Rtype.kind t) #[TH]).run Tryz.prog w = .ok (.int .u8 22) w := by kernel_rfl
theorem kKindS (w : World) : ((ReflectliteType.abiMethod fun t => (fun a : Nat => Value.int IntKind.u8 (a : Int)) <$> Rtype.kind t) #[SH]).run Tryz.prog w = .ok (.int .u8 25) w := by kernel_rfl
theorem kPartsT (a : Addr) (w : World) : (ReflectliteValue.parts (.agg #[TH, .pointer (some a), .int .u64 150])).run Tryz.prog w = .ok (some (155, a, 150)) w := by kernel_rfl
theorem kIsNilT (a p : Addr) (W : World) (ha : W.cell? a = some (.pointer (some p))) :
    (ReflectliteValue.method (ReflectliteValue.valueError "reflectlite.Value.IsNil" 0) ReflectliteValue.isNil #[.agg #[TH, .pointer (some a), .int .u64 150]]).run Tryz.prog W = .ok (.bool false) W := by
  change Sem.run Tryz.prog (ReflectliteValue.parts (.agg #[TH, .pointer (some a), .int .u64 150]) >>= _) W = _
  simp only [Sem.run_bind, kPartsT, Result.andThen]
  simp [ReflectliteValue.isNil, loadVar, isAgg, underlying, Tryz.underlying155, ha, Result.andThen]
theorem kMethodElem (h : Value) (w : World) : (Go.method 373 133 (.agg #[h]) "Elem").run Tryz.prog w = .ok (197, .agg #[h]) w := by kernel_rfl
theorem kMethodImplements (h : Value) (w : World) : (Go.method 373 133 (.agg #[h]) "Implements").run Tryz.prog w = .ok (198, .agg #[h]) w := by kernel_rfl
theorem kMethodAssignableTo (h : Value) (w : World) : (Go.method 373 133 (.agg #[h]) "AssignableTo").run Tryz.prog w = .ok (195, .agg #[h]) w := by kernel_rfl
theorem kElemT (w : World) : (ReflectliteType.method ReflectliteType.elem #[.agg #[TH]]).run Tryz.prog w = .ok (.iface 133 (.agg #[SH])) w := by kernel_rfl
theorem kImplementsS (w : World) : (ReflectliteType.relation "Implements" ReflectliteType.implements_ #[.agg #[SH], .iface 133 (.agg #[.pointer (some ⟨8, 48, none⟩)])]).run Tryz.prog w = .ok (.bool true) w := by kernel_rfl
theorem kTypeOfS (v : Value) (w : World) : (ReflectliteType.typeOf #[.iface 153 v]).run Tryz.prog w = .ok (.iface 133 (.agg #[SH])) w := by kernel_rfl
theorem kAssignableS (w : World) : (ReflectliteType.relation "AssignableTo" ReflectliteType.assignableTo #[.agg #[SH], .iface 133 (.agg #[SH])]).run Tryz.prog w = .ok (.bool true) w := by kernel_rfl
theorem kValueOfS (n : Int) (w : World) : (ReflectliteValue.unpack (.iface 153 (.agg #[.int .i64 n]))).run Tryz.prog w
    = .ok (.agg #[SH, .pointer (some ⟨w.heap.size, 0, none⟩), .int .u64 153]) (w.alloc (.cells #[.int .i64 n] 153)) := by kernel_rfl
theorem kElemOfT (w : World) : (Rtype.elem? 155).run Tryz.prog w = .ok (some 153) w := by kernel_rfl
theorem kMkS (p : Addr) (w : World) : (ReflectliteValue.mk 153 p ReflectliteValue.flagAddr).run Tryz.prog w = .ok (.agg #[SH, .pointer (some p), .int .u64 409]) w := by kernel_rfl
theorem kElemV (a p : Addr) (W : World) (ha : W.cell? a = some (.pointer (some p))) :
    (ReflectliteValue.method (ReflectliteValue.valueError "reflectlite.Value.Elem" 0) ReflectliteValue.elem #[.agg #[TH, .pointer (some a), .int .u64 150]]).run Tryz.prog W
      = .ok (.agg #[SH, .pointer (some p), .int .u64 409]) W := by
  change Sem.run Tryz.prog (ReflectliteValue.parts (.agg #[TH, .pointer (some a), .int .u64 150]) >>= _) W = _
  simp only [Sem.run_bind, kPartsT, Result.andThen]
  simp [ReflectliteValue.elem, loadVar, isAgg, underlying, Tryz.underlying155, ha, Result.andThen, kElemOfT, kMkS]
theorem kPartsSa (a : Addr) (w : World) : (ReflectliteValue.parts (.agg #[SH, .pointer (some a), .int .u64 409])).run Tryz.prog w = .ok (some (153, a, 409)) w := by kernel_rfl
theorem kPartsS (a : Addr) (w : World) : (ReflectliteValue.parts (.agg #[SH, .pointer (some a), .int .u64 153])).run Tryz.prog w = .ok (some (153, a, 153)) w := by kernel_rfl
theorem kDirect (w : World) : (Rtype.directlyAssignable 153 153).run Tryz.prog w = .ok true w := by kernel_rfl
theorem info153 : (Tryz.prog.info? 153).map (fun i => (i.zero, i.size, i.bytes)) = some (some (.agg #[.int .i64 0]), 1, 8) := by kernel_rfl
theorem kSetS (ta b : Addr) (n : Int) (old : Value) (W : World) (hb : W.cell? b = some (.int .i64 n)) (ht : W.cell? ta = some old) (hf : W.frozen? ta = false) :
    (ReflectliteValue.set #[.agg #[SH, .pointer (some ta), .int .u64 409], .agg #[SH, .pointer (some b), .int .u64 153]]).run Tryz.prog W
      = .ok (.tuple #[]) (W.setCell ta (.int .i64 n)) := by
  change Sem.run Tryz.prog (ReflectliteValue.parts (.agg #[SH, .pointer (some ta), .int .u64 409]) >>= fun _ => ReflectliteValue.parts (.agg #[SH, .pointer (some b), .int .u64 153]) >>= _) W = _
  simp only [Sem.run_bind, kPartsSa, kPartsS, Result.andThen]
  have hl := run_loadCells_list (P := Tryz.prog) W b [.int .i64 n] (fun j v hj => by
    match j, hj with
    | 0, hj =>
      simp only [List.getElem?_cons_zero, Option.some.injEq] at hj
      subst hj
      simpa [Addr.add] using hb
    | j + 1, hj => simp at hj)
  simp only [List.length_singleton] at hl
  obtain ⟨i0, hi, hz0, hz1, hz2⟩ := info_parts info153
  simp [ReflectliteValue.flagAddr, loadVar, isAgg, underlying, Tryz.underlying153, sizeOf, typeInfo, hi, hz1, hl, Result.andThen, kDirect, storeVar, Value.cells, storeCells, Addr.add]
  rw [run_store Tryz.prog W ta _ _ (by rfl)]
  simp [ht, hf]
end Go.Proofs.YtojhlhpbhoeplaaGreatDoor.Sh
