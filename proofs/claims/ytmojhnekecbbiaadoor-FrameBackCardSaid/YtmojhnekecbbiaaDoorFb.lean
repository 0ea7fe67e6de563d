/-
  The contract of errors.Is, of no error and of one of frame's flaws, at a sentinel of errors.New's make; and of frame's errno. Condition: frame's two sentinels stand in memory, two of them.
-/
import Derived.Test.YtmojhnekecbbiaaDoorBg
import Derived.LaidEql
import Derived.Stop.Asserts
import Derived.RowKitTokens
namespace Go.Proofs.YtmojhnekecbbiaaDoor.Sh
open Lb Go.RowKit Go.Lib Go.Extern.Stop Go.Stop Go.Extern

theorem isTypeOf (v : Value) (w : World) : (Extern.ReflectliteType.typeOf #[.iface 133 v]).run Tryd.prog w = .ok (.iface 85 (.agg #[.pointer (some ⟨5, 133, none⟩)])) w := by kernel_rfl
/-- the library's entry of rtype's Comparable -/
def cmpM : Array Value → Sem Value := ReflectliteType.method fun t => do Rtype.noPackHeld "Comparable" t; pure (.bool (← typeInfo t).comparable)
theorem isComparable (w : World) : (cmpM #[.agg #[.pointer (some ⟨5, 133, none⟩)]]).run Tryd.prog w = .ok (.bool true) w := by kernel_rfl
theorem isMethodComparable (v : Value) (w : World) : (Go.method 266 85 v "Comparable").run Tryd.prog w = .ok (98, v) w := by kernel_rfl
theorem isComp : (Tryd.prog.info? 133).map (·.comparable) = some true := by kernel_rfl
theorem isSize : (Tryd.prog.info? 154).map (·.size) = some 1 := by kernel_rfl
theorem noIsE (v : Value) (xT : TypeId) (w : World) : (Instr.typeAssert (.iface 133 v) xT 87 true).run Tryd.prog w = .ok (.tuple #[.nilIface, .bool false]) w := run_typeAssert_lacksB Tryd.underlying87 (by kernel_rfl) (by kernel_rfl) v xT w
theorem noUnwrapE (v : Value) (xT : TypeId) (w : World) : (Instr.typeAssert (.iface 133 v) xT 90 true).run Tryd.prog w = .ok (.tuple #[.nilIface, .bool false]) w := run_typeAssert_lacksB Tryd.underlying90 (by kernel_rfl) (by kernel_rfl) v xT w
theorem noUnwrapsE (v : Value) (xT : TypeId) (w : World) : (Instr.typeAssert (.iface 133 v) xT 92 true).run Tryd.prog w = .ok (.tuple #[.nilIface, .bool false]) w := run_typeAssert_lacksB Tryd.underlying92 (by kernel_rfl) (by kernel_rfl) v xT w
theorem noIsW (v : Value) (xT : TypeId) (w : World) : (Instr.typeAssert (.iface 59 v) xT 87 true).run Tryd.prog w = .ok (.tuple #[.nilIface, .bool false]) w := run_typeAssert_lacksB Tryd.underlying87 (by kernel_rfl) (by kernel_rfl) v xT w
theorem hasUnwrapW (v : Value) (xT : TypeId) (w : World) : (Instr.typeAssert (.iface 59 v) xT 90 true).run Tryd.prog w = .ok (.tuple #[.iface 59 v, .bool true]) w := run_typeAssert_hasB Tryd.underlying90 (by kernel_rfl) v xT w
theorem methodUnwrap (v : Value) (w : World) : (Go.method 266 59 v "Unwrap").run Tryd.prog w = .ok (95, v) w := by kernel_rfl

/-- one of frame's flaws -/
def Flaw (s : ByteArray) (a : Addr) : Value := .iface 59 (.agg #[.string s, .iface 133 (.pointer (some a))])

theorem is_nil (b : Addr) (w : World) :
    Calls Tryd.prog 27 #[.nilIface, .iface 133 (.pointer (some b))] w fun e w' => e = .returned (.bool false) ∧ w' = w := by
  have hn := run_eql_iface_nil_left (P := Tryd.prog) w 133 (.pointer (some b)) Tryd.underlying46
  go_enter Tryd.func27, Tryd.ntmps27
  go_wp2
  go_ret
  exact ⟨rfl, rfl⟩

set_option maxHeartbeats 1000000 in
theorem is_flaw_same (s : ByteArray) (b : Addr) (w : World) :
    Calls Tryd.prog 27 #[.iface 59 (.agg #[.string s, .iface 133 (.pointer (some b))]), .iface 133 (.pointer (some b))] w fun e w' => e = .returned (.bool true) ∧ Below w.heap.size w w' := by
  obtain ⟨i, hi, hcmp⟩ := Option.map_eq_some_iff.1 isComp
  obtain ⟨j, hj, hjs⟩ := Option.map_eq_some_iff.1 isSize
  have h8 := @run_callFunc_extern Tryd.prog 41 _ Extern.ReflectliteType.typeOf Tryd.func41 (by kernel_rfl) (by kernel_rfl) (by kernel_rfl) (by kernel_rfl)
  have h32 := @run_callFunc_extern Tryd.prog 98 _ cmpM Tryd.func98 (by kernel_rfl) (by kernel_rfl) (by kernel_rfl) (by kernel_rfl)
  have tT := isTypeOf
  have cT := isComparable
  have mR := isMethodComparable
  have nE := noIsE
  have uE := noUnwrapE
  have vE := noUnwrapsE
  have nW := noIsW
  have uW := hasUnwrapW
  have mU := methodUnwrap
  have heq := fun w => run_eql_iface_ptr_same (P := Tryd.prog) w b Tryd.underlying46 Tryd.underlying133 hi hcmp hj
  have hty := fun w => run_eql_iface_types (P := Tryd.prog) 59 133 (.agg #[.string s, .iface 133 (.pointer (some b))]) (.pointer (some b)) Tryd.underlying46 (by decide) w
  go_enter Tryd.func27, Tryd.ntmps27
  go_wp2
  refine wp_loop_rounds 2 ?_
  rw [rounds_succ]
  go_wp2
  rw [rounds_succ]
  go_wp2
  go_ret
  exact ⟨rfl, (Below.refl _ _).alloc (Nat.le_refl _) _⟩

set_option maxHeartbeats 1000000 in
theorem is_flaw_other (s : ByteArray) (a b : Addr) (ca cb : Array Value) (ta tb : TypeId) (w : World) (hne : a ≠ b) (ha : w.heap[a.block]? = some (.cells ca ta (0, 0))) (hb : w.heap[b.block]? = some (.cells cb tb (0, 0))) :
    Calls Tryd.prog 27 #[.iface 59 (.agg #[.string s, .iface 133 (.pointer (some a))]), .iface 133 (.pointer (some b))] w fun e w' => e = .returned (.bool false) ∧ Below w.heap.size w w' := by
  obtain ⟨i, hi, hcmp⟩ := Option.map_eq_some_iff.1 isComp
  obtain ⟨j, hj, hjs⟩ := Option.map_eq_some_iff.1 isSize
  have h8 := @run_callFunc_extern Tryd.prog 41 _ Extern.ReflectliteType.typeOf Tryd.func41 (by kernel_rfl) (by kernel_rfl) (by kernel_rfl) (by kernel_rfl)
  have h32 := @run_callFunc_extern Tryd.prog 98 _ cmpM Tryd.func98 (by kernel_rfl) (by kernel_rfl) (by kernel_rfl) (by kernel_rfl)
  have tT := isTypeOf
  have cT := isComparable
  have mR := isMethodComparable
  have nE := noIsE
  have uE := noUnwrapE
  have vE := noUnwrapsE
  have nW := noIsW
  have uW := hasUnwrapW
  have mU := methodUnwrap
  have al : ∀ (o : Obj) (x : Addr) (c : Array Value) (t : TypeId), w.heap[x.block]? = some (.cells c t (0, 0)) → (w.alloc o).heap[x.block]? = some (.cells c t (0, 0)) := fun o x c t h => by
    have hlt : x.block < w.heap.size := by
      rcases Nat.lt_or_ge x.block w.heap.size with h1 | h1
      · exact h1
      · rw [Array.getElem?_eq_none h1] at h; cases h
    exact (Below.heap_alloc w o x.block hlt).trans h
  have heq := fun o => run_eql_iface_ptr_other (P := Tryd.prog) (w.alloc o) Tryd.underlying46 Tryd.underlying133 hi hcmp hj (by rw [hjs]; decide) hne (al o _ _ _ ha) (al o _ _ _ hb)
  have hty := fun w => run_eql_iface_types (P := Tryd.prog) 59 133 (.agg #[.string s, .iface 133 (.pointer (some a))]) (.pointer (some b)) Tryd.underlying46 (by decide) w
  clear al
  go_enter Tryd.func27, Tryd.ntmps27
  go_wp2
  refine wp_loop_rounds 2 ?_
  rw [rounds_succ]
  go_wp2
  rw [rounds_succ]
  go_wp2
  go_ret
  exact ⟨rfl, (Below.refl _ _).alloc (Nat.le_refl _) _⟩

/-- frame's two sentinels: a0 is errFrame's, a1 errShort's -/
structure Sen (w : World) (a0 a1 : Addr) : Prop where
  g0 : w.cell? ⟨0, 0, none⟩ = some (.iface 133 (.pointer (some a0)))
  g1 : w.cell? ⟨1, 0, none⟩ = some (.iface 133 (.pointer (some a1)))
  ne : a0 ≠ a1
  c0 : ∃ c t, w.heap[a0.block]? = some (.cells c t (0, 0))
  c1 : ∃ c t, w.heap[a1.block]? = some (.cells c t (0, 0))
theorem lt_of_cells {w : World} {b : Nat} {o : Obj} (h : w.heap[b]? = some o) : b < w.heap.size := by
  rcases Nat.lt_or_ge b w.heap.size with h1 | h1
  · exact h1
  · rw [Array.getElem?_eq_none h1] at h; cases h
theorem lt_of_cell {w : World} {p : Addr} {v : Value} (h : w.cell? p = some v) : p.block < w.heap.size := by
  rcases Nat.lt_or_ge p.block w.heap.size with h1 | h0
  · exact h1
  · simp [World.cell?, Array.getElem?_eq_none h0] at h
theorem Sen.below {w w' : World} {a0 a1 : Addr} (h : Sen w a0 a1) (hb : Below w.heap.size w w') : Sen w' a0 a1 := by
  obtain ⟨g0, g1, ne, ⟨c, t, c0⟩, ⟨d, u, c1⟩⟩ := h
  exact ⟨(hb.cell (p := ⟨0, 0, none⟩) (lt_of_cell g0)).trans g0, (hb.cell (p := ⟨1, 0, none⟩) (lt_of_cell g1)).trans g1, ne, ⟨c, t, (hb.block _ (lt_of_cells c0)).trans c0⟩, ⟨d, u, (hb.block _ (lt_of_cells c1)).trans c1⟩⟩

/-- the number n as frame's error: none, or a flaw that wraps the sentinel of that number -/
def FV (a0 a1 : Addr) (n : Nat) (v : Value) : Prop :=
  n = 0 ∧ v = .nilIface ∨ n = 20 ∧ (∃ s, v = .iface 59 (.agg #[.string s, .iface 133 (.pointer (some a1))])) ∨ n = 120 ∧ ∃ s, v = .iface 59 (.agg #[.string s, .iface 133 (.pointer (some a0))])

set_option maxHeartbeats 1000000 in
theorem errno_fr (n : Nat) (v : Value) (a0 a1 : Addr) (w : World) (hs : Sen w a0 a1) (hv : FV a0 a1 n v) :
    Calls Tryd.prog 16 #[v] w fun e w' => e = .returned (.int .i64 (n : Nat)) ∧ Below w.heap.size w w' := by
  have S := Lib.hid hs
  rcases hv with ⟨rfl, rfl⟩ | ⟨rfl, s, rfl⟩ | ⟨rfl, s, rfl⟩
  · have C0 := Lib.hid (is_nil a0 w)
    have C1 := Lib.hid (is_nil a1 w)
    have g0 := hs.g0
    have g1 := hs.g1
    clear hs
    go_enter Tryd.func16, Tryd.ntmps16
    go_wp2_with fail
    refine C1.out.mono ?_
    rintro e w' ⟨rfl, rfl⟩
    go_wp2_with fail
    refine C0.out.mono ?_
    rintro e w' ⟨rfl, rfl⟩
    go_wp2_with fail
    go_ret
    exact ⟨rfl, Below.refl _ _⟩
  · have C1 := Lib.hid (is_flaw_same s a1 w)
    have g1 := hs.g1
    clear hs
    go_enter Tryd.func16, Tryd.ntmps16
    go_wp2_with fail
    refine C1.out.mono ?_
    rintro e w' ⟨rfl, b1⟩
    have B := Lib.hid b1
    clear b1
    go_wp2_with fail
    go_ret
    exact ⟨rfl, B.out⟩
  · obtain ⟨c, t, c0⟩ := hs.c0
    obtain ⟨d, u, c1⟩ := hs.c1
    have C1 := Lib.hid (is_flaw_other s a0 a1 c d t u w hs.ne c0 c1)
    have g1 := hs.g1
    clear hs c0 c1
    go_enter Tryd.func16, Tryd.ntmps16
    go_wp2_with fail
    refine C1.out.mono ?_
    rintro e w1 ⟨rfl, b1⟩
    have C0 := Lib.hid (is_flaw_same s a0 w1)
    have g0 := (S.out.below b1).g0
    have B := Lib.hid b1
    clear b1
    go_wp2_with fail
    refine C0.out.mono ?_
    rintro e w2 ⟨rfl, b2⟩
    have B2 := Lib.hid (B.out.trans (b2.mono B.out.size))
    clear b2
    go_wp2_with fail
    go_ret
    exact ⟨rfl, B2.out⟩
end Go.Proofs.YtmojhnekecbbiaaDoor.Sh
