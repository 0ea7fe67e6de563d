/-
  The contract of errors.Is, of no error and of one of frame's flaws, at a sentinel of errors.New's make; and of frame's errno. Condition: frame's two sentinels stand in memory, two of them.
-/
import Derived.Test.YtekaboomhljdoaaGreatDoorBg
import Derived.LaidEql
import Derived.Stop.Asserts
import Derived.RowKitTokens
namespace Go.Proofs.YtekaboomhljdoaaGreatDoor.Sh
open Lb Go.RowKit Go.Lib Go.Extern.Stop Go.Stop Go.Extern

theorem isTypeOf (v : Value) (w : World) : (Extern.ReflectliteType.typeOf #[.iface 187 v]).run Tryz.prog w = .ok (.iface 141 (.agg #[.pointer (some ⟨5, 187, none⟩)])) w := by kernel_rfl
/-- the library's entry of rtype's Comparable -/
def cmpM : Array Value → Sem Value := ReflectliteType.method fun t => do Rtype.noPackHeld "Comparable" t; pure (.bool (← typeInfo t).comparable)
theorem isComparable (w : World) : (cmpM #[.agg #[.pointer (some ⟨5, 187, none⟩)]]).run Tryz.prog w = .ok (.bool true) w := by kernel_rfl
theorem isMethodComparable (v : Value) (w : World) : (Go.method 319 141 v "Comparable").run Tryz.prog w = .ok (145, v) w := by kernel_rfl
theorem isComp : (Tryz.prog.info? 187).map (·.comparable) = some true := by kernel_rfl
theorem isSize : (Tryz.prog.info? 207).map (·.size) = some 1 := by kernel_rfl
theorem noIsE (v : Value) (xT : TypeId) (w : World) : (Instr.typeAssert (.iface 187 v) xT 143 true).run Tryz.prog w = .ok (.tuple #[.nilIface, .bool false]) w := run_typeAssert_lacksB Tryz.underlying143 (by kernel_rfl) (by kernel_rfl) v xT w
theorem noUnwrapE (v : Value) (xT : TypeId) (w : World) : (Instr.typeAssert (.iface 187 v) xT 146 true).run Tryz.prog w = .ok (.tuple #[.nilIface, .bool false]) w := run_typeAssert_lacksB Tryz.underlying146 (by kernel_rfl) (by kernel_rfl) v xT w
theorem noUnwrapsE (v : Value) (xT : TypeId) (w : World) : (Instr.typeAssert (.iface 187 v) xT 148 true).run Tryz.prog w = .ok (.tuple #[.nilIface, .bool false]) w := run_typeAssert_lacksB Tryz.underlying148 (by kernel_rfl) (by kernel_rfl) v xT w
theorem noIsW (v : Value) (xT : TypeId) (w : World) : (Instr.typeAssert (.iface 122 v) xT 143 true).run Tryz.prog w = .ok (.tuple #[.nilIface, .bool false]) w := run_typeAssert_lacksB Tryz.underlying143 (by kernel_rfl) (by kernel_rfl) v xT w
theorem hasUnwrapW (v : Value) (xT : TypeId) (w : World) : (Instr.typeAssert (.iface 122 v) xT 146 true).run Tryz.prog w = .ok (.tuple #[.iface 122 v, .bool true]) w := run_typeAssert_hasB Tryz.underlying146 (by kernel_rfl) v xT w
theorem methodUnwrap (v : Value) (w : World) : (Go.method 319 122 v "Unwrap").run Tryz.prog w = .ok (142, v) w := by kernel_rfl

/-- one of frame's flaws -/
def Flaw (s : ByteArray) (a : Addr) : Value := .iface 122 (.agg #[.string s, .iface 187 (.pointer (some a))])

theorem is_nil (b : Addr) (w : World) :
    Calls Tryz.prog 75 #[.nilIface, .iface 187 (.pointer (some b))] w fun e w' => e = .returned (.bool false) ∧ w' = w := by
  have hn := run_eql_iface_nil_left (P := Tryz.prog) w 187 (.pointer (some b)) Tryz.underlying99
  go_enter Tryz.func75, Tryz.ntmps75
  go_wp2
  go_ret
  exact ⟨rfl, rfl⟩

set_option maxHeartbeats 1000000 in
theorem is_flaw_same (s : ByteArray) (b : Addr) (w : World) :
    Calls Tryz.prog 75 #[.iface 122 (.agg #[.string s, .iface 187 (.pointer (some b))]), .iface 187 (.pointer (some b))] w fun e w' => e = .returned (.bool true) ∧ Below w.heap.size w w' := by
  obtain ⟨i, hi, hcmp⟩ := Option.map_eq_some_iff.1 isComp
  obtain ⟨j, hj, hjs⟩ := Option.map_eq_some_iff.1 isSize
  have h8 := @run_callFunc_extern Tryz.prog 89 _ Extern.ReflectliteType.typeOf Tryz.func89 (by kernel_rfl) (by kernel_rfl) (by kernel_rfl) (by kernel_rfl)
  have h32 := @run_callFunc_extern Tryz.prog 145 _ cmpM Tryz.func145 (by kernel_rfl) (by kernel_rfl) (by kernel_rfl) (by kernel_rfl)
  have tT := isTypeOf
  have cT := isComparable
  have mR := isMethodComparable
  have nE := noIsE
  have uE := noUnwrapE
  have vE := noUnwrapsE
  have nW := noIsW
  have uW := hasUnwrapW
  have mU := methodUnwrap
  have heq := fun w => run_eql_iface_ptr_same (P := Tryz.prog) w b Tryz.underlying99 Tryz.underlying187 hi hcmp hj
  have hty := fun w => run_eql_iface_types (P := Tryz.prog) 122 187 (.agg #[.string s, .iface 187 (.pointer (some b))]) (.pointer (some b)) Tryz.underlying99 (by decide) w
  go_enter Tryz.func75, Tryz.ntmps75
  go_wp2
  refine wp_loop_rounds 2 ?_
  rw [rounds_succ]
  go_wp2
  rw [rounds_succ]
  go_wp2
  go_ret
  exact ⟨rfl, (Below.refl _ _).alloc (Nat.le_refl _) _⟩

set_option maxHeartbeats 1000000 in
theorem is_flaw_other (s : ByteArray) (a b : Addr) (ca cb : Array Value) (ta tb : TypeId) (w : World) (hne : a ≠ b) (ha : w.heap[a.block]? = some (.cells ca ta (0, 0))) (hb : w.heap[b.block]? = some (.cells cb tb (0, 0))) :
    Calls Tryz.prog 75 #[.iface 122 (.agg #[.string s, .iface 187 (.pointer (some a))]), .iface 187 (.pointer (some b))] w fun e w' => e = .returned (.bool false) ∧ Below w.heap.size w w' := by
  obtain ⟨i, hi, hcmp⟩ := Option.map_eq_some_iff.1 isComp
  obtain ⟨j, hj, hjs⟩ := Option.map_eq_some_iff.1 isSize
  have h8 := @run_callFunc_extern Tryz.prog 89 _ Extern.ReflectliteType.typeOf Tryz.func89 (by kernel_rfl) (by kernel_rfl) (by kernel_rfl) (by kernel_rfl)
  have h32 := @run_callFunc_extern Tryz.prog 145 _ cmpM Tryz.func145 (by kernel_rfl) (by kernel_rfl) (by kernel_rfl) (by kernel_rfl)
  have tT := isTypeOf
  have cT := isComparable
  have mR := isMethodComparable
  have nE := noIsE
  have uE := noUnwrapE
  have vE := noUnwrapsE
  have nW := noIsW
  have uW := hasUnwrapW
  have mU := methodUnwrap
  have al : ∀ (o : Obj) (x : Addr) (c : Array Value) (t : TypeId), w.heap[x.block]? = some (.cells c t (0, 0)) → (w.alloc o).heap[x.block]? = some (.cells c t (0, 0)) := fun o x c t h => by
    have hlt : x.block < w.heap.size := by
      rcases Nat.lt_or_ge x.block w.heap.size with h1 | h1
      · exact h1
      · rw [Array.getElem?_eq_none h1] at h; cases h
    exact (Below.heap_alloc w o x.block hlt).trans h
  have heq := fun o => run_eql_iface_ptr_other (P := Tryz.prog) (w.alloc o) Tryz.underlying99 Tryz.underlying187 hi hcmp hj (by rw [hjs]; decide) hne (al o _ _ _ ha) (al o _ _ _ hb)
  have hty := fun w => run_eql_iface_types (P := Tryz.prog) 122 187 (.agg #[.string s, .iface 187 (.pointer (some a))]) (.pointer (some b)) Tryz.underlying99 (by decide) w
  clear al
  go_enter Tryz.func75, Tryz.ntmps75
  go_wp2
  refine wp_loop_rounds 2 ?_
  rw [rounds_succ]
  go_wp2
  rw [rounds_succ]
  go_wp2
  go_ret
  exact ⟨rfl, (Below.refl _ _).alloc (Nat.le_refl _) _⟩

/-- frame's two sentinels: a0 is errFrame's, a1 errShort's -/
structure Sen (w : World) (a0 a1 : Addr) : Prop where
  g0 : w.cell? ⟨0, 0, none⟩ = some (.iface 187 (.pointer (some a0)))
  g1 : w.cell? ⟨1, 0, none⟩ = some (.iface 187 (.pointer (some a1)))
  ne : a0 ≠ a1
  c0 : ∃ c t, w.heap[a0.block]? = some (.cells c t (0, 0))
  c1 : ∃ c t, w.heap[a1.block]? = some (.cells c t (0, 0))
theorem lt_of_cells {w : World} {b : Nat} {o : Obj} (h : w.heap[b]? = some o) : b < w.heap.size := by
  rcases Nat.lt_or_ge b w.heap.size with h1 | h1
  · exact h1
  · rw [Array.getElem?_eq_none h1] at h; cases h
theorem lt_of_cell {w : World} {p : Addr} {v : Value} (h : w.cell? p = some v) : p.block < w.heap.size := by
  rcases Nat.lt_or_ge p.block w.heap.size with h1 | h0
  · exact h1
  · simp [World.cell?, Array.getElem?_eq_none h0] at h
theorem Sen.below {w w' : World} {a0 a1 : Addr} (h : Sen w a0 a1) (hb : Below w.heap.size w w') : Sen w' a0 a1 := by
  obtain ⟨g0, g1, ne, ⟨c, t, c0⟩, ⟨d, u, c1⟩⟩ := h
  exact ⟨(hb.cell (p := ⟨0, 0, none⟩) (lt_of_cell g0)).trans g0, (hb.cell (p := ⟨1, 0, none⟩) (lt_of_cell g1)).trans g1, ne, ⟨c, t, (hb.block _ (lt_of_cells c0)).trans c0⟩, ⟨d, u, (hb.block _ (lt_of_cells c1)).trans c1⟩⟩

/-- the number n as frame's error: none, or a flaw that wraps the sentinel of that number -/
def FV (a0 a1 : Addr) (n : Nat) (v : Value) : Prop :=
  n = 0 ∧ v = .nilIface ∨ n = 20 ∧ (∃ s, v = .iface 122 (.agg #[.string s, .iface 187 (.pointer (some a1))])) ∨ n = 120 ∧ ∃ s, v = .iface 122 (.agg #[.string s, .iface 187 (.pointer (some a0))])

set_option maxHeartbeats 1000000 in
theorem errno_fr (n : Nat) (v : Value) (a0 a1 : Addr) (w : World) (hs : Sen w a0 a1) (hv : FV a0 a1 n v) :
    Calls Tryz.prog 57 #[v] w fun e w' => e = .returned (.int .i64 (n : Nat)) ∧ Below w.heap.size w w' := by
  have S := Lib.hid hs
  rcases hv with ⟨rfl, rfl⟩ | ⟨rfl, s, rfl⟩ | ⟨rfl, s, rfl⟩
  · have C0 := Lib.hid (is_nil a0 w)
    have C1 := Lib.hid (is_nil a1 w)
    have g0 := hs.g0
    have g1 := hs.g1
    clear hs
    go_enter Tryz.func57, Tryz.ntmps57
    go_wp2_with fail
    refine C1.out.mono ?_
    rintro e w' ⟨rfl, rfl⟩
    go_wp2_with fail
    refine C0.out.mono ?_
    rintro e w' ⟨rfl, rfl⟩
    go_wp2_with fail
    go_ret
    exact ⟨rfl, Below.refl _ _⟩
  · have C1 := Lib.hid (is_flaw_same s a1 w)
    have g1 := hs.g1
    clear hs
    go_enter Tryz.func57, Tryz.ntmps57
    go_wp2_with fail
    refine C1.out.mono ?_
    rintro e w' ⟨rfl, b1⟩
    have B := Lib.hid b1
    clear b1
    go_wp2_with fail
    go_ret
    exact ⟨rfl, B.out⟩
  · obtain ⟨c, t, c0⟩ := hs.c0
    obtain ⟨d, u, c1⟩ := hs.c1
    have C1 := Lib.hid (is_flaw_other s a0 a1 c d t u w hs.ne c0 c1)
    have g1 := hs.g1
    clear hs c0 c1
    go_enter Tryz.func57, Tryz.ntmps57
    go_wp2_with fail
    refine C1.out.mono ?_
    rintro e w1 ⟨rfl, b1⟩
    have C0 := Lib.hid (is_flaw_same s a0 w1)
    have g0 := (S.out.below b1).g0
    have B := Lib.hid b1
    clear b1
    go_wp2_with fail
    refine C0.out.mono ?_
    rintro e w2 ⟨rfl, b2⟩
    have B2 := Lib.hid (B.out.trans (b2.mono B.out.size))
    clear b2
    go_wp2_with fail
    go_ret
    exact ⟨rfl, B2.out⟩
end Go.Proofs.YtekaboomhljdoaaGreatDoor.Sh
