/-
  Entries compared whole. No condition.
-/
import Derived.Test.YtpcmminokhmkjaaDoorSa
import Derived.Laws.StructEq
import Derived.Deep.MidRow
import Derived.DeepKeys
namespace Go.Proofs.YtpcmminokhmkjaaDoor.St
open Go.Shelf Go.RowKit Go.Lib Go.Sort
theorem fields31 : (Tryd.prog.fieldsOf 31).toList.map (fun f => (f.name == "_", f.type, f.offset)) = [(false, 23, 0), (false, 3, 1), (false, 3, 2), (false, 3, 3), (false, 3, 4)] := by kernel_rfl
theorem beqB (a b : ByteArray) : (a == b) = decide (a = b) := by
  obtain ⟨⟨x⟩⟩ := a
  obtain ⟨⟨y⟩⟩ := b
  show ((⟨x⟩ : Array UInt8) == ⟨y⟩) = _
  by_cases h : x = y
  · subst h; simp
  · simp [h]
theorem step_int (w : World) (d : Nat) (f : Field) (fs : List Field) (xs ys : Array Value) (a b : Int) (hn : (f.name == "_") = false) (ht : f.type = 3) (hx : xs[f.offset]? = some (.int .i64 a)) (hy : ys[f.offset]? = some (.int .i64 b)) :
    (Op.eqFields (d + 1) xs ys (f :: fs)).run Tryd.prog w = if a = b then (Op.eqFields (d + 1) xs ys fs).run Tryd.prog w else .ok false w := by
  have hn' : f.name ≠ "_" := by simpa using hn
  have p1 : (Go.part f.type xs f.offset).run Tryd.prog w = .ok (.int .i64 a) w := by rw [ht]; exact run_part_plain w (by kernel_rfl) hx
  have p2 : (Go.part f.type ys f.offset).run Tryd.prog w = .ok (.int .i64 b) w := by rw [ht]; exact run_part_plain w (by kernel_rfl) hy
  have p3 : (Op.equalIn (d + 1) f.type (.int .i64 a) (.int .i64 b)).run Tryd.prog w = .ok (a == b) w := by rw [ht]; exact run_equalIn_int w d 3 .i64 .i64 a b Tryd.underlying3
  rw [Op.eqFields, if_pos hn']
  simp only [Sem.run_bind, p1, p2, Result.andThen_ok, p3]
  by_cases h : a = b
  · simp [h]
  · simp [h]
theorem step_str (w : World) (d : Nat) (f : Field) (fs : List Field) (xs ys : Array Value) (a b : ByteArray) (hn : (f.name == "_") = false) (ht : f.type = 23) (hx : xs[f.offset]? = some (.string a)) (hy : ys[f.offset]? = some (.string b)) :
    (Op.eqFields (d + 1) xs ys (f :: fs)).run Tryd.prog w = if a = b then (Op.eqFields (d + 1) xs ys fs).run Tryd.prog w else .ok false w := by
  have hn' : f.name ≠ "_" := by simpa using hn
  have p1 : (Go.part f.type xs f.offset).run Tryd.prog w = .ok (.string a) w := by rw [ht]; exact run_part_plain w (by kernel_rfl) hx
  have p2 : (Go.part f.type ys f.offset).run Tryd.prog w = .ok (.string b) w := by rw [ht]; exact run_part_plain w (by kernel_rfl) hy
  have p3 : (Op.equalIn (d + 1) f.type (.string a) (.string b)).run Tryd.prog w = .ok (a.toList == b.toList) w := by rw [ht]; exact run_equalIn_string w d 23 a b Tryd.underlying23
  rw [← beq_toListBytes, beqB] at p3
  rw [Op.eqFields, if_pos hn']
  simp only [Sem.run_bind, p1, p2, Result.andThen_ok, p3]
  by_cases h : a = b
  · simp [h]
  · simp [h]
theorem eqf_ent (x y : Ent) (w : World) : (Op.eqFields 9999 (encE x).toArray (encE y).toArray (Tryd.prog.fieldsOf 31).toList).run Tryd.prog w = .ok (decide (x = y)) w := by
  have hf := fields31
  generalize (Tryd.prog.fieldsOf 31).toList = fs at hf ⊢
  obtain ⟨f0, fs, rfl⟩ : ∃ f r, fs = f :: r := by cases fs with | nil => simp at hf | cons f r => exact ⟨f, r, rfl⟩
  obtain ⟨f1, fs, rfl⟩ : ∃ f r, fs = f :: r := by cases fs with | nil => simp at hf | cons f r => exact ⟨f, r, rfl⟩
  obtain ⟨f2, fs, rfl⟩ : ∃ f r, fs = f :: r := by cases fs with | nil => simp at hf | cons f r => exact ⟨f, r, rfl⟩
  obtain ⟨f3, fs, rfl⟩ : ∃ f r, fs = f :: r := by cases fs with | nil => simp at hf | cons f r => exact ⟨f, r, rfl⟩
  obtain ⟨f4, fs, rfl⟩ : ∃ f r, fs = f :: r := by cases fs with | nil => simp at hf | cons f r => exact ⟨f, r, rfl⟩
  simp only [List.map_cons, List.cons.injEq, Prod.mk.injEq, List.map_eq_nil_iff] at hf
  obtain ⟨⟨n0, t0, o0⟩, ⟨n1, t1, o1⟩, ⟨n2, t2, o2⟩, ⟨n3, t3, o3⟩, ⟨n4, t4, o4⟩, rfl⟩ := hf
  obtain ⟨k, a, b, c, d⟩ := x
  obtain ⟨k2, a2, b2, c2, d2⟩ := y
  simp only [encE]
  rw [step_str w 9998 f0 _ _ _ k k2 n0 t0 (by rw [o0]; rfl) (by rw [o0]; rfl), step_int w 9998 f1 _ _ _ a a2 n1 t1 (by rw [o1]; rfl) (by rw [o1]; rfl), step_int w 9998 f2 _ _ _ b b2 n2 t2 (by rw [o2]; rfl) (by rw [o2]; rfl), step_int w 9998 f3 _ _ _ c c2 n3 t3 (by rw [o3]; rfl) (by rw [o3]; rfl), step_int w 9998 f4 _ _ _ d d2 n4 t4 (by rw [o4]; rfl) (by rw [o4]; rfl)]
  simp only [Ent.mk.injEq, Op.eqFields, Sem.run_pure]
  by_cases h0 : k = k2 <;> by_cases h1 : a = a2 <;> by_cases h2 : b = b2 <;> by_cases h3 : c = c2 <;> by_cases h4 : d = d2 <;> simp [h0, h1, h2, h3, h4]
set_option maxRecDepth 100000 in
theorem eq_ent (x y : Ent) (w : World) : (binOp .eql 31 (.agg (encE x).toArray) (.agg (encE y).toArray)).run Tryd.prog w = .ok (.bool (decide (x = y))) w := by
  rw [run_eql_struct, run_equalIn_struct w 9999 31 _ _ Tryd.underlying31 (by kernel_rfl), eqf_ent]
  rfl
set_option maxRecDepth 100000 in
theorem ne_ent (x y : Ent) (w : World) : (binOp .neq 31 (.agg (encE x).toArray) (.agg (encE y).toArray)).run Tryd.prog w = .ok (.bool (!decide (x = y))) w := by
  rw [run_neq_struct, run_equalIn_struct w 9999 31 _ _ Tryd.underlying31 (by kernel_rfl), eqf_ent]
  rfl
theorem guard31 : Tryd.prog.eqGuardType Tryd.prog.depth 31 = false := by kernel_rfl
end Go.Proofs.YtpcmminokhmkjaaDoor.St
