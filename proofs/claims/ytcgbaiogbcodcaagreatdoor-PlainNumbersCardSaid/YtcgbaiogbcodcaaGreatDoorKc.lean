/-
  Small laws on rows of bytes, over this seat's program: a row of the call's own, a slice cut short, append as a step of a region that draws its order. Conditions: each law's own.
-/
import Derived.Test.YtcgbaiogbcodcaaGreatDoorKa
import Derived.Outline
import Derived.Laws.BitsAllLaws
import Derived.Deep.QuietTactic
import Derived.BigQuiet
import Derived.Deep.RegionWith
import Derived.Deep.RegionHeld3
import Derived.StillTailTactics
import Derived.WalkLawsBesides
import Derived.Laws.MakeOwn
namespace Go.Proofs.YtcgbaiogbcodcaaGreatDoor.Sh
open Go.RowKit Go.Lib

theorem ret_u32 {a b : Int} (h : a = b) : Ending.returned (.int .u32 a) = .returned (.int .u32 b) := by rw [h]
theorem val_u32 {a b : Int} (h : a = b) : Value.int .u32 a = .int .u32 b := by rw [h]
/-- a row of bytes of the call's own -/
def Own (w : World) (B : Nat) (v : Value) (l : List UInt8) : Prop := w.ownsRow B 5 1 v l.length (bs l)
theorem own_lit (w : World) (l : List UInt8) (B : Nat) (hB : B ≤ w.heap.size) (hl : l.length ≤ 9223372036854775807) : Own (w.alloc (.cells (bs l).toArray 5)) B (.slice (some ⟨w.heap.size, 0, none⟩) l.length l.length) l := by
  have h := World.ownsRow_lit (e := 5) (size := 1) w (bs l).toArray l.length hB (by unfold maxLen; omega) (by simp [bs])
  simpa [Own] using h
theorem info5 : (Tryz.prog.info? 5).map (fun i => (i.zero, i.size, i.bytes)) = some (some (.int .u8 0), 1, 1) := by kernel_rfl
theorem ret_bool {a b : Bool} (h : a = b) : Ending.returned (.bool a) = .returned (.bool b) := by rw [h]
theorem below_drewN {B : Nat} {a w : World} (h : Below B a w) (n : Nat) : Below B a (w.drewN n) := by
  first | exact ⟨h.os, h.tape, h.output, h.size, h.block⟩ | (induction n with | zero => exact h | succ n ih => exact ih.drew)
theorem Own.low {w : World} {B B' : Nat} {v : Value} {l : List UInt8} (h : Own w B v l) (hb : B' ≤ B) : Own w B' v l := by
  obtain ⟨h1, h2 | ⟨g, cap, cur, e1, e2, e3⟩⟩ := h
  · exact ⟨h1, Or.inl h2⟩
  · exact ⟨h1, Or.inr ⟨g, cap, cur, e1, Nat.le_trans hb e2, e3⟩⟩
theorem cell_new (W : World) (cs : Array Value) (j k : Nat) {t : TypeId} {v : Value} (hk : k = W.heap.size) (h : cs[j]? = some v) : (W.alloc (.cells cs t)).cell? ⟨k, j, none⟩ = some v := by
  subst hk
  rw [World.cell?_alloc_new, h]
theorem Byt.drop {w : World} {b o : Nat} {l : List UInt8} (h : Byt w (some ⟨b, o, none⟩) l) (n : Nat) : Byt w (some ⟨b, o + n, none⟩) (l.drop n) := fun hne => by
  obtain ⟨b', o', h1, h2, h3⟩ := h (fun h0 => hne (by rw [h0]; simp))
  injection h1 with h1
  injection h1 with h1 h4
  subst h1
  subst h4
  refine ⟨b, o + n, rfl, h2, fun j hj => ?_⟩
  rw [List.length_drop] at hj
  rw [Nat.add_assoc, h3 (n + j) (by omega), List.getElem_drop]
theorem cell_mark (W : World) (cs : Array Value) (t : TypeId) (f : Nat × Nat) (j : Nat) : (W.alloc (.cells cs t f)).cell? ⟨W.heap.size, j, none⟩ = cs[j]? := by
  show (match (W.heap.push _)[W.heap.size]? with | some (.cells cs ..) => _ | _ => _) = _
  simp
section
variable {P : Program} {t e : TypeId}
/-- append to a row of the call's own, as one step of a region that draws -/
theorem step_app {w : World} {ops : Array Oper} {o : Oper} {a : Act} {K : Act → World → Prop} {Q : Exit → Act → World → Prop} {E : Prop} (hgd : o.guard = none) (s x : Operand)
    (ho : o.op = .call { callee := .builtin .append, args := #[s, x], argTypes := #[t, t] })
    (ht : P.underlying t = some (.slice e)) (hinf : (P.info? e).map (fun i => (i.zero, i.size, i.bytes)) = some (some (.int .u8 0), 1, 1))
    (base : Nat) (v : Value) (xs l : List UInt8) (hs : a.eval s = v) (hown : w.ownsRow base e 1 v xs.length (bs xs))
    (ad : Addr) (c : Nat) (hx : a.eval x = .slice (some ad) l.length c) (hr : Byt w (some ad) l)
    (h47 : xs.length + l.length ≤ 140737488355328) (hbase : base ≤ w.heap.size)
    (h : ∀ v' w', w'.ownsRow base e 1 v' (xs ++ l).length (bs (xs ++ l)) → w.grownBy w' v.ownBlock → K (a.put o.dst v') w') :
    if Region.wanted o (yielded ops a.tmps) = true then Oper.wp P o a w K Q else E := by
  have hw : Region.wanted o (yielded ops a.tmps) = true := by simp [Region.wanted, hgd]
  rw [if_pos hw]
  obtain ⟨i0, hi, hz0, hz1, hz2⟩ := info_parts hinf
  refine wp_append_own w s x t ho base e i0 (.int .u8 0) 1 1 ht hi hz0 hz1 hz2 rfl (by decide) v xs.length (bs xs) hs hown ad l.length c (bs l) hx (by simp [bs]) ?_ (bs_one l)
    (by unfold maxLen; omega) (by omega) hbase (fun v' w' h1 h2 _ => h v' w' (by rw [List.length_append, bs_app]; exact h1) h2)
  intro j u hj
  have hjl : j < l.length := by
    have := (List.getElem?_eq_some_iff.1 hj).1
    simpa [bs] using this
  obtain ⟨b, o', h0, _, hcell⟩ := hr (by intro h0; rw [h0] at hjl; simp at hjl)
  injection h0 with h0
  subst h0
  rw [WideShapes.add_plain, hcell j hjl]
  rw [bs_get l j hjl] at hj
  exact hj
end

theorem byt_one (w : World) (c : UInt8) (n : Nat) (h : n = c.toNat) : Byt (w.alloc (.cells #[.int .u8 (n : Int)] 5)) (some ⟨w.heap.size, 0, none⟩) [c] := fun _ => by
  refine ⟨w.heap.size, 0, rfl, by simp, fun j hj => ?_⟩
  obtain rfl : j = 0 := by simpa using hj
  rw [World.cell?_alloc_new]
  simp [h]
theorem add_zero (a : Addr) : a.add 0 = a := by
  obtain ⟨b, o, sp⟩ := a
  cases sp <;> simp [Addr.add]
set_option maxRecDepth 100000 in
theorem slice_to (ao : Option Addr) (len c n : Nat) (hn : n ≤ c) (W : World) :
    (Instr.slice 33 (.slice ao len c) none (some (.int .i64 (n : Int))) none).run Tryz.prog W = .ok (.slice ao n c) W := by
  have hs := run_slice_h (P := Tryz.prog) W 33 ao len c (by rw [Tryz.underlying33]; rfl) .i64 (n : Int) (by omega) (by omega)
  rw [hs]
  have e2 : ((n : Int)).toNat = n := by omega
  have e3 : Tryz.prog.elem 33 = 5 := by kernel_rfl
  rw [e2, e3]
  cases ao with
  | none => simp [Tryz.sizeOf5, sliced, Result.andThen]
  | some a => simp [Tryz.sizeOf5, sliced, Result.andThen, add_zero]
end Go.Proofs.YtcgbaiogbcodcaaGreatDoor.Sh
