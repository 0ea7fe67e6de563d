/-
  The contract of the document's own PutRoot. Conditions: each law's own.
-/
import Derived.Test.YtcgbaiogbcodcaaGreatDoorRf
import Derived.Deep.RegionHeld3
import Derived.Deep.RegionLaw
namespace Go.Proofs.YtcgbaiogbcodcaaGreatDoor.Sh
open Go.RowKit Go.Lib Lb

theorem cell_kept {w w' : World} (hb : Below w.heap.size w w') {a : Addr} {v : Value} (hc : w.cell? a = some v) : w'.cell? a = some v := (hb.cell (World.block_lt_of_cell? w a hc)).trans hc
theorem step_app_len {w : World} {ops : Array Oper} {o : Oper} {a : Act} {K : Act → World → Prop} {Q : Exit → Act → World → Prop} {E : Prop} {P : Program} {t e : TypeId} (hgd : o.guard = none) (s x : Operand)
    (ho : o.op = .call { callee := .builtin .append, args := #[s, x], argTypes := #[t, t] })
    (ht : P.underlying t = some (.slice e)) (hinf : (P.info? e).map (fun i => (i.zero, i.size, i.bytes)) = some (some (.int .u8 0), 1, 1))
    (base : Nat) (v : Value) (xs l : List UInt8) (hs : a.eval s = v) (hown : w.ownsRow base e 1 v xs.length (bs xs))
    (ad : Addr) (m c : Nat) (hx : a.eval x = .slice (some ad) m c) (hr : Byt w (some ad) l) (hm : Hid (l.length = m))
    (h47 : xs.length + m ≤ 140737488355328) (hbase : base ≤ w.heap.size)
    (h : ∀ v' w', w'.ownsRow base e 1 v' (xs ++ l).length (bs (xs ++ l)) → w.grownBy w' v.ownBlock → K (a.put o.dst v') w') :
    if Region.wanted o (yielded ops a.tmps) = true then Oper.wp P o a w K Q else E := by
  have hm' : l.length = m := hm
  subst hm'
  exact step_app hgd s x ho ht hinf base v xs l hs hown ad c hx hr h47 hbase h
/-- a row of the call's own that holds something -/
theorem own_some {w : World} {B : Nat} {v : Value} {l : List UInt8} (h : Own w B v l) (hl : 1 ≤ l.length) : ∃ g cap, v = .slice (some ⟨g, 0, none⟩) l.length cap ∧ B ≤ g ∧ g < w.heap.size ∧ l.length ≤ cap ∧ cap ≤ 9223372036854775807 ∧ Byt w (some ⟨g, 0, none⟩) l := by
  have hh := h
  obtain ⟨ao, c, rfl, h1, h2, h3, h4⟩ := own_byt hh
  obtain ⟨_, ⟨e0, hl0⟩ | ⟨g, cap, cur, e1, e2, e3, _⟩⟩ := h
  · omega
  · injection e1 with e1 e4 e5
    subst e1
    exact ⟨g, c, rfl, e2, (Array.getElem?_eq_some_iff.1 e3).1, h1, h2, h3⟩
theorem numL_len (x : Int) : 1 ≤ (numL x).length ∧ (numL x).length ≤ 10 := putL_len x.toNat
theorem own_below {w w' : World} {B : Nat} {v : Value} {l : List UInt8} (h : Own w B v l) (hb : Below w.heap.size w w') : Own w' B v l := by
  obtain ⟨h1, h2 | ⟨g, cap, cur, e1, e2, e3, e4⟩⟩ := h
  · exact ⟨h1, Or.inl h2⟩
  · exact ⟨h1, Or.inr ⟨g, cap, cur, e1, e2, (hb.block g (Array.getElem?_eq_some_iff.1 e3).1).trans e3, e4⟩⟩
theorem own_grow {w0 w w' : World} {v : Value} {B : Nat} {l : List UInt8} (ho : Own w B v l) (hB : B = w0.heap.size) (hb : Below w0.heap.size w0 w) (hg : w.grownBy w' v.ownBlock) : Below w0.heap.size w0 w' := by
  subst hB
  exact hb.grown hg hb.size (fun k hk => (ho.lt k hk).1)
theorem own_ne {w : World} {B k : Nat} {v : Value} {l : List UInt8} (h : Own w B v l) (hk : k < B) : some k ≠ v.ownBlock := fun e => by
  have := (h.lt k e.symm).1
  omega
theorem pair_kept {W W' : World} (hb : Below W.heap.size W W') {a b : Addr} {u v : Value} (h : W.cell? a = some u ∧ W.cell? b = some v) : W'.cell? a = some u ∧ W'.cell? b = some v := ⟨cell_kept hb h.1, cell_kept hb h.2⟩
theorem pair_grown {W W' : World} {k : Option Nat} (hg : W.grownBy W' k) {a b : Addr} {u v : Value} (ha : some a.block ≠ k) (hb : some b.block ≠ k) (h : W.cell? a = some u ∧ W.cell? b = some v) : W'.cell? a = some u ∧ W'.cell? b = some v := ⟨hg.cell h.1 ha, hg.cell h.2 hb⟩
/-- what a maker of bytes gives: the bytes and no error, or nothing and the error -/
def Gives (w : World) (p : Prop) (l : List UInt8) (er : Int) (e : Ending) (w' : World) : Prop :=
  Below w.heap.size w w' ∧ ((p ∧ ∃ v, e = .returned (.tuple #[v, .int .i64 0]) ∧ Own w' w.heap.size v l) ∨ (¬ p ∧ e = .returned (.tuple #[.slice none 0 0, .int .i64 er])))
end Go.Proofs.YtcgbaiogbcodcaaGreatDoor.Sh
