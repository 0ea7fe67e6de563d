/-
  More small laws for the walks of Write: worlds of the call's own, what Write leaves at its end. Conditions: each law's own.
-/
import Derived.Test.YtpcmminokhmkjaaDoorWj
import Derived.Deep.RegionLaw
import Derived.Deep.DeepCutAuto
import Derived.Deep.CutRange
namespace Go.Proofs.YtpcmminokhmkjaaDoor.Sh
open Go.RowKit Go.Lib

theorem Bx.drew {w wr : World} {ha : Option Addr} {hn hc : Nat} {ba : Option Addr} {bn bc N : Nat} (h : Bx w wr ha hn hc ba bn bc N) : Bx w wr.drew ha hn hc ba bn bc N := ⟨h.c0, h.c1, h.c2, h.out, h.low.drew⟩
theorem Bx.drewN {w wr : World} {ha : Option Addr} {hn hc : Nat} {ba : Option Addr} {bn bc N : Nat} (h : Bx w wr ha hn hc ba bn bc N) (n : Nat) : Bx w (wr.drewN n) ha hn hc ba bn bc N := ⟨h.c0, h.c1, h.c2, h.out, below_drewN h.low n⟩
section
variable {P : Program} {o : Oper} {a : Act} {w : World} {K : Act → World → Prop} {Q : Exit → Act → World → Prop}
end
theorem byt_set {w : World} {ao : Option Addr} {l : List UInt8} (h : Byt w ao l) (p : Addr) (u : Value) (hne : ∀ b o, ao = some ⟨b, o, none⟩ → p.block < b) : Byt (w.setCell p u) ao l := fun hl => by
  obtain ⟨b, o, h1, h2, h3⟩ := h hl
  refine ⟨b, o, h1, by simpa [World.setCell] using h2, fun j hj => ?_⟩
  rw [World.cell?_setCell_other _ _ _ _ (by intro h0; have := hne b o h1; rw [h0] at this; exact absurd this (Nat.lt_irrefl _))]
  exact h3 j hj
theorem own_far {w : World} {B K c6 n : Nat} {a6 : Option Addr} {l : List UInt8} (h : w.ownsRow B 5 1 (.slice a6 n c6) l.length (bs l)) (hB : K < B) : ∀ b o, a6 = some ⟨b, o, none⟩ → K < b := fun b o h0 => by
  subst h0
  have := (h.lt b rfl).1
  omega
theorem range_byt {w : World} {b o : Nat} {l : List UInt8} (h : Byt w (some ⟨b, o, none⟩) l) : w.rangeAt b o (bs l) := fun j v hv => by
  have hj : j < l.length := by
    have := (List.getElem?_eq_some_iff.1 hv).1
    rwa [bs_len] at this
  obtain ⟨b', o', h1, _, h3⟩ := h (by intro h0; rw [h0] at hj; simp at hj)
  injection h1 with h1
  injection h1 with e1 e2
  subst e1
  subst e2
  rw [h3 j hj, ← hv, bs_get l j hj]
theorem still_load_mid {P : Program} {ops : Array Oper} {o : Oper} {a : Act} {w : World} {next : Act → Prop} {E : Prop} (hgd : o.guard = none) (ty : TypeId) (x : Operand) (ho : o.op = .load ty x)
    (b off : Nat) (hx : a.eval x = .pointer (some ⟨b, off, none⟩)) (cs : List Value) (d : TypeDesc) (hc : w.rangeAt b off cs)
    (hu : P.underlying ty = some d) (hd : d.isRow = true) (hi : (P.info? ty).map (·.size) = some cs.length)
    (h : next (a.put o.dst (.agg cs.toArray))) : if Region.wanted o (yielded ops a.tmps) = true then o.still P a w next else E := by
  have hw : Region.wanted o (yielded ops a.tmps) = true := by simp [Region.wanted, hgd]
  rw [if_pos hw]
  unfold Oper.still execOp
  simp only [ho, hx, Instr.loadAt, Instr.sureAddr, Sem.run_bind, Sem.run_pure, Result.andThen_ok, run_loadVar_mid w b off ty cs d hc hu hd hi]
  exact ⟨rfl, h⟩
def lenOf : Value → Nat
  | .slice _ n _ => n
  | _ => 0
end Go.Proofs.YtpcmminokhmkjaaDoor.Sh
