/-
  More small laws for the walks of Write: worlds of the call's own, what Write leaves at its end. Conditions: each law's own.
-/
import Derived.Test.YtekaboomhljdoaaGreatDoorWj
import Derived.Deep.RegionLaw
import Derived.Deep.DeepCutAuto
import Derived.Deep.CutRange
namespace Go.Proofs.YtekaboomhljdoaaGreatDoor.Sh
open Go.RowKit Go.Lib

theorem Bx.drew {w wr : World} {ha : Option Addr} {hn hc : Nat} {ba : Option Addr} {bn bc N : Nat} (h : Bx w wr ha hn hc ba bn bc N) : Bx w wr.drew ha hn hc ba bn bc N := ⟨h.c0, h.c1, h.c2, h.out, h.low.drew⟩
theorem Bx.drewN {w wr : World} {ha : Option Addr} {hn hc : Nat} {ba : Option Addr} {bn bc N : Nat} (h : Bx w wr ha hn hc ba bn bc N) (n : Nat) : Bx w (wr.drewN n) ha hn hc ba bn bc N := ⟨h.c0, h.c1, h.c2, h.out, below_drewN h.low n⟩
theorem Blk.row {w : World} {g : Nat} {cs l : List Value} {t : TypeId} (h : Blk w g cs t) : Blk (w.setRow g l.toArray) g l t := setRow_heap w g _ _ t (0, 0) h
theorem Bx.row {w wr : World} {ha : Option Addr} {hn hc : Nat} {ba : Option Addr} {bn bc N : Nat} (h : Bx w wr ha hn hc ba bn bc N) {g : Nat} (hg : w.heap.size + 1 < g) (cs : Array Value) : Bx w (wr.setRow g cs) ha hn hc ba bn bc N :=
  h.upto (K := g) ((Below.refl g wr).setRow (Nat.le_refl _) cs) hg
section
variable {P : Program} {o : Oper} {a : Act} {w : World} {K : Act → World → Prop} {Q : Exit → Act → World → Prop}
theorem wp_s2a {t e : TypeId} {n : Nat} (x : Operand) (ho : o.op = .sliceToArrayPointer t x) (ht : P.underlying t = some (.array n e)) (b : Option Addr) (l c : Nat) (hx : a.eval x = .slice b l c) (hl : n ≤ l) (hK : K (a.put o.dst (.pointer b)) w) : o.wp P a w K Q := by
  unfold Oper.wp execOp
  simp [ho, hx, Instr.arrayAt, run_underlying ht, Nat.not_lt.2 hl, Result.andThen]
  exact hK
end
theorem blk8 {w : World} {g : Nat} {x0 x1 x2 x3 x4 x5 x6 x7 z0 z1 z2 z3 z4 z5 z6 z7 : UInt32} (h : Blk w g (us [x0, x1, x2, x3, x4, x5, x6, x7]) 156) :
    Blk ((((((((w.setCell ⟨g, 0, none⟩ (.int .u32 (z0.toNat : Int))).setCell ⟨g, 1, none⟩ (.int .u32 (z1.toNat : Int))).setCell ⟨g, 2, none⟩ (.int .u32 (z2.toNat : Int))).setCell ⟨g, 3, none⟩ (.int .u32 (z3.toNat : Int))).setCell ⟨g, 4, none⟩ (.int .u32 (z4.toNat : Int))).setCell ⟨g, 5, none⟩ (.int .u32 (z5.toNat : Int))).setCell ⟨g, 6, none⟩ (.int .u32 (z6.toNat : Int))).setCell ⟨g, 7, none⟩ (.int .u32 (z7.toNat : Int))) g (us [z0, z1, z2, z3, z4, z5, z6, z7]) 156 :=
  (((((((h.set 0 _).set 1 _).set 2 _).set 3 _).set 4 _).set 5 _).set 6 _).set 7 _
theorem bx8 {w wr : World} {ha : Option Addr} {hn hc : Nat} {ba : Option Addr} {bn bc N g : Nat} {z0 z1 z2 z3 z4 z5 z6 z7 : UInt32} (h : Bx w wr ha hn hc ba bn bc N) (hg : w.heap.size + 1 < g) :
    Bx w ((((((((wr.setCell ⟨g, 0, none⟩ (.int .u32 (z0.toNat : Int))).setCell ⟨g, 1, none⟩ (.int .u32 (z1.toNat : Int))).setCell ⟨g, 2, none⟩ (.int .u32 (z2.toNat : Int))).setCell ⟨g, 3, none⟩ (.int .u32 (z3.toNat : Int))).setCell ⟨g, 4, none⟩ (.int .u32 (z4.toNat : Int))).setCell ⟨g, 5, none⟩ (.int .u32 (z5.toNat : Int))).setCell ⟨g, 6, none⟩ (.int .u32 (z6.toNat : Int))).setCell ⟨g, 7, none⟩ (.int .u32 (z7.toNat : Int))) ha hn hc ba bn bc N :=
  h.upto (K := g) ((((((((Below.refl g wr).setCell (Nat.le_refl g) _).setCell (Nat.le_refl g) _).setCell (Nat.le_refl g) _).setCell (Nat.le_refl g) _).setCell (Nat.le_refl g) _).setCell (Nat.le_refl g) _).setCell (Nat.le_refl g) _ |>.setCell (Nat.le_refl g) _) hg
theorem byt_set {w : World} {ao : Option Addr} {l : List UInt8} (h : Byt w ao l) (p : Addr) (u : Value) (hne : ∀ b o, ao = some ⟨b, o, none⟩ → p.block < b) : Byt (w.setCell p u) ao l := fun hl => by
  obtain ⟨b, o, h1, h2, h3⟩ := h hl
  refine ⟨b, o, h1, by simpa [World.setCell] using h2, fun j hj => ?_⟩
  rw [World.cell?_setCell_other _ _ _ _ (by intro h0; have := hne b o h1; rw [h0] at this; exact absurd this (Nat.lt_irrefl _))]
  exact h3 j hj
theorem own_far {w : World} {B K c6 n : Nat} {a6 : Option Addr} {l : List UInt8} (h : w.ownsRow B 5 1 (.slice a6 n c6) l.length (bs l)) (hB : K < B) : ∀ b o, a6 = some ⟨b, o, none⟩ → K < b := fun b o h0 => by
  subst h0
  have := (h.lt b rfl).1
  omega
theorem write_fin {w w6 : World} {ha : Option Addr} {hn hc : Nat} {ba : Option Addr} {bn bc N q c6 N2 : Nat} {a6 : Option Addr} {l : List UInt8} {y0 y1 y2 y3 y4 y5 y6 y7 : UInt32} (BX : Bx w w6 ha hn hc ba bn bc N) (Q : Blk w6 q (us [y0, y1, y2, y3, y4, y5, y6, y7]) 156) (hq : w.heap.size + 1 < q)
    (R : Byt w6 a6 l) (N6 : a6 = none → c6 = 0) (h1 : l.length ≤ c6) (h2 : c6 ≤ 9223372036854775807) (hne : ∀ b o, a6 = some ⟨b, o, none⟩ → w.heap.size + 1 < b) (hN : N2 < 18446744073709551616) :
    Blk (((w6.setCell ⟨w.heap.size + 1, 0, none⟩ (.slice (some ⟨q, 0, none⟩) 8 8)).setCell ⟨w.heap.size + 1, 1, none⟩ (.slice a6 l.length c6)).setCell ⟨w.heap.size + 1, 2, none⟩ (.int .u64 (N2 : Int))) (w.heap.size + 1) [.slice (some ⟨q, 0, none⟩) 8 8, .slice a6 l.length c6, .int .u64 (N2 : Int)] 115 ∧
    Below w.heap.size w (((w6.setCell ⟨w.heap.size + 1, 0, none⟩ (.slice (some ⟨q, 0, none⟩) 8 8)).setCell ⟨w.heap.size + 1, 1, none⟩ (.slice a6 l.length c6)).setCell ⟨w.heap.size + 1, 2, none⟩ (.int .u64 (N2 : Int))) ∧
    ShaV (((w6.setCell ⟨w.heap.size + 1, 0, none⟩ (.slice (some ⟨q, 0, none⟩) 8 8)).setCell ⟨w.heap.size + 1, 1, none⟩ (.slice a6 l.length c6)).setCell ⟨w.heap.size + 1, 2, none⟩ (.int .u64 (N2 : Int))) (.agg #[.slice (some ⟨q, 0, none⟩) 8 8, .slice a6 l.length c6, .int .u64 (N2 : Int)]) ⟨[y0, y1, y2, y3, y4, y5, y6, y7], l, N2⟩ (some ⟨q, 0, none⟩) 8 a6 c6 := by
  refine ⟨((BX.out.set 0 _).set 1 _).set 2 _, ((BX.low.setCell (Nat.le_succ _) _).setCell (Nat.le_succ _) _).setCell (Nat.le_succ _) _, {
    val := rfl
    wrd := ?_
    hnil := fun h => by cases h
    hcap := Nat.le_refl _
    hmax := by decide
    byt := byt_set (byt_set (byt_set R _ _ hne) _ _ hne) _ _ hne
    bnil := N6
    bcap := h1
    bmax := h2
    num := hN }⟩
  have hqn : q ≠ w.heap.size + 1 := by omega
  exact (((Q.other _ hqn).other _ hqn).other _ hqn).wrd
theorem range_byt {w : World} {b o : Nat} {l : List UInt8} (h : Byt w (some ⟨b, o, none⟩) l) : w.rangeAt b o (bs l) := fun j v hv => by
  have hj : j < l.length := by
    have := (List.getElem?_eq_some_iff.1 hv).1
    rwa [bs_len] at this
  obtain ⟨b', o', h1, _, h3⟩ := h (by intro h0; rw [h0] at hj; simp at hj)
  injection h1 with h1
  injection h1 with e1 e2
  subst e1
  subst e2
  rw [h3 j hj, ← hv, bs_get l j hj]
theorem still_load_mid {P : Program} {ops : Array Oper} {o : Oper} {a : Act} {w : World} {next : Act → Prop} {E : Prop} (hgd : o.guard = none) (ty : TypeId) (x : Operand) (ho : o.op = .load ty x)
    (b off : Nat) (hx : a.eval x = .pointer (some ⟨b, off, none⟩)) (cs : List Value) (d : TypeDesc) (hc : w.rangeAt b off cs)
    (hu : P.underlying ty = some d) (hd : d.isRow = true) (hi : (P.info? ty).map (·.size) = some cs.length)
    (h : next (a.put o.dst (.agg cs.toArray))) : if Region.wanted o (yielded ops a.tmps) = true then o.still P a w next else E := by
  have hw : Region.wanted o (yielded ops a.tmps) = true := by simp [Region.wanted, hgd]
  rw [if_pos hw]
  unfold Oper.still execOp
  simp only [ho, hx, Instr.loadAt, Instr.sureAddr, Sem.run_bind, Sem.run_pure, Result.andThen_ok, run_loadVar_mid w b off ty cs d hc hu hd hi]
  exact ⟨rfl, h⟩
def lenOf : Value → Nat
  | .slice _ n _ => n
  | _ => 0
theorem after_app {w : World} {q : Nat} {v : Value} {X : List UInt8} (hX : X.length = 64) (hown : w.ownsRow q 5 1 v X.length (bs X)) :
    ∃ g c, v = .slice (some ⟨g, 0, none⟩) 64 c ∧ Hid (w.rangeAt g 0 (bs X)) := by
  rw [hX] at hown
  obtain ⟨g, c, rfl, _, _⟩ := World.ownsRow.form hown (by decide)
  exact ⟨g, c, rfl, range_own hown hX⟩
theorem eight {w : World} {g : Nat} {z0 z1 z2 z3 z4 z5 z6 z7 : UInt32} (h : Blk w g (us [z0, z1, z2, z3, z4, z5, z6, z7]) 156) : w.cell? ⟨g, 0, none⟩ = some (.int .u32 (z0.toNat : Int)) ∧ w.cell? ⟨g, 1, none⟩ = some (.int .u32 (z1.toNat : Int)) ∧ w.cell? ⟨g, 2, none⟩ = some (.int .u32 (z2.toNat : Int)) ∧ w.cell? ⟨g, 3, none⟩ = some (.int .u32 (z3.toNat : Int)) ∧ w.cell? ⟨g, 4, none⟩ = some (.int .u32 (z4.toNat : Int)) ∧ w.cell? ⟨g, 5, none⟩ = some (.int .u32 (z5.toNat : Int)) ∧ w.cell? ⟨g, 6, none⟩ = some (.int .u32 (z6.toNat : Int)) ∧ w.cell? ⟨g, 7, none⟩ = some (.int .u32 (z7.toNat : Int)) :=
  ⟨h.cell 0, h.cell 1, h.cell 2, h.cell 3, h.cell 4, h.cell 5, h.cell 6, h.cell 7⟩
end Go.Proofs.YtekaboomhljdoaaGreatDoor.Sh
