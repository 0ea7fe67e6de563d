/-
  The walk of the statement ShaWrites. Conditions: the tables of sha stand in memory; words and bytes take at most 2^47 - 4096.
-/
import Derived.Test.YtekmmafgknnmlaaDoorLb
import Derived.Laws.OwnMore
import Derived.Deep.Cut
namespace Go.Proofs.YtekmmafgknnmlaaDoor.Sh
open Go.RowKit Go.Lib

theorem own_lit0 {w : World} {g : Nat} {e : TypeId} (h : Blk w g [] e) : w.ownsRow 0 e 1 (.slice (some ⟨g, 0, none⟩) 0 0) 0 [] :=
  ⟨by simp, .inr ⟨g, 0, #[], rfl, Nat.zero_le _, h, Nat.zero_le _, by unfold maxLen; omega, by simp, by simp⟩⟩
theorem step_fresh_b {P : Program} {t e : TypeId} {w : World} {ops : Array Oper} {o : Oper} {a : Act} {K : Act → World → Prop} {Q : Exit → Act → World → Prop} {E : Prop} (hgd : o.guard = none) (s x : Operand)
    (ho : o.op = .call { callee := .builtin .append, args := #[s, x], argTypes := #[t, t] })
    (ht : P.underlying t = some (.slice e)) (hinf : (P.info? e).map (fun i => (i.zero, i.size, i.bytes)) = some (some (.int .u8 0), 1, 1))
    (g : Nat) (hs : a.eval s = .slice (some ⟨g, 0, none⟩) 0 0) (hL : Blk w g [] e) (l : List UInt8)
    (ao : Option Addr) (m c : Nat) (hx : a.eval x = .slice ao m c) (hr : Byt w ao l) (hn : ao = none → c = 0) (hm : Hid (l.length = m))
    (h47 : m ≤ 140737488355328)
    (h : ∀ a' c' w', w.grownBy w' (some g) → Byt w' a' l → (a' = none → c' = 0) → m ≤ c' → c' ≤ 9223372036854775807 → K (a.put o.dst (.slice a' m c')) w') :
    if Region.wanted o (yielded ops a.tmps) = true then Oper.wp P o a w K Q else E := by
  refine step_app0 hgd s x ho ht hinf 0 (.slice (some ⟨g, 0, none⟩) 0 0) [] l hs (own_lit0 hL) ao m c hx hr hn hm (by simpa using h47) (Nat.zero_le _) (fun v' w' h1 h2 => ?_)
  obtain ⟨a', c', rfl, k1, k2, k3, k4⟩ := own_byt h1
  have hm' : l.length = m := hm
  have e : ([] ++ l).length = m := hm'
  rw [e] at k1 ⊢
  exact h a' c' w' h2 k3 k4 k1 k2
theorem step_fresh_w {P : Program} {t e : TypeId} {w : World} {ops : Array Oper} {o : Oper} {a : Act} {K : Act → World → Prop} {Q : Exit → Act → World → Prop} {E : Prop} (hgd : o.guard = none) (s x : Operand)
    (ho : o.op = .call { callee := .builtin .append, args := #[s, x], argTypes := #[t, t] })
    (ht : P.underlying t = some (.slice e)) (hinf : (P.info? e).map (fun i => (i.zero, i.size, i.bytes)) = some (some (.int .u32 0), 1, 4))
    (g : Nat) (hs : a.eval s = .slice (some ⟨g, 0, none⟩) 0 0) (hL : Blk w g [] e) (l : List UInt32)
    (ao : Option Addr) (m c : Nat) (hx : a.eval x = .slice ao m c) (hr : Wrd w ao l) (hn : ao = none → c = 0) (hm : Hid (l.length = m))
    (h47 : m * 4 ≤ 140737488355328)
    (h : ∀ a' c' w', w.grownBy w' (some g) → Wrd w' a' l → (a' = none → c' = 0) → m ≤ c' → c' ≤ 9223372036854775807 → K (a.put o.dst (.slice a' m c')) w') :
    if Region.wanted o (yielded ops a.tmps) = true then Oper.wp P o a w K Q else E := by
  have hm' : l.length = m := hm
  cases ao with
  | some ad =>
    subst hm'
    refine step_appw hgd s x ho ht hinf 0 (.slice (some ⟨g, 0, none⟩) 0 0) [] l hs (own_lit0 hL) ad c hx hr (by simpa using h47) (Nat.zero_le _) (fun v' w' h1 h2 => ?_)
    obtain ⟨a', c', rfl, k1, k2, k3, k4⟩ := own_wrd h1
    exact h a' c' w' h2 k3 k4 k1 k2
  | none =>
    obtain rfl : l = [] := by
      cases l with
      | nil => rfl
      | cons y r =>
        obtain ⟨b, o, h0, _⟩ := hr (by simp)
        cases h0
    have hc := hn rfl
    subst hc
    subst hm'
    have hw : Region.wanted o (yielded ops a.tmps) = true := by simp [Region.wanted, hgd]
    rw [if_pos hw]
    obtain ⟨i0, hi, _, _, _⟩ := info_parts hinf
    have hrun := run_append_owned_none (P := P) (w := w) 0 t o.type e i0 1 ht hi _ 0 [] (own_lit0 hL)
    have hx0 : a.eval x = .slice none 0 0 := hx
    unfold Oper.wp
    simp [execOp, ho, resolve, invoke, builtin, hs, hx0, hrun, Result.andThen]
    exact h (some ⟨g, 0, none⟩) 0 w (World.grownBy.refl w _) (wrd_nil _ _) (fun h => by cases h) (Nat.le_refl _) (by decide)
theorem Blk.gr {w w' : World} {g b : Nat} {cs : List Value} {t : TypeId} (hg : w.grownBy w' (some g)) (h : Blk w b cs t) (hne : b ≠ g) : Blk w' b cs t := (hg.block b h.lt (by simpa using hne)).trans h
theorem Byt.gr {w w' : World} {g : Nat} {ao : Option Addr} {l : List UInt8} (hg : w.grownBy w' (some g)) (h : Byt w ao l) (hL : Blk w g [] 42 ∨ Blk w g [] 5) : Byt w' ao l := fun hne => by
  obtain ⟨b, o, h1, h2, h3⟩ := h hne
  refine ⟨b, o, h1, Nat.lt_of_lt_of_le h2 hg.size, fun j hj => hg.cell (h3 j hj) ?_⟩
  intro hb
  have hb : b = g := by simpa using hb
  have := h3 j hj
  subst hb
  rcases hL with hL | hL <;> rw [hL.cell] at this <;> cases this
theorem Wrd.gr {w w' : World} {g : Nat} {ao : Option Addr} {l : List UInt32} (hg : w.grownBy w' (some g)) (h : Wrd w ao l) (hL : Blk w g [] 42 ∨ Blk w g [] 5) : Wrd w' ao l := fun hne => by
  obtain ⟨b, o, h1, h2, h3⟩ := h hne
  refine ⟨b, o, h1, Nat.lt_of_lt_of_le h2 hg.size, fun j hj => hg.cell (h3 j hj) ?_⟩
  intro hb
  have hb : b = g := by simpa using hb
  have := h3 j hj
  subst hb
  rcases hL with hL | hL <;> rw [hL.cell] at this <;> cases this

theorem Box.drew {W : World} {a : Nat} {x0 x1 x2 : Value} (h : Box W a x0 x1 x2) : Box W.drew a x0 x1 x2 := ⟨h.c0, h.c1, h.c2, h.lt⟩
/-- three cells of a box stored: what is not the box's stays -/
def set3 (w : World) (p : Nat) (x0 x1 x2 : Value) : World := ((w.setCell ⟨p, 0, none⟩ x0).setCell ⟨p, 1, none⟩ x1).setCell ⟨p, 2, none⟩ x2
theorem set3_cell {w : World} {p b k : Nat} {x0 x1 x2 : Value} (h : b ≠ p) : (set3 w p x0 x1 x2).cell? ⟨b, k, none⟩ = w.cell? ⟨b, k, none⟩ := by
  have ne : ∀ i, (⟨p, i, none⟩ : Addr) ≠ ⟨b, k, none⟩ := fun i h0 => h (by injection h0 with h1 _ _; exact h1.symm)
  unfold set3
  rw [World.cell?_setCell_other _ _ _ _ (ne 2), World.cell?_setCell_other _ _ _ _ (ne 1), World.cell?_setCell_other _ _ _ _ (ne 0)]
theorem set3_cell' {w : World} {p b k : Nat} {x0 x1 x2 : Value} (h : b ≠ p) : (((w.setCell ⟨p, 0, none⟩ x0).setCell ⟨p, 1, none⟩ x1).setCell ⟨p, 2, none⟩ x2).cell? ⟨b, k, none⟩ = w.cell? ⟨b, k, none⟩ := set3_cell h
theorem set3_size (w : World) (p : Nat) (x0 x1 x2 : Value) : (set3 w p x0 x1 x2).heap.size = w.heap.size := by simp [set3, World.setCell]
abbrev Z26 : List Value := [.slice none 0 0, .slice none 0 0, .int .u64 0]
theorem z26_no {k : Nat} {n : Int} : Z26[k]? ≠ some (.int .u8 n) ∧ Z26[k]? ≠ some (.int .u32 n) := by
  match k with
  | 0 => simp
  | 1 => simp
  | 2 => simp
  | k + 3 => simp
theorem byt_set3 {w : World} {p : Nat} {x0 x1 x2 : Value} {ao : Option Addr} {l : List UInt8} {t : TypeId} (h : Byt w ao l) (P : Blk w p Z26 t) : Byt (set3 w p x0 x1 x2) ao l := fun hne => by
  obtain ⟨b, o, h1, h2, h3⟩ := h hne
  refine ⟨b, o, h1, by rw [set3_size]; exact h2, fun j hj => ?_⟩
  rw [set3_cell, h3 j hj]
  intro hb
  have := h3 j hj
  subst hb
  rw [P.cell] at this
  exact z26_no.1 this
theorem wrd_set3 {w : World} {p : Nat} {x0 x1 x2 : Value} {ao : Option Addr} {l : List UInt32} {t : TypeId} (h : Wrd w ao l) (P : Blk w p Z26 t) : Wrd (set3 w p x0 x1 x2) ao l := fun hne => by
  obtain ⟨b, o, h1, h2, h3⟩ := h hne
  refine ⟨b, o, h1, by rw [set3_size]; exact h2, fun j hj => ?_⟩
  rw [set3_cell, h3 j hj]
  intro hb
  have := h3 j hj
  subst hb
  rw [P.cell] at this
  exact z26_no.2 this
theorem below_set3 {B : Nat} {w0 w : World} {p : Nat} {x0 x1 x2 : Value} (h : Below B w0 w) (hp : B ≤ p) : Below B w0 (set3 w p x0 x1 x2) := ((h.setCell hp _).setCell hp _).setCell hp _
theorem ShaV.set3 {w : World} {v : Value} {s : Sha} {ha : Option Addr} {hc : Nat} {ba : Option Addr} {bc : Nat} (h : ShaV w v s ha hc ba bc) {p : Nat} {x0 x1 x2 : Value} {t : TypeId} (P : Blk w p Z26 t) : ShaV (Sh.set3 w p x0 x1 x2) v s ha hc ba bc :=
  { h with wrd := wrd_set3 h.wrd P, byt := byt_set3 h.byt P }
theorem mkSha {w : World} {s : Sha} {a5 a7 : Option Addr} {n m c5 c7 : Nat} (hn : s.H.length = n) (hm : s.B.length = m) (hN : s.N < 18446744073709551616) (W5 : Wrd w a5 s.H) (n5 : a5 = none → c5 = 0) (g51 : n ≤ c5) (g52 : c5 ≤ 9223372036854775807) (R7 : Byt w a7 s.B) (n7 : a7 = none → c7 = 0) (g71 : m ≤ c7) (g72 : c7 ≤ 9223372036854775807) :
    ShaV w (.agg #[.slice a5 n c5, .slice a7 m c7, .int .u64 (s.N : Int)]) s a5 c5 a7 c7 := by
  subst hn
  subst hm
  exact { val := rfl, wrd := W5, hnil := n5, hcap := g51, hmax := g52, byt := R7, bnil := n7, bcap := g71, bmax := g72, num := hN }
/-- a digest of the call's own, laid into a box -/
def Laid (w1 wx : World) (p : Nat) (x0 x1 x2 : Value) (s : Sha) (hx : Option Addr) (hcx : Nat) (bx : Option Addr) (bcx : Nat) : Prop :=
  Box wx p x0 x1 x2 ∧ ShaV wx (.agg #[x0, x1, x2]) s hx hcx bx bcx ∧ Below w1.heap.size w1 wx
theorem laid_set {w1 w : World} {p : Nat} {x0 x1 x2 : Value} {s : Sha} {hx : Option Addr} {hcx : Nat} {bx : Option Addr} {bcx : Nat} {t : TypeId} (hb : Below w1.heap.size w1 w) (P : Blk w p Z26 t) (hp : w1.heap.size ≤ p) (h : ShaV w (.agg #[x0, x1, x2]) s hx hcx bx bcx) :
    Laid w1 (Sh.set3 w p x0 x1 x2) p x0 x1 x2 s hx hcx bx bcx := ⟨Box.set P, h.set3 P, below_set3 hb hp⟩
theorem laid_new {w1 w : World} {x0 x1 x2 : Value} {s : Sha} {hx : Option Addr} {hcx : Nat} {bx : Option Addr} {bcx : Nat} {t : TypeId} (hb : Below w1.heap.size w1 w) (h : ShaV w (.agg #[x0, x1, x2]) s hx hcx bx bcx) :
    Laid w1 (w.alloc (.cells #[x0, x1, x2] t)) w.heap.size x0 x1 x2 s hx hcx bx bcx := ⟨Box.new w x0 x1 x2 t, h.below ((Below.refl _ w).alloc (Nat.le_refl _) _), below_alloc hb _⟩

theorem keep3 {wc w' : World} {a : Nat} {y0 y1 y2 : Value} (hb : Below wc.heap.size wc w') (Y : Box wc a y0 y1 y2) :
    w'.cell? ⟨a, 0, none⟩ = some y0 ∧ w'.cell? ⟨a, 1, none⟩ = some y1 ∧ w'.cell? ⟨a, 2, none⟩ = some y2 := ⟨(Y.low hb).c0, (Y.low hb).c1, (Y.low hb).c2⟩
theorem keep6 {wc w' : World} {a p : Nat} {y0 y1 y2 x0 x1 x2 : Value} (hb : Below wc.heap.size wc w') (Y : Box wc a y0 y1 y2) (X : Box wc p x0 x1 x2) :
    w'.cell? ⟨a, 0, none⟩ = some y0 ∧ w'.cell? ⟨a, 1, none⟩ = some y1 ∧ w'.cell? ⟨a, 2, none⟩ = some y2 ∧ w'.cell? ⟨p, 0, none⟩ = some x0 ∧ w'.cell? ⟨p, 1, none⟩ = some x1 ∧ w'.cell? ⟨p, 2, none⟩ = some x2 :=
  ⟨(Y.low hb).c0, (Y.low hb).c1, (Y.low hb).c2, (X.low hb).c0, (X.low hb).c1, (X.low hb).c2⟩
/-- two digests answered, each laid into a box of its own -/
def Two (wc wx : World) (p6 p7 : Nat) (a0 a1 a2 b0 b1 b2 : Value) (s : Sha) (h6 : Option Addr) (c6 : Nat) (e6 : Option Addr) (f6 : Nat) (h7 : Option Addr) (c7 : Nat) (e7 : Option Addr) (f7 : Nat) : Prop :=
  Box wx p6 a0 a1 a2 ∧ ShaV wx (.agg #[a0, a1, a2]) s h6 c6 e6 f6 ∧ Box wx p7 b0 b1 b2 ∧ ShaV wx (.agg #[b0, b1, b2]) s h7 c7 e7 f7 ∧ Below wc.heap.size wc wx
theorem box_alloc {w : World} {a : Nat} {x0 x1 x2 : Value} (h : Box w a x0 x1 x2) (o : Obj) : Box (w.alloc o) a x0 x1 x2 := h.low ((Below.refl _ w).alloc (Nat.le_refl _) _)
theorem sha_alloc {w : World} {v : Value} {s : Sha} {ha : Option Addr} {hc : Nat} {ba : Option Addr} {bc : Nat} (h : ShaV w v s ha hc ba bc) (o : Obj) : ShaV (w.alloc o) v s ha hc ba bc := h.below ((Below.refl _ w).alloc (Nat.le_refl _) _)
section
variable {wc w7 : World} {p6 p7 : Nat} {a0 a1 a2 b0 b1 b2 : Value} {s : Sha} {h6 : Option Addr} {c6 : Nat} {e6 : Option Addr} {f6 : Nat} {h7 : Option Addr} {c7 : Nat} {e7 : Option Addr} {f7 : Nat}
theorem two_F1 (hb : Below wc.heap.size wc w7) (A : ShaV w7 (.agg #[a0, a1, a2]) s h6 c6 e6 f6) (B : ShaV w7 (.agg #[b0, b1, b2]) s h7 c7 e7 f7) :
    Two wc ((w7.alloc (.cells #[a0, a1, a2] 26)).alloc (.cells #[b0, b1, b2] 26)) w7.heap.size (w7.heap.size + 1) a0 a1 a2 b0 b1 b2 s h6 c6 e6 f6 h7 c7 e7 f7 := by
  refine ⟨box_alloc (Box.new w7 a0 a1 a2 26) _, sha_alloc (sha_alloc A _) _, ?_, sha_alloc (sha_alloc B _) _, below_alloc (below_alloc hb _) _⟩
  have := Box.new (w7.alloc (.cells #[a0, a1, a2] 26)) b0 b1 b2 26
  rwa [World.size_alloc] at this
theorem two_F2 (hb : Below wc.heap.size wc w7) (A : ShaV w7 (.agg #[a0, a1, a2]) s h6 c6 e6 f6) (B : ShaV w7 (.agg #[b0, b1, b2]) s h7 c7 e7 f7) :
    Two wc ((w7.alloc (.cells #[b0, b1, b2] 26)).alloc (.cells #[a0, a1, a2] 26)) (w7.heap.size + 1) w7.heap.size a0 a1 a2 b0 b1 b2 s h6 c6 e6 f6 h7 c7 e7 f7 := by
  refine ⟨?_, sha_alloc (sha_alloc A _) _, box_alloc (Box.new w7 b0 b1 b2 26) _, sha_alloc (sha_alloc B _) _, below_alloc (below_alloc hb _) _⟩
  have := Box.new (w7.alloc (.cells #[b0, b1, b2] 26)) a0 a1 a2 26
  rwa [World.size_alloc] at this
theorem set3_sizeN (w : World) (p : Nat) (x0 x1 x2 : Value) : (Sh.set3 w p x0 x1 x2).heap.size = w.heap.size := set3_size w p x0 x1 x2
theorem two_F3 (hb : Below wc.heap.size wc w7) (A : ShaV w7 (.agg #[a0, a1, a2]) s h6 c6 e6 f6) (B : ShaV w7 (.agg #[b0, b1, b2]) s h7 c7 e7 f7) (P : Blk w7 p6 Z26 26) (hp : wc.heap.size ≤ p6) :
    Two wc ((((w7.setCell ⟨p6, 0, none⟩ a0).setCell ⟨p6, 1, none⟩ a1).setCell ⟨p6, 2, none⟩ a2).alloc (.cells #[b0, b1, b2] 26)) p6 w7.heap.size a0 a1 a2 b0 b1 b2 s h6 c6 e6 f6 h7 c7 e7 f7 := by
  refine ⟨box_alloc (Box.set P) _, sha_alloc (A.set3 P) _, ?_, sha_alloc (B.set3 P) _, below_alloc (below_set3 hb hp) _⟩
  have := Box.new (Sh.set3 w7 p6 a0 a1 a2) b0 b1 b2 26
  rwa [set3_sizeN] at this
theorem two_F4 (hb : Below wc.heap.size wc w7) (A : ShaV w7 (.agg #[a0, a1, a2]) s h6 c6 e6 f6) (B : ShaV w7 (.agg #[b0, b1, b2]) s h7 c7 e7 f7) (P : Blk w7 p7 Z26 26) (hp : wc.heap.size ≤ p7) :
    Two wc ((((w7.setCell ⟨p7, 0, none⟩ b0).setCell ⟨p7, 1, none⟩ b1).setCell ⟨p7, 2, none⟩ b2).alloc (.cells #[a0, a1, a2] 26)) w7.heap.size p7 a0 a1 a2 b0 b1 b2 s h6 c6 e6 f6 h7 c7 e7 f7 := by
  refine ⟨?_, sha_alloc (A.set3 P) _, box_alloc (Box.set P) _, sha_alloc (B.set3 P) _, below_alloc (below_set3 hb hp) _⟩
  have := Box.new (Sh.set3 w7 p7 b0 b1 b2) a0 a1 a2 26
  rwa [set3_sizeN] at this
theorem two_F5 (hb : Below wc.heap.size wc w7) (A : ShaV w7 (.agg #[a0, a1, a2]) s h6 c6 e6 f6) (B : ShaV w7 (.agg #[b0, b1, b2]) s h7 c7 e7 f7) (P : Blk w7 p6 Z26 26) (Q : Blk w7 p7 Z26 26) (hp : wc.heap.size ≤ p6) (hq : wc.heap.size ≤ p7) (hne : p6 ≠ p7) :
    Two wc ((((((w7.setCell ⟨p6, 0, none⟩ a0).setCell ⟨p6, 1, none⟩ a1).setCell ⟨p6, 2, none⟩ a2).setCell ⟨p7, 0, none⟩ b0).setCell ⟨p7, 1, none⟩ b1).setCell ⟨p7, 2, none⟩ b2) p6 p7 a0 a1 a2 b0 b1 b2 s h6 c6 e6 f6 h7 c7 e7 f7 := by
  have Q2 : Blk (Sh.set3 w7 p6 a0 a1 a2) p7 Z26 26 := ((Q.other a0 (a := ⟨p6, 0, none⟩) (Ne.symm hne)).other a1 (a := ⟨p6, 1, none⟩) (Ne.symm hne)).other a2 (a := ⟨p6, 2, none⟩) (Ne.symm hne)
  have X : Box (Sh.set3 w7 p6 a0 a1 a2) p6 a0 a1 a2 := Box.set P
  refine ⟨⟨(set3_cell hne).trans X.c0, (set3_cell hne).trans X.c1, (set3_cell hne).trans X.c2, ?_⟩, (A.set3 P).set3 Q2, Box.set Q2, (B.set3 P).set3 Q2, below_set3 (below_set3 hb hp) hq⟩
  have := X.lt
  rw [← set3_size (Sh.set3 w7 p6 a0 a1 a2) p7 b0 b1 b2] at this
  exact this
end
theorem keep12 {wc w' : World} {a p p6 p7 : Nat} {y0 y1 y2 x0 x1 x2 a0 a1 a2 b0 b1 b2 : Value} (hb : Below wc.heap.size wc w') (Y : Box wc a y0 y1 y2) (X : Box wc p x0 x1 x2) (A : Box wc p6 a0 a1 a2) (B : Box wc p7 b0 b1 b2) :
    w'.cell? ⟨a, 0, none⟩ = some y0 ∧ w'.cell? ⟨a, 1, none⟩ = some y1 ∧ w'.cell? ⟨a, 2, none⟩ = some y2 ∧ w'.cell? ⟨p, 0, none⟩ = some x0 ∧ w'.cell? ⟨p, 1, none⟩ = some x1 ∧ w'.cell? ⟨p, 2, none⟩ = some x2 ∧
      w'.cell? ⟨p6, 0, none⟩ = some a0 ∧ w'.cell? ⟨p6, 1, none⟩ = some a1 ∧ w'.cell? ⟨p6, 2, none⟩ = some a2 ∧ w'.cell? ⟨p7, 0, none⟩ = some b0 ∧ w'.cell? ⟨p7, 1, none⟩ = some b1 ∧ w'.cell? ⟨p7, 2, none⟩ = some b2 :=
  ⟨(Y.low hb).c0, (Y.low hb).c1, (Y.low hb).c2, (X.low hb).c0, (X.low hb).c1, (X.low hb).c2, (A.low hb).c0, (A.low hb).c1, (A.low hb).c2, (B.low hb).c0, (B.low hb).c1, (B.low hb).c2⟩

set_option maxHeartbeats 8000000 in
set_option maxRecDepth 100000 in
theorem writes_law (s : Sha) (v : Value) (ha : Option Addr) (hc : Nat) (ba : Option Addr) (bc : Nat) (bo : Option Addr) (l : List UInt8) (c : Nat) (w : World) (hl : Lay w) (h : ShaV w v s ha hc ba bc) (hb : Byt w bo l) (hbn : bo = none → c = 0) (hlc : l.length ≤ c) (hcc : c ≤ 9223372036854775807)
    (hz1 : s.H.length * 4 ≤ 140737488351232) (hz2 : s.B.length ≤ 140737488351232) :
    Calls Tryd.prog 4 #[v, .slice bo l.length c] w fun e w' => e = .returned (.bool true) ∧ Below w.heap.size w w' := by
  have hv := h.val
  subst hv
  have C8 : Hid (∀ W, Below w.heap.size w W → Calls Tryd.prog 8 #[] W fun e w' => e = .returned (.bool true) ∧ Below W.heap.size W w') := fun W hb => heads_any W (hl.below hb)
  have BL : Hid (∀ o, Below w.heap.size w (w.alloc o)) := fun o => (Below.refl _ w).alloc (Nat.le_refl _) o
  have V := Lib.hid (fun W (hB : Below w.heap.size w W) => h.below hB)
  obtain ⟨n, hn⟩ : ∃ n, s.H.length = n := ⟨_, rfl⟩
  obtain ⟨m, hm⟩ : ∃ m, s.B.length = m := ⟨_, rfl⟩
  rw [hn] at hz1
  rw [hm] at hz2
  have HN := Lib.hid hn
  have HM := Lib.hid hm
  have hnn := h.hnil
  have hbb := h.bnil
  rw [hn, hm] at V
  rw [hn, hm]
  by_cases hg : 2000 < l.length
  · have d1 : ((l.length : Int) > 2000) := by omega
    clear h
    go_enter Tryd.func4, Tryd.ntmps4
    go_wp2_with fail
    refine (C8.out _ (BL.out _)).mono ?_
    rintro e w1 ⟨rfl, b1⟩
    have B1 := Lib.hid (below_chain (BL.out _) b1)
    clear b1
    go_wp2_with fail
    go_ret
    exact ⟨rfl, B1.out⟩
  · have d1 : ¬ ((l.length : Int) > 2000) := by omega
    have Y1 := Lib.hid (Box.new w (.slice ha n hc) (.slice ba m bc) (.int .u64 (s.N : Int)) 26)
    have B1 := Lib.hid (BL.out (.cells #[.slice ha n hc, .slice ba m bc, .int .u64 (s.N : Int)] 26))
    have V1 := Lib.hid (V.out _ B1.out)
    clear h hn hm
    go_enter Tryd.func4, Tryd.ntmps4
    go_wp2_with fail
    generalize hw1 : w.alloc (.cells #[.slice ha n hc, .slice ba m bc, .int .u64 (s.N : Int)] 26) = w1 at *
    clear hw1
    obtain ⟨z0, z1, z2, _⟩ := Y1.out
    have W1 := Lib.hid V1.out.wrd
    have R1 := Lib.hid V1.out.byt
    have BQ := Lib.hid (Below.refl w1.heap.size w1).drew
    have BQ0 := Lib.hid (Below.refl w1.heap.size w1)
    have YQ := Lib.hid (Y1.out.low BQ.out)
    go_cut [5] from 12 (fun s5 wx => ∃ p hx hcx bx bcx, s5 = .pointer (some ⟨p, 0, none⟩) ∧ Hid (Laid w1 wx p (.slice hx n hcx) (.slice bx m bcx) (.int .u64 (s.N : Int)) s hx hcx bx bcx))
    case first =>
      go_region_held3 (fun w' => w'.cell? ⟨w.heap.size, 0, none⟩ = some (.slice ha n hc) ∧ w'.cell? ⟨w.heap.size, 1, none⟩ = some (.slice ba m bc) ∧ w'.cell? ⟨w.heap.size, 2, none⟩ = some (.int .u64 (s.N : Int)))
        (first
          | ((with_reducible refine keep3 (wc := w1) ?_ Y1.out); (repeat' (first | (with_reducible exact BQ.out) | (with_reducible exact BQ0.out) | (with_reducible refine Below.setCell ?_ ?_ _) | (with_reducible refine Below.alloc ?_ ?_ _) | (with_reducible refine Below.drew ?_))); (all_goals (first | (exact Nat.le_refl _) | (simp <;> fail) | (have := BQ.out.size; omega) | (have := BQ.out.size; simp; omega) | (have := LT5.out; have := BQ.out.size; omega) | (have := LT5.out; have := BQ.out.size; simp; omega))))
          | fail)
        (first
          | ((first
              | (refine step_fresh_w (t := 22) (e := 42) rfl (.tmp 12) (.tmp 14) rfl Tryd.underlying22 info42 _ (by simp [Act.eval] <;> fail) (Blk.new _ [] 42 _ rfl).drew s.H ha n hc (by simp [Act.eval] <;> fail) (W1.out.below (below_alloc BQ0.out _).drew) hnn HN (by omega) ?_; intro a5 c5 w5 hg5 k5 n5 g51 g52; have b5 : Below w1.heap.size w1 w5 := (below_alloc BQ0.out _).drew.grown hg5 (by first | (simp <;> fail) | (simp; omega)) (by intro k hk; cases hk; first | (simp <;> fail) | (simp; omega)))
              | (refine step_fresh_w (t := 22) (e := 42) rfl (.tmp 12) (.tmp 14) rfl Tryd.underlying22 info42 _ (by simp [Act.eval] <;> fail) (Blk.new _ [] 42 _ rfl).drew s.H ha n hc (by simp [Act.eval] <;> fail) (W1.out.below (below_alloc (below_alloc BQ0.out _) _).drew) hnn HN (by omega) ?_; intro a5 c5 w5 hg5 k5 n5 g51 g52; have b5 : Below w1.heap.size w1 w5 := (below_alloc (below_alloc BQ0.out _) _).drew.grown hg5 (by first | (simp <;> fail) | (simp; omega)) (by intro k hk; cases hk; first | (simp <;> fail) | (simp; omega)))
              | (refine step_fresh_w (t := 22) (e := 42) rfl (.tmp 12) (.tmp 14) rfl Tryd.underlying22 info42 _ (by simp [Act.eval] <;> fail) (Blk.new _ [] 42 _ rfl).drew s.H ha n hc (by simp [Act.eval] <;> fail) (W1.out.below (below_alloc (below_alloc (below_alloc BQ0.out _) _) _).drew) hnn HN (by omega) ?_; intro a5 c5 w5 hg5 k5 n5 g51 g52; have b5 : Below w1.heap.size w1 w5 := (below_alloc (below_alloc (below_alloc BQ0.out _) _) _).drew.grown hg5 (by first | (simp <;> fail) | (simp; omega)) (by intro k hk; cases hk; first | (simp <;> fail) | (simp; omega)))
              | (refine step_fresh_w (t := 22) (e := 42) rfl (.tmp 12) (.tmp 14) rfl Tryd.underlying22 info42 _ (by simp [Act.eval] <;> fail) ((Blk.new _ [] 42 _ rfl).alloc _).drew s.H ha n hc (by simp [Act.eval] <;> fail) (W1.out.below (below_alloc (below_alloc BQ0.out _) _).drew) hnn HN (by omega) ?_; intro a5 c5 w5 hg5 k5 n5 g51 g52; have b5 : Below w1.heap.size w1 w5 := (below_alloc (below_alloc BQ0.out _) _).drew.grown hg5 (by first | (simp <;> fail) | (simp; omega)) (by intro k hk; cases hk; first | (simp <;> fail) | (simp; omega)))
              | (refine step_fresh_w (t := 22) (e := 42) rfl (.tmp 12) (.tmp 14) rfl Tryd.underlying22 info42 _ (by simp [Act.eval] <;> fail) ((Blk.new _ [] 42 _ rfl).alloc _).drew s.H ha n hc (by simp [Act.eval] <;> fail) (W1.out.below (below_alloc (below_alloc (below_alloc BQ0.out _) _) _).drew) hnn HN (by omega) ?_; intro a5 c5 w5 hg5 k5 n5 g51 g52; have b5 : Below w1.heap.size w1 w5 := (below_alloc (below_alloc (below_alloc BQ0.out _) _) _).drew.grown hg5 (by first | (simp <;> fail) | (simp; omega)) (by intro k hk; cases hk; first | (simp <;> fail) | (simp; omega)))
              | (refine step_fresh_w (t := 22) (e := 42) rfl (.tmp 12) (.tmp 14) rfl Tryd.underlying22 info42 _ (by simp [Act.eval] <;> fail) (((Blk.new _ [] 42 _ rfl).alloc _).alloc _).drew s.H ha n hc (by simp [Act.eval] <;> fail) (W1.out.below (below_alloc (below_alloc (below_alloc BQ0.out _) _) _).drew) hnn HN (by omega) ?_; intro a5 c5 w5 hg5 k5 n5 g51 g52; have b5 : Below w1.heap.size w1 w5 := (below_alloc (below_alloc (below_alloc BQ0.out _) _) _).drew.grown hg5 (by first | (simp <;> fail) | (simp; omega)) (by intro k hk; cases hk; first | (simp <;> fail) | (simp; omega))))
             have W5 := Lib.hid k5
             have R5 := Lib.hid (R1.out.below b5)
             have YQ := Lib.hid (Y1.out.low b5)
             have LT5 := Lib.hid b5.size
             (first
               | (refine (fun (L8 : Hid (Blk w5 _ [] 5)) => ?_) (Blk.gr hg5 (Blk.new _ [] 5 _ rfl).drew ?_); rotate_left; (first | (simp <;> fail) | (simp only [World.size_alloc]; omega)))
               | (refine (fun (L8 : Hid (Blk w5 _ [] 5)) => ?_) (Blk.gr hg5 ((Blk.new _ [] 5 _ rfl).alloc _).drew ?_); rotate_left; (first | (simp <;> fail) | (simp only [World.size_alloc]; omega)))
               | (refine (fun (L8 : Hid (Blk w5 _ [] 5)) => ?_) (Blk.gr hg5 (((Blk.new _ [] 5 _ rfl).alloc _).alloc _).drew ?_); rotate_left; (first | (simp <;> fail) | (simp only [World.size_alloc]; omega)))
               | skip)
             (try (simp only [World.size_alloc] at L8))
             (first
               | (refine (fun (P5 : Hid (Blk w5 _ Z26 26)) => ?_) (Blk.gr hg5 (Blk.new _ Z26 26 _ rfl).drew ?_); rotate_left; (first | (simp <;> fail) | (simp only [World.size_alloc]; omega)))
               | (refine (fun (P5 : Hid (Blk w5 _ Z26 26)) => ?_) (Blk.gr hg5 ((Blk.new _ Z26 26 _ rfl).alloc _).drew ?_); rotate_left; (first | (simp <;> fail) | (simp only [World.size_alloc]; omega)))
               | (refine (fun (P5 : Hid (Blk w5 _ Z26 26)) => ?_) (Blk.gr hg5 (((Blk.new _ Z26 26 _ rfl).alloc _).alloc _).drew ?_); rotate_left; (first | (simp <;> fail) | (simp only [World.size_alloc]; omega)))
               | skip)
             (try (simp only [World.size_alloc] at P5))
             (try (have p0 := P5.out.cell 0; have p1 := P5.out.cell 1; have p2 := P5.out.cell 2; simp only [List.getElem?_cons_zero, List.getElem?_cons_succ] at p0 p1 p2; have pz := fun j => P5.out.frozen j))
             have B5 := Lib.hid b5
             have BQ := Lib.hid b5
             clear k5 b5 hg5)
          | ((first
              | (refine step_fresh_b (t := 23) (e := 5) rfl (.tmp 16) (.tmp 18) rfl Tryd.underlying23 info5 _ (by simp [Act.eval] <;> fail) L8.out s.B ba m bc (by simp [Act.eval] <;> fail) (R5.out.below (Below.refl _ w5)) hbb HM (by omega) ?_; intro a7 c7 w7 hg7 k7 n7 g71 g72; have b7 : Below w1.heap.size w1 w7 := B5.out.grown hg7 (by have := LT5.out; first | (simp <;> fail) | (simp; omega)) (by intro k hk; cases hk; have := LT5.out; first | (simp <;> fail) | (simp; omega)); have R7 := Lib.hid k7; have W7 := Lib.hid (Wrd.gr hg7 (W5.out.below (Below.refl _ w5)) (Or.inr L8.out)))
              | (refine step_fresh_b (t := 23) (e := 5) rfl (.tmp 16) (.tmp 18) rfl Tryd.underlying23 info5 _ (by simp [Act.eval] <;> fail) (L8.out.alloc _) s.B ba m bc (by simp [Act.eval] <;> fail) (R5.out.below ((Below.refl _ w5).alloc (Nat.le_refl _) _)) hbb HM (by omega) ?_; intro a7 c7 w7 hg7 k7 n7 g71 g72; have b7 : Below w1.heap.size w1 w7 := (below_alloc B5.out _).grown hg7 (by have := LT5.out; first | (simp <;> fail) | (simp; omega)) (by intro k hk; cases hk; have := LT5.out; first | (simp <;> fail) | (simp; omega)); have R7 := Lib.hid k7; have W7 := Lib.hid (Wrd.gr hg7 (W5.out.below ((Below.refl _ w5).alloc (Nat.le_refl _) _)) (Or.inr (L8.out.alloc _))))
              | (refine step_fresh_b (t := 23) (e := 5) rfl (.tmp 16) (.tmp 18) rfl Tryd.underlying23 info5 _ (by simp [Act.eval] <;> fail) (Blk.new _ [] 5 _ rfl) s.B ba m bc (by simp [Act.eval] <;> fail) (R5.out.below ((Below.refl _ w5).alloc (Nat.le_refl _) _)) hbb HM (by omega) ?_; intro a7 c7 w7 hg7 k7 n7 g71 g72; have b7 : Below w1.heap.size w1 w7 := (below_alloc B5.out _).grown hg7 (by have := LT5.out; first | (simp <;> fail) | (simp; omega)) (by intro k hk; cases hk; have := LT5.out; first | (simp <;> fail) | (simp; omega)); have R7 := Lib.hid k7; have W7 := Lib.hid (Wrd.gr hg7 (W5.out.below ((Below.refl _ w5).alloc (Nat.le_refl _) _)) (Or.inr (Blk.new _ [] 5 _ rfl))))
              | (refine step_fresh_b (t := 23) (e := 5) rfl (.tmp 16) (.tmp 18) rfl Tryd.underlying23 info5 _ (by simp [Act.eval] <;> fail) ((Blk.new _ [] 5 _ rfl).alloc _) s.B ba m bc (by simp [Act.eval] <;> fail) (R5.out.below (below_alloc ((Below.refl _ w5).alloc (Nat.le_refl _) _) _)) hbb HM (by omega) ?_; intro a7 c7 w7 hg7 k7 n7 g71 g72; have b7 : Below w1.heap.size w1 w7 := (below_alloc (below_alloc B5.out _) _).grown hg7 (by have := LT5.out; first | (simp <;> fail) | (simp; omega)) (by intro k hk; cases hk; have := LT5.out; first | (simp <;> fail) | (simp; omega)); have R7 := Lib.hid k7; have W7 := Lib.hid (Wrd.gr hg7 (W5.out.below (below_alloc ((Below.refl _ w5).alloc (Nat.le_refl _) _) _)) (Or.inr ((Blk.new _ [] 5 _ rfl).alloc _))))
              | (refine step_fresh_b (t := 23) (e := 5) rfl (.tmp 16) (.tmp 18) rfl Tryd.underlying23 info5 _ (by simp [Act.eval] <;> fail) (Blk.new _ [] 5 _ rfl) s.B ba m bc (by simp [Act.eval] <;> fail) (R5.out.below (below_alloc ((Below.refl _ w5).alloc (Nat.le_refl _) _) _)) hbb HM (by omega) ?_; intro a7 c7 w7 hg7 k7 n7 g71 g72; have b7 : Below w1.heap.size w1 w7 := (below_alloc (below_alloc B5.out _) _).grown hg7 (by have := LT5.out; first | (simp <;> fail) | (simp; omega)) (by intro k hk; cases hk; have := LT5.out; first | (simp <;> fail) | (simp; omega)); have R7 := Lib.hid k7; have W7 := Lib.hid (Wrd.gr hg7 (W5.out.below (below_alloc ((Below.refl _ w5).alloc (Nat.le_refl _) _) _)) (Or.inr (Blk.new _ [] 5 _ rfl)))))
             have YQ := Lib.hid (Y1.out.low b7)
             have LT7 := Lib.hid b7.size
             (first
               | (refine (fun (P7 : Hid (Blk w7 _ Z26 26)) => ?_) (Blk.gr hg7 P5.out ?_); rotate_left; (first | (simp <;> fail) | (have := LT5.out; simp <;> omega) | (have := L8.out.lt; simp <;> omega) | (have := P5.out.lt; simp <;> omega)))
               | (refine (fun (P7 : Hid (Blk w7 _ Z26 26)) => ?_) (Blk.gr hg7 (P5.out.alloc _) ?_); rotate_left; (first | (simp <;> fail) | (have := LT5.out; simp <;> omega) | (have := L8.out.lt; simp <;> omega) | (have := P5.out.lt; simp <;> omega)))
               | (refine (fun (P7 : Hid (Blk w7 _ Z26 26)) => ?_) (Blk.gr hg7 (Blk.new _ Z26 26 _ rfl) ?_); rotate_left; (first | (simp <;> fail) | (have := LT5.out; simp <;> omega) | (have := L8.out.lt; simp <;> omega) | (have := P5.out.lt; simp <;> omega)))
               | (refine (fun (P7 : Hid (Blk w7 _ Z26 26)) => ?_) (Blk.gr hg7 ((Blk.new _ Z26 26 _ rfl).alloc _) ?_); rotate_left; (first | (simp <;> fail) | (have := LT5.out; simp <;> omega) | (have := L8.out.lt; simp <;> omega) | (have := P5.out.lt; simp <;> omega)))
               | skip)
             (try (simp only [World.size_alloc] at P7))
             (try (have q0 := P7.out.cell 0; have q1 := P7.out.cell 1; have q2 := P7.out.cell 2; simp only [List.getElem?_cons_zero, List.getElem?_cons_succ] at q0 q1 q2; have qz := fun j => P7.out.frozen j))
             have B7 := Lib.hid b7
             have BQ := Lib.hid b7
             clear k7 b7 hg7))
      all_goals
        go_wp2_with fail
        go_meet
        first
          | exact ⟨_, a5, c5, a7, c7, rfl, laid_new B7.out (mkSha HN.out HM.out V1.out.num W7.out n5 g51 g52 R7.out n7 g71 g72)⟩
          | exact ⟨_, a5, c5, a7, c7, rfl, laid_set B7.out P7.out (by have := LT5.out; first | omega | (simp; omega)) (mkSha HN.out HM.out V1.out.num W7.out n5 g51 g52 R7.out n7 g71 g72)⟩
    case rest =>
      obtain ⟨p, hx, hcx, bx, bcx, rfl, L3⟩ := hcut
      have X := Lib.hid L3.out.1
      have SX := Lib.hid L3.out.2.1
      have BW := Lib.hid L3.out.2.2
      have Y := Lib.hid (Y1.out.low BW.out)
      have BA := Lib.hid (below_chain B1.out BW.out)
      have SY := Lib.hid (V.out wc BA.out)
      have LYC := Lib.hid (fun W (hB : Below wc.heap.size wc W) => hl.below (below_chain BA.out hB))
      have RB := Lib.hid (fun W (hB : Below wc.heap.size wc W) => hb.below (below_chain BA.out hB))
      have C8' := Lib.hid (fun W (hB : Below wc.heap.size wc W) => C8.out W (below_chain BA.out hB))
      have C10 := Lib.hid (fun W (hB : Below wc.heap.size wc W) => write_any _ s _ _ _ _ l bo l.length c W (LYC.out W hB) (SX.out.below hB) (RB.out W hB) hbn rfl hlc hcc ⟨by rw [HN.out]; omega, by rw [HM.out]; omega, by omega⟩)
      have C13 := Lib.hid (fun W (hB : Below wc.heap.size wc W) => refwrite_any _ s _ _ _ _ l bo l.length c W (SY.out.below hB) (RB.out W hB) hbn rfl ⟨by rw [HN.out]; omega, by rw [HM.out]; omega, by omega⟩)
      clear L3 C8 V hl hb BQ BQ0 YQ W1 R1 V1 z0 z1 z2
      obtain ⟨y0, y1, y2, ylt⟩ := Y.out
      obtain ⟨x0, x1, x2, xlt⟩ := X.out
      have HB0 := Lib.hid (Below.refl wc.heap.size wc)
      have BQ := Lib.hid (Below.refl wc.heap.size wc).drew
      go_wp2_with fail
      go_cut [6, 7] from 23 (fun s6 s7 wx => ∃ p6 p7 a0 a1 a2 b0 b1 b2 h6 c6 e6 f6 h7 c7 e7 f7, s6 = .pointer (some ⟨p6, 0, none⟩) ∧ s7 = .pointer (some ⟨p7, 0, none⟩) ∧ Hid (Two wc wx p6 p7 a0 a1 a2 b0 b1 b2 (Sh.wr s l) h6 c6 e6 f6 h7 c7 e7 f7))
      case first =>
        go_region_held3 (fun w' => w'.cell? ⟨w.heap.size, 0, none⟩ = some (.slice ha n hc) ∧ w'.cell? ⟨w.heap.size, 1, none⟩ = some (.slice ba m bc) ∧ w'.cell? ⟨w.heap.size, 2, none⟩ = some (.int .u64 (s.N : Int)) ∧ w'.cell? ⟨p, 0, none⟩ = some (.slice hx n hcx) ∧ w'.cell? ⟨p, 1, none⟩ = some (.slice bx m bcx) ∧ w'.cell? ⟨p, 2, none⟩ = some (.int .u64 (s.N : Int)))
          (first
            | ((with_reducible refine keep6 (wc := wc) ?_ Y.out X.out); (repeat' (first | (with_reducible exact BQ.out) | (with_reducible exact HB0.out) | (with_reducible refine Below.setCell ?_ ?_ _) | (with_reducible refine Below.alloc ?_ ?_ _) | (with_reducible refine Below.drew ?_))); (all_goals (first | (exact Nat.le_refl _) | (simp <;> fail) | (have := BQ.out.size; omega) | (have := BQ.out.size; simp; omega) | (have := LT5.out; have := BQ.out.size; omega) | (have := LT5.out; have := BQ.out.size; simp; omega))))
            | fail)
          (first
            | (go_at_call 10; (with_reducible refine (C10.out _ (by first | exact BQ.out | exact (below_alloc HB0.out _).drew | exact (below_alloc (below_alloc HB0.out _) _).drew)).mono ?_); rintro e w5 ⟨b5, v5, h5, c5, e5, f5, rfl, s5⟩
               have s5v := s5.val
               subst s5v
               have BQ := Lib.hid (below_chain (by first | exact BQ.out | exact (below_alloc HB0.out _).drew | exact (below_alloc (below_alloc HB0.out _) _).drew) b5)
               have S5 := Lib.hid s5
               have LT5 := Lib.hid BQ.out.size
               (first | (refine (fun (PA : Hid (Blk w5 _ Z26 26)) => ?_) (Blk.low (Blk.new _ Z26 26 _ rfl).drew b5); (try (simp only [World.size_alloc] at PA))) | skip)
               (first | (refine (fun (PB : Hid (Blk w5 _ Z26 26)) => ?_) (Blk.low ((Blk.new _ Z26 26 _ rfl).alloc _).drew b5); (try (simp only [World.size_alloc] at PB))) | skip)
               (try (have PAl5 := PA.out.lt; have PAn5 := Nat.ne_of_lt PA.out.lt; have PAm5 := (Nat.ne_of_lt PA.out.lt).symm))
               (try (have PBl5 := PB.out.lt; have PBn5 := Nat.ne_of_lt PB.out.lt; have PBm5 := (Nat.ne_of_lt PB.out.lt).symm))
               clear b5 s5)
            | (go_at_call 13; (with_reducible refine (C13.out _ (by first | exact BQ.out | exact below_alloc BQ.out _ | exact below_alloc (below_alloc BQ.out _) _)).mono ?_); rintro e w7 ⟨b7, v7, h7, c7, e7, f7, rfl, s7⟩
               have s7v := s7.val
               subst s7v
               have BQ7 := Lib.hid (below_chain (by first | exact BQ.out | exact below_alloc BQ.out _ | exact below_alloc (below_alloc BQ.out _) _) b7)
               have S7 := Lib.hid s7
               have S57 := Lib.hid (S5.out.below (below_chain (by first | exact Below.refl w5.heap.size w5 | exact (Below.refl w5.heap.size w5).alloc (Nat.le_refl _) _ | exact below_alloc ((Below.refl w5.heap.size w5).alloc (Nat.le_refl _) _) _) b7))
               (try (have PA := Lib.hid (PA.out.below (below_chain (by first | exact Below.refl w5.heap.size w5 | exact (Below.refl w5.heap.size w5).alloc (Nat.le_refl _) _ | exact below_alloc ((Below.refl w5.heap.size w5).alloc (Nat.le_refl _) _) _) b7) PA.out.lt)))
               (try (have PB := Lib.hid (PB.out.below (below_chain (by first | exact Below.refl w5.heap.size w5 | exact (Below.refl w5.heap.size w5).alloc (Nat.le_refl _) _ | exact below_alloc ((Below.refl w5.heap.size w5).alloc (Nat.le_refl _) _) _) b7) PB.out.lt)))
               (first | (refine (fun (PC : Hid (Blk w7 _ Z26 26)) => ?_) (Blk.low (Blk.new _ Z26 26 _ rfl) b7); (try (simp only [World.size_alloc] at PC))) | skip)
               (first | (refine (fun (PD : Hid (Blk w7 _ Z26 26)) => ?_) (Blk.low ((Blk.new _ Z26 26 _ rfl).alloc _) b7); (try (simp only [World.size_alloc] at PD))) | skip)
               (try (have PA0 := PA.out.cell 0; have PA1 := PA.out.cell 1; have PA2 := PA.out.cell 2; simp only [List.getElem?_cons_zero, List.getElem?_cons_succ] at PA0 PA1 PA2; have PAz := fun j => PA.out.frozen j; have PAl := PA.out.lt))
               (try (have PB0 := PB.out.cell 0; have PB1 := PB.out.cell 1; have PB2 := PB.out.cell 2; simp only [List.getElem?_cons_zero, List.getElem?_cons_succ] at PB0 PB1 PB2; have PBz := fun j => PB.out.frozen j; have PBl := PB.out.lt))
               (try (have PC0 := PC.out.cell 0; have PC1 := PC.out.cell 1; have PC2 := PC.out.cell 2; simp only [List.getElem?_cons_zero, List.getElem?_cons_succ] at PC0 PC1 PC2; have PCz := fun j => PC.out.frozen j; have PCl := PC.out.lt))
               (try (have PD0 := PD.out.cell 0; have PD1 := PD.out.cell 1; have PD2 := PD.out.cell 2; simp only [List.getElem?_cons_zero, List.getElem?_cons_succ] at PD0 PD1 PD2; have PDz := fun j => PD.out.frozen j; have PDl := PD.out.lt))
               have BQ := BQ7
               clear b7 s7))
        all_goals
          go_wp2_with fail
          go_meet
          first
            | with_reducible exact ⟨_, _, _, _, _, _, _, _, h5, c5, e5, f5, h7, c7, e7, f7, rfl, rfl, Lib.hid (two_F1 BQ.out S57.out S7.out)⟩
            | with_reducible exact ⟨_, _, _, _, _, _, _, _, h5, c5, e5, f5, h7, c7, e7, f7, rfl, rfl, Lib.hid (two_F2 BQ.out S57.out S7.out)⟩
            | with_reducible exact ⟨_, _, _, _, _, _, _, _, h5, c5, e5, f5, h7, c7, e7, f7, rfl, rfl, Lib.hid (two_F3 BQ.out S57.out S7.out PA.out (by have := LT5.out; have := BQ.out.size; first | exact Nat.le_refl _ | omega | (simp; omega)))⟩
            | with_reducible exact ⟨_, _, _, _, _, _, _, _, h5, c5, e5, f5, h7, c7, e7, f7, rfl, rfl, Lib.hid (two_F4 BQ.out S57.out S7.out PA.out (by have := LT5.out; have := BQ.out.size; first | exact Nat.le_refl _ | omega | (simp; omega)))⟩
            | with_reducible exact ⟨_, _, _, _, _, _, _, _, h5, c5, e5, f5, h7, c7, e7, f7, rfl, rfl, Lib.hid (two_F3 BQ.out S57.out S7.out PB.out (by have := LT5.out; have := BQ.out.size; first | exact Nat.le_refl _ | omega | (simp; omega)))⟩
            | with_reducible exact ⟨_, _, _, _, _, _, _, _, h5, c5, e5, f5, h7, c7, e7, f7, rfl, rfl, Lib.hid (two_F4 BQ.out S57.out S7.out PB.out (by have := LT5.out; have := BQ.out.size; first | exact Nat.le_refl _ | omega | (simp; omega)))⟩
            | with_reducible exact ⟨_, _, _, _, _, _, _, _, h5, c5, e5, f5, h7, c7, e7, f7, rfl, rfl, Lib.hid (two_F3 BQ.out S57.out S7.out PC.out (by have := LT5.out; have := BQ.out.size; first | exact Nat.le_refl _ | omega | (simp; omega)))⟩
            | with_reducible exact ⟨_, _, _, _, _, _, _, _, h5, c5, e5, f5, h7, c7, e7, f7, rfl, rfl, Lib.hid (two_F4 BQ.out S57.out S7.out PC.out (by have := LT5.out; have := BQ.out.size; first | exact Nat.le_refl _ | omega | (simp; omega)))⟩
            | with_reducible exact ⟨_, _, _, _, _, _, _, _, h5, c5, e5, f5, h7, c7, e7, f7, rfl, rfl, Lib.hid (two_F3 BQ.out S57.out S7.out PD.out (by have := LT5.out; have := BQ.out.size; first | exact Nat.le_refl _ | omega | (simp; omega)))⟩
            | with_reducible exact ⟨_, _, _, _, _, _, _, _, h5, c5, e5, f5, h7, c7, e7, f7, rfl, rfl, Lib.hid (two_F4 BQ.out S57.out S7.out PD.out (by have := LT5.out; have := BQ.out.size; first | exact Nat.le_refl _ | omega | (simp; omega)))⟩
            | with_reducible exact ⟨_, _, _, _, _, _, _, _, h5, c5, e5, f5, h7, c7, e7, f7, rfl, rfl, Lib.hid (two_F5 BQ.out S57.out S7.out PA.out PB.out (by have := LT5.out; have := BQ.out.size; first | exact Nat.le_refl _ | omega | (simp; omega)) (by have := LT5.out; have := BQ.out.size; first | exact Nat.le_refl _ | omega | (simp; omega)) (by have := LT5.out; have := BQ.out.size; first | omega | (simp; omega)))⟩
            | with_reducible exact ⟨_, _, _, _, _, _, _, _, h5, c5, e5, f5, h7, c7, e7, f7, rfl, rfl, Lib.hid (two_F5 BQ.out S57.out S7.out PA.out PC.out (by have := LT5.out; have := BQ.out.size; first | exact Nat.le_refl _ | omega | (simp; omega)) (by have := LT5.out; have := BQ.out.size; first | exact Nat.le_refl _ | omega | (simp; omega)) (by have := LT5.out; have := BQ.out.size; first | omega | (simp; omega)))⟩
            | with_reducible exact ⟨_, _, _, _, _, _, _, _, h5, c5, e5, f5, h7, c7, e7, f7, rfl, rfl, Lib.hid (two_F5 BQ.out S57.out S7.out PA.out PD.out (by have := LT5.out; have := BQ.out.size; first | exact Nat.le_refl _ | omega | (simp; omega)) (by have := LT5.out; have := BQ.out.size; first | exact Nat.le_refl _ | omega | (simp; omega)) (by have := LT5.out; have := BQ.out.size; first | omega | (simp; omega)))⟩
            | with_reducible exact ⟨_, _, _, _, _, _, _, _, h5, c5, e5, f5, h7, c7, e7, f7, rfl, rfl, Lib.hid (two_F5 BQ.out S57.out S7.out PB.out PA.out (by have := LT5.out; have := BQ.out.size; first | exact Nat.le_refl _ | omega | (simp; omega)) (by have := LT5.out; have := BQ.out.size; first | exact Nat.le_refl _ | omega | (simp; omega)) (by have := LT5.out; have := BQ.out.size; first | omega | (simp; omega)))⟩
            | with_reducible exact ⟨_, _, _, _, _, _, _, _, h5, c5, e5, f5, h7, c7, e7, f7, rfl, rfl, Lib.hid (two_F5 BQ.out S57.out S7.out PB.out PC.out (by have := LT5.out; have := BQ.out.size; first | exact Nat.le_refl _ | omega | (simp; omega)) (by have := LT5.out; have := BQ.out.size; first | exact Nat.le_refl _ | omega | (simp; omega)) (by have := LT5.out; have := BQ.out.size; first | omega | (simp; omega)))⟩
            | with_reducible exact ⟨_, _, _, _, _, _, _, _, h5, c5, e5, f5, h7, c7, e7, f7, rfl, rfl, Lib.hid (two_F5 BQ.out S57.out S7.out PB.out PD.out (by have := LT5.out; have := BQ.out.size; first | exact Nat.le_refl _ | omega | (simp; omega)) (by have := LT5.out; have := BQ.out.size; first | exact Nat.le_refl _ | omega | (simp; omega)) (by have := LT5.out; have := BQ.out.size; first | omega | (simp; omega)))⟩
            | with_reducible exact ⟨_, _, _, _, _, _, _, _, h5, c5, e5, f5, h7, c7, e7, f7, rfl, rfl, Lib.hid (two_F5 BQ.out S57.out S7.out PC.out PA.out (by have := LT5.out; have := BQ.out.size; first | exact Nat.le_refl _ | omega | (simp; omega)) (by have := LT5.out; have := BQ.out.size; first | exact Nat.le_refl _ | omega | (simp; omega)) (by have := LT5.out; have := BQ.out.size; first | omega | (simp; omega)))⟩
            | with_reducible exact ⟨_, _, _, _, _, _, _, _, h5, c5, e5, f5, h7, c7, e7, f7, rfl, rfl, Lib.hid (two_F5 BQ.out S57.out S7.out PC.out PB.out (by have := LT5.out; have := BQ.out.size; first | exact Nat.le_refl _ | omega | (simp; omega)) (by have := LT5.out; have := BQ.out.size; first | exact Nat.le_refl _ | omega | (simp; omega)) (by have := LT5.out; have := BQ.out.size; first | omega | (simp; omega)))⟩
            | with_reducible exact ⟨_, _, _, _, _, _, _, _, h5, c5, e5, f5, h7, c7, e7, f7, rfl, rfl, Lib.hid (two_F5 BQ.out S57.out S7.out PC.out PD.out (by have := LT5.out; have := BQ.out.size; first | exact Nat.le_refl _ | omega | (simp; omega)) (by have := LT5.out; have := BQ.out.size; first | exact Nat.le_refl _ | omega | (simp; omega)) (by have := LT5.out; have := BQ.out.size; first | omega | (simp; omega)))⟩
            | with_reducible exact ⟨_, _, _, _, _, _, _, _, h5, c5, e5, f5, h7, c7, e7, f7, rfl, rfl, Lib.hid (two_F5 BQ.out S57.out S7.out PD.out PA.out (by have := LT5.out; have := BQ.out.size; first | exact Nat.le_refl _ | omega | (simp; omega)) (by have := LT5.out; have := BQ.out.size; first | exact Nat.le_refl _ | omega | (simp; omega)) (by have := LT5.out; have := BQ.out.size; first | omega | (simp; omega)))⟩
            | with_reducible exact ⟨_, _, _, _, _, _, _, _, h5, c5, e5, f5, h7, c7, e7, f7, rfl, rfl, Lib.hid (two_F5 BQ.out S57.out S7.out PD.out PB.out (by have := LT5.out; have := BQ.out.size; first | exact Nat.le_refl _ | omega | (simp; omega)) (by have := LT5.out; have := BQ.out.size; first | exact Nat.le_refl _ | omega | (simp; omega)) (by have := LT5.out; have := BQ.out.size; first | omega | (simp; omega)))⟩
            | with_reducible exact ⟨_, _, _, _, _, _, _, _, h5, c5, e5, f5, h7, c7, e7, f7, rfl, rfl, Lib.hid (two_F5 BQ.out S57.out S7.out PD.out PC.out (by have := LT5.out; have := BQ.out.size; first | exact Nat.le_refl _ | omega | (simp; omega)) (by have := LT5.out; have := BQ.out.size; first | exact Nat.le_refl _ | omega | (simp; omega)) (by have := LT5.out; have := BQ.out.size; first | omega | (simp; omega)))⟩
      case rest =>
        obtain ⟨p6, p7, a0, a1, a2, b0, b1, b2, h6, c6, e6, f6, h7, c7, e7, f7, rfl, rfl, L4⟩ := hcut
        obtain ⟨A6, SA, A7, SB, BW4⟩ := L4.out
        have Y5 := Lib.hid (Y.out.low BW4)
        have X5 := Lib.hid (X.out.low BW4)
        have SX5 := Lib.hid (SX.out.below BW4)
        have SY5 := Lib.hid (SY.out.below BW4)
        have BA5 := Lib.hid (below_chain BA.out BW4)
        have LY5 := Lib.hid (fun W (hB : Below wc.heap.size wc W) => LYC.out W (below_chain BW4 hB))
        have D8 := Lib.hid (fun W (hB : Below wc.heap.size wc W) => C8'.out W (below_chain BW4 hB))
        have D11a := Lib.hid (fun W (hB : Below wc.heap.size wc W) => same_sha _ _ _ _ _ _ _ _ _ _ _ W (SA.below hB) (SB.below hB))
        obtain ⟨d, hd⟩ : ∃ d, dn s = d := ⟨_, rfl⟩
        obtain ⟨kk, hkk⟩ : ∃ kk, chk s = kk := ⟨_, rfl⟩
        have D9 := Lib.hid (fun W (hB : Below wc.heap.size wc W) => done_any _ _ _ _ _ s W (LY5.out W hB) (SX5.out.below hB))
        have D14 := Lib.hid (fun W (hB : Below wc.heap.size wc W) => refdone_any _ _ _ _ _ s W (SY5.out.below hB))
        have D7 := Lib.hid (fun W (hB : Below wc.heap.size wc W) => check_any _ s _ _ _ _ W (SY5.out.below hB))
        have D15 := Lib.hid (fun W (hB : Below wc.heap.size wc W) => refcheck_any _ s _ _ _ _ W (SY5.out.below hB))
        rw [hd] at D9 D14
        rw [hkk] at D7 D15
        have D16 := Lib.hid (fun W (hB : Below wc.heap.size wc W) => new_any W (LY5.out W hB))
        have D17 := Lib.hid (fun W (_ : Below wc.heap.size wc W) => refnew_any W)
        have D11c := Lib.hid (fun W (hB : Below wc.heap.size wc W) => same_sha _ _ s _ _ _ _ _ _ _ _ W (SX5.out.below hB) (SY5.out.below hB))
        have B6 := Lib.hid A6
        have B7 := Lib.hid A7
        obtain ⟨z0, z1, z2, _⟩ := Y5.out
        obtain ⟨z3, z4, z5, _⟩ := X5.out
        obtain ⟨z6, z7, z8, _⟩ := B6.out
        obtain ⟨z9, z10, z11, _⟩ := B7.out
        have BQ := Lib.hid (Below.refl wc.heap.size wc).drew
        clear SA SB BW4 A6 A7 L4 hd hkk LYC C8' C10 C13 RB y0 y1 y2 x0 x1 x2 X Y SX SY BA BW
        go_wp2_with fail
        go_region_held3 (fun w' => w'.cell? ⟨w.heap.size, 0, none⟩ = some (.slice ha n hc) ∧ w'.cell? ⟨w.heap.size, 1, none⟩ = some (.slice ba m bc) ∧ w'.cell? ⟨w.heap.size, 2, none⟩ = some (.int .u64 (s.N : Int)) ∧ w'.cell? ⟨p, 0, none⟩ = some (.slice hx n hcx) ∧ w'.cell? ⟨p, 1, none⟩ = some (.slice bx m bcx) ∧ w'.cell? ⟨p, 2, none⟩ = some (.int .u64 (s.N : Int)) ∧ w'.cell? ⟨p6, 0, none⟩ = some a0 ∧ w'.cell? ⟨p6, 1, none⟩ = some a1 ∧ w'.cell? ⟨p6, 2, none⟩ = some a2 ∧ w'.cell? ⟨p7, 0, none⟩ = some b0 ∧ w'.cell? ⟨p7, 1, none⟩ = some b1 ∧ w'.cell? ⟨p7, 2, none⟩ = some b2)
          (first
            | (with_reducible exact keep12 BQ.out Y5.out X5.out B6.out B7.out)
            | fail)
          (first
            | (go_at_call 11; (with_reducible refine (D11a.out _ BQ.out).mono ?_); rintro e w9 ⟨rfl, b9⟩
               have BQ := Lib.hid (below_chain BQ.out b9)
               clear b9)
            | (go_at_call 9; (with_reducible refine (D9.out _ BQ.out).mono ?_); rintro e w9 ⟨b9, v9, rfl, o9⟩
               obtain ⟨a9, c9, rfl, r9, n9⟩ := own_n o9 rfl
               have R9 := Lib.hid r9
               have BQ := Lib.hid (below_chain BQ.out b9)
               clear b9 o9 r9)
            | (go_at_call 14; (with_reducible refine (D14.out _ BQ.out).mono ?_); rintro e w10 ⟨b10, v10, rfl, o10⟩
               obtain ⟨a10, c10, rfl, r10, n10⟩ := own_n o10 rfl
               have C12 := Lib.hid (same_n d rfl (R9.out.below b10) r10 n9 n10)
               have BQ := Lib.hid (below_chain BQ.out b10)
               clear b10 o10 r10)
            | (go_at_call 12; (with_reducible refine (C12.out).mono ?_); rintro e w7 ⟨rfl, rfl⟩)
            | (go_at_call 7; (with_reducible refine (D7.out _ BQ.out).mono ?_); rintro e w9 ⟨rfl, b9⟩
               have BQ := Lib.hid (below_chain BQ.out b9)
               clear b9)
            | (go_at_call 15; (with_reducible refine (D15.out _ BQ.out).mono ?_); rintro e w9 ⟨rfl, b9⟩
               have BQ := Lib.hid (below_chain BQ.out b9)
               clear b9)
            | (go_at_call 16; (with_reducible refine (D16.out _ BQ.out).mono ?_); rintro e w11 ⟨b11, v11, h11, c11, rfl, s11⟩
               have S11 := Lib.hid s11
               have BQ := Lib.hid (below_chain BQ.out b11)
               clear b11 s11)
            | (go_at_call 17; (with_reducible refine (D17.out _ BQ.out).mono ?_); rintro e w12 ⟨b12, v12, h12, c12, rfl, s12⟩
               have E11 := Lib.hid (same_sha _ _ _ _ _ _ _ _ _ _ _ w12 (S11.out.below b12) s12)
               have BQ := Lib.hid (below_chain BQ.out b12)
               clear b12 s12)
            | (go_at_call 11; (with_reducible refine (E11.out).mono ?_); rintro e w9 ⟨rfl, b9⟩
               have BQ := Lib.hid (below_chain BQ.out b9)
               clear b9)
            | (go_at_call 11; (with_reducible refine (D11c.out _ BQ.out).mono ?_); rintro e w9 ⟨rfl, b9⟩
               have BQ := Lib.hid (below_chain BQ.out b9)
               clear b9)
            | (go_at_call 8; (with_reducible refine (D8.out _ BQ.out).mono ?_); rintro e w9 ⟨rfl, b9⟩
               have BQ := Lib.hid (below_chain BQ.out b9)
               clear b9))
        go_wp2_with fail
        go_ret
        exact ⟨rfl, below_chain BA5.out BQ.out⟩
end Go.Proofs.YtekmmafgknnmlaaDoor.Sh
