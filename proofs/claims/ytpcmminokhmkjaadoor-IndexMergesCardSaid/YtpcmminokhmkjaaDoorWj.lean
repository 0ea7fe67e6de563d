/-
  Small laws for the walks of Write: a digest's boxes, a slice's rest, append of whatever bytes as a step of a region that draws, a block of 64 bytes. Conditions: each law's own.
-/
import Derived.Test.YtpcmminokhmkjaaDoorWi
import Derived.Test.YtpcmminokhmkjaaDoorWa
import Derived.Deep.MidRow
namespace Go.Proofs.YtpcmminokhmkjaaDoor.Sh
open Go.RowKit Go.Lib

/-- the cells of a digest that came in, and of what is answered, in a world of the call's own -/
structure Bx (w wr : World) (ha : Option Addr) (hn hc : Nat) (ba : Option Addr) (bn bc : Nat) (N : Nat) : Prop where
  c0 : wr.cell? ⟨w.heap.size, 0, none⟩ = some (.slice ha hn hc)
  c1 : wr.cell? ⟨w.heap.size, 1, none⟩ = some (.slice ba bn bc)
  c2 : wr.cell? ⟨w.heap.size, 2, none⟩ = some (.int .u64 (N : Int))
  out : Blk wr (w.heap.size + 1) [.slice none 0 0, .slice none 0 0, .int .u64 0] 75
  low : Below w.heap.size w wr
theorem Bx.next {w wr w' : World} {ha : Option Addr} {hn hc : Nat} {ba : Option Addr} {bn bc : Nat} {N : Nat} (h : Bx w wr ha hn hc ba bn bc N) (hb : Below wr.heap.size wr w') : Bx w w' ha hn hc ba bn bc N := by
  have hlt := h.out.lt
  exact ⟨(hb.cell (p := ⟨w.heap.size, 0, none⟩) (by show w.heap.size < _; omega)).trans h.c0, (hb.cell (p := ⟨w.heap.size, 1, none⟩) (by show w.heap.size < _; omega)).trans h.c1, (hb.cell (p := ⟨w.heap.size, 2, none⟩) (by show w.heap.size < _; omega)).trans h.c2, h.out.low hb, below_chain h.low hb⟩
theorem bx_start (w : World) (ha : Option Addr) (hn hc : Nat) (ba : Option Addr) (bn bc : Nat) (N : Nat) :
    Bx w ((w.alloc (.cells #[.slice ha hn hc, .slice ba bn bc, .int .u64 (N : Int)] 75)).alloc (.cells #[.slice none 0 0, .slice none 0 0, .int .u64 0] 75)) ha hn hc ba bn bc N := by
  have h := two_cells w #[.slice ha hn hc, .slice ba bn bc, .int .u64 (N : Int)] #[.slice none 0 0, .slice none 0 0, .int .u64 0] 75 75
  exact ⟨(h 0).1, (h 1).1, (h 2).1, Blk.new (w.alloc _) [.slice none 0 0, .slice none 0 0, .int .u64 0] 75 _ (by simp), two_below w _ _⟩
theorem wrd_at {w : World} {b o : Nat} {l : List UInt32} (h : Wrd w (some ⟨b, o, none⟩) l) (j : Nat) (hj : j < l.length) : w.cell? ⟨b, o + j, none⟩ = some (.int .u32 ((l.getD j 0).toNat : Int)) := by
  obtain ⟨b', o', h1, h2, h3⟩ := h (by intro h0; rw [h0] at hj; simp at hj)
  injection h1 with h1
  injection h1 with e1 e2
  subst e1
  subst e2
  rw [h3 j hj, List.getD_eq_getElem?_getD, List.getElem?_eq_getElem hj]
  rfl

theorem list8 {H : List UInt32} (h : H.length = 8) : ∃ a b c d e f g i, H = [a, b, c, d, e, f, g, i] := by
  match H, h with
  | [a, b, c, d, e, f, g, i], _ => exact ⟨a, b, c, d, e, f, g, i, rfl⟩
theorem Bx.upto {w wr w' : World} {ha : Option Addr} {hn hc : Nat} {ba : Option Addr} {bn bc : Nat} {N K : Nat} (h : Bx w wr ha hn hc ba bn bc N) (hb : Below K wr w') (hK : w.heap.size + 1 < K) : Bx w w' ha hn hc ba bn bc N :=
  ⟨(hb.cell (p := ⟨w.heap.size, 0, none⟩) (by show w.heap.size < _; omega)).trans h.c0, (hb.cell (p := ⟨w.heap.size, 1, none⟩) (by show w.heap.size < _; omega)).trans h.c1, (hb.cell (p := ⟨w.heap.size, 2, none⟩) (by show w.heap.size < _; omega)).trans h.c2, h.out.below hb hK, h.low.trans (hb.mono (by omega))⟩
theorem range_own {w : World} {B g cap n : Nat} {l : List UInt8} (h : w.ownsRow B 5 1 (.slice (some ⟨g, 0, none⟩) n cap) n (bs l)) (hl : l.length = n) : w.rangeAt g 0 (bs l) := fun j v hv => by
  have hj : j < n := by
    have := (List.getElem?_eq_some_iff.1 hv).1
    rw [bs_len] at this
    omega
  rw [Nat.zero_add, h.cellAt j (by omega)]
  exact hv
/-- append to a row of the call's own, as one step of a region that draws, the length told apart -/
theorem step_app_len {P : Program} {t e : TypeId} {w : World} {ops : Array Oper} {o : Oper} {a : Act} {K : Act → World → Prop} {Q : Exit → Act → World → Prop} {E : Prop} (hgd : o.guard = none) (s x : Operand)
    (ho : o.op = .call { callee := .builtin .append, args := #[s, x], argTypes := #[t, t] })
    (ht : P.underlying t = some (.slice e)) (hinf : (P.info? e).map (fun i => (i.zero, i.size, i.bytes)) = some (some (.int .u8 0), 1, 1))
    (base : Nat) (v : Value) (xs l : List UInt8) (hs : a.eval s = v) (hown : w.ownsRow base e 1 v xs.length (bs xs))
    (ad : Addr) (m c : Nat) (hx : a.eval x = .slice (some ad) m c) (hr : Byt w (some ad) l) (hm : Hid (l.length = m))
    (h47 : xs.length + m ≤ 140737488355328) (hbase : base ≤ w.heap.size)
    (h : ∀ v' w', w'.ownsRow base e 1 v' (xs ++ l).length (bs (xs ++ l)) → w.grownBy w' v.ownBlock → K (a.put o.dst v') w') :
    if Region.wanted o (yielded ops a.tmps) = true then Oper.wp P o a w K Q else E := by
  have hm' : l.length = m := hm
  subst hm'
  exact step_app hgd s x ho ht hinf base v xs l hs hown ad c hx hr h47 hbase h

set_option maxRecDepth 100000 in
/-- the rest of a slice of bytes -/
theorem slice_from (ao : Option Addr) (len c n : Nat) (l : List UInt8) (h1 : n ≤ len) (h3 : len = l.length) (h4 : ao = none → c = 0) (h5 : len ≤ c) :
    ∃ ao', (∀ W, (Instr.slice 59 (.slice ao len c) (some (.int .i64 (n : Int))) none none).run Tryd.prog W = .ok (.slice ao' (len - n) (c - n)) W) ∧ (∀ w, Byt w ao l → Byt w ao' (l.drop n)) ∧ (ao' = none → c - n = 0) := by
  have hs := fun W => run_slice_l (P := Tryd.prog) W 59 ao len c (by rw [Tryd.underlying59]; rfl) .i64 (n : Int) (by omega) (by omega)
  have e3 : Tryd.prog.elem 59 = 5 := by kernel_rfl
  simp only [e3, Tryd.sizeOf5, sliced, Result.andThen, Int.toNat_natCast, Nat.mul_one] at hs
  by_cases hcn : c = n
  · refine ⟨ao, fun W => by rw [hs W, if_pos hcn], fun w hb hne => ?_, fun _ => by omega⟩
    exfalso
    apply hne
    apply List.drop_of_length_le
    omega
  · cases ao with
    | none =>
      have := h4 rfl
      omega
    | some a =>
      refine ⟨some (a.add n), fun W => by rw [hs W, if_neg hcn]; rfl, fun w hb => ?_, fun h => by cases h⟩
      by_cases hl : l = []
      · subst hl
        rw [List.drop_nil]
        exact byt_nil _ _
      · obtain ⟨b, o, h0, _, _⟩ := hb hl
        injection h0 with h0
        subst h0
        rw [WideShapes.add_plain]
        exact hb.drop n
/-- append of whatever bytes to a row of the call's own, as one step of a region that draws -/
theorem step_app0 {P : Program} {t e : TypeId} {w : World} {ops : Array Oper} {o : Oper} {a : Act} {K : Act → World → Prop} {Q : Exit → Act → World → Prop} {E : Prop} (hgd : o.guard = none) (s x : Operand)
    (ho : o.op = .call { callee := .builtin .append, args := #[s, x], argTypes := #[t, t] })
    (ht : P.underlying t = some (.slice e)) (hinf : (P.info? e).map (fun i => (i.zero, i.size, i.bytes)) = some (some (.int .u8 0), 1, 1))
    (base : Nat) (v : Value) (xs l : List UInt8) (hs : a.eval s = v) (hown : w.ownsRow base e 1 v xs.length (bs xs))
    (ao : Option Addr) (m c : Nat) (hx : a.eval x = .slice ao m c) (hr : Byt w ao l) (hn : ao = none → c = 0) (hm : Hid (l.length = m))
    (h47 : xs.length + m ≤ 140737488355328) (hbase : base ≤ w.heap.size)
    (h : ∀ v' w', w'.ownsRow base e 1 v' (xs ++ l).length (bs (xs ++ l)) → w.grownBy w' v.ownBlock → K (a.put o.dst v') w') :
    if Region.wanted o (yielded ops a.tmps) = true then Oper.wp P o a w K Q else E := by
  have hm' : l.length = m := hm
  cases ao with
  | some ad => exact step_app_len hgd s x ho ht hinf base v xs l hs hown ad m c hx hr hm h47 hbase h
  | none =>
    obtain rfl : l = [] := by
      cases l with
      | nil => rfl
      | cons y r =>
        obtain ⟨b, o, h0, _⟩ := hr (by simp)
        cases h0
    have hc := hn rfl
    subst hc
    have hw : Region.wanted o (yielded ops a.tmps) = true := by simp [Region.wanted, hgd]
    rw [if_pos hw]
    obtain ⟨i0, hi, _, _, _⟩ := info_parts hinf
    have hx0 : a.eval x = .slice none 0 0 := by rw [hx, ← hm']; rfl
    have hrun := run_append_owned_none (P := P) (w := w) base t o.type e i0 1 ht hi v xs.length (bs xs) hown
    unfold Oper.wp
    simp [execOp, ho, resolve, invoke, builtin, hs, hx0, hrun, Result.andThen]
    exact h v w (by simpa using hown) (World.grownBy.refl w _)
theorem bs64 (X : List UInt8) (h : X.length = 64) : (bs X).toArray = #[.int .u8 (byte X 0 : Int), .int .u8 (byte X 1 : Int), .int .u8 (byte X 2 : Int), .int .u8 (byte X 3 : Int), .int .u8 (byte X 4 : Int), .int .u8 (byte X 5 : Int), .int .u8 (byte X 6 : Int), .int .u8 (byte X 7 : Int), .int .u8 (byte X 8 : Int), .int .u8 (byte X 9 : Int), .int .u8 (byte X 10 : Int), .int .u8 (byte X 11 : Int), .int .u8 (byte X 12 : Int), .int .u8 (byte X 13 : Int), .int .u8 (byte X 14 : Int), .int .u8 (byte X 15 : Int), .int .u8 (byte X 16 : Int), .int .u8 (byte X 17 : Int), .int .u8 (byte X 18 : Int), .int .u8 (byte X 19 : Int), .int .u8 (byte X 20 : Int), .int .u8 (byte X 21 : Int), .int .u8 (byte X 22 : Int), .int .u8 (byte X 23 : Int), .int .u8 (byte X 24 : Int), .int .u8 (byte X 25 : Int), .int .u8 (byte X 26 : Int), .int .u8 (byte X 27 : Int), .int .u8 (byte X 28 : Int), .int .u8 (byte X 29 : Int), .int .u8 (byte X 30 : Int), .int .u8 (byte X 31 : Int), .int .u8 (byte X 32 : Int), .int .u8 (byte X 33 : Int), .int .u8 (byte X 34 : Int), .int .u8 (byte X 35 : Int), .int .u8 (byte X 36 : Int), .int .u8 (byte X 37 : Int), .int .u8 (byte X 38 : Int), .int .u8 (byte X 39 : Int), .int .u8 (byte X 40 : Int), .int .u8 (byte X 41 : Int), .int .u8 (byte X 42 : Int), .int .u8 (byte X 43 : Int), .int .u8 (byte X 44 : Int), .int .u8 (byte X 45 : Int), .int .u8 (byte X 46 : Int), .int .u8 (byte X 47 : Int), .int .u8 (byte X 48 : Int), .int .u8 (byte X 49 : Int), .int .u8 (byte X 50 : Int), .int .u8 (byte X 51 : Int), .int .u8 (byte X 52 : Int), .int .u8 (byte X 53 : Int), .int .u8 (byte X 54 : Int), .int .u8 (byte X 55 : Int), .int .u8 (byte X 56 : Int), .int .u8 (byte X 57 : Int), .int .u8 (byte X 58 : Int), .int .u8 (byte X 59 : Int), .int .u8 (byte X 60 : Int), .int .u8 (byte X 61 : Int), .int .u8 (byte X 62 : Int), .int .u8 (byte X 63 : Int)] := by
  have e : bs X = (List.range 64).map fun j => Value.int .u8 (byte X j : Int) := by
    apply List.ext_getElem?
    intro j
    by_cases hj : j < 64
    · rw [byte_cell X h j hj]
      simp [hj]
    · rw [List.getElem?_eq_none (by rw [bs_len]; omega), List.getElem?_eq_none (by simp; omega)]
  rw [e]
  rfl
end Go.Proofs.YtpcmminokhmkjaaDoor.Sh
