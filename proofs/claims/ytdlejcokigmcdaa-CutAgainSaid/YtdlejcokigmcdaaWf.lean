/-
  The contracts of cut's Cuts, of the document's own Cuts and Ints: for all bytes up to a million. No other condition.
-/
import Derived.Test.YtdlejcokigmcdaaWe
import Derived.Test.YtdlejcokigmcdaaKd
namespace Go.Proofs.Ytdlejcokigmcdaa.Rb
open Go.RowKit Go.Lib

/-- a row of ints of the call's own, answered -/
def AnsI (w : World) (xs : List Nat) (e : Ending) (w' : World) : Prop := Below w.heap.size w w' ∧ ∃ v, e = .returned v ∧ OwnI w' w.heap.size v xs
theorem reffirst_below (ao : Option Addr) (l : List UInt8) (c : Nat) (w : World) (h : Byt w ao l) (hc : l.length ≤ c) (hl : c ≤ 9223372036854775807) :
    Calls Try.prog 17 #[.slice ao l.length c] w fun e w' => e = .returned (.int .i64 (first hit l : Nat)) ∧ Below w.heap.size w w' :=
  (reffirst_any ao l c w h hc hl).mono fun _ _ ⟨h1, h2⟩ => ⟨h1, by rw [← h2]; exact Below.refl _ _⟩
theorem slice_from (b o T c p m : Nat) (h : p + m = T) (hp : p < c) (_hT : T ≤ c) (W : World) :
    (Instr.slice 25 (.slice (some ⟨b, o, none⟩) T c) (some (.int .i64 (p : Int))) none none).run Try.prog W = .ok (.slice (some ⟨b, o + p, none⟩) m (c - p)) W := by
  have hs := run_slice_l (P := Try.prog) W 25 (some ⟨b, o, none⟩) T c (by rw [Try.underlying25]; rfl) .i64 (p : Int) (by omega) (by omega)
  rw [hs]
  have e1 : ((p : Int)).toNat = p := by omega
  have e3 : Try.prog.elem 25 = 5 := by kernel_rfl
  rw [e1, e3]
  simp [Try.sizeOf5, sliced, Result.andThen, Addr.add, show ¬ c = p by omega, show T - p = m by omega]
theorem irw_one (w : World) (n : Nat) : Irw (w.alloc (.cells #[.int .i64 (n : Int)] 3)) (some ⟨w.heap.size, 0, none⟩) [n] := fun _ => by
  refine ⟨w.heap.size, 0, rfl, by simp, fun j hj => ?_⟩
  obtain rfl : j = 0 := by simpa using hj
  rw [World.cell?_alloc_new]
  simp
theorem ends_step (l : List UInt8) (a d : Nat) (ha : a < l.length) (hd : d = first hit (l.drop a)) : ends hit a (l.drop a) = (a + d) :: ends hit (a + d) (l.drop (a + d)) := by
  have hne : l.drop a ≠ [] := fun h => by
    have := congrArg List.length h
    simp at this
    omega
  rw [ends_cons hit a _ hne, ← hd, List.drop_drop]
theorem own_belowI {w w' : World} {B : Nat} {v : Value} {l : List Nat} (h : OwnI w B v l) (hb : Below w.heap.size w w') : OwnI w' B v l := by
  obtain ⟨h1, h2 | ⟨g, cap, cur, e, hB, hg, rest⟩⟩ := h
  · exact ⟨h1, Or.inl h2⟩
  · exact ⟨h1, Or.inr ⟨g, cap, cur, e, hB, (hb.block g (Array.getElem?_eq_some_iff.1 hg).1).trans hg, rest⟩⟩

set_option maxHeartbeats 2000000 in
set_option maxRecDepth 100000 in
theorem cuts_any (ao : Option Addr) (l : List UInt8) (c : Nat) (w : World) (h : Byt w ao l) (hc : l.length ≤ c) (hl : c ≤ 9223372036854775807) (hbig : l.length ≤ 1000000) :
    Calls Try.prog 10 #[.slice ao l.length c] w (AnsI w (ends hit 0 l)) := by
  have HY := Lib.hid (fun W (hB : Below w.heap.size w W) => h.below hB)
  have CF := Lib.hid first_any
  have B0 := Lib.hid (Below.refl w.heap.size w)
  have OW0 := Lib.hid (World.ownsRow_nil w w.heap.size 3 1)
  have S0 : Hid ([] ++ ends hit 0 (l.drop 0) = ends hit 0 l) := by show _ = _; simp
  have HN : Hid (l ≠ [] → ∃ b o, ao = some ⟨b, o, none⟩) := fun hne => by
    obtain ⟨b, o, h1, _⟩ := h hne
    exact ⟨b, o, h1⟩
  clear h
  go_enter Try.func10, Try.ntmps10
  go_wp2_with fail
  go_loopw [3, 4] (fun v va wr => ∃ (xs : List Nat) (a : Nat), a ≤ l.length ∧ va = .int .i64 a ∧ Hid (OwnI wr w.heap.size v xs) ∧ Hid (Below w.heap.size w wr) ∧ Hid (xs ++ ends hit a (l.drop a) = ends hit 0 l) ∧ Hid (xs.length ≤ a)) (fun _ va _ => l.length - (RowKit.intOf va).toNat)
  case atStart => exact ⟨[], 0, by omega, rfl, OW0.out, B0.out, S0.out, Nat.le_refl _⟩
  case round =>
    obtain ⟨xs, a, ha, rfl, hO, hB, hS, hX⟩ := hrel
    by_cases hal : a < l.length
    · obtain ⟨b, o, rfl⟩ := HN.out (by intro h0; rw [h0] at hal; simp at hal)
      obtain ⟨m, hm⟩ : ∃ m, m = l.length - a := ⟨_, rfl⟩
      obtain ⟨d, hd⟩ : ∃ d, d = first hit (l.drop a) := ⟨_, rfl⟩
      have hd1 : 0 < d := by rw [hd]; exact first_pos hit _ (fun h0 => by have := congrArg List.length h0; simp at this; omega)
      have hd2 : a + d ≤ l.length := by have := first_len hit (l.drop a); rw [List.length_drop] at this; omega
      have hst := ends_step l a d hal hd
      have C1 := Lib.hid (CF.out (some ⟨b, o + a, none⟩) (l.drop a) (c - a) wr ((HY.out wr hB.out).drop a) (by rw [List.length_drop]; omega) (by omega))
      rw [List.length_drop, ← hm, ← hd] at C1
      have sl := fun W => slice_from b o l.length c a m (by omega) (by omega) hc W
      obtain ⟨q, hq⟩ : ∃ q, q = a + d := ⟨_, rfl⟩
      have E1 : (a : Int) + (d : Int) = (q : Int) := by omega
      have S1 : Hid ((xs ++ [q]) ++ ends hit q (l.drop q) = ends hit 0 l) := by
        show _ = _
        rw [← hS.out, hst, List.append_assoc, hq]
        rfl
      have X1 : Hid ((xs ++ [q]).length ≤ q) := by show _ ≤ _; rw [List.length_append, List.length_singleton]; have := hX.out; omega
      have q1 : (q : Int) ≤ (l.length : Int) := by omega
      have q2 : (l.length : Int) ≤ 1000000 := by omega
      have hqa : a < q := by omega
      have hql : q ≤ l.length := by omega
      have X2 : (xs.length + 1) * 8 ≤ 140737488355328 := by have := hX.out; omega
      clear hm hd hst hS hq hX hd2
      go_wp2_with fail
      refine C1.out.mono ?_
      rintro e w1 ⟨rfl, b1⟩
      have B1 := Lib.hid (below_chain hB.out b1)
      have O1 := Lib.hid (own_belowI hO.out b1)
      clear b1 hB hO
      have O2 := Lib.hid (World.ownsRow.alloc O1.out (.cells #[.int .i64 (q : Int)] 3))
      have B2 := Lib.hid (below_alloc B1.out (.cells #[.int .i64 (q : Int)] 3))
      have p2 := B2.out.size
      have I1 := Lib.hid (irw_one w1 q)
      have HF : Hid ([q].length = 1) := rfl
      go_wp2_with (at_builtin; refine wpl_appi_len (t := 23) (e := 3) rfl (.tmp 15) (.tmp 17) rfl Try.underlying23 info3 w.heap.size _ xs [q] rfl O2.out (some ⟨w1.heap.size, 0, none⟩) 1 1 rfl I1.out (fun h => by cases h) HF X2 p2 ?_; intro v' w' hown' hgrow)
      have hb' := Lib.hid (B2.out.grown hgrow p2 (fun k hk => (O2.out.lt k hk).1))
      have O3 := Lib.hid hown'
      clear hown' hgrow
      go_wp2_with fail
      go_roundw
      case rel => exact ⟨xs ++ [q], q, hql, rfl, O3.out, hb'.out, S1.out, X1.out⟩
      case measure => simp [RowKit.intOf]; omega
    · obtain rfl : a = l.length := by omega
      have e : Hid (xs = ends hit 0 l) := by
        show _ = _
        have := hS.out
        rw [List.drop_length, ends_nil, List.append_nil] at this
        exact this
      clear hS
      go_wp2_with fail
      go_ret
      exact ⟨hB.out, _, rfl, by rw [← e.out]; exact hO.out⟩

set_option maxHeartbeats 2000000 in
set_option maxRecDepth 100000 in
theorem refcuts_any (ao : Option Addr) (l : List UInt8) (c : Nat) (w : World) (h : Byt w ao l) (hc : l.length ≤ c) (hl : c ≤ 9223372036854775807) (hbig : l.length ≤ 1000000) :
    Calls Try.prog 12 #[.slice ao l.length c] w (AnsI w (ends hit 0 l)) := by
  have HY := Lib.hid (fun W (hB : Below w.heap.size w W) => h.below hB)
  have CF := Lib.hid reffirst_below
  have B0 := Lib.hid (Below.refl w.heap.size w)
  have OW0 := Lib.hid (World.ownsRow_nil w w.heap.size 3 1)
  have S0 : Hid ([] ++ ends hit 0 (l.drop 0) = ends hit 0 l) := by show _ = _; simp
  have HN : Hid (l ≠ [] → ∃ b o, ao = some ⟨b, o, none⟩) := fun hne => by
    obtain ⟨b, o, h1, _⟩ := h hne
    exact ⟨b, o, h1⟩
  clear h
  go_enter Try.func12, Try.ntmps12
  go_wp2_with fail
  go_loopw [3, 4] (fun v va wr => ∃ (xs : List Nat) (a : Nat), a ≤ l.length ∧ va = .int .i64 a ∧ Hid (OwnI wr w.heap.size v xs) ∧ Hid (Below w.heap.size w wr) ∧ Hid (xs ++ ends hit a (l.drop a) = ends hit 0 l) ∧ Hid (xs.length ≤ a)) (fun _ va _ => l.length - (RowKit.intOf va).toNat)
  case atStart => exact ⟨[], 0, by omega, rfl, OW0.out, B0.out, S0.out, Nat.le_refl _⟩
  case round =>
    obtain ⟨xs, a, ha, rfl, hO, hB, hS, hX⟩ := hrel
    by_cases hal : a < l.length
    · obtain ⟨b, o, rfl⟩ := HN.out (by intro h0; rw [h0] at hal; simp at hal)
      obtain ⟨m, hm⟩ : ∃ m, m = l.length - a := ⟨_, rfl⟩
      obtain ⟨d, hd⟩ : ∃ d, d = first hit (l.drop a) := ⟨_, rfl⟩
      have hd1 : 0 < d := by rw [hd]; exact first_pos hit _ (fun h0 => by have := congrArg List.length h0; simp at this; omega)
      have hd2 : a + d ≤ l.length := by have := first_len hit (l.drop a); rw [List.length_drop] at this; omega
      have hst := ends_step l a d hal hd
      have C1 := Lib.hid (CF.out (some ⟨b, o + a, none⟩) (l.drop a) (c - a) wr ((HY.out wr hB.out).drop a) (by rw [List.length_drop]; omega) (by omega))
      rw [List.length_drop, ← hm, ← hd] at C1
      have sl := fun W => slice_from b o l.length c a m (by omega) (by omega) hc W
      obtain ⟨q, hq⟩ : ∃ q, q = a + d := ⟨_, rfl⟩
      have E1 : (a : Int) + (d : Int) = (q : Int) := by omega
      have S1 : Hid ((xs ++ [q]) ++ ends hit q (l.drop q) = ends hit 0 l) := by
        show _ = _
        rw [← hS.out, hst, List.append_assoc, hq]
        rfl
      have X1 : Hid ((xs ++ [q]).length ≤ q) := by show _ ≤ _; rw [List.length_append, List.length_singleton]; have := hX.out; omega
      have q1 : (q : Int) ≤ (l.length : Int) := by omega
      have q2 : (l.length : Int) ≤ 1000000 := by omega
      have hqa : a < q := by omega
      have hql : q ≤ l.length := by omega
      have X2 : (xs.length + 1) * 8 ≤ 140737488355328 := by have := hX.out; omega
      clear hm hd hst hS hq hX hd2
      go_wp2_with fail
      refine C1.out.mono ?_
      rintro e w1 ⟨rfl, b1⟩
      have B1 := Lib.hid (below_chain hB.out b1)
      have O1 := Lib.hid (own_belowI hO.out b1)
      clear b1 hB hO
      have O2 := Lib.hid (World.ownsRow.alloc O1.out (.cells #[.int .i64 (q : Int)] 3))
      have B2 := Lib.hid (below_alloc B1.out (.cells #[.int .i64 (q : Int)] 3))
      have p2 := B2.out.size
      have I1 := Lib.hid (irw_one w1 q)
      have HF : Hid ([q].length = 1) := rfl
      go_wp2_with (at_builtin; refine wpl_appi_len (t := 23) (e := 3) rfl (.tmp 15) (.tmp 17) rfl Try.underlying23 info3 w.heap.size _ xs [q] rfl O2.out (some ⟨w1.heap.size, 0, none⟩) 1 1 rfl I1.out (fun h => by cases h) HF X2 p2 ?_; intro v' w' hown' hgrow)
      have hb' := Lib.hid (B2.out.grown hgrow p2 (fun k hk => (O2.out.lt k hk).1))
      have O3 := Lib.hid hown'
      clear hown' hgrow
      go_wp2_with fail
      go_roundw
      case rel => exact ⟨xs ++ [q], q, hql, rfl, O3.out, hb'.out, S1.out, X1.out⟩
      case measure => simp [RowKit.intOf]; omega
    · obtain rfl : a = l.length := by omega
      have e : Hid (xs = ends hit 0 l) := by
        show _ = _
        have := hS.out
        rw [List.drop_length, ends_nil, List.append_nil] at this
        exact this
      clear hS
      go_wp2_with fail
      go_ret
      exact ⟨hB.out, _, rfl, by rw [← e.out]; exact hO.out⟩

set_option maxHeartbeats 1000000 in
set_option maxRecDepth 100000 in
theorem ints_same (n : Nat) (ao bo : Option Addr) (xs : List Nat) (c d : Nat) (w : World) (h1 : Irw w ao xs) (h2 : Irw w bo xs) (hn : xs.length = n) (hn2 : n ≤ 9223372036854775807) :
    Calls Try.prog 11 #[.slice ao n c, .slice bo n d] w fun e w' => e = .returned (.bool true) ∧ Below w.heap.size w w' := by
  have H1 := Lib.hid h1
  have H2 := Lib.hid h2
  have HL := Lib.hid hn
  clear h1 h2 hn
  go_enter Try.func11, Try.ntmps11
  go_wp2_with fail
  go_loopw [5] (fun vi wr => ∃ (i : Nat), i ≤ n ∧ vi = .int .i64 i ∧ Below w.heap.size w wr) (fun vi _ => n - (RowKit.intOf vi).toNat)
  case atStart => exact ⟨0, by omega, rfl, Below.refl _ _⟩
  case round =>
    obtain ⟨i, hi, rfl, hb⟩ := hrel
    by_cases hin : i < n
    · have l1 := HL.out
      obtain ⟨b1, o1, rfl, hb1, hcell1⟩ := (H1.out.below hb) (by intro h0; rw [h0] at l1; simp at l1; omega)
      obtain ⟨b2, o2, rfl, hb2, hcell2⟩ := (H2.out.below hb) (by intro h0; rw [h0] at l1; simp at l1; omega)
      have d1 := hcell1 i (by omega)
      have d2 := hcell2 i (by omega)
      generalize (xs[i]'(by omega)) = x at *
      have q1 : (0 : Int) ≤ (i : Int) := by omega
      clear hcell1 hcell2 l1
      go_wp2_with fail
      go_quiet (fail)
      go_wp2_with fail
      go_roundw
      case rel => exact ⟨i + 1, by omega, by go_num, below_drewN hb _⟩
      case measure => simp [RowKit.intOf]; omega
    · obtain rfl : i = n := by omega
      go_wp2_with fail
      go_ret
      exact ⟨rfl, hb⟩
end Go.Proofs.Ytdlejcokigmcdaa.Rb
