/-
  A node's size is the sum of its pieces: the contract of the law's function (f4). Condition: the library's variable errors.errorType is as its text lays it.
-/
import Derived.Test.YtpjgkboafmebbaaGreatDoorOp
namespace Go.Proofs.YtpjgkboafmebbaaGreatDoor.Sh
open Go.RowKit Go.Lib Lb
theorem sizes_meta {l : List UInt8} {x : MetaP} {B : Nat} {w : World} {v : Value} (hx : getMeta ltB nameOk l = some x) (hv : VMeta B w x v) :
    ∃ q1 n1 c1 q2 n2 c2, v = .agg #[.int .i64 x.kind, .int .i64 x.mode, .int .i64 x.links, .int .i64 x.size, .string x.target, .slice q1 n1 c1, .slice q2 n2 c2] ∧ Rrw w q2 x.refs ∧ x.refs.length = n2 ∧ n2 ≤ c2 ∧ c2 ≤ 9223372036854775807 ∧ n2 ≤ 128 ∧ (∀ r ∈ x.refs, okRef r) ∧ sumTo x.refs n2 = x.size ∧ 0 ≤ x.size ∧ x.size ≤ 32768 := by
  obtain ⟨ho, hl⟩ := (getMeta_iff ltB nameOk nameOk_len l x).1 hx
  obtain ⟨u, t, rfl, hu, ht⟩ := hv
  obtain ⟨ao, c, rfl, h1, h2, _, h3⟩ := ownA_arw hu (fun a ha => by have := nameOk_len _ (ho.names a ha); have e : a.1.size = a.1.data.toList.length := Array.length_toList.symm
                                                                    omega)
  obtain ⟨bo, d, rfl, k1, k2, _, k3⟩ := ownG_rrw ht (fun r hr => okRef_size (ho.refs r hr))
  refine ⟨ao, _, c, bo, _, d, rfl, k3, rfl, k1, k2, ho.many, ho.refs, ?_, ho.size.1, ho.size.2⟩
  unfold sumTo
  rw [List.take_length]
  exact ho.sum
theorem ref_facts {r : RefP} (h : okRef r) : 1 ≤ r.n ∧ ∃ q : Bool, r.key.toList.isEmpty = q ∧ decide ((0 : Int) < r.lower) = q := by
  rcases h with ⟨h1, h2, _, h4⟩ | ⟨h1, h2, _, h4⟩
  · refine ⟨h4.1, false, ?_, by rw [h2]; rfl⟩
    rw [key_empty, decide_eq_false_iff_not]
    intro h0
    have := key_size _ h1
    rw [h0] at this
    exact absurd this (by decide)
  · refine ⟨h4.1, true, by rw [key_empty, h1]; rfl, ?_⟩
    have := h2.1
    simp only [decide_eq_true_eq]
    omega
set_option maxHeartbeats 4000000 in
set_option maxRecDepth 100000 in
/-- a node's size is the sum of its pieces -/
theorem sizes_any (ao : Option Addr) (c : Nat) (l : List UInt8) (w : World) (hb : Byt w ao l) (hn : ao = none → c = 0) (hc : l.length ≤ c) (hm : c ≤ 9223372036854775807) (hf : ∀ a, ao = some a → a.block < w.heap.size) (he : ErrT w) :
    Calls Tryz.prog 4 #[.slice ao l.length c] w fun e w' => e = .returned (.bool true) ∧ Below w.heap.size w w' := by
  have HD := Lib.hid (fun W (h : Below w.heap.size w W) => heads_any W (he.below h))
  by_cases h4 : l.length ≤ 9000
  · have G0 := Lib.hid (oget_meta ao l.length c l w hb hn rfl hc hm (by omega) hf he)
    have d1 : decide ((9000 : Int) < (l.length : Int)) = false := decide_eq_false (by omega)
    have d2 : decide ((9000 : Nat) < l.length) = false := decide_eq_false (by omega)
    clear hb hn hc hm hf he
    go_enter Tryz.func4, Tryz.ntmps4
    go_wp2_with fail
    refine G0.out.mono ?_
    clear G0
    intro e wa ha
    obtain ⟨hb, ⟨hnn, rfl⟩ | ⟨x, v, hx, rfl, hv⟩⟩ := ha
    · have ba := Lib.hid (below_alloc hb (.cells #[.int .i64 0, .int .i64 0, .int .i64 0, .int .i64 0, .string ⟨#[]⟩, .slice none 0 0, .slice none 0 0] 26))
      clear hb hnn
      go_wp2_with fail
      refine (HD.out _ ba.out).mono ?_
      rintro e wz ⟨rfl, hz⟩
      have hz2 := below_chain ba.out hz
      go_wp2_with fail
      go_ret
      exact ⟨rfl, hz2⟩
    · obtain ⟨q1, n1, c1, q2, n2, c2, rfl, hr, hln, hc1, hc2, h128, hok, hsum, hs0, hs1⟩ := sizes_meta hx hv
      clear hx hv
      have HR := Lib.hid hr
      have HL := Lib.hid hln
      have HOK := Lib.hid hok
      have HS := Lib.hid hsum
      have HB := Lib.hid (below_alloc hb (.cells #[.int .i64 x.kind, .int .i64 x.mode, .int .i64 x.links, .int .i64 x.size, .string x.target, .slice q1 n1 c1, .slice q2 n2 c2] 26))
      have KB : Hid (Blk (wa.alloc (.cells #[.int .i64 x.kind, .int .i64 x.mode, .int .i64 x.links, .int .i64 x.size, .string x.target, .slice q1 n1 c1, .slice q2 n2 c2] 26)) wa.heap.size [.int .i64 x.kind, .int .i64 x.mode, .int .i64 x.links, .int .i64 x.size, .string x.target, .slice q1 n1 c1, .slice q2 n2 c2] 26) := Blk.new wa [.int .i64 x.kind, .int .i64 x.mode, .int .i64 x.links, .int .i64 x.size, .string x.target, .slice q1 n1 c1, .slice q2 n2 c2] 26 _ rfl
      have HR1 := Lib.hid (HR.out.below ((Below.refl _ wa).alloc (Nat.le_refl _) (.cells #[.int .i64 x.kind, .int .i64 x.mode, .int .i64 x.links, .int .i64 x.size, .string x.target, .slice q1 n1 c1, .slice q2 n2 c2] 26)))
      generalize x.refs = rs at *
      generalize x.kind = xk at *
      generalize x.mode = xm at *
      generalize x.links = xl at *
      generalize x.size = xs at *
      generalize x.target = xt at *
      clear hr hln hok hsum hb HR
      go_wp2_with fail
      generalize wa.alloc (.cells #[.int .i64 xk, .int .i64 xm, .int .i64 xl, .int .i64 xs, .string xt, .slice q1 n1 c1, .slice q2 n2 c2] 26) = wb at *
      go_loopw [5, 6] (fun vs vi wr => ∃ (i : Nat) (z : Int), i ≤ n2 ∧ vi = .int .i64 i ∧ vs = .int .i64 z ∧ 0 ≤ z ∧ z ≤ 32768 * (i : Int) ∧ Hid (z = sumTo rs i) ∧ Hid (Below wb.heap.size wb wr)) (fun _ vi _ => n2 - (RowKit.intOf vi).toNat)
      case atStart => exact ⟨0, 0, by omega, rfl, rfl, by omega, by omega, rfl, Below.refl _ wb⟩
      case round =>
        obtain ⟨i, z, hi, rfl, rfl, z0, z1, hZ, hB⟩ := hrel
        have hK := Lib.hid (KB.out.low hB.out)
        have k3 := hK.out.cell 3
        have k6 := hK.out.cell 6
        simp only [List.getElem?_cons_zero, List.getElem?_cons_succ] at k3 k6
        by_cases hin : i < n2
        · obtain ⟨bb, o, r, rfl, hb, hx, x0, x1, x2, x3, x4⟩ := rrw_cell HR1.out i (by have := HL.out; omega)
          have HX := Lib.hid hx
          have e0 := (hB.out.cell (p := ⟨bb, o + i * 4, none⟩) hb).trans x0
          have e1 := (hB.out.cell (p := ⟨bb, o + i * 4 + 1, none⟩) hb).trans x1
          have e3 := (hB.out.cell (p := ⟨bb, o + i * 4 + 3, none⟩) hb).trans x3
          have q1 : (0 : Int) ≤ (i : Int) := by omega
          have q2 : (i : Int) < (n2 : Int) := by omega
          obtain ⟨f1, q, f2, f3⟩ := ref_facts (HOK.out r (List.mem_of_getElem? hx))
          have f4 : (!q == q) = false := by cases q <;> rfl
          have f0 : decide (r.n < 1) = false := decide_eq_false (by omega)
          clear hx x0 x1 x2 x3 hb
          go_wp2_with fail
          go_region
          have e3 : wr.drew.cell? ⟨bb, o + i * 4 + 3, none⟩ = some (.int .i64 r.n) := e3
          have k6 : wr.drew.cell? ⟨wa.heap.size, 6, none⟩ = some (.slice (some ⟨bb, o, none⟩) n2 c2) := k6
          have hB2 := Lib.hid hB.out.drew
          have hT : AllTo okRef rs (i + 1) := fun y hy => HOK.out y (List.mem_of_mem_take hy)
          obtain ⟨s0, s1⟩ := sumTo_le hT
          have hsm := sumTo_more HX.out
          rw [← hZ.out] at hsm
          have HSM := Lib.hid hsm
          have p1 : 0 ≤ z + r.n := by omega
          have p2 : z + r.n ≤ 32768 * ((i + 1 : Nat) : Int) := by omega
          have p3 : z + r.n ≤ 4194304 := by omega
          have p4 : IntKind.i64.wrap (z + r.n) = z + r.n := IntWalk.i64_in _ (by omega)
          clear hT s0 s1 hsm
          generalize wr.drew = wd at *
          go_wp2_with fail
          go_roundw
          case rel => exact ⟨i + 1, z + r.n, by omega, by go_num, rfl, p1, p2, HSM.out.symm, hB2⟩
          case measure => simp [RowKit.intOf]; omega
        · obtain rfl : i = n2 := by omega
          have hz : z = xs := by rw [hZ.out, HS.out]
          have HBR := Lib.hid (below_chain HB.out hB.out)
          have t1 : ((z : Int) == xs) = true := by rw [hz]; simp
          have t2 : decide (z ≤ 32768) = true := decide_eq_true (by omega)
          clear hz
          go_wp2_with fail
          refine (HD.out _ HBR.out).mono ?_
          rintro e wz ⟨rfl, hz⟩
          have hz2 := below_chain HBR.out hz
          go_wp2_with fail
          go_ret
          exact ⟨rfl, hz2⟩
  · have d1 : decide ((9000 : Int) < (l.length : Int)) = true := decide_eq_true (by omega)
    have d2 : decide ((9000 : Nat) < l.length) = true := decide_eq_true (by omega)
    have b0 := Lib.hid (Below.refl w.heap.size w)
    clear hb hn hc hm hf he
    go_enter Tryz.func4, Tryz.ntmps4
    go_wp2_with fail
    refine (HD.out _ b0.out).mono ?_
    rintro e wz ⟨rfl, hz⟩
    go_wp2_with fail
    go_ret
    exact ⟨rfl, hz⟩
end Go.Proofs.YtpjgkboafmebbaaGreatDoor.Sh
