/-
  The walk of the statement CrcAdds. Condition: bytes are at most 2^47.
-/
import Derived.Test.YtjfnjpjkpkpohaaWf
import Derived.WalkLawsBesides
import Derived.Deep.RegionHeld3
import Derived.StillTailTactics
namespace Go.Proofs.Ytjfnjpjkpkpohaa.Cr
open Go.RowKit Go.Lib

section
variable {P : Program} {t e : TypeId}
/-- append to a row of the call's own, as one step of a region that draws -/
theorem step_app {w : World} {ops : Array Oper} {o : Oper} {a : Act} {K : Act → World → Prop} {Q : Exit → Act → World → Prop} {E : Prop} (hgd : o.guard = none) (s x : Operand)
    (ho : o.op = .call { callee := .builtin .append, args := #[s, x], argTypes := #[t, t] })
    (ht : P.underlying t = some (.slice e)) (hinf : (P.info? e).map (fun i => (i.zero, i.size, i.bytes)) = some (some (.int .u8 0), 1, 1))
    (base : Nat) (v : Value) (xs l : List UInt8) (hs : a.eval s = v) (hown : w.ownsRow base e 1 v xs.length (bs xs))
    (ad : Addr) (c : Nat) (hx : a.eval x = .slice (some ad) l.length c) (hr : Byt w (some ad) l)
    (h47 : xs.length + l.length ≤ 140737488355328) (hbase : base ≤ w.heap.size)
    (h : ∀ v' w', w'.ownsRow base e 1 v' (xs ++ l).length (bs (xs ++ l)) → w.grownBy w' v.ownBlock → K (a.put o.dst v') w') :
    if Region.wanted o (yielded ops a.tmps) = true then Oper.wp P o a w K Q else E := by
  have hw : Region.wanted o (yielded ops a.tmps) = true := by simp [Region.wanted, hgd]
  rw [if_pos hw]
  obtain ⟨i0, hi, hz0, hz1, hz2⟩ := info_parts hinf
  refine wp_append_own w s x t ho base e i0 (.int .u8 0) 1 1 ht hi hz0 hz1 hz2 rfl (by decide) v xs.length (bs xs) hs hown ad l.length c (bs l) hx (by simp [bs]) ?_ (bs_one l)
    (by unfold maxLen; omega) (by omega) hbase (fun v' w' h1 h2 _ => h v' w' (by rw [List.length_append, bs_app]; exact h1) h2)
  intro j u hj
  have hjl : j < l.length := by
    have := (List.getElem?_eq_some_iff.1 hj).1
    simpa [bs] using this
  obtain ⟨b, o', h0, _, hcell⟩ := hr (by intro h0; rw [h0] at hjl; simp at hjl)
  injection h0 with h0
  subst h0
  rw [WideShapes.add_plain, hcell j hjl]
  rw [bs_get l j hjl] at hj
  exact hj
end

/-- the three, put together -/
def xor3 (l m k : List UInt8) : List UInt8 := List.zipWith (· ^^^ ·) (List.zipWith (· ^^^ ·) l m) k
theorem xor3_len (l m k : List UInt8) : (xor3 l m k).length = min (min l.length m.length) k.length := by simp [xor3]
theorem xor3_get (l m k : List UInt8) (i : Nat) (h1 : i < l.length) (h2 : i < m.length) (h3 : i < k.length) : (xor3 l m k)[i]? = some ((l[i] ^^^ m[i]) ^^^ k[i]) := by
  simp [xor3, List.getElem?_zipWith, h1, h2, h3]
theorem xor3_take (n : Nat) (l m k : List UInt8) : xor3 (l.take n) (m.take n) (k.take n) = (xor3 l m k).take n := by
  simp [xor3, List.take_zipWith]
theorem byt_one (w : World) (c : UInt8) (n : Nat) (h : n = c.toNat) : Byt (w.alloc (.cells #[.int .u8 (n : Int)] 5)) (some ⟨w.heap.size, 0, none⟩) [c] := fun _ => by
  refine ⟨w.heap.size, 0, rfl, by simp, fun j hj => ?_⟩
  obtain rfl : j = 0 := by simpa using hj
  rw [World.cell?_alloc_new]
  simp [h]
theorem add_zero (a : Addr) : a.add 0 = a := by
  obtain ⟨b, o, sp⟩ := a
  cases sp <;> simp [Addr.add]
theorem slice_to (ao : Option Addr) (len c n : Nat) (hn : n ≤ c) (W : World) :
    (Instr.slice 22 (.slice ao len c) none (some (.int .i64 (n : Int))) none).run Try.prog W = .ok (.slice ao n c) W := by
  have hs := run_slice_h (P := Try.prog) W 22 ao len c (by rw [Try.underlying22]; rfl) .i64 (n : Int) (by omega) (by omega)
  rw [hs]
  have e2 : ((n : Int)).toNat = n := by omega
  have e3 : Try.prog.elem 22 = 5 := by kernel_rfl
  rw [e2, e3]
  cases ao with
  | none => simp [Try.sizeOf5, sliced, Result.andThen]
  | some a => simp [Try.sizeOf5, sliced, Result.andThen, add_zero]
/-- one turn of the loop, told of cells -/
theorem xor3_next (l m k : List UInt8) (i : Nat) (h1 : i < l.length) (h2 : i < m.length) (h3 : i < k.length) : (xor3 l m k).take (i + 1) = (xor3 l m k).take i ++ [(l[i] ^^^ m[i]) ^^^ k[i]] := by
  have hl : i < (xor3 l m k).length := by rw [xor3_len]; omega
  have := xor3_get l m k i h1 h2 h3
  rw [List.getElem?_eq_getElem hl] at this
  rw [List.take_succ_eq_append_getElem hl, Option.some.inj this]

set_option maxHeartbeats 8000000 in
set_option maxRecDepth 100000 in
theorem adds_p (p q r : Nat) (ao bo co : Option Addr) (l m k : List UInt8) (c d e : Nat) (w : World) (hp : l.length = p) (hq : m.length = q) (hr : k.length = r) (h1 : Byt w ao l) (h2 : Byt w bo m) (h3 : Byt w co k)
    (hc : p ≤ c) (hc2 : c ≤ 9223372036854775807) (hd : q ≤ d) (hd2 : d ≤ 9223372036854775807) (he : r ≤ e) (he2 : e ≤ 9223372036854775807) (hbig : p ≤ 140737488355327 ∧ q ≤ 140737488355327 ∧ r ≤ 140737488355327) (m1 : p ≤ q) (m2 : p ≤ r) :
    Calls Try.prog 3 #[.slice ao p c, .slice bo q d, .slice co r e] w fun e w' => e = .returned (.bool true) ∧ Below w.heap.size w w' := by
  have H1 := Lib.hid h1
  have H2 := Lib.hid h2
  have H3 := Lib.hid h3
  have HP := Lib.hid hp
  have HQ := Lib.hid hq
  have HR := Lib.hid hr
  obtain ⟨z, hz⟩ : ∃ z, z = xor3 l m k := ⟨_, rfl⟩
  have hzl : z.length = p := by rw [hz, xor3_len, hp, hq, hr]; omega
  have HZ := Lib.hid hz
  have HL := Lib.hid hzl
  obtain ⟨g1, g2, g3⟩ := hbig
  clear h1 h2 h3 hp hq hr hz hzl
  go_enter Try.func3, Try.ntmps3
  go_wp2_with fail
  go_loopw [8, 9] (fun v vi wr => ∃ (i : Nat), i ≤ p ∧ vi = .int .i64 i ∧ Own wr w.heap.size v (z.take i) ∧ Below w.heap.size w wr) (fun _ vi _ => p - (RowKit.intOf vi).toNat)
  case atStart => exact ⟨0, by omega, rfl, World.ownsRow_nil _ _ _ _, Below.refl _ _⟩
  case round =>
    obtain ⟨i, hi, rfl, hown, hb⟩ := hrel
    have hbz := hb.size
    by_cases hin : i < p
    · have l1 := HP.out
      have l2 := HQ.out
      have l3 := HR.out
      obtain ⟨b1, o1, rfl, hb1, hcell1⟩ := (H1.out) (by intro h0; rw [h0] at l1; simp at l1; omega)
      obtain ⟨b2, o2, rfl, hb2, hcell2⟩ := (H2.out) (by intro h0; rw [h0] at l2; simp at l2; omega)
      obtain ⟨b3, o3, rfl, hb3, hcell3⟩ := (H3.out) (by intro h0; rw [h0] at l3; simp at l3; omega)
      have d1 := (hb.cell (p := ⟨b1, o1 + i, none⟩) hb1).trans (hcell1 i (by omega))
      have d2 := (hb.cell (p := ⟨b2, o2 + i, none⟩) hb2).trans (hcell2 i (by omega))
      have d3 := (hb.cell (p := ⟨b3, o3 + i, none⟩) hb3).trans (hcell3 i (by omega))
      have hn := xor3_next l m k i (by omega) (by omega) (by omega)
      rw [← HZ.out] at hn
      obtain ⟨x, hx⟩ : ∃ x, x = l[i]'(by omega) := ⟨_, rfl⟩
      obtain ⟨y, hy⟩ : ∃ y, y = m[i]'(by omega) := ⟨_, rfl⟩
      obtain ⟨u, hu⟩ : ∃ u, u = k[i]'(by omega) := ⟨_, rfl⟩
      rw [← hx] at d1 hn
      rw [← hy] at d2 hn
      rw [← hu] at d3 hn
      clear hx hy hu hcell1 hcell2 hcell3 l1 l2 l3
      have hlen : (z.take i).length = i := by have := HL.out; simp; omega
      have e1 := u8_xor_nat x.toNat y.toNat x.toNat_lt y.toNat_lt
      have e2 := u8_xor_nat (x.toNat ^^^ y.toNat) u.toNat (Nat.xor_lt_two_pow (n := 8) x.toNat_lt y.toNat_lt) u.toNat_lt
      have ev : (x.toNat ^^^ y.toNat) ^^^ u.toNat = ((x ^^^ y) ^^^ u).toNat := by rw [UInt8.toNat_xor, UInt8.toNat_xor]
      obtain ⟨s1, hs1⟩ : ∃ s : Nat, s = x.toNat ^^^ y.toNat := ⟨_, rfl⟩
      rw [← hs1] at e1 e2 ev
      obtain ⟨s2, hs2⟩ : ∃ s : Nat, s = s1 ^^^ u.toNat := ⟨_, rfl⟩
      rw [← hs2] at e2 ev
      have hlit := (byt_one wr ((x ^^^ y) ^^^ u) s2 ev).drew
      have own1 : Own (wr.alloc (.cells #[.int .u8 (s2 : Int)] 5)).drew w.heap.size u8 (z.take i) := (World.ownsRow.alloc hown _)
      have hbb : Below w.heap.size w (wr.alloc (.cells #[.int .u8 (s2 : Int)] 5)).drew := (hb.alloc hbz _).drew
      have n1 : some b1 ≠ u8.ownBlock := fun h => by have := (hown.lt b1 h.symm).1; omega
      have n2 : some b2 ≠ u8.ownBlock := fun h => by have := (hown.lt b2 h.symm).1; omega
      have n3 : some b3 ≠ u8.ownBlock := fun h => by have := (hown.lt b3 h.symm).1; omega
      have k1 : (z.take i).length + [(x ^^^ y) ^^^ u].length ≤ 140737488355328 := by rw [hlen]; simp; omega
      have k2 := hbb.size
      have HN := Lib.hid hn
      have OWN := Lib.hid own1
      have BB := Lib.hid hbb
      have LIT := Lib.hid hlit
      have q1 : (0 : Int) ≤ (i : Int) := Int.natCast_nonneg _
      have q2 : (i : Int) < (p : Int) := by omega
      have q3 : (i : Int) < (q : Int) := by omega
      have q4 : (i : Int) < (r : Int) := by omega
      clear hn own1 hbb hlit hs1 hs2 ev hown hb hlen
      go_wp2_with fail
      go_region_held3 (fun w' => w'.cell? ⟨b1, o1 + i, none⟩ = some (.int .u8 x.toNat) ∧ w'.cell? ⟨b2, o2 + i, none⟩ = some (.int .u8 y.toNat) ∧ w'.cell? ⟨b3, o3 + i, none⟩ = some (.int .u8 u.toNat))
        (first
          | go_keep
          | (go_split_ands
             refine ⟨?_, ?_, ?_⟩
             · exact hgrow1.cell (by assumption) n1
             · exact hgrow1.cell (by assumption) n2
             · exact hgrow1.cell (by assumption) n3))
        ((refine step_app (t := 22) (e := 5) rfl (.tmp 22) (.tmp 37) rfl Try.underlying22 info5 w.heap.size _ (z.take i) [(x ^^^ y) ^^^ u] rfl OWN.out ⟨wr.heap.size, 0, none⟩ 1 rfl LIT.out k1 k2 ?_; intro v1 w1 hown1 hgrow1))
      have hb' : Below w.heap.size w w1 := BB.out.grown hgrow1 k2 (fun k hk => (OWN.out.lt k hk).1)
      go_wp2_with fail
      go_roundw
      case rel => exact ⟨i + 1, by omega, by go_num, by rw [HN.out]; exact hown1, hb'⟩
      case measure => simp [RowKit.intOf]; omega
    · obtain rfl : p = i := by omega
      have hown' : Own wr w.heap.size u8 z := by
        have := hown
        rwa [List.take_of_length_le (by have := HL.out; omega)] at this
      obtain ⟨za, zc, hu, hz1, hz2, hz3, hz4⟩ := own_byt hown'
      have l1 := HP.out
      have l2 := HQ.out
      have l3 := HR.out
      have zl := HL.out
      have cz := sum_len p za z zc wr.drew hz3.drew zl (by omega) hz2
      have ca := sum_len p ao (l.take p) c wr.drew ((H1.out.below hb).take _).drew (by simp; omega) (by omega) hc2
      have cb := sum_len p bo (m.take p) d wr.drew ((H2.out.below hb).take _).drew (by simp; omega) (by omega) hd2
      have cc := sum_len p co (k.take p) e wr.drew ((H3.out.below hb).take _).drew (by simp; omega) (by omega) he2
      have hsum : sumL z = sumL (l.take p) ^^^ sumL (m.take p) ^^^ sumL (k.take p) := by
        rw [← sums3 _ _ _ (by simp; omega) (by simp; omega)]
        show _ = sumL (xor3 _ _ _)
        rw [xor3_take, ← HZ.out, List.take_of_length_le (by omega)]
      have t1 : sumL (l.take p) < 4294967296 := moreL_lt 0 _
      have t2 : sumL (m.take p) < 4294967296 := moreL_lt 0 _
      have t3 : sumL (k.take p) < 4294967296 := moreL_lt 0 _
      obtain ⟨s0, hs0⟩ : ∃ s, s = sumL z := ⟨_, rfl⟩
      obtain ⟨s1, hs1⟩ : ∃ s, s = sumL (l.take p) := ⟨_, rfl⟩
      obtain ⟨s2, hs2⟩ : ∃ s, s = sumL (m.take p) := ⟨_, rfl⟩
      obtain ⟨s3, hs3⟩ : ∃ s, s = sumL (k.take p) := ⟨_, rfl⟩
      rw [← hs0] at cz hsum
      rw [← hs1] at ca hsum t1
      rw [← hs2] at cb hsum t2
      rw [← hs3] at cc hsum t3
      have e1 := u32_xor_nat s1 s2 t1 t2
      have e2 := u32_xor_nat (s1 ^^^ s2) s3 (Nat.xor_lt_two_pow (n := 32) t1 t2) t3
      rw [← hsum] at e2
      obtain ⟨s4, hs4⟩ : ∃ s, s = s1 ^^^ s2 := ⟨_, rfl⟩
      rw [← hs4] at e1 e2
      have zl' := zl
      rw [zl] at hu
      clear hs0 hs1 hs2 hs3 hs4 hsum t1 t2 t3
      have P1 := slice_to ao p c p (by omega)
      have P2 := slice_to bo q d p (by omega)
      have P3 := slice_to co r e p (by omega)
      have CZ := Lib.hid (cz.mono (R' := fun e w'' => e = .returned (.int .u32 s0) ∧ w'' = wr.drew) fun _ _ ⟨h, hw⟩ => ⟨h, hw.symm⟩)
      have CA := Lib.hid (ca.mono (R' := fun e w'' => e = .returned (.int .u32 s1) ∧ w'' = wr.drew) fun _ _ ⟨h, hw⟩ => ⟨h, hw.symm⟩)
      have CB := Lib.hid (cb.mono (R' := fun e w'' => e = .returned (.int .u32 s2) ∧ w'' = wr.drew) fun _ _ ⟨h, hw⟩ => ⟨h, hw.symm⟩)
      have CC := Lib.hid (cc.mono (R' := fun e w'' => e = .returned (.int .u32 s3) ∧ w'' = wr.drew) fun _ _ ⟨h, hw⟩ => ⟨h, hw.symm⟩)
      have C8 := Lib.hid (heads_any wr.drew)
      have BD := Lib.hid hb.drew
      clear cz ca cb cc l1 l2 l3 zl zl' hz1 hz2 hz3 hz4 hown hown' hb
      subst hu
      go_wp2_with fail
      refine wp_region_still_tail 18 (by kernel_rfl) (by kernel_rfl) ?_
      simp only [List.take_succ_cons, List.take_zero, List.drop_succ_cons, List.drop_zero]
      still_step
      still_call CZ.out
      still_step
      still_step
      still_step
      still_call CA.out
      still_step
      still_step
      still_step
      still_call CB.out
      still_step
      still_step
      still_step
      still_step
      still_call CC.out
      still_step
      still_step
      still_step
      refine wpStill_nil ?_
      change wpList _ _ _ _ _ wr.drew
      have BW := BD.out
      obtain ⟨w2, hw2⟩ : ∃ w2, w2 = wr.drew := ⟨_, rfl⟩
      rw [← hw2] at C8 BW ⊢
      clear hw2 BD CZ CA CB CC
      go_wp2_with fail
      refine C8.out.mono ?_
      rintro e w' ⟨rfl, b8⟩
      go_wp2_with fail
      go_ret
      exact ⟨rfl, BW.trans (b8.mono BW.size)⟩
set_option maxHeartbeats 8000000 in
set_option maxRecDepth 100000 in
theorem adds_q (p q r : Nat) (ao bo co : Option Addr) (l m k : List UInt8) (c d e : Nat) (w : World) (hp : l.length = p) (hq : m.length = q) (hr : k.length = r) (h1 : Byt w ao l) (h2 : Byt w bo m) (h3 : Byt w co k)
    (hc : p ≤ c) (hc2 : c ≤ 9223372036854775807) (hd : q ≤ d) (hd2 : d ≤ 9223372036854775807) (he : r ≤ e) (he2 : e ≤ 9223372036854775807) (hbig : p ≤ 140737488355327 ∧ q ≤ 140737488355327 ∧ r ≤ 140737488355327) (m1 : q < p) (m2 : q ≤ r) :
    Calls Try.prog 3 #[.slice ao p c, .slice bo q d, .slice co r e] w fun e w' => e = .returned (.bool true) ∧ Below w.heap.size w w' := by
  have H1 := Lib.hid h1
  have H2 := Lib.hid h2
  have H3 := Lib.hid h3
  have HP := Lib.hid hp
  have HQ := Lib.hid hq
  have HR := Lib.hid hr
  obtain ⟨z, hz⟩ : ∃ z, z = xor3 l m k := ⟨_, rfl⟩
  have hzl : z.length = q := by rw [hz, xor3_len, hp, hq, hr]; omega
  have HZ := Lib.hid hz
  have HL := Lib.hid hzl
  obtain ⟨g1, g2, g3⟩ := hbig
  clear h1 h2 h3 hp hq hr hz hzl
  go_enter Try.func3, Try.ntmps3
  go_wp2_with fail
  go_loopw [8, 9] (fun v vi wr => ∃ (i : Nat), i ≤ q ∧ vi = .int .i64 i ∧ Own wr w.heap.size v (z.take i) ∧ Below w.heap.size w wr) (fun _ vi _ => q - (RowKit.intOf vi).toNat)
  case atStart => exact ⟨0, by omega, rfl, World.ownsRow_nil _ _ _ _, Below.refl _ _⟩
  case round =>
    obtain ⟨i, hi, rfl, hown, hb⟩ := hrel
    have hbz := hb.size
    by_cases hin : i < q
    · have l1 := HP.out
      have l2 := HQ.out
      have l3 := HR.out
      obtain ⟨b1, o1, rfl, hb1, hcell1⟩ := (H1.out) (by intro h0; rw [h0] at l1; simp at l1; omega)
      obtain ⟨b2, o2, rfl, hb2, hcell2⟩ := (H2.out) (by intro h0; rw [h0] at l2; simp at l2; omega)
      obtain ⟨b3, o3, rfl, hb3, hcell3⟩ := (H3.out) (by intro h0; rw [h0] at l3; simp at l3; omega)
      have d1 := (hb.cell (p := ⟨b1, o1 + i, none⟩) hb1).trans (hcell1 i (by omega))
      have d2 := (hb.cell (p := ⟨b2, o2 + i, none⟩) hb2).trans (hcell2 i (by omega))
      have d3 := (hb.cell (p := ⟨b3, o3 + i, none⟩) hb3).trans (hcell3 i (by omega))
      have hn := xor3_next l m k i (by omega) (by omega) (by omega)
      rw [← HZ.out] at hn
      obtain ⟨x, hx⟩ : ∃ x, x = l[i]'(by omega) := ⟨_, rfl⟩
      obtain ⟨y, hy⟩ : ∃ y, y = m[i]'(by omega) := ⟨_, rfl⟩
      obtain ⟨u, hu⟩ : ∃ u, u = k[i]'(by omega) := ⟨_, rfl⟩
      rw [← hx] at d1 hn
      rw [← hy] at d2 hn
      rw [← hu] at d3 hn
      clear hx hy hu hcell1 hcell2 hcell3 l1 l2 l3
      have hlen : (z.take i).length = i := by have := HL.out; simp; omega
      have e1 := u8_xor_nat x.toNat y.toNat x.toNat_lt y.toNat_lt
      have e2 := u8_xor_nat (x.toNat ^^^ y.toNat) u.toNat (Nat.xor_lt_two_pow (n := 8) x.toNat_lt y.toNat_lt) u.toNat_lt
      have ev : (x.toNat ^^^ y.toNat) ^^^ u.toNat = ((x ^^^ y) ^^^ u).toNat := by rw [UInt8.toNat_xor, UInt8.toNat_xor]
      obtain ⟨s1, hs1⟩ : ∃ s : Nat, s = x.toNat ^^^ y.toNat := ⟨_, rfl⟩
      rw [← hs1] at e1 e2 ev
      obtain ⟨s2, hs2⟩ : ∃ s : Nat, s = s1 ^^^ u.toNat := ⟨_, rfl⟩
      rw [← hs2] at e2 ev
      have hlit := (byt_one wr ((x ^^^ y) ^^^ u) s2 ev).drew
      have own1 : Own (wr.alloc (.cells #[.int .u8 (s2 : Int)] 5)).drew w.heap.size u8 (z.take i) := (World.ownsRow.alloc hown _)
      have hbb : Below w.heap.size w (wr.alloc (.cells #[.int .u8 (s2 : Int)] 5)).drew := (hb.alloc hbz _).drew
      have n1 : some b1 ≠ u8.ownBlock := fun h => by have := (hown.lt b1 h.symm).1; omega
      have n2 : some b2 ≠ u8.ownBlock := fun h => by have := (hown.lt b2 h.symm).1; omega
      have n3 : some b3 ≠ u8.ownBlock := fun h => by have := (hown.lt b3 h.symm).1; omega
      have k1 : (z.take i).length + [(x ^^^ y) ^^^ u].length ≤ 140737488355328 := by rw [hlen]; simp; omega
      have k2 := hbb.size
      have HN := Lib.hid hn
      have OWN := Lib.hid own1
      have BB := Lib.hid hbb
      have LIT := Lib.hid hlit
      have q1 : (0 : Int) ≤ (i : Int) := Int.natCast_nonneg _
      have q2 : (i : Int) < (p : Int) := by omega
      have q3 : (i : Int) < (q : Int) := by omega
      have q4 : (i : Int) < (r : Int) := by omega
      clear hn own1 hbb hlit hs1 hs2 ev hown hb hlen
      go_wp2_with fail
      go_region_held3 (fun w' => w'.cell? ⟨b1, o1 + i, none⟩ = some (.int .u8 x.toNat) ∧ w'.cell? ⟨b2, o2 + i, none⟩ = some (.int .u8 y.toNat) ∧ w'.cell? ⟨b3, o3 + i, none⟩ = some (.int .u8 u.toNat))
        (first
          | go_keep
          | (go_split_ands
             refine ⟨?_, ?_, ?_⟩
             · exact hgrow1.cell (by assumption) n1
             · exact hgrow1.cell (by assumption) n2
             · exact hgrow1.cell (by assumption) n3))
        ((refine step_app (t := 22) (e := 5) rfl (.tmp 22) (.tmp 37) rfl Try.underlying22 info5 w.heap.size _ (z.take i) [(x ^^^ y) ^^^ u] rfl OWN.out ⟨wr.heap.size, 0, none⟩ 1 rfl LIT.out k1 k2 ?_; intro v1 w1 hown1 hgrow1))
      have hb' : Below w.heap.size w w1 := BB.out.grown hgrow1 k2 (fun k hk => (OWN.out.lt k hk).1)
      go_wp2_with fail
      go_roundw
      case rel => exact ⟨i + 1, by omega, by go_num, by rw [HN.out]; exact hown1, hb'⟩
      case measure => simp [RowKit.intOf]; omega
    · obtain rfl : q = i := by omega
      have hown' : Own wr w.heap.size u8 z := by
        have := hown
        rwa [List.take_of_length_le (by have := HL.out; omega)] at this
      obtain ⟨za, zc, hu, hz1, hz2, hz3, hz4⟩ := own_byt hown'
      have l1 := HP.out
      have l2 := HQ.out
      have l3 := HR.out
      have zl := HL.out
      have cz := sum_len q za z zc wr.drew hz3.drew zl (by omega) hz2
      have ca := sum_len q ao (l.take q) c wr.drew ((H1.out.below hb).take _).drew (by simp; omega) (by omega) hc2
      have cb := sum_len q bo (m.take q) d wr.drew ((H2.out.below hb).take _).drew (by simp; omega) (by omega) hd2
      have cc := sum_len q co (k.take q) e wr.drew ((H3.out.below hb).take _).drew (by simp; omega) (by omega) he2
      have hsum : sumL z = sumL (l.take q) ^^^ sumL (m.take q) ^^^ sumL (k.take q) := by
        rw [← sums3 _ _ _ (by simp; omega) (by simp; omega)]
        show _ = sumL (xor3 _ _ _)
        rw [xor3_take, ← HZ.out, List.take_of_length_le (by omega)]
      have t1 : sumL (l.take q) < 4294967296 := moreL_lt 0 _
      have t2 : sumL (m.take q) < 4294967296 := moreL_lt 0 _
      have t3 : sumL (k.take q) < 4294967296 := moreL_lt 0 _
      obtain ⟨s0, hs0⟩ : ∃ s, s = sumL z := ⟨_, rfl⟩
      obtain ⟨s1, hs1⟩ : ∃ s, s = sumL (l.take q) := ⟨_, rfl⟩
      obtain ⟨s2, hs2⟩ : ∃ s, s = sumL (m.take q) := ⟨_, rfl⟩
      obtain ⟨s3, hs3⟩ : ∃ s, s = sumL (k.take q) := ⟨_, rfl⟩
      rw [← hs0] at cz hsum
      rw [← hs1] at ca hsum t1
      rw [← hs2] at cb hsum t2
      rw [← hs3] at cc hsum t3
      have e1 := u32_xor_nat s1 s2 t1 t2
      have e2 := u32_xor_nat (s1 ^^^ s2) s3 (Nat.xor_lt_two_pow (n := 32) t1 t2) t3
      rw [← hsum] at e2
      obtain ⟨s4, hs4⟩ : ∃ s, s = s1 ^^^ s2 := ⟨_, rfl⟩
      rw [← hs4] at e1 e2
      have zl' := zl
      rw [zl] at hu
      clear hs0 hs1 hs2 hs3 hs4 hsum t1 t2 t3
      have P1 := slice_to ao p c q (by omega)
      have P2 := slice_to bo q d q (by omega)
      have P3 := slice_to co r e q (by omega)
      have CZ := Lib.hid (cz.mono (R' := fun e w'' => e = .returned (.int .u32 s0) ∧ w'' = wr.drew) fun _ _ ⟨h, hw⟩ => ⟨h, hw.symm⟩)
      have CA := Lib.hid (ca.mono (R' := fun e w'' => e = .returned (.int .u32 s1) ∧ w'' = wr.drew) fun _ _ ⟨h, hw⟩ => ⟨h, hw.symm⟩)
      have CB := Lib.hid (cb.mono (R' := fun e w'' => e = .returned (.int .u32 s2) ∧ w'' = wr.drew) fun _ _ ⟨h, hw⟩ => ⟨h, hw.symm⟩)
      have CC := Lib.hid (cc.mono (R' := fun e w'' => e = .returned (.int .u32 s3) ∧ w'' = wr.drew) fun _ _ ⟨h, hw⟩ => ⟨h, hw.symm⟩)
      have C8 := Lib.hid (heads_any wr.drew)
      have BD := Lib.hid hb.drew
      clear cz ca cb cc l1 l2 l3 zl zl' hz1 hz2 hz3 hz4 hown hown' hb
      subst hu
      go_wp2_with fail
      refine wp_region_still_tail 18 (by kernel_rfl) (by kernel_rfl) ?_
      simp only [List.take_succ_cons, List.take_zero, List.drop_succ_cons, List.drop_zero]
      still_step
      still_call CZ.out
      still_step
      still_step
      still_step
      still_call CA.out
      still_step
      still_step
      still_step
      still_call CB.out
      still_step
      still_step
      still_step
      still_step
      still_call CC.out
      still_step
      still_step
      still_step
      refine wpStill_nil ?_
      change wpList _ _ _ _ _ wr.drew
      have BW := BD.out
      obtain ⟨w2, hw2⟩ : ∃ w2, w2 = wr.drew := ⟨_, rfl⟩
      rw [← hw2] at C8 BW ⊢
      clear hw2 BD CZ CA CB CC
      go_wp2_with fail
      refine C8.out.mono ?_
      rintro e w' ⟨rfl, b8⟩
      go_wp2_with fail
      go_ret
      exact ⟨rfl, BW.trans (b8.mono BW.size)⟩
set_option maxHeartbeats 8000000 in
set_option maxRecDepth 100000 in
theorem adds_r1 (p q r : Nat) (ao bo co : Option Addr) (l m k : List UInt8) (c d e : Nat) (w : World) (hp : l.length = p) (hq : m.length = q) (hr : k.length = r) (h1 : Byt w ao l) (h2 : Byt w bo m) (h3 : Byt w co k)
    (hc : p ≤ c) (hc2 : c ≤ 9223372036854775807) (hd : q ≤ d) (hd2 : d ≤ 9223372036854775807) (he : r ≤ e) (he2 : e ≤ 9223372036854775807) (hbig : p ≤ 140737488355327 ∧ q ≤ 140737488355327 ∧ r ≤ 140737488355327) (m1 : p ≤ q) (m2 : r < p) :
    Calls Try.prog 3 #[.slice ao p c, .slice bo q d, .slice co r e] w fun e w' => e = .returned (.bool true) ∧ Below w.heap.size w w' := by
  have H1 := Lib.hid h1
  have H2 := Lib.hid h2
  have H3 := Lib.hid h3
  have HP := Lib.hid hp
  have HQ := Lib.hid hq
  have HR := Lib.hid hr
  obtain ⟨z, hz⟩ : ∃ z, z = xor3 l m k := ⟨_, rfl⟩
  have hzl : z.length = r := by rw [hz, xor3_len, hp, hq, hr]; omega
  have HZ := Lib.hid hz
  have HL := Lib.hid hzl
  obtain ⟨g1, g2, g3⟩ := hbig
  clear h1 h2 h3 hp hq hr hz hzl
  go_enter Try.func3, Try.ntmps3
  go_wp2_with fail
  go_loopw [8, 9] (fun v vi wr => ∃ (i : Nat), i ≤ r ∧ vi = .int .i64 i ∧ Own wr w.heap.size v (z.take i) ∧ Below w.heap.size w wr) (fun _ vi _ => r - (RowKit.intOf vi).toNat)
  case atStart => exact ⟨0, by omega, rfl, World.ownsRow_nil _ _ _ _, Below.refl _ _⟩
  case round =>
    obtain ⟨i, hi, rfl, hown, hb⟩ := hrel
    have hbz := hb.size
    by_cases hin : i < r
    · have l1 := HP.out
      have l2 := HQ.out
      have l3 := HR.out
      obtain ⟨b1, o1, rfl, hb1, hcell1⟩ := (H1.out) (by intro h0; rw [h0] at l1; simp at l1; omega)
      obtain ⟨b2, o2, rfl, hb2, hcell2⟩ := (H2.out) (by intro h0; rw [h0] at l2; simp at l2; omega)
      obtain ⟨b3, o3, rfl, hb3, hcell3⟩ := (H3.out) (by intro h0; rw [h0] at l3; simp at l3; omega)
      have d1 := (hb.cell (p := ⟨b1, o1 + i, none⟩) hb1).trans (hcell1 i (by omega))
      have d2 := (hb.cell (p := ⟨b2, o2 + i, none⟩) hb2).trans (hcell2 i (by omega))
      have d3 := (hb.cell (p := ⟨b3, o3 + i, none⟩) hb3).trans (hcell3 i (by omega))
      have hn := xor3_next l m k i (by omega) (by omega) (by omega)
      rw [← HZ.out] at hn
      obtain ⟨x, hx⟩ : ∃ x, x = l[i]'(by omega) := ⟨_, rfl⟩
      obtain ⟨y, hy⟩ : ∃ y, y = m[i]'(by omega) := ⟨_, rfl⟩
      obtain ⟨u, hu⟩ : ∃ u, u = k[i]'(by omega) := ⟨_, rfl⟩
      rw [← hx] at d1 hn
      rw [← hy] at d2 hn
      rw [← hu] at d3 hn
      clear hx hy hu hcell1 hcell2 hcell3 l1 l2 l3
      have hlen : (z.take i).length = i := by have := HL.out; simp; omega
      have e1 := u8_xor_nat x.toNat y.toNat x.toNat_lt y.toNat_lt
      have e2 := u8_xor_nat (x.toNat ^^^ y.toNat) u.toNat (Nat.xor_lt_two_pow (n := 8) x.toNat_lt y.toNat_lt) u.toNat_lt
      have ev : (x.toNat ^^^ y.toNat) ^^^ u.toNat = ((x ^^^ y) ^^^ u).toNat := by rw [UInt8.toNat_xor, UInt8.toNat_xor]
      obtain ⟨s1, hs1⟩ : ∃ s : Nat, s = x.toNat ^^^ y.toNat := ⟨_, rfl⟩
      rw [← hs1] at e1 e2 ev
      obtain ⟨s2, hs2⟩ : ∃ s : Nat, s = s1 ^^^ u.toNat := ⟨_, rfl⟩
      rw [← hs2] at e2 ev
      have hlit := (byt_one wr ((x ^^^ y) ^^^ u) s2 ev).drew
      have own1 : Own (wr.alloc (.cells #[.int .u8 (s2 : Int)] 5)).drew w.heap.size u8 (z.take i) := (World.ownsRow.alloc hown _)
      have hbb : Below w.heap.size w (wr.alloc (.cells #[.int .u8 (s2 : Int)] 5)).drew := (hb.alloc hbz _).drew
      have n1 : some b1 ≠ u8.ownBlock := fun h => by have := (hown.lt b1 h.symm).1; omega
      have n2 : some b2 ≠ u8.ownBlock := fun h => by have := (hown.lt b2 h.symm).1; omega
      have n3 : some b3 ≠ u8.ownBlock := fun h => by have := (hown.lt b3 h.symm).1; omega
      have k1 : (z.take i).length + [(x ^^^ y) ^^^ u].length ≤ 140737488355328 := by rw [hlen]; simp; omega
      have k2 := hbb.size
      have HN := Lib.hid hn
      have OWN := Lib.hid own1
      have BB := Lib.hid hbb
      have LIT := Lib.hid hlit
      have q1 : (0 : Int) ≤ (i : Int) := Int.natCast_nonneg _
      have q2 : (i : Int) < (p : Int) := by omega
      have q3 : (i : Int) < (q : Int) := by omega
      have q4 : (i : Int) < (r : Int) := by omega
      clear hn own1 hbb hlit hs1 hs2 ev hown hb hlen
      go_wp2_with fail
      go_region_held3 (fun w' => w'.cell? ⟨b1, o1 + i, none⟩ = some (.int .u8 x.toNat) ∧ w'.cell? ⟨b2, o2 + i, none⟩ = some (.int .u8 y.toNat) ∧ w'.cell? ⟨b3, o3 + i, none⟩ = some (.int .u8 u.toNat))
        (first
          | go_keep
          | (go_split_ands
             refine ⟨?_, ?_, ?_⟩
             · exact hgrow1.cell (by assumption) n1
             · exact hgrow1.cell (by assumption) n2
             · exact hgrow1.cell (by assumption) n3))
        ((refine step_app (t := 22) (e := 5) rfl (.tmp 22) (.tmp 37) rfl Try.underlying22 info5 w.heap.size _ (z.take i) [(x ^^^ y) ^^^ u] rfl OWN.out ⟨wr.heap.size, 0, none⟩ 1 rfl LIT.out k1 k2 ?_; intro v1 w1 hown1 hgrow1))
      have hb' : Below w.heap.size w w1 := BB.out.grown hgrow1 k2 (fun k hk => (OWN.out.lt k hk).1)
      go_wp2_with fail
      go_roundw
      case rel => exact ⟨i + 1, by omega, by go_num, by rw [HN.out]; exact hown1, hb'⟩
      case measure => simp [RowKit.intOf]; omega
    · obtain rfl : r = i := by omega
      have hown' : Own wr w.heap.size u8 z := by
        have := hown
        rwa [List.take_of_length_le (by have := HL.out; omega)] at this
      obtain ⟨za, zc, hu, hz1, hz2, hz3, hz4⟩ := own_byt hown'
      have l1 := HP.out
      have l2 := HQ.out
      have l3 := HR.out
      have zl := HL.out
      have cz := sum_len r za z zc wr.drew hz3.drew zl (by omega) hz2
      have ca := sum_len r ao (l.take r) c wr.drew ((H1.out.below hb).take _).drew (by simp; omega) (by omega) hc2
      have cb := sum_len r bo (m.take r) d wr.drew ((H2.out.below hb).take _).drew (by simp; omega) (by omega) hd2
      have cc := sum_len r co (k.take r) e wr.drew ((H3.out.below hb).take _).drew (by simp; omega) (by omega) he2
      have hsum : sumL z = sumL (l.take r) ^^^ sumL (m.take r) ^^^ sumL (k.take r) := by
        rw [← sums3 _ _ _ (by simp; omega) (by simp; omega)]
        show _ = sumL (xor3 _ _ _)
        rw [xor3_take, ← HZ.out, List.take_of_length_le (by omega)]
      have t1 : sumL (l.take r) < 4294967296 := moreL_lt 0 _
      have t2 : sumL (m.take r) < 4294967296 := moreL_lt 0 _
      have t3 : sumL (k.take r) < 4294967296 := moreL_lt 0 _
      obtain ⟨s0, hs0⟩ : ∃ s, s = sumL z := ⟨_, rfl⟩
      obtain ⟨s1, hs1⟩ : ∃ s, s = sumL (l.take r) := ⟨_, rfl⟩
      obtain ⟨s2, hs2⟩ : ∃ s, s = sumL (m.take r) := ⟨_, rfl⟩
      obtain ⟨s3, hs3⟩ : ∃ s, s = sumL (k.take r) := ⟨_, rfl⟩
      rw [← hs0] at cz hsum
      rw [← hs1] at ca hsum t1
      rw [← hs2] at cb hsum t2
      rw [← hs3] at cc hsum t3
      have e1 := u32_xor_nat s1 s2 t1 t2
      have e2 := u32_xor_nat (s1 ^^^ s2) s3 (Nat.xor_lt_two_pow (n := 32) t1 t2) t3
      rw [← hsum] at e2
      obtain ⟨s4, hs4⟩ : ∃ s, s = s1 ^^^ s2 := ⟨_, rfl⟩
      rw [← hs4] at e1 e2
      have zl' := zl
      rw [zl] at hu
      clear hs0 hs1 hs2 hs3 hs4 hsum t1 t2 t3
      have P1 := slice_to ao p c r (by omega)
      have P2 := slice_to bo q d r (by omega)
      have P3 := slice_to co r e r (by omega)
      have CZ := Lib.hid (cz.mono (R' := fun e w'' => e = .returned (.int .u32 s0) ∧ w'' = wr.drew) fun _ _ ⟨h, hw⟩ => ⟨h, hw.symm⟩)
      have CA := Lib.hid (ca.mono (R' := fun e w'' => e = .returned (.int .u32 s1) ∧ w'' = wr.drew) fun _ _ ⟨h, hw⟩ => ⟨h, hw.symm⟩)
      have CB := Lib.hid (cb.mono (R' := fun e w'' => e = .returned (.int .u32 s2) ∧ w'' = wr.drew) fun _ _ ⟨h, hw⟩ => ⟨h, hw.symm⟩)
      have CC := Lib.hid (cc.mono (R' := fun e w'' => e = .returned (.int .u32 s3) ∧ w'' = wr.drew) fun _ _ ⟨h, hw⟩ => ⟨h, hw.symm⟩)
      have C8 := Lib.hid (heads_any wr.drew)
      have BD := Lib.hid hb.drew
      clear cz ca cb cc l1 l2 l3 zl zl' hz1 hz2 hz3 hz4 hown hown' hb
      subst hu
      go_wp2_with fail
      refine wp_region_still_tail 18 (by kernel_rfl) (by kernel_rfl) ?_
      simp only [List.take_succ_cons, List.take_zero, List.drop_succ_cons, List.drop_zero]
      still_step
      still_call CZ.out
      still_step
      still_step
      still_step
      still_call CA.out
      still_step
      still_step
      still_step
      still_call CB.out
      still_step
      still_step
      still_step
      still_step
      still_call CC.out
      still_step
      still_step
      still_step
      refine wpStill_nil ?_
      change wpList _ _ _ _ _ wr.drew
      have BW := BD.out
      obtain ⟨w2, hw2⟩ : ∃ w2, w2 = wr.drew := ⟨_, rfl⟩
      rw [← hw2] at C8 BW ⊢
      clear hw2 BD CZ CA CB CC
      go_wp2_with fail
      refine C8.out.mono ?_
      rintro e w' ⟨rfl, b8⟩
      go_wp2_with fail
      go_ret
      exact ⟨rfl, BW.trans (b8.mono BW.size)⟩
set_option maxHeartbeats 8000000 in
set_option maxRecDepth 100000 in
theorem adds_r2 (p q r : Nat) (ao bo co : Option Addr) (l m k : List UInt8) (c d e : Nat) (w : World) (hp : l.length = p) (hq : m.length = q) (hr : k.length = r) (h1 : Byt w ao l) (h2 : Byt w bo m) (h3 : Byt w co k)
    (hc : p ≤ c) (hc2 : c ≤ 9223372036854775807) (hd : q ≤ d) (hd2 : d ≤ 9223372036854775807) (he : r ≤ e) (he2 : e ≤ 9223372036854775807) (hbig : p ≤ 140737488355327 ∧ q ≤ 140737488355327 ∧ r ≤ 140737488355327) (m1 : q < p) (m2 : r < q) :
    Calls Try.prog 3 #[.slice ao p c, .slice bo q d, .slice co r e] w fun e w' => e = .returned (.bool true) ∧ Below w.heap.size w w' := by
  have H1 := Lib.hid h1
  have H2 := Lib.hid h2
  have H3 := Lib.hid h3
  have HP := Lib.hid hp
  have HQ := Lib.hid hq
  have HR := Lib.hid hr
  obtain ⟨z, hz⟩ : ∃ z, z = xor3 l m k := ⟨_, rfl⟩
  have hzl : z.length = r := by rw [hz, xor3_len, hp, hq, hr]; omega
  have HZ := Lib.hid hz
  have HL := Lib.hid hzl
  obtain ⟨g1, g2, g3⟩ := hbig
  clear h1 h2 h3 hp hq hr hz hzl
  go_enter Try.func3, Try.ntmps3
  go_wp2_with fail
  go_loopw [8, 9] (fun v vi wr => ∃ (i : Nat), i ≤ r ∧ vi = .int .i64 i ∧ Own wr w.heap.size v (z.take i) ∧ Below w.heap.size w wr) (fun _ vi _ => r - (RowKit.intOf vi).toNat)
  case atStart => exact ⟨0, by omega, rfl, World.ownsRow_nil _ _ _ _, Below.refl _ _⟩
  case round =>
    obtain ⟨i, hi, rfl, hown, hb⟩ := hrel
    have hbz := hb.size
    by_cases hin : i < r
    · have l1 := HP.out
      have l2 := HQ.out
      have l3 := HR.out
      obtain ⟨b1, o1, rfl, hb1, hcell1⟩ := (H1.out) (by intro h0; rw [h0] at l1; simp at l1; omega)
      obtain ⟨b2, o2, rfl, hb2, hcell2⟩ := (H2.out) (by intro h0; rw [h0] at l2; simp at l2; omega)
      obtain ⟨b3, o3, rfl, hb3, hcell3⟩ := (H3.out) (by intro h0; rw [h0] at l3; simp at l3; omega)
      have d1 := (hb.cell (p := ⟨b1, o1 + i, none⟩) hb1).trans (hcell1 i (by omega))
      have d2 := (hb.cell (p := ⟨b2, o2 + i, none⟩) hb2).trans (hcell2 i (by omega))
      have d3 := (hb.cell (p := ⟨b3, o3 + i, none⟩) hb3).trans (hcell3 i (by omega))
      have hn := xor3_next l m k i (by omega) (by omega) (by omega)
      rw [← HZ.out] at hn
      obtain ⟨x, hx⟩ : ∃ x, x = l[i]'(by omega) := ⟨_, rfl⟩
      obtain ⟨y, hy⟩ : ∃ y, y = m[i]'(by omega) := ⟨_, rfl⟩
      obtain ⟨u, hu⟩ : ∃ u, u = k[i]'(by omega) := ⟨_, rfl⟩
      rw [← hx] at d1 hn
      rw [← hy] at d2 hn
      rw [← hu] at d3 hn
      clear hx hy hu hcell1 hcell2 hcell3 l1 l2 l3
      have hlen : (z.take i).length = i := by have := HL.out; simp; omega
      have e1 := u8_xor_nat x.toNat y.toNat x.toNat_lt y.toNat_lt
      have e2 := u8_xor_nat (x.toNat ^^^ y.toNat) u.toNat (Nat.xor_lt_two_pow (n := 8) x.toNat_lt y.toNat_lt) u.toNat_lt
      have ev : (x.toNat ^^^ y.toNat) ^^^ u.toNat = ((x ^^^ y) ^^^ u).toNat := by rw [UInt8.toNat_xor, UInt8.toNat_xor]
      obtain ⟨s1, hs1⟩ : ∃ s : Nat, s = x.toNat ^^^ y.toNat := ⟨_, rfl⟩
      rw [← hs1] at e1 e2 ev
      obtain ⟨s2, hs2⟩ : ∃ s : Nat, s = s1 ^^^ u.toNat := ⟨_, rfl⟩
      rw [← hs2] at e2 ev
      have hlit := (byt_one wr ((x ^^^ y) ^^^ u) s2 ev).drew
      have own1 : Own (wr.alloc (.cells #[.int .u8 (s2 : Int)] 5)).drew w.heap.size u8 (z.take i) := (World.ownsRow.alloc hown _)
      have hbb : Below w.heap.size w (wr.alloc (.cells #[.int .u8 (s2 : Int)] 5)).drew := (hb.alloc hbz _).drew
      have n1 : some b1 ≠ u8.ownBlock := fun h => by have := (hown.lt b1 h.symm).1; omega
      have n2 : some b2 ≠ u8.ownBlock := fun h => by have := (hown.lt b2 h.symm).1; omega
      have n3 : some b3 ≠ u8.ownBlock := fun h => by have := (hown.lt b3 h.symm).1; omega
      have k1 : (z.take i).length + [(x ^^^ y) ^^^ u].length ≤ 140737488355328 := by rw [hlen]; simp; omega
      have k2 := hbb.size
      have HN := Lib.hid hn
      have OWN := Lib.hid own1
      have BB := Lib.hid hbb
      have LIT := Lib.hid hlit
      have q1 : (0 : Int) ≤ (i : Int) := Int.natCast_nonneg _
      have q2 : (i : Int) < (p : Int) := by omega
      have q3 : (i : Int) < (q : Int) := by omega
      have q4 : (i : Int) < (r : Int) := by omega
      clear hn own1 hbb hlit hs1 hs2 ev hown hb hlen
      go_wp2_with fail
      go_region_held3 (fun w' => w'.cell? ⟨b1, o1 + i, none⟩ = some (.int .u8 x.toNat) ∧ w'.cell? ⟨b2, o2 + i, none⟩ = some (.int .u8 y.toNat) ∧ w'.cell? ⟨b3, o3 + i, none⟩ = some (.int .u8 u.toNat))
        (first
          | go_keep
          | (go_split_ands
             refine ⟨?_, ?_, ?_⟩
             · exact hgrow1.cell (by assumption) n1
             · exact hgrow1.cell (by assumption) n2
             · exact hgrow1.cell (by assumption) n3))
        ((refine step_app (t := 22) (e := 5) rfl (.tmp 22) (.tmp 37) rfl Try.underlying22 info5 w.heap.size _ (z.take i) [(x ^^^ y) ^^^ u] rfl OWN.out ⟨wr.heap.size, 0, none⟩ 1 rfl LIT.out k1 k2 ?_; intro v1 w1 hown1 hgrow1))
      have hb' : Below w.heap.size w w1 := BB.out.grown hgrow1 k2 (fun k hk => (OWN.out.lt k hk).1)
      go_wp2_with fail
      go_roundw
      case rel => exact ⟨i + 1, by omega, by go_num, by rw [HN.out]; exact hown1, hb'⟩
      case measure => simp [RowKit.intOf]; omega
    · obtain rfl : r = i := by omega
      have hown' : Own wr w.heap.size u8 z := by
        have := hown
        rwa [List.take_of_length_le (by have := HL.out; omega)] at this
      obtain ⟨za, zc, hu, hz1, hz2, hz3, hz4⟩ := own_byt hown'
      have l1 := HP.out
      have l2 := HQ.out
      have l3 := HR.out
      have zl := HL.out
      have cz := sum_len r za z zc wr.drew hz3.drew zl (by omega) hz2
      have ca := sum_len r ao (l.take r) c wr.drew ((H1.out.below hb).take _).drew (by simp; omega) (by omega) hc2
      have cb := sum_len r bo (m.take r) d wr.drew ((H2.out.below hb).take _).drew (by simp; omega) (by omega) hd2
      have cc := sum_len r co (k.take r) e wr.drew ((H3.out.below hb).take _).drew (by simp; omega) (by omega) he2
      have hsum : sumL z = sumL (l.take r) ^^^ sumL (m.take r) ^^^ sumL (k.take r) := by
        rw [← sums3 _ _ _ (by simp; omega) (by simp; omega)]
        show _ = sumL (xor3 _ _ _)
        rw [xor3_take, ← HZ.out, List.take_of_length_le (by omega)]
      have t1 : sumL (l.take r) < 4294967296 := moreL_lt 0 _
      have t2 : sumL (m.take r) < 4294967296 := moreL_lt 0 _
      have t3 : sumL (k.take r) < 4294967296 := moreL_lt 0 _
      obtain ⟨s0, hs0⟩ : ∃ s, s = sumL z := ⟨_, rfl⟩
      obtain ⟨s1, hs1⟩ : ∃ s, s = sumL (l.take r) := ⟨_, rfl⟩
      obtain ⟨s2, hs2⟩ : ∃ s, s = sumL (m.take r) := ⟨_, rfl⟩
      obtain ⟨s3, hs3⟩ : ∃ s, s = sumL (k.take r) := ⟨_, rfl⟩
      rw [← hs0] at cz hsum
      rw [← hs1] at ca hsum t1
      rw [← hs2] at cb hsum t2
      rw [← hs3] at cc hsum t3
      have e1 := u32_xor_nat s1 s2 t1 t2
      have e2 := u32_xor_nat (s1 ^^^ s2) s3 (Nat.xor_lt_two_pow (n := 32) t1 t2) t3
      rw [← hsum] at e2
      obtain ⟨s4, hs4⟩ : ∃ s, s = s1 ^^^ s2 := ⟨_, rfl⟩
      rw [← hs4] at e1 e2
      have zl' := zl
      rw [zl] at hu
      clear hs0 hs1 hs2 hs3 hs4 hsum t1 t2 t3
      have P1 := slice_to ao p c r (by omega)
      have P2 := slice_to bo q d r (by omega)
      have P3 := slice_to co r e r (by omega)
      have CZ := Lib.hid (cz.mono (R' := fun e w'' => e = .returned (.int .u32 s0) ∧ w'' = wr.drew) fun _ _ ⟨h, hw⟩ => ⟨h, hw.symm⟩)
      have CA := Lib.hid (ca.mono (R' := fun e w'' => e = .returned (.int .u32 s1) ∧ w'' = wr.drew) fun _ _ ⟨h, hw⟩ => ⟨h, hw.symm⟩)
      have CB := Lib.hid (cb.mono (R' := fun e w'' => e = .returned (.int .u32 s2) ∧ w'' = wr.drew) fun _ _ ⟨h, hw⟩ => ⟨h, hw.symm⟩)
      have CC := Lib.hid (cc.mono (R' := fun e w'' => e = .returned (.int .u32 s3) ∧ w'' = wr.drew) fun _ _ ⟨h, hw⟩ => ⟨h, hw.symm⟩)
      have C8 := Lib.hid (heads_any wr.drew)
      have BD := Lib.hid hb.drew
      clear cz ca cb cc l1 l2 l3 zl zl' hz1 hz2 hz3 hz4 hown hown' hb
      subst hu
      go_wp2_with fail
      refine wp_region_still_tail 18 (by kernel_rfl) (by kernel_rfl) ?_
      simp only [List.take_succ_cons, List.take_zero, List.drop_succ_cons, List.drop_zero]
      still_step
      still_call CZ.out
      still_step
      still_step
      still_step
      still_call CA.out
      still_step
      still_step
      still_step
      still_call CB.out
      still_step
      still_step
      still_step
      still_step
      still_call CC.out
      still_step
      still_step
      still_step
      refine wpStill_nil ?_
      change wpList _ _ _ _ _ wr.drew
      have BW := BD.out
      obtain ⟨w2, hw2⟩ : ∃ w2, w2 = wr.drew := ⟨_, rfl⟩
      rw [← hw2] at C8 BW ⊢
      clear hw2 BD CZ CA CB CC
      go_wp2_with fail
      refine C8.out.mono ?_
      rintro e w' ⟨rfl, b8⟩
      go_wp2_with fail
      go_ret
      exact ⟨rfl, BW.trans (b8.mono BW.size)⟩
theorem adds_law (ao bo co : Option Addr) (l m k : List UInt8) (c d e : Nat) (w : World) (h1 : Byt w ao l) (h2 : Byt w bo m) (h3 : Byt w co k)
    (hc : l.length ≤ c) (hc2 : c ≤ 9223372036854775807) (hd : m.length ≤ d) (hd2 : d ≤ 9223372036854775807) (he : k.length ≤ e) (he2 : e ≤ 9223372036854775807)
    (hbig : l.length ≤ 140737488355327 ∧ m.length ≤ 140737488355327 ∧ k.length ≤ 140737488355327) :
    Calls Try.prog 3 #[.slice ao l.length c, .slice bo m.length d, .slice co k.length e] w fun e w' => e = .returned (.bool true) ∧ Below w.heap.size w w' := by
  by_cases m1 : l.length ≤ m.length
  · by_cases m2 : l.length ≤ k.length
    · exact adds_p _ _ _ ao bo co l m k c d e w rfl rfl rfl h1 h2 h3 hc hc2 hd hd2 he he2 hbig m1 m2
    · exact adds_r1 _ _ _ ao bo co l m k c d e w rfl rfl rfl h1 h2 h3 hc hc2 hd hd2 he he2 hbig m1 (by omega)
  · by_cases m2 : m.length ≤ k.length
    · exact adds_q _ _ _ ao bo co l m k c d e w rfl rfl rfl h1 h2 h3 hc hc2 hd hd2 he he2 hbig (by omega) m2
    · exact adds_r2 _ _ _ ao bo co l m k c d e w rfl rfl rfl h1 h2 h3 hc hc2 hd hd2 he he2 hbig (by omega) (by omega)
end Go.Proofs.Ytjfnjpjkpkpohaa.Cr
