/-
  The contract of the document's own PutRoot. Conditions: each law's own.
-/
import Derived.Test.YtpjgkboafmebbaaGreatDoorRf
import Derived.Deep.RegionHeld3
import Derived.Deep.RegionLaw
namespace Go.Proofs.YtpjgkboafmebbaaGreatDoor.Sh
open Go.RowKit Go.Lib Lb

theorem cell_kept {w w' : World} (hb : Below w.heap.size w w') {a : Addr} {v : Value} (hc : w.cell? a = some v) : w'.cell? a = some v := (hb.cell (World.block_lt_of_cell? w a hc)).trans hc
theorem step_app_len {w : World} {ops : Array Oper} {o : Oper} {a : Act} {K : Act → World → Prop} {Q : Exit → Act → World → Prop} {E : Prop} {P : Program} {t e : TypeId} (hgd : o.guard = none) (s x : Operand)
    (ho : o.op = .call { callee := .builtin .append, args := #[s, x], argTypes := #[t, t] })
    (ht : P.underlying t = some (.slice e)) (hinf : (P.info? e).map (fun i => (i.zero, i.size, i.bytes)) = some (some (.int .u8 0), 1, 1))
    (base : Nat) (v : Value) (xs l : List UInt8) (hs : a.eval s = v) (hown : w.ownsRow base e 1 v xs.length (bs xs))
    (ad : Addr) (m c : Nat) (hx : a.eval x = .slice (some ad) m c) (hr : Byt w (some ad) l) (hm : Hid (l.length = m))
    (h47 : xs.length + m ≤ 140737488355328) (hbase : base ≤ w.heap.size)
    (h : ∀ v' w', w'.ownsRow base e 1 v' (xs ++ l).length (bs (xs ++ l)) → w.grownBy w' v.ownBlock → K (a.put o.dst v') w') :
    if Region.wanted o (yielded ops a.tmps) = true then Oper.wp P o a w K Q else E := by
  have hm' : l.length = m := hm
  subst hm'
  exact step_app hgd s x ho ht hinf base v xs l hs hown ad c hx hr h47 hbase h
/-- a row of the call's own that holds something -/
theorem own_some {w : World} {B : Nat} {v : Value} {l : List UInt8} (h : Own w B v l) (hl : 1 ≤ l.length) : ∃ g cap, v = .slice (some ⟨g, 0, none⟩) l.length cap ∧ B ≤ g ∧ g < w.heap.size ∧ l.length ≤ cap ∧ cap ≤ 9223372036854775807 ∧ Byt w (some ⟨g, 0, none⟩) l := by
  have hh := h
  obtain ⟨ao, c, rfl, h1, h2, h3, h4⟩ := own_byt hh
  obtain ⟨_, ⟨e0, hl0⟩ | ⟨g, cap, cur, e1, e2, e3, _⟩⟩ := h
  · omega
  · injection e1 with e1 e4 e5
    subst e1
    exact ⟨g, c, rfl, e2, (Array.getElem?_eq_some_iff.1 e3).1, h1, h2, h3⟩
theorem numL_len (x : Int) : 1 ≤ (numL x).length ∧ (numL x).length ≤ 10 := putL_len x.toNat
theorem own_below {w w' : World} {B : Nat} {v : Value} {l : List UInt8} (h : Own w B v l) (hb : Below w.heap.size w w') : Own w' B v l := by
  obtain ⟨h1, h2 | ⟨g, cap, cur, e1, e2, e3, e4⟩⟩ := h
  · exact ⟨h1, Or.inl h2⟩
  · exact ⟨h1, Or.inr ⟨g, cap, cur, e1, e2, (hb.block g (Array.getElem?_eq_some_iff.1 e3).1).trans e3, e4⟩⟩
theorem own_grow {w0 w w' : World} {v : Value} {B : Nat} {l : List UInt8} (ho : Own w B v l) (hB : B = w0.heap.size) (hb : Below w0.heap.size w0 w) (hg : w.grownBy w' v.ownBlock) : Below w0.heap.size w0 w' := by
  subst hB
  exact hb.grown hg hb.size (fun k hk => (ho.lt k hk).1)
theorem own_ne {w : World} {B k : Nat} {v : Value} {l : List UInt8} (h : Own w B v l) (hk : k < B) : some k ≠ v.ownBlock := fun e => by
  have := (h.lt k e.symm).1
  omega
theorem pair_kept {W W' : World} (hb : Below W.heap.size W W') {a b : Addr} {u v : Value} (h : W.cell? a = some u ∧ W.cell? b = some v) : W'.cell? a = some u ∧ W'.cell? b = some v := ⟨cell_kept hb h.1, cell_kept hb h.2⟩
theorem pair_grown {W W' : World} {k : Option Nat} (hg : W.grownBy W' k) {a b : Addr} {u v : Value} (ha : some a.block ≠ k) (hb : some b.block ≠ k) (h : W.cell? a = some u ∧ W.cell? b = some v) : W'.cell? a = some u ∧ W'.cell? b = some v := ⟨hg.cell h.1 ha, hg.cell h.2 hb⟩
/-- what a maker of bytes gives: the bytes and no error, or nothing and the error -/
def Gives (w : World) (p : Prop) (l : List UInt8) (er : Int) (e : Ending) (w' : World) : Prop :=
  Below w.heap.size w w' ∧ ((p ∧ ∃ v, e = .returned (.tuple #[v, .int .i64 0]) ∧ Own w' w.heap.size v l) ∨ (¬ p ∧ e = .returned (.tuple #[.slice none 0 0, .int .i64 er])))
set_option maxHeartbeats 2000000 in
set_option maxRecDepth 100000 in
theorem putroot_any (nx : Int) (ao : Option Addr) (l : List ByteArray) (n c : Nat) (w : World) (h : Srw w ao l) (hln : l.length = n) (hc : n ≤ c) (hcc : c ≤ 9223372036854775807) (hsz : ∀ s ∈ l, s.size ≤ 9223372036854775807) :
    Calls Tryz.prog 27 #[.agg #[.int .i64 nx, .slice ao n c]] w (Gives w (OkRoot ⟨nx, l⟩) (rootL ⟨nx, l⟩) 80) := by
  have H := Lib.hid h
  have HL := Lib.hid hln
  have HZ := Lib.hid hsz
  have B0 : Hid (Below w.heap.size w (w.alloc (.cells #[.int .i64 nx, .slice ao n c] 35))) := (Below.refl _ w).alloc (Nat.le_refl _) _
  have K0 : Hid (Blk (w.alloc (.cells #[.int .i64 nx, .slice ao n c] 35)) w.heap.size [.int .i64 nx, .slice ao n c] 35) := Blk.new w [.int .i64 nx, .slice ao n c] 35 _ rfl
  have RT := Lib.hid (rootok_any nx ao l n c (w.alloc (.cells #[.int .i64 nx, .slice ao n c] 35)) (h.below B0.out) hln hc hcc hsz)
  have c0 := K0.out.cell 0
  have c1 := K0.out.cell 1
  simp only [List.getElem?_cons_zero, List.getElem?_cons_succ] at c0 c1
  clear h hln hsz
  go_enter Tryz.func27, Tryz.ntmps27
  go_wp2_with fail
  refine RT.out.mono ?_
  rintro e w1 ⟨⟨b, rfl, hbb⟩, hb1⟩
  have HBB := Lib.hid hbb
  have B1 : Hid (Below w.heap.size w w1) := below_chain B0.out hb1
  have K1 := Lib.hid (K0.out.low hb1)
  clear c0 c1 hbb hb1
  have c0 := K1.out.cell 0
  have c1 := K1.out.cell 1
  simp only [List.getElem?_cons_zero, List.getElem?_cons_succ] at c0 c1
  cases b with
  | false =>
    have HF : Hid (¬ OkRoot ⟨nx, l⟩) := fun h0 => by have := HBB.out.2 h0; cases this
    go_wp2_with fail
    go_ret2
    exact ⟨B1.out, .inr ⟨HF.out, rfl⟩⟩
  | true =>
    have HT : Hid (OkRoot ⟨nx, l⟩) := HBB.out.1 rfl
    have hn64 : n ≤ 64 := by have := HT.out.most; have := HL.out; simp only at *; omega
    have CX := Lib.hid (fun W => refnum_any nx (by have := HT.out.next.1; simp only at *; omega) (by have := HT.out.next.2; simp only at *; omega) W)
    have CN := Lib.hid (fun W => refnum_any (n : Int) (by omega) (by omega) W)
    clear HBB RT K0 B0
    have G1 := Lib.hid (World.block_lt_of_cell? w1 _ c1)
    go_wp2_with fail
    have BQ : Hid (Below w.heap.size w w1.drew) := B1.out.drew
    have KQ : Hid (Blk w1.drew w.heap.size [.int .i64 nx, .slice ao n c] 35) := K1.out.drew
    clear B1
    go_region_held3 (fun w' => w'.cell? ⟨w.heap.size, 0, none⟩ = some (.int .i64 nx) ∧ w'.cell? ⟨w.heap.size, 1, none⟩ = some (.slice ao n c))
      (first | go_keep | exact pair_kept b1 (by assumption) | exact pair_kept b2 (by assumption) | exact pair_grown g4 (own_ne O2.out G1.out) (own_ne O2.out G1.out) (by assumption))
      (first
        | (go_at_call 43; (with_reducible refine (CX.out _).mono ?_); rintro e w2 ⟨b1, v1, rfl, o1⟩
           have B1 := Lib.hid (below_chain BQ.out b1)
           have K1 := Lib.hid (KQ.out.low b1)
           have O1 := Lib.hid o1)
        | (go_at_call 43; (with_reducible refine (CN.out _).mono ?_); rintro e w3 ⟨b2, v2, rfl, o2⟩
           have B2 := Lib.hid (below_chain B1.out b2)
           have Q2 : Hid (w1.drew.heap.size ≤ w3.heap.size) := Nat.le_trans b1.size b2.size
           have K2 := Lib.hid (K1.out.low b2)
           have O2 := Lib.hid (own_below O1.out b2)
           obtain ⟨g2, p2, rfl, z1, z2, z3, z4, z5⟩ := own_some o2 (numL_len (n : Int)).1
           have p3 : (numL nx).length + (numL (n : Int)).length ≤ 140737488355328 := by have := numL_len nx; have := numL_len (n : Int); omega)
        | (refine step_app_len (t := 36) (e := 5) rfl (.tmp 11) (.tmp 15) rfl Tryz.underlying36 info5 w1.drew.heap.size v1 (numL nx) (numL (n : Int)) (by simp [Act.eval]) O2.out ⟨g2, 0, none⟩ _ p2 (by simp [Act.eval]) z5 (Lib.hid rfl) p3 Q2.out ?_; intro v4 w4 o4 g4))
    have B4 := Lib.hid (B2.out.grown g4 B2.out.size (fun k hk => Nat.le_trans BQ.out.size (O2.out.lt k hk).1))
    have K4 : Hid (Blk w4 w.heap.size [.int .i64 nx, .slice ao n c] 35) := (g4.block _ K2.out.lt (own_ne O2.out G1.out)).trans K2.out
    have O4 : Hid (Own w4 (w.heap.size + 1) v4 (numL nx ++ numL (n : Int))) := Own.low o4 G1.out
    have L4 : Hid ((numL nx ++ numL (n : Int)).length ≤ 20) := by show _ ≤ _; rw [List.length_append]; have := numL_len nx; have := numL_len (n : Int); omega
    generalize hHD : numL nx ++ numL (n : Int) = HD at *
    clear o4 g4 b1 b2 o2 z1 z2 z3 z4 z5 B1 K1 O1 B2 K2 O2 Q2 BQ KQ
    go_wp2_with fail
    go_loopw [4, 5] (fun vb vi wr => ∃ i : Nat, i ≤ n ∧ vi = .int .i64 i ∧ Hid (Below w.heap.size w wr) ∧ Hid (Blk wr w.heap.size [.int .i64 nx, .slice ao n c] 35) ∧ Hid (Own wr (w.heap.size + 1) vb (HD ++ (l.take i).flatMap keyL)) ∧ Hid ((HD ++ (l.take i).flatMap keyL).length ≤ 20 + 32 * i)) (fun _ vi _ => n - (RowKit.intOf vi).toNat)
    case atStart => exact ⟨0, by omega, rfl, B4.out, K4.out, by show Own _ _ _ _; simpa using O4.out, by show _ ≤ _; simpa using L4.out⟩
    case round =>
      obtain ⟨i, hi, rfl, hB, hK, hO, hL⟩ := hrel
      have c0 := hK.out.cell 0
      have c1 := hK.out.cell 1
      simp only [List.getElem?_cons_zero, List.getElem?_cons_succ] at c0 c1
      by_cases hin : i < n
      · obtain ⟨b, o, x, rfl, hb, hx, hcell⟩ := srw_cell H.out i (by have := HL.out; omega)
        have HX := Lib.hid hx
        have d1 : wr.cell? ⟨b, o + i, none⟩ = some (.string x) := (hB.out.cell (p := ⟨b, o + i, none⟩) hb).trans hcell
        have CK := Lib.hid (refkey_any x wr (HZ.out x (List.mem_of_getElem? hx)))
        have X32 := Lib.hid (key_of x (HT.out.keys x (List.mem_of_getElem? hx))).1
        have q1 : (0 : Int) ≤ (i : Int) := by omega
        have q2 : (i : Int) < (n : Int) := by omega
        clear hx hcell hb
        go_wp2_with fail
        refine CK.out.mono ?_
        rintro e w2 ⟨b1, v2, rfl, o2⟩
        obtain ⟨g2, p2, rfl, z1, z2, z3, z4, z5⟩ := own_some o2 (by rw [X32.out]; decide)
        rw [X32.out] at z3
        have O2 := Lib.hid (own_below hO.out b1)
        have B2 := Lib.hid (below_chain hB.out b1)
        have K2 := Lib.hid (hK.out.low b1)
        have p3 : (HD ++ (l.take i).flatMap keyL).length + 32 ≤ 140737488355328 := by have := hL.out; omega
        have HS : Hid ((l.take (i + 1)).flatMap keyL = (l.take i).flatMap keyL ++ keyL x) := by
          show _ = _
          rw [List.take_add_one, HX.out]
          simp
        have Z5 := Lib.hid z5
        obtain ⟨kl, hkl⟩ : ∃ kl, kl = keyL x := ⟨_, rfl⟩
        rw [← hkl] at HS X32 Z5 ⊢
        obtain ⟨acc, hacc⟩ : ∃ acc, acc = HD ++ (l.take i).flatMap keyL := ⟨_, rfl⟩
        rw [← hacc] at O2 hL p3
        have hL2 : Hid ((acc ++ kl).length ≤ 20 + 32 * (i + 1)) := by show _ ≤ _; rw [List.length_append, X32.out]; have := hL.out; omega
        have HACC := Lib.hid hacc
        rw [X32.out]
        clear o2 z5 hkl hacc hO hL b1
        go_wp2_with (at_builtin; refine wpl_app_len (t := 36) (e := 5) rfl (.tmp 24) (.tmp 30) rfl Tryz.underlying36 info5 (w.heap.size + 1) _ acc kl rfl O2.out (some ⟨g2, 0, none⟩) 32 p2 rfl Z5.out (fun h => by cases h) X32 p3 K2.out.lt ?_; intro v' w' hown' hgrow)
        have B5 := Lib.hid (B2.out.grown hgrow B2.out.size (fun k hk => Nat.le_of_succ_le (O2.out.lt k hk).1))
        have K5 : Hid (Blk w' w.heap.size [.int .i64 nx, .slice (some ⟨b, o, none⟩) n c] 35) := (hgrow.block _ K2.out.lt (own_ne O2.out (Nat.lt_succ_self _))).trans K2.out
        refine ⟨⟨i + 1, by omega, by go_num, B5.out, K5.out, ?_, ?_⟩, by simp [RowKit.intOf]; omega⟩
        · show Own _ _ _ _
          rw [HS.out, ← List.append_assoc, ← HACC.out]
          exact hown'
        · show _ ≤ _
          rw [HS.out, ← List.append_assoc, ← HACC.out]
          exact hL2.out
      · obtain rfl : i = n := by omega
        have HE : Hid (HD ++ (l.take i).flatMap keyL = rootL ⟨nx, l⟩) := by
          show _ = _
          rw [← HL.out, List.take_length, ← hHD, rootL, manyL, HL.out, List.append_assoc]
        go_wp2_with fail
        go_ret2
        exact ⟨hB.out, .inl ⟨HT.out, _, rfl, by rw [← HE.out]; exact Own.low hO.out (Nat.le_succ _)⟩⟩
end Go.Proofs.YtpjgkboafmebbaaGreatDoor.Sh
