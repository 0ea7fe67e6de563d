/-
  The walk of the statement ShaPieces. Condition: the tables of sha stand in memory.
-/
import Derived.Test.YtekmmafgknnmlaaDoorLb
namespace Go.Proofs.YtekmmafgknnmlaaDoor.Sh
open Go.RowKit Go.Lib

/-- the cells at an address read as rows of bytes -/
def Rws2 (w : World) (ao : Option Addr) (l : List (List UInt8)) : Prop :=
  l ≠ [] → ∃ b o, ao = some ⟨b, o, none⟩ ∧ b < w.heap.size ∧ ∀ j (h : j < l.length), ∃ aj cj, w.cell? ⟨b, o + j, none⟩ = some (.slice aj (l[j]).length cj) ∧ Byt w aj l[j] ∧ (aj = none → cj = 0) ∧ (l[j]).length ≤ cj ∧ cj ≤ 9223372036854775807
theorem Rws2.below {w w' : World} {ao : Option Addr} {l : List (List UInt8)} (h : Rws2 w ao l) (hb : Below w.heap.size w w') : Rws2 w' ao l := fun hne => by
  obtain ⟨b, o, h1, h2, h3⟩ := h hne
  refine ⟨b, o, h1, Nat.lt_of_lt_of_le h2 hb.size, fun j hj => ?_⟩
  obtain ⟨aj, cj, k1, k2, k3⟩ := h3 j hj
  exact ⟨aj, cj, (hb.cell (p := ⟨b, o + j, none⟩) h2).trans k1, k2.below hb, k3⟩
/-- where a digest's rows stand -/
def Off (hx : Option Addr) (P : Nat → Prop) : Prop := ∀ b o, hx = some ⟨b, o, none⟩ → P b
/-- a digest answered, in new memory -/
def AnsF (w : World) (s : Sha) (e : Ending) (w' : World) : Prop := Below w.heap.size w w' ∧ ∃ v hx cx bx dx, e = .returned v ∧ ShaV w' v s hx cx bx dx ∧ Off hx (w.heap.size ≤ ·) ∧ Off bx (w.heap.size ≤ ·)
theorem write_fresh (v : Value) (s : Sha) (ha : Option Addr) (hc : Nat) (ba : Option Addr) (bc : Nat) (b : List UInt8) (bo : Option Addr) (p c : Nat) (w : World) (hl : Lay w) (h : ShaV w v s ha hc ba bc) (hk : chk s = true)
    (hb : Byt w bo b) (hbn : bo = none → c = 0) (hp : b.length = p) (hpc : p ≤ c) (hcc : c ≤ 9223372036854775807) (hf : p ≤ 140737488355200) : Calls Tryd.prog 10 #[v, .slice bo p c] w (AnsF w (wr s b)) := by
  rw [h.val]
  obtain ⟨k1, k2⟩ := (chk_iff s).1 hk
  have e : wr s b = ⟨(feed s.H (s.B ++ b)).1, (feed s.H (s.B ++ b)).2, (s.N + p) % 18446744073709551616⟩ := by rw [wr, if_pos hk, hp]
  rw [e, k1]
  by_cases hg : s.B.length + p < 64
  · exact write_short_f ha hc ba _ bc s.N s.H s.B b bo p c w h.wrd k1 h.byt h.bnil rfl k2 h.num hb hbn hp hpc hcc hg
  · exact write_long_f ha hc ba _ bc s.N s.H s.B b bo p c w hl h.wrd k1 h.byt h.bnil rfl k2 h.num hb hbn hp hpc hcc hf (by omega)
theorem Byt.gr2 {w w' : World} {row : Option Nat} {ao : Option Addr} {l : List UInt8} (hg : w.grownBy w' row) (h : Byt w ao l) (hne : Off ao (fun b => some b ≠ row)) : Byt w' ao l := fun hn => by
  obtain ⟨b, o, h1, h2, h3⟩ := h hn
  exact ⟨b, o, h1, Nat.lt_of_lt_of_le h2 hg.size, fun j hj => hg.cell (h3 j hj) (hne b o h1)⟩
theorem Wrd.gr2 {w w' : World} {row : Option Nat} {ao : Option Addr} {l : List UInt32} (hg : w.grownBy w' row) (h : Wrd w ao l) (hne : Off ao (fun b => some b ≠ row)) : Wrd w' ao l := fun hn => by
  obtain ⟨b, o, h1, h2, h3⟩ := h hn
  exact ⟨b, o, h1, Nat.lt_of_lt_of_le h2 hg.size, fun j hj => hg.cell (h3 j hj) (hne b o h1)⟩
theorem ShaV.gr2 {w w' : World} {row : Option Nat} {v : Value} {s : Sha} {ha : Option Addr} {hc : Nat} {ba : Option Addr} {bc : Nat} (hg : w.grownBy w' row) (h : ShaV w v s ha hc ba bc) (h1 : Off ha (fun b => some b ≠ row)) (h2 : Off ba (fun b => some b ≠ row)) : ShaV w' v s ha hc ba bc :=
  { h with wrd := h.wrd.gr2 hg h1, byt := h.byt.gr2 hg h2 }
theorem Blk.gr2 {w w' : World} {row : Option Nat} {b : Nat} {cs : List Value} {t : TypeId} (hg : w.grownBy w' row) (h : Blk w b cs t) (hne : some b ≠ row) : Blk w' b cs t := (hg.block b h.lt hne).trans h
theorem ShaV.set3 {w : World} {v : Value} {s : Sha} {ha : Option Addr} {hc : Nat} {ba : Option Addr} {bc : Nat} (h : ShaV w v s ha hc ba bc) (k : Nat) (x0 x1 x2 : Value) (h1 : Off ha (k < ·)) (h2 : Off ba (k < ·)) :
    ShaV (((w.setCell ⟨k, 0, none⟩ x0).setCell ⟨k, 1, none⟩ x1).setCell ⟨k, 2, none⟩ x2) v s ha hc ba bc :=
  { h with
    wrd := wrd_set (wrd_set (wrd_set h.wrd ⟨k, 0, none⟩ x0 h1) ⟨k, 1, none⟩ x1 h1) ⟨k, 2, none⟩ x2 h1
    byt := byt_set (byt_set (byt_set h.byt ⟨k, 0, none⟩ x0 h2) ⟨k, 1, none⟩ x1 h2) ⟨k, 2, none⟩ x2 h2 }
/-- what the loop holds: the bytes so far, and the digest of them in its box -/
structure Pc (w wq : World) (k : Nat) (q : List UInt8) (v : Value) : Prop where
  own : Own wq (k + 1) v q
  box : ∃ hx cx bx dx, Blk wq k [.slice hx (wr newS q).H.length cx, .slice bx (wr newS q).B.length dx, .int .u64 ((wr newS q).N : Int)] 26 ∧
    ShaV wq (.agg #[.slice hx (wr newS q).H.length cx, .slice bx (wr newS q).B.length dx, .int .u64 ((wr newS q).N : Int)]) (wr newS q) hx cx bx dx ∧ Off hx (fun b => some b ≠ v.ownBlock) ∧ Off bx (fun b => some b ≠ v.ownBlock)
  low : Below w.heap.size w wq
  lt : w.heap.size ≤ k
theorem flat_next (l : List (List UInt8)) (i : Nat) (h : i < l.length) : (l.take (i + 1)).flatten = (l.take i).flatten ++ l[i] := by
  rw [List.take_succ_eq_append_getElem h, List.flatten_append]
  simp
theorem own_below {w w' : World} {B : Nat} {v : Value} {l : List UInt8} (h : Own w B v l) (hb : Below w.heap.size w w') : Own w' B v l := by
  obtain ⟨h1, h2 | ⟨g, cap, cur, e, hB, hg, rest⟩⟩ := h
  · exact ⟨h1, Or.inl h2⟩
  · exact ⟨h1, Or.inr ⟨g, cap, cur, e, hB, (hb.block g (Array.getElem?_eq_some_iff.1 hg).1).trans hg, rest⟩⟩
theorem own_ne {w : World} {k : Nat} {v : Value} {l : List UInt8} (h : Own w (k + 1) v l) {b : Nat} (hb : b ≤ k) : some b ≠ v.ownBlock := fun h0 => by
  have := (World.ownsRow.lt h b h0.symm).1
  omega
theorem pc_start (w w1 : World) (hx : Option Addr) (cx : Nat) (hb : Below w.heap.size w w1) (h : ShaV w1 (.agg #[.slice hx 8 cx, .slice none 0 0, .int .u64 0]) newS hx cx none 0) :
    Pc w (w1.alloc (.cells #[.slice hx 8 cx, .slice none 0 0, .int .u64 0] 26)) w1.heap.size [] (.slice none 0 0) := by
  have e : wr newS [] = newS := wr_nil newS rfl (by decide)
  refine ⟨World.ownsRow_nil _ _ _ _, ?_, below_alloc hb _, hb.size⟩
  rw [e]
  exact ⟨hx, cx, none, 0, Blk.new w1 [.slice hx 8 cx, .slice none 0 0, .int .u64 0] 26 _ rfl, h.below ((Below.refl _ w1).alloc (Nat.le_refl _) _), fun _ _ _ => by simp [Value.ownBlock], fun _ _ _ => by simp [Value.ownBlock]⟩

set_option maxHeartbeats 8000000 in
set_option maxRecDepth 100000 in
theorem pieces_law (ao : Option Addr) (l : List (List UInt8)) (c : Nat) (w : World) (hl : Lay w) (h : Rws2 w ao l) :
    Calls Tryd.prog 6 #[.slice ao l.length c] w fun e w' => e = .returned (.bool true) ∧ Below w.heap.size w w' := by
  have C8 : Hid (∀ W, Below w.heap.size w W → Calls Tryd.prog 8 #[] W fun e w' => e = .returned (.bool true) ∧ Below W.heap.size W w') := fun W hb => heads_any W (hl.below hb)
  have B0 := Lib.hid (Below.refl w.heap.size w)
  by_cases hg : 40 < l.length
  · have d1 : ((l.length : Int) > 40) := by omega
    clear h
    go_enter Tryd.func6, Tryd.ntmps6
    go_wp2_with fail
    refine (C8.out _ B0.out).mono ?_
    rintro e w1 ⟨rfl, b1⟩
    go_wp2_with fail
    go_ret
    exact ⟨rfl, b1⟩
  · have d1 : ¬ ((l.length : Int) > 40) := by omega
    have C16 := Lib.hid (new_any w hl)
    have HR := Lib.hid h
    have HLY := Lib.hid (fun W (hB : Below w.heap.size w W) => hl.below hB)
    clear hl h
    go_enter Tryd.func6, Tryd.ntmps6
    go_wp2_with fail
    refine C16.out.mono ?_
    rintro e w1 ⟨b1, v1, hx, cx, rfl, h1⟩
    have h1v : v1 = .agg #[.slice hx 8 cx, .slice none 0 0, .int .u64 0] := h1.val
    subst h1v
    have P1 := Lib.hid (pc_start w w1 hx cx b1 h1)
    clear b1 h1
    go_wp2_with fail
    generalize w1.alloc (.cells #[.slice hx 8 cx, .slice none 0 0, .int .u64 0] 26) = w2 at *
    generalize w1.heap.size = k at *
    go_loopw [3, 5] (fun va vi wq => ∃ i : Nat, i ≤ l.length ∧ vi = .int .i64 i ∧ Hid (Pc w wq k (l.take i).flatten va) ∧ Hid ((l.take i).flatten.length ≤ 200 * i)) (fun _ vi _ => l.length - (RowKit.intOf vi).toNat)
    case atStart => exact ⟨0, by omega, rfl, P1.out, Nat.le_refl _⟩
    case round =>
      obtain ⟨i, hi, rfl, hP, hQ⟩ := hrel
      by_cases hil : i < l.length
      · obtain ⟨b, o, rfl, hb, hcell⟩ := HR.out (by intro h0; rw [h0] at hil; simp at hil)
        obtain ⟨aj, cj, dj, rj, nj, gj1, gj2⟩ := hcell i hil
        have hn := flat_next l i hil
        have DJ := Lib.hid (fun W (hB : Below w.heap.size w W) => (hB.cell (p := ⟨b, o + i, none⟩) hb).trans dj)
        have RJ := Lib.hid (fun W (hB : Below w.heap.size w W) => rj.below hB)
        have dw := DJ.out wr hP.out.low
        have HN := Lib.hid hn
        clear hcell dj rj hn
        generalize l[i] = x at *
        generalize (l.take i).flatten = q at *
        by_cases hbig : 200 < x.length
        · have d2 : ((x.length : Int) > 200) := by omega
          go_wp2_with fail
          refine (C8.out _ hP.out.low).mono ?_
          rintro e w3 ⟨rfl, b3⟩
          have B3 := Lib.hid (below_chain hP.out.low b3)
          clear b3
          go_wp2_with fail
          go_ret
          exact ⟨rfl, B3.out⟩
        · have d2 : ¬ ((x.length : Int) > 200) := by omega
          have OWN : Hid (wr.ownsRow (k + 1) 5 1 u3 q.length (bs q)) := hP.out.own
          have RW := Lib.hid (RJ.out wr hP.out.low)
          have K1 : Hid (q.length + x.length ≤ 140737488355328) := by show _ ≤ _; have := hQ.out; omega
          have K2 : Hid (k + 1 ≤ wr.heap.size) := by
            obtain ⟨_, _, _, _, hblk, _⟩ := hP.out.box
            exact hblk.lt
          have q1 : (0 : Int) ≤ (i : Int) := Int.natCast_nonneg _
          have q2 : (i : Int) < (l.length : Int) := by omega
          go_wp2_with (at_builtin; refine wpl_app (t := 23) (e := 5) rfl (.tmp 24) (.tmp 28) rfl Tryd.underlying23 info5 (k + 1) _ q x rfl OWN.out aj cj rfl RW.out nj K1.out K2.out ?_; intro v3 w3 own3 grow3)
          have hlow := hP.out.low
          have hwk := hP.out.lt
          obtain ⟨hx3, cx3, bx3, dx3, blk3, sha3, o31, o32⟩ := hP.out.box
          have LW3 : Hid (Below w.heap.size w w3) := hlow.grown grow3 hlow.size (fun j hj => by have := (OWN.out.lt j hj).1; omega)
          have BK3 := Lib.hid (Blk.gr2 grow3 blk3 (own_ne OWN.out (Nat.le_refl k)))
          have SH3 := Lib.hid (ShaV.gr2 grow3 sha3 o31 o32)
          have OW3 : Hid (Own w3 (k + 1) v3 (q ++ x)) := own3
          have HK := Lib.hid hwk
          have CHK : Hid (chk (Sh.wr newS q) = true) := wr_chk newS q rfl
          have CW := Lib.hid (fun W (hB : Below w3.heap.size w3 W) => write_fresh _ (Sh.wr newS q) hx3 cx3 bx3 dx3 x aj x.length cj W (HLY.out W (below_chain LW3.out hB)) (SH3.out.below hB) CHK.out (RJ.out W (below_chain LW3.out hB)) nj rfl gj1 gj2 (by omega))
          rw [wr_app newS q x rfl] at CW
          clear blk3 sha3 o31 o32 hlow hwk own3 grow3 OWN RW K1 K2 hP
          have p0 := BK3.out.cell 0
          have p1 := BK3.out.cell 1
          have p2 := BK3.out.cell 2
          simp only [List.getElem?_cons_zero, List.getElem?_cons_succ] at p0 p1 p2
          have dw3 := DJ.out w3 LW3.out
          clear dw
          refine wp_region_still_tail 5 (by kernel_rfl) (by kernel_rfl) ?_
          simp only [List.take_succ_cons, List.take_zero, List.drop_succ_cons, List.drop_zero]
          change wpStill _ _ w3.drew (fun a' => wpList _ _ _ _ a' w3.drew) _ _
          change w3.drew.cell? _ = _ at p0 p1 p2 dw3
          have DR := Lib.hid ((Below.refl w3.heap.size w3).drew)
          have BK4 := Lib.hid BK3.out.drew
          have CW4 := Lib.hid (CW.out _ DR.out)
          have LW4 := Lib.hid (below_chain LW3.out DR.out)
          have OW4 := Lib.hid (own_below OW3.out DR.out)
          clear CW LW3 BK3 SH3 OW3 DR
          generalize w3.drew = w4 at *
          repeat still_step
          refine wpStill_nil ?_
          go_wp2_with fail
          refine CW4.out.mono ?_
          rintro e w5 ⟨b5, v5, hx5, cx5, bx5, dx5, rfl, s5, o51, o52⟩
          have s5v := s5.val
          subst s5v
          have BK5 := Lib.hid (BK4.out.low b5)
          have LT4 := BK4.out.lt
          have LW5 := Lib.hid (below_chain LW4.out b5)
          have S5 := Lib.hid s5
          have OW5 := Lib.hid (own_below OW4.out b5)
          have O51 : Hid (Off hx5 (k < ·)) := fun b o hh => Nat.lt_of_lt_of_le LT4 (o51 b o hh)
          have O52 : Hid (Off bx5 (k < ·)) := fun b o hh => Nat.lt_of_lt_of_le LT4 (o52 b o hh)
          have V51 : Hid (Off hx5 (fun b => some b ≠ v3.ownBlock)) := fun b o hh h0 => by
            have := (World.ownsRow.lt OW4.out b h0.symm).2
            have := o51 b o hh
            omega
          have V52 : Hid (Off bx5 (fun b => some b ≠ v3.ownBlock)) := fun b o hh h0 => by
            have := (World.ownsRow.lt OW4.out b h0.symm).2
            have := o52 b o hh
            omega
          have t0 := BK5.out.cell 0
          have t1 := BK5.out.cell 1
          have t2 := BK5.out.cell 2
          have tz := fun j => BK5.out.frozen j
          simp only [List.getElem?_cons_zero, List.getElem?_cons_succ] at t0 t1 t2
          have BK6 : Hid (Blk (((w5.setCell ⟨k, 0, none⟩ (.slice hx5 (Sh.wr newS (q ++ x)).H.length cx5)).setCell ⟨k, 1, none⟩ (.slice bx5 (Sh.wr newS (q ++ x)).B.length dx5)).setCell ⟨k, 2, none⟩ (.int .u64 ((Sh.wr newS (q ++ x)).N : Int))) k [(.slice hx5 (Sh.wr newS (q ++ x)).H.length cx5), (.slice bx5 (Sh.wr newS (q ++ x)).B.length dx5), (.int .u64 ((Sh.wr newS (q ++ x)).N : Int))] 26) := ((BK5.out.set 0 _).set 1 _).set 2 _
          have S6 := Lib.hid (S5.out.set3 k (.slice hx5 (Sh.wr newS (q ++ x)).H.length cx5) (.slice bx5 (Sh.wr newS (q ++ x)).B.length dx5) (.int .u64 ((Sh.wr newS (q ++ x)).N : Int)) O51.out O52.out)
          have OW6 : Hid (Own (((w5.setCell ⟨k, 0, none⟩ (.slice hx5 (Sh.wr newS (q ++ x)).H.length cx5)).setCell ⟨k, 1, none⟩ (.slice bx5 (Sh.wr newS (q ++ x)).B.length dx5)).setCell ⟨k, 2, none⟩ (.int .u64 ((Sh.wr newS (q ++ x)).N : Int))) (k + 1) v3 (q ++ x)) := ownsRow_setCell_below (ownsRow_setCell_below (ownsRow_setCell_below OW5.out (Nat.lt_succ_self k) _) (Nat.lt_succ_self k) _) (Nat.lt_succ_self k) _
          have LW6 : Hid (Below w.heap.size w (((w5.setCell ⟨k, 0, none⟩ (.slice hx5 (Sh.wr newS (q ++ x)).H.length cx5)).setCell ⟨k, 1, none⟩ (.slice bx5 (Sh.wr newS (q ++ x)).B.length dx5)).setCell ⟨k, 2, none⟩ (.int .u64 ((Sh.wr newS (q ++ x)).N : Int)))) := ((LW5.out.setCell HK.out _).setCell HK.out _).setCell HK.out _
          have NN : Hid ((Sh.wr newS (q ++ x)).N = (q ++ x).length) := by
            show _ = _
            rw [wr_new_N]
            exact Nat.mod_eq_of_lt (by rw [List.length_append]; have := hQ.out; omega)
          have CHK6 : Hid (chk (Sh.wr newS (q ++ x)) = true) := wr_chk newS (q ++ x) rfl
          have QL : Hid ((q ++ x).length ≤ 200 * (i + 1)) := by show _ ≤ _; rw [List.length_append]; have := hQ.out; omega
          clear b5 s5 o51 o52 CW4 BK4 LT4
          go_wp2_with fail
          generalize ((w5.setCell ⟨k, 0, none⟩ (.slice hx5 (Sh.wr newS (q ++ x)).H.length cx5)).setCell ⟨k, 1, none⟩ (.slice bx5 (Sh.wr newS (q ++ x)).B.length dx5)).setCell ⟨k, 2, none⟩ (.int .u64 ((Sh.wr newS (q ++ x)).N : Int)) = w6 at *
          have C7 := Lib.hid (check_any _ _ _ _ _ _ w6 S6.out)
          rw [CHK6.out] at C7
          refine C7.out.mono ?_
          rintro e w7 ⟨rfl, b7⟩
          have BK7 := Lib.hid (BK6.out.low b7)
          have S7 := Lib.hid (S6.out.below b7)
          have OW7 := Lib.hid (own_below OW6.out b7)
          have LW7 := Lib.hid (below_chain LW6.out b7)
          obtain ⟨az, zc, hz, z1, z2, z3, z4⟩ := own_byt OW7.out
          subst hz
          have t0 := BK7.out.cell 0
          have t1 := BK7.out.cell 1
          have t2 := BK7.out.cell 2
          simp only [List.getElem?_cons_zero, List.getElem?_cons_succ] at t0 t1 t2
          rw [NN.out] at t2
          have QL2 : Hid ((l.take (i + 1)).flatten.length ≤ 200 * (i + 1)) := by show _ ≤ _; rw [HN.out]; exact QL.out
          have ql : (((q ++ x).length : Nat) : Int) ≤ 8000 := by have := QL.out; omega
          have PC7 : Hid (Pc w w7 k (q ++ x) (.slice az (q ++ x).length zc)) := ⟨OW7.out, ⟨hx5, cx5, bx5, dx5, BK7.out, S7.out, V51.out, V52.out⟩, LW7.out, HK.out⟩
          clear b7 C7 BK6 S6 OW6 LW6 z1 z2 z3 z4
          generalize (q ++ x).length = L at *
          go_wp2_with fail
          go_roundw
          case rel => exact ⟨i + 1, by omega, by go_num, by rw [HN.out]; exact PC7.out, QL2.out⟩
          case measure => simp [RowKit.intOf]; omega
      · obtain rfl : i = l.length := by omega
        generalize (l.take l.length).flatten = q at *
        have hlow := hP.out.low
        have hown := hP.out.own
        obtain ⟨hx3, cx3, bx3, dx3, blk3, sha3, _, _⟩ := hP.out.box
        have hlen : q.length ≤ 8000 := by have := hQ.out; omega
        obtain ⟨az, zc, hz, z1, z2, z3, z4⟩ := own_byt hown
        subst hz
        have CHK : Hid (chk (Sh.wr newS q) = true) := wr_chk newS q rfl
        obtain ⟨d, hd⟩ : ∃ d, sumS q = d := ⟨_, rfl⟩
        have HD : Hid (d.length = 32) := by
          show _ = _
          rw [← hd]
          exact dn_len _ CHK.out
        have LW := Lib.hid hlow
        have BK := Lib.hid blk3
        have D9 : Hid (∀ W, Below wr.heap.size wr W → Calls Tryd.prog 9 #[.agg #[.slice hx3 (Sh.wr newS q).H.length cx3, .slice bx3 (Sh.wr newS q).B.length dx3, .int .u64 ((Sh.wr newS q).N : Int)]] W (Row W d)) := fun W hB => by
          rw [← hd]
          exact done_any _ _ _ _ _ _ W (HLY.out W (below_chain hlow hB)) (sha3.below hB)
        have D18 : Hid (∀ W, Below wr.heap.size wr W → Calls Tryd.prog 18 #[.slice az q.length zc] W (Row W d)) := fun W hB => by
          rw [← hd]
          exact sum_any q az q.length zc W (HLY.out W (below_chain hlow hB)) (z3.below hB) z4 rfl z1 z2 (by omega)
        have D16 : Hid (∀ W, Below wr.heap.size wr W → Calls Tryd.prog 16 #[] W fun e w' => Below W.heap.size W w' ∧ ∃ v ha hc, e = .returned v ∧ ShaV w' v newS ha hc none 0) := fun W hB => new_any W (HLY.out W (below_chain hlow hB))
        have D10 : Hid (∀ W v ha hc, Below wr.heap.size wr W → ShaV W v newS ha hc none 0 → Calls Tryd.prog 10 #[v, .slice az q.length zc] W (Ans W (Sh.wr newS q))) := fun W v ha hc hB hv => write_any v newS ha hc none 0 q az q.length zc W (HLY.out W (below_chain hlow hB)) hv (z3.below hB) z4 rfl z1 z2 ⟨by decide, by decide, by omega⟩
        have D11 : Hid (∀ W v2 h2 c2 b2 d2, Below wr.heap.size wr W → ShaV W v2 (Sh.wr newS q) h2 c2 b2 d2 → Calls Tryd.prog 11 #[.agg #[.slice hx3 (Sh.wr newS q).H.length cx3, .slice bx3 (Sh.wr newS q).B.length dx3, .int .u64 ((Sh.wr newS q).N : Int)], v2] W fun e w' => e = .returned (.bool true) ∧ Below W.heap.size W w') := fun W v2 h2 c2 b2 d2 hB hv => same_sha _ _ _ _ _ _ _ _ _ _ _ W (sha3.below hB) hv
        have D8 := Lib.hid (fun W (hB : Below wr.heap.size wr W) => C8.out W (below_chain hlow hB))
        have p0 := BK.out.cell 0
        have p1 := BK.out.cell 1
        have p2 := BK.out.cell 2
        simp only [List.getElem?_cons_zero, List.getElem?_cons_succ] at p0 p1 p2
        clear hlow hown blk3 sha3 z1 z2 z3 z4 hd hP hQ C8 HLY
        go_wp2_with fail
        have BQ := Lib.hid (Below.refl wr.heap.size wr).drew
        have KQ := Lib.hid (BK.out.low BQ.out)
        clear p0 p1 p2
        go_region_held3 (fun w' => w'.cell? ⟨k, 0, none⟩ = some (.slice hx3 (Sh.wr newS q).H.length cx3) ∧ w'.cell? ⟨k, 1, none⟩ = some (.slice bx3 (Sh.wr newS q).B.length dx3) ∧ w'.cell? ⟨k, 2, none⟩ = some (.int .u64 ((Sh.wr newS q).N : Int)))
          (first
            | exact ⟨KQ.out.cell 0, KQ.out.cell 1, KQ.out.cell 2⟩
            | go_keep
            | fail)
          (first
            | (go_at_call 9; (with_reducible refine (D9.out _ BQ.out).mono ?_); rintro e w6 ⟨b6, v6, rfl, o6⟩
               obtain ⟨a6, c6, rfl, r6, n6⟩ := own_n o6 HD.out
               have R6 := Lib.hid r6
               have KQ := Lib.hid (KQ.out.low b6)
               have BQ := Lib.hid (below_chain BQ.out b6)
               clear b6 o6 r6)
            | (go_at_call 18; (with_reducible refine (D18.out _ BQ.out).mono ?_); rintro e w7 ⟨b7, v7, rfl, o7⟩
               obtain ⟨a7, c7, rfl, r7, n7⟩ := own_n o7 HD.out
               have C12 := Lib.hid (same_n d HD.out (R6.out.below b7) r7 n6 n7)
               have KQ := Lib.hid (KQ.out.low b7)
               have BQ := Lib.hid (below_chain BQ.out b7)
               clear b7 o7 r7)
            | (go_at_call 12; (with_reducible refine (C12.out).mono ?_); rintro e w7 ⟨rfl, rfl⟩)
            | (go_at_call 16; (with_reducible refine (D16.out _ BQ.out).mono ?_); rintro e w8 ⟨b8, v8, h8, c8, rfl, s8⟩
               have S8 := Lib.hid s8
               have KQ := Lib.hid (KQ.out.low b8)
               have BQ := Lib.hid (below_chain BQ.out b8)
               clear b8 s8)
            | (go_at_call 10; (with_reducible refine (D10.out _ _ _ _ BQ.out S8.out).mono ?_); rintro e w9 ⟨b9, v9, h9, c9, e9, d9, rfl, s9⟩
               have S9 := Lib.hid s9
               have KQ := Lib.hid (KQ.out.low b9)
               have BQ := Lib.hid (below_chain BQ.out b9)
               clear b9 s9)
            | (go_at_call 11; (with_reducible refine (D11.out _ _ _ _ _ _ BQ.out S9.out).mono ?_); rintro e w10 ⟨rfl, b10⟩
               have KQ := Lib.hid (KQ.out.low b10)
               have BQ := Lib.hid (below_chain BQ.out b10)
               clear b10)
            | (go_at_call 8; (with_reducible refine (D8.out _ BQ.out).mono ?_); rintro e w11 ⟨rfl, b11⟩
               have KQ := Lib.hid (KQ.out.low b11)
               have BQ := Lib.hid (below_chain BQ.out b11)
               clear b11))
        go_wp2_with fail
        go_ret
        exact ⟨rfl, below_chain LW.out BQ.out⟩
end Go.Proofs.YtekmmafgknnmlaaDoor.Sh
