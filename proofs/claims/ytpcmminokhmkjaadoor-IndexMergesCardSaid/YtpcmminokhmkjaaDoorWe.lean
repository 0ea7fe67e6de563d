/-
  The contract of the document's own into: H with a block gone into it. Conditions: H has eight words, a block 64 bytes.
-/
import Derived.Test.YtpcmminokhmkjaaDoorWa
import Derived.Test.YtpcmminokhmkjaaDoorKe
import Derived.Deep.AppendLies
namespace Go.Proofs.YtpcmminokhmkjaaDoor.Sh
open Go.RowKit Go.Lib
theorem add_nat (x y : UInt32) : (x + y).toNat = (x.toNat + y.toNat) % 4294967296 := UInt32.toNat_add x y
/-- H, j words of it with the rounds' added -/
def mixr (H r : List UInt32) (j : Nat) : List UInt32 := (List.zipWith (· + ·) H r).take j ++ H.drop j
theorem mixr_next (H r : List UInt32) (j : Nat) (h1 : H.length = 8) (h2 : r.length = 8) (hj : j < 8) :
    (mixr H r j).getD j 0 = H.getD j 0 ∧ (mixr H r j).set j (H.getD j 0 + r.getD j 0) = mixr H r (j + 1) ∧ (mixr H r j).length = 8 := by
  have hz : (List.zipWith (· + ·) H r).length = 8 := by simp [h1, h2]
  have ht : ((List.zipWith (· + ·) H r).take j).length = j := by simp [h1, h2]; omega
  have hd : H.drop j = H[j]'(by omega) :: H.drop (j + 1) := List.drop_eq_getElem_cons (by omega)
  have hg1 : H.getD j 0 = H[j]'(by omega) := by rw [List.getD_eq_getElem?_getD, List.getElem?_eq_getElem (by omega)]; rfl
  have hg2 : r.getD j 0 = r[j]'(by omega) := by rw [List.getD_eq_getElem?_getD, List.getElem?_eq_getElem (by omega)]; rfl
  refine ⟨?_, ?_, ?_⟩
  · rw [mixr, List.getD_eq_getElem?_getD, List.getElem?_append_right (by omega), ht, Nat.sub_self, hd, hg1]
    rfl
  · rw [mixr, List.set_append_right _ _ (by omega), ht, Nat.sub_self, hd, mixr, List.take_succ_eq_append_getElem (by omega), List.getElem_zipWith, hg1, hg2, List.append_assoc]
    rfl
  · rw [mixr, List.length_append, ht, List.length_drop, h1]
    omega
theorem mixr_end (H r : List UInt32) (h1 : H.length = 8) (h2 : r.length = 8) : mixr H r 8 = List.zipWith (· + ·) H r := by
  rw [mixr, List.take_of_length_le (by simp [h1, h2]), List.drop_of_length_le (by omega), List.append_nil]
theorem rnds_next (k : Nat) (W : List UInt32) (s s' : St) (h : rnds W s k = s') : rnds W s (k + 1) = rnd s' (stepsL.getD k 0) (W.getD k 0) := by rw [rnds, h]
/-- four bytes put together, as the document has it -/
theorem word_or (l : List UInt8) (i : Nat) :
    bits BinOp.or IntKind.u32 (bits BinOp.or IntKind.u32 (bits BinOp.or IntKind.u32 ((byte l (4 * i) : Int) * 16777216 % 4294967296) ((byte l (4 * i + 1) : Int) * 65536 % 4294967296)) ((byte l (4 * i + 2) : Int) * 256 % 4294967296)) (byte l (4 * i + 3) : Int) = ((word l i).toNat : Int) := by
  have h0 := byte_lt l (4 * i)
  have h1 := byte_lt l (4 * i + 1)
  have h2 := byte_lt l (4 * i + 2)
  have h3 := byte_lt l (4 * i + 3)
  unfold word
  rw [part_u l i 4 (by decide)]
  simp only [part, Nat.zero_mul, Nat.zero_add, Nat.add_zero]
  generalize byte l (4 * i) = a at *
  generalize byte l (4 * i + 1) = b at *
  generalize byte l (4 * i + 2) = c at *
  generalize byte l (4 * i + 3) = d at *
  rw [show ((a : Int) * 16777216 % 4294967296) = ((2 ^ 24 * a : Nat) : Int) by omega, show ((b : Int) * 65536 % 4294967296) = ((65536 * b : Nat) : Int) by omega, show ((c : Int) * 256 % 4294967296) = ((256 * c : Nat) : Int) by omega,
    u32_or_nat _ _ (by omega) (by omega), ← Nat.two_pow_add_eq_or_of_lt (by omega), show 2 ^ 24 * a + 65536 * b = 2 ^ 16 * (256 * a + b) by omega, u32_or_nat _ _ (by omega) (by omega), ← Nat.two_pow_add_eq_or_of_lt (by omega),
    show 2 ^ 16 * (256 * a + b) + 256 * c = 2 ^ 8 * (65536 * a + 256 * b + c) by omega, u32_or_nat _ _ (by omega) (by omega), ← Nat.two_pow_add_eq_or_of_lt (by omega)]
  congr 1
  omega
theorem wrd_one (w : World) (c : UInt32) (n : Int) (h : n = (c.toNat : Int)) : Wrd (w.alloc (.cells #[.int .u32 n] 91)) (some ⟨w.heap.size, 0, none⟩) [c] := fun _ => by
  refine ⟨w.heap.size, 0, rfl, by simp, fun j hj => ?_⟩
  obtain rfl : j = 0 := by simpa using hj
  rw [World.cell?_alloc_new]
  simp [h]
theorem byte_at {w : World} {b o : Nat} {l : List UInt8} (h : ∀ j (h : j < l.length), w.cell? ⟨b, o + j, none⟩ = some (.int .u8 (l[j]).toNat)) (j : Nat) (hj : j < l.length) : w.cell? ⟨b, o + j, none⟩ = some (.int .u8 (byte l j : Int)) := by
  rw [h j hj, byte, List.getD_eq_getElem?_getD, List.getElem?_eq_getElem hj]
  rfl

theorem right_q (a : Nat) (x : UInt32) (h1 : 1 ≤ a) (h2 : a ≤ 31) (w : World) :
    Calls Tryd.prog 63 #[.int .u32 (x.toNat : Int), .int .u32 (a : Int)] w fun e w' => e = .returned (.int .u32 ((rt a x).toNat : Int)) ∧ w' = w :=
  (right_any a x h1 h2 w).mono fun _ _ h => ⟨h.1, h.2.symm⟩
set_option maxHeartbeats 2000000 in
set_option maxRecDepth 100000 in
theorem roots_any (w : World) : Calls Tryd.prog 64 #[] w fun e w' => e = .returned (.slice (some ⟨w.heap.size, 0, none⟩) 64 64) ∧ w' = w.alloc (.cells (us stepsL).toArray 91) := by
  have h : Hid ((us stepsL).toArray = (us stepsL).toArray) := rfl
  clear h
  go_enter Tryd.func64, Tryd.ntmps64
  go_wp2_with fail
  go_ret
  exact ⟨rfl, rfl⟩
theorem own8 (W : World) (B : Nat) (hB : B ≤ W.heap.size) (a b c d e f g h : UInt32) (x y : Int) (hx : x = (a.toNat : Int)) (hy : y = (e.toNat : Int)) :
    OwnW (W.alloc (.cells #[.int .u32 x, .int .u32 (b.toNat : Int), .int .u32 (c.toNat : Int), .int .u32 (d.toNat : Int), .int .u32 y, .int .u32 (f.toNat : Int), .int .u32 (g.toNat : Int), .int .u32 (h.toNat : Int)] 91)) B (.slice (some ⟨W.heap.size, 0, none⟩) 8 8) [a, b, c, d, e, f, g, h] := by
  subst hx
  subst hy
  exact ownw_lit W [a, b, c, d, e, f, g, h] B hB (by simp)
theorem wrd_low {w w' : World} {B g : Nat} {l : List UInt32} (h : Wrd w (some ⟨g, 0, none⟩) l) (hg : g < B) (hb : Below B w w') : Wrd w' (some ⟨g, 0, none⟩) l := fun hne => by
  obtain ⟨b, o, h1, h2, h3⟩ := h hne
  injection h1 with h1
  injection h1 with e1 e2
  subst e1
  subst e2
  exact ⟨g, 0, rfl, Nat.lt_of_lt_of_le h2 hb.size, fun j hj => (hb.cell (p := ⟨g, 0 + j, none⟩) hg).trans (h3 j hj)⟩
theorem wrd_getD {w : World} {g : Nat} {l : List UInt32} (h : Wrd w (some ⟨g, 0, none⟩) l) (j : Nat) (hj : j < l.length) : w.cell? ⟨g, j, none⟩ = some (.int .u32 ((l.getD j 0).toNat : Int)) := by
  obtain ⟨b, o, h1, h2, h3⟩ := h (by intro h0; rw [h0] at hj; simp at hj)
  injection h1 with h1
  injection h1 with e1 e2
  subst e1
  subst e2
  have := h3 j hj
  rw [Nat.zero_add] at this
  rw [this, List.getD_eq_getElem?_getD, List.getElem?_eq_getElem hj]
  rfl
theorem zip_swap (l m : List UInt32) : List.zipWith (· + ·) l m = List.zipWith (· + ·) m l := by
  induction l generalizing m with
  | nil => cases m <;> rfl
  | cons x r ih =>
    cases m with
    | nil => rfl
    | cons y s => simp only [List.zipWith_cons_cons, ih, UInt32.add_comm]
theorem word_at {w : World} {b o : Nat} {l : List UInt32} (h : ∀ j (h : j < l.length), w.cell? ⟨b, o + j, none⟩ = some (.int .u32 (l[j]).toNat)) (j : Nat) (hj : j < l.length) : w.cell? ⟨b, o + j, none⟩ = some (.int .u32 ((l.getD j 0).toNat : Int)) := by
  rw [h j hj, List.getD_eq_getElem?_getD, List.getElem?_eq_getElem hj]
  rfl
theorem own_wrd8 {w : World} {B : Nat} {v : Value} {l : List UInt32} {n : Nat} (h : OwnW w B v l) (hl : l.length = n) (hn : 1 ≤ n) : ∃ g cap, v = .slice (some ⟨g, 0, none⟩) n cap ∧ B ≤ g ∧ g < w.heap.size ∧ n ≤ cap ∧ cap ≤ 9223372036854775807 ∧ Wrd w (some ⟨g, 0, none⟩) l ∧ w.ownsRow B 91 1 (.slice (some ⟨g, 0, none⟩) n cap) n (us l) := by
  subst hl
  have h' := h
  obtain ⟨ao, c, rfl, h1, h2, h3, _⟩ := own_wrd h
  obtain ⟨g, cap, hv, hg1, hg2⟩ := World.ownsRow.form h' (by omega)
  injection hv with e1 e2 e3
  subst e1
  subst e3
  exact ⟨g, c, rfl, hg1, hg2, h1, h2, h3, h'⟩

set_option maxHeartbeats 16000000 in
set_option maxRecDepth 100000 in
theorem into_any (H : List UInt32) (blk : List UInt8) (ao bo : Option Addr) (c d : Nat) (hH : H.length = 8) (hb : blk.length = 64) (w : World) (h1 : Wrd w ao H) (h2 : Byt w bo blk) :
    Calls Tryd.prog 56 #[.slice ao 8 c, .slice bo 64 d] w fun e w' => Below w.heap.size w w' ∧ ∃ v, e = .returned v ∧ OwnW w' w.heap.size v (into H blk) := by
  obtain ⟨hb1, ho1, rfl, hbl1, hcell1⟩ := h1 (by intro h0; rw [h0] at hH; simp at hH)
  obtain ⟨bb, bo2, rfl, hbl2, hcell2⟩ := h2 (by intro h0; rw [h0] at hb; simp at hb)
  have HC1 := Lib.hid hcell1
  have HC2 := Lib.hid hcell2
  have HH := Lib.hid hH
  have HB := Lib.hid hb
  have W1 := Lib.hid h1
  clear hcell1 hcell2 hH hb h1 h2
  go_enter Tryd.func56, Tryd.ntmps56
  go_wp2_with fail
  go_loopw [5, 6] (fun v vi wr => ∃ k : Nat, k ≤ 64 ∧ vi = .int .i64 k ∧ OwnW wr w.heap.size v (sched blk k) ∧ Below w.heap.size w wr) (fun _ vi _ => 64 - (RowKit.intOf vi).toNat)
  case atStart => exact ⟨0, by omega, rfl, World.ownsRow_nil _ _ _ _, Below.refl _ _⟩
  case round =>
    obtain ⟨k, hk, rfl, hown, hbel⟩ := hrel
    have hbz := hbel.size
    by_cases hk64 : k < 64
    · by_cases hk16 : k < 16
      · have c0 := (hbel.cell (p := ⟨bb, bo2 + (4 * k), none⟩) hbl2).trans (byte_at HC2.out (4 * k) (by rw [HB.out]; omega))
        have c1 := (hbel.cell (p := ⟨bb, bo2 + (4 * k + 1), none⟩) hbl2).trans (byte_at HC2.out (4 * k + 1) (by rw [HB.out]; omega))
        have c2 := (hbel.cell (p := ⟨bb, bo2 + (4 * k + 2), none⟩) hbl2).trans (byte_at HC2.out (4 * k + 2) (by rw [HB.out]; omega))
        have c3 := (hbel.cell (p := ⟨bb, bo2 + (4 * k + 3), none⟩) hbl2).trans (byte_at HC2.out (4 * k + 3) (by rw [HB.out]; omega))
        have l0 := byte_lt blk (4 * k)
        have l1 := byte_lt blk (4 * k + 1)
        have l2 := byte_lt blk (4 * k + 2)
        have l3 := byte_lt blk (4 * k + 3)
        have ew := word_or blk k
        have hn : Hid (sched blk k ++ [word blk k] = sched blk (k + 1)) := by show _ = _; rw [sched, if_pos hk16]
        have hlen := sched_len blk k
        generalize byte blk (4 * k) = x0 at *
        generalize byte blk (4 * k + 1) = x1 at *
        generalize byte blk (4 * k + 2) = x2 at *
        generalize byte blk (4 * k + 3) = x3 at *
        generalize word blk k = wd at *
        have hw : ∀ n : Int, IntKind.u32.wrap n = n % 4294967296 := wrap_u32
        have y0 : IntKind.u32.wrap (x0 : Int) = (x0 : Int) := by rw [hw]; omega
        have y1 : IntKind.u32.wrap (x1 : Int) = (x1 : Int) := by rw [hw]; omega
        have y2 : IntKind.u32.wrap (x2 : Int) = (x2 : Int) := by rw [hw]; omega
        have y3 : IntKind.u32.wrap (x3 : Int) = (x3 : Int) := by rw [hw]; omega
        rw [← hw, ← hw, ← hw] at ew
        have k0 : IntKind.i64.wrap (4 * (k : Int)) = 4 * (k : Int) := IntWalk.i64_in _ (by omega)
        have k1 : IntKind.i64.wrap (4 * (k : Int) + 1) = 4 * (k : Int) + 1 := IntWalk.i64_in _ (by omega)
        have k2 : IntKind.i64.wrap (4 * (k : Int) + 2) = 4 * (k : Int) + 2 := IntWalk.i64_in _ (by omega)
        have k3 : IntKind.i64.wrap (4 * (k : Int) + 3) = 4 * (k : Int) + 3 := IntWalk.i64_in _ (by omega)
        have m0 : (0 : Int) ≤ 4 * (k : Int) := by omega
        have m1 : 4 * (k : Int) < 64 := by omega
        have m2 : (0 : Int) ≤ 4 * (k : Int) + 1 := by omega
        have m3 : 4 * (k : Int) + 1 < 64 := by omega
        have m4 : (0 : Int) ≤ 4 * (k : Int) + 2 := by omega
        have m5 : 4 * (k : Int) + 2 < 64 := by omega
        have m6 : (0 : Int) ≤ 4 * (k : Int) + 3 := by omega
        have m7 : 4 * (k : Int) + 3 < 64 := by omega
        have n0 : (4 * (k : Int)).toNat = 4 * k := by omega
        have n1 : (4 * (k : Int) + 1).toNat = 4 * k + 1 := by omega
        have n2 : (4 * (k : Int) + 2).toNat = 4 * k + 2 := by omega
        have n3 : (4 * (k : Int) + 3).toNat = 4 * k + 3 := by omega
        have lit := (wrd_one wr wd _ rfl).drew
        have own1 : OwnW (wr.alloc (.cells #[.int .u32 (wd.toNat : Int)] 91)).drew w.heap.size u5 (sched blk k) := World.ownsRow.alloc hown _
        have hbb : Below w.heap.size w (wr.alloc (.cells #[.int .u32 (wd.toNat : Int)] 91)).drew := (hbel.alloc hbz _).drew
        have nb : some bb ≠ u5.ownBlock := fun h => by have := (hown.lt bb h.symm).1; omega
        have p1 : ((sched blk k).length + [wd].length) * 4 ≤ 140737488355328 := by rw [hlen]; simp; omega
        have p2 := hbb.size
        have LIT := Lib.hid lit
        have OWN := Lib.hid own1
        have BB := Lib.hid hbb
        clear lit own1 hbb hown hbel hlen hw
        go_wp2_with fail
        go_region_held3 (fun w' => w'.cell? ⟨bb, bo2 + (4 * k), none⟩ = some (.int .u8 (x0 : Int)) ∧ w'.cell? ⟨bb, bo2 + (4 * k + 1), none⟩ = some (.int .u8 (x1 : Int)) ∧ w'.cell? ⟨bb, bo2 + (4 * k + 2), none⟩ = some (.int .u8 (x2 : Int)) ∧ w'.cell? ⟨bb, bo2 + (4 * k + 3), none⟩ = some (.int .u8 (x3 : Int)))
          (first
            | go_keep
            | (go_split_ands
               refine ⟨?_, ?_, ?_, ?_⟩
               · exact hgrow1.cell (by assumption) nb
               · exact hgrow1.cell (by assumption) nb
               · exact hgrow1.cell (by assumption) nb
               · exact hgrow1.cell (by assumption) nb))
          ((refine step_appw (t := 72) (e := 91) rfl (.tmp 30) (.tmp 64) rfl Tryd.underlying72 info91 w.heap.size _ (sched blk k) [wd] rfl OWN.out ⟨wr.heap.size, 0, none⟩ 1 rfl LIT.out p1 p2 ?_; intro v1 w1 hown1 hgrow1))
        have hb' : Below w.heap.size w w1 := BB.out.grown hgrow1 p2 (fun k hk => (OWN.out.lt k hk).1)
        go_wp2_with fail
        go_roundw
        case rel => exact ⟨k + 1, by omega, by go_num, by rw [← hn.out]; exact hown1, hb'⟩
        case measure => simp [RowKit.intOf]; omega
      · obtain ⟨m, hm⟩ : ∃ m, k = m + 16 := ⟨k - 16, by omega⟩
        have hlen := sched_len blk k
        have hn : Hid (sched blk k ++ [nextW (sched blk k) k] = sched blk (k + 1)) := by show _ = _; rw [show sched blk (k + 1) = sched blk k ++ [if k < 16 then word blk k else nextW (sched blk k) k] from rfl, if_neg (by omega)]
        unfold nextW at hn
        rw [show k - 16 = m by omega, show k - 7 = m + 9 by omega, show k - 15 = m + 1 by omega, show k - 2 = m + 14 by omega] at hn
        obtain ⟨L, hL⟩ : ∃ L, L = sched blk k := ⟨_, rfl⟩
        rw [← hL] at hown hlen hn
        have HL := Lib.hid hL
        have hown' : wr.ownsRow w.heap.size 91 1 u5 k (us L) := by rw [← hlen]; exact hown
        obtain ⟨g, cap, rfl, hg1, hg2⟩ := World.ownsRow.form hown' (by omega)
        have c0 := (hown'.cellAt m (by omega)).trans (us_getD L m (by omega))
        have c9 := (hown'.cellAt (m + 9) (by omega)).trans (us_getD L (m + 9) (by omega))
        have c1 := (hown'.cellAt (m + 1) (by omega)).trans (us_getD L (m + 1) (by omega))
        have c14 := (hown'.cellAt (m + 14) (by omega)).trans (us_getD L (m + 14) (by omega))
        have F1 := add_nat (L.getD m 0) (L.getD (m + 9) 0)
        have F2 := add_nat (L.getD m 0 + L.getD (m + 9) 0) (far (L.getD (m + 1) 0))
        have F3 := add_nat (L.getD m 0 + L.getD (m + 9) 0 + far (L.getD (m + 1) 0)) (near (L.getD (m + 14) 0))
        generalize L.getD m 0 = x0 at *
        generalize L.getD (m + 9) 0 = x9 at *
        generalize L.getD (m + 1) 0 = x1 at *
        generalize L.getD (m + 14) 0 = x14 at *
        have r1 := fun W => right_any 7 x1 (by decide) (by decide) W
        have r2 := fun W => right_any 18 x1 (by decide) (by decide) W
        have r3 := fun W => right_any 17 x14 (by decide) (by decide) W
        have r4 := fun W => right_any 19 x14 (by decide) (by decide) W
        have e1 := xor_u32 (rt 7 x1) (rt 18 x1)
        have e2 := xor_u32 (rt 7 x1 ^^^ rt 18 x1) (sr 3 x1)
        have e3 := xor_u32 (rt 17 x14) (rt 19 x14)
        have e4 := xor_u32 (rt 17 x14 ^^^ rt 19 x14) (sr 10 x14)
        have e5 : (x1.toNat : Int) / 8 = ((sr 3 x1).toNat : Int) := by rw [sr_nat]; omega
        have e6 : (x14.toNat : Int) / 1024 = ((sr 10 x14).toNat : Int) := by rw [sr_nat]; omega
        have hf : far x1 = rt 7 x1 ^^^ rt 18 x1 ^^^ sr 3 x1 := rfl
        have hne : near x14 = rt 17 x14 ^^^ rt 19 x14 ^^^ sr 10 x14 := rfl
        rw [← hf] at e2
        rw [← hne] at e4
        clear hf hne
        generalize far x1 = y1 at *
        generalize near x14 = y2 at *
        generalize x0 + x9 + y1 + y2 = t3 at *
        generalize x0 + x9 + y1 = t2 at *
        generalize x0 + x9 = t1 at *
        generalize rt 7 x1 ^^^ rt 18 x1 = z1 at *
        generalize rt 17 x14 ^^^ rt 19 x14 = z2 at *
        generalize rt 7 x1 = z3 at *
        generalize rt 18 x1 = z4 at *
        generalize rt 17 x14 = z5 at *
        generalize rt 19 x14 = z6 at *
        generalize sr 3 x1 = z7 at *
        generalize sr 10 x14 = z8 at *
        have FF := Lib.hid (And.intro F1 (And.intro F2 F3))
        have R1 := Lib.hid r1
        have R2 := Lib.hid r2
        have R3 := Lib.hid r3
        have R4 := Lib.hid r4
        have OWN := Lib.hid hown'
        have BB := Lib.hid hbel
        have LK := Lib.hid hlen
        have g7 : (z7.toNat : Int) % 4294967296 = (z7.toNat : Int) := by have := z7.toNat_lt; omega
        have g8 : (z8.toNat : Int) % 4294967296 = (z8.toNat : Int) := by have := z8.toNat_lt; omega
        have hd : decide ((k : Int) < 16) = false := by simp; omega
        have s1 : (k : Int) - 15 = (m : Int) + 1 := by omega
        have s2 : (k : Int) - 2 = (m : Int) + 14 := by omega
        have s3 : (k : Int) - 16 = (m : Int) := by omega
        have s4 : (k : Int) - 7 = (m : Int) + 9 := by omega
        have t1' : IntKind.i64.wrap ((m : Int) + 1) = (m : Int) + 1 := IntWalk.i64_in _ (by omega)
        have t2' : IntKind.i64.wrap ((m : Int) + 14) = (m : Int) + 14 := IntWalk.i64_in _ (by omega)
        have t3' : IntKind.i64.wrap (m : Int) = (m : Int) := IntWalk.i64_in _ (by omega)
        have t4' : IntKind.i64.wrap ((m : Int) + 9) = (m : Int) + 9 := IntWalk.i64_in _ (by omega)
        have m1 : (0 : Int) ≤ (m : Int) + 1 := by omega
        have m2 : (0 : Int) ≤ (m : Int) + 14 := by omega
        have m3 : (0 : Int) ≤ (m : Int) := by omega
        have m4 : (0 : Int) ≤ (m : Int) + 9 := by omega
        have m5 : (m : Int) + 1 < (k : Int) := by omega
        have m6 : (m : Int) + 14 < (k : Int) := by omega
        have m7 : (m : Int) < (k : Int) := by omega
        have m8 : (m : Int) + 9 < (k : Int) := by omega
        have n1 : ((m : Int) + 1).toNat = m + 1 := by omega
        have n2 : ((m : Int) + 14).toNat = m + 14 := by omega
        have n4 : ((m : Int) + 9).toNat = m + 9 := by omega
        clear hm
        clear F1 F2 F3 r1 r2 r3 r4 hown' hown hbel hL hlen
        go_wp2_with fail
        go_quiet (fail)
        go_wp2_with fail
        refine (R1.out _).mono ?_
        rintro e w' ⟨rfl, rfl⟩
        go_wp2_with fail
        refine (R2.out _).mono ?_
        rintro e w' ⟨rfl, rfl⟩
        go_wp2_with fail
        refine (R3.out _).mono ?_
        rintro e w' ⟨rfl, rfl⟩
        go_wp2_with fail
        refine (R4.out _).mono ?_
        rintro e w' ⟨rfl, rfl⟩
        go_wp2_with fail
        go_quiet (fail)
        generalize hwv : World.drewN _ nq = wv
        have ownv : wv.ownsRow w.heap.size 91 1 (.slice (some ⟨g, 0, none⟩) k cap) L.length (us L) := by
          rw [← hwv, LK.out]
          exact OWN.out
        have bv : Below w.heap.size w wv := by
          rw [← hwv]
          exact below_drewN (below_drewN BB.out _) _
        have lit := wrd_one wv t3 (((x0.toNat : Int) + (x9.toNat : Int) + (y1.toNat : Int) + (y2.toNat : Int)) % 4294967296) (by have := FF.out; omega)
        have own2 := World.ownsRow.alloc ownv (.cells #[.int .u32 (((x0.toNat : Int) + (x9.toNat : Int) + (y1.toNat : Int) + (y2.toNat : Int)) % 4294967296)] 91)
        have b2 := bv.alloc bv.size (.cells #[.int .u32 (((x0.toNat : Int) + (x9.toNat : Int) + (y1.toNat : Int) + (y2.toNat : Int)) % 4294967296)] 91)
        have p1 : (L.length + 1) * 4 ≤ 140737488355328 := by rw [LK.out]; omega
        have hone : Hid ([t3].length = 1) := rfl
        have LIT := Lib.hid lit
        have OW2 := Lib.hid own2
        have B2 := Lib.hid b2
        have p2 := b2.size
        clear hwv ownv bv lit own2 b2 OWN BB
        go_wp2_with (at_builtin; refine wpl_appw_len (t := 72) (e := 91) rfl (.tmp 107) (.tmp 109) rfl Tryd.underlying72 info91 w.heap.size _ L [t3] rfl OW2.out (some ⟨wv.heap.size, 0, none⟩) 1 1 rfl LIT.out (fun h => by cases h) hone p1 p2 ?_; intro v1 w1 hown1 hgrow1)
        have hb' : Below w.heap.size w w1 := B2.out.grown hgrow1 p2 (fun k hk => (OW2.out.lt k hk).1)
        go_wp2_with fail
        go_roundw
        case rel => exact ⟨k + 1, by omega, by go_num, by rw [← hn.out]; exact hown1, hb'⟩
        case measure => simp [RowKit.intOf]; omega
    · obtain rfl : k = 64 := by omega
      have CR := Lib.hid roots_any
      obtain ⟨g, cap, rfl, hg1, hg2, hg3, hg4, hW, _⟩ := own_wrd8 hown (sched_len blk 64) (by decide)
      have HW := Lib.hid hW
      have BB := Lib.hid hbel
      clear hW hown hbel
      go_wp2_with fail
      refine (CR.out _).mono ?_
      rintro e w1 ⟨rfl, hw1⟩
      have hrt : Wrd w1 (some ⟨wr.heap.size, 0, none⟩) stepsL := by
        rw [hw1]
        exact (Blk.new wr (us stepsL) 91 _ rfl).wrd
      have b1 : Below wr.heap.size wr w1 := by
        rw [hw1]
        exact (Below.refl _ wr).alloc (Nat.le_refl _) _
      have hrs : wr.heap.size < w1.heap.size := by rw [hw1]; simp
      have hW1 := HW.out.below b1
      generalize wr.heap.size = rb at *
      have bw1 := BB.out.trans (b1.mono hbz)
      have hl0 : Hid (H.length = 8) := HH.out
      have lit := ownw_lit w1 [] w.heap.size bw1.size (by simp)
      have ba := (Below.refl _ w1).alloc (Nat.le_refl _) (.cells #[] 91)
      have p1 : (([] : List UInt32).length + 8) * 4 ≤ 140737488355328 := by simp
      have p2 : w.heap.size ≤ (w1.alloc (.cells #[] 91)).heap.size := by have := bw1.size; simp; omega
      have h1 : Wrd (w1.alloc (.cells #[] 91)) (some ⟨hb1, ho1, none⟩) H := (W1.out.below bw1).below ba
      have LIT := Lib.hid lit
      have BA := Lib.hid ba
      have H1 := Lib.hid h1
      have BW := Lib.hid bw1
      have HWb := Lib.hid (hW1.below ba)
      have RT := Lib.hid (hrt.below ba)
      clear lit ba h1 hw1 b1 hrt hW1
      go_wp2_with (at_builtin; refine wpl_appw_len (t := 72) (e := 91) rfl (.tmp 112) (.tmp 113) rfl Tryd.underlying72 info91 w.heap.size (.slice (some ⟨w1.heap.size, 0, none⟩) 0 0) [] H rfl LIT.out (some ⟨hb1, ho1, none⟩) 8 c rfl H1.out (fun h => by cases h) HH p1 p2 ?_; intro v3 w3 hown3 hgrow3)
      have b3 : Below w.heap.size w w3 := (BW.out.trans (BA.out.mono BW.out.size)).grown hgrow3 p2 (fun k hk => (LIT.out.lt k hk).1)
      have b3' : Below w1.heap.size (w1.alloc (.cells #[] 91)) w3 := (Below.refl _ _).grown hgrow3 (by simp) (fun k hk => by
        have : w1.heap.size = k := by simpa [Value.ownBlock] using hk
        omega)
      have hlt1 : w1.heap.size < (w1.alloc (.cells #[] 91)).heap.size := by simp
      have hwr1 : rb < w1.heap.size := hrs
      have WW := Lib.hid (wrd_low HWb.out (by show g < w1.heap.size; omega) b3')
      have RR := Lib.hid (wrd_low RT.out (by show rb < w1.heap.size; omega) b3')
      have hi3 : w.heap.size ≤ w3.heap.size := b3.size
      have B3 := Lib.hid b3
      have O3 : Hid (OwnW w3 w.heap.size v3 (stOf H).row) := by
        show OwnW _ _ _ _
        rw [row_of H HH.out]
        simpa [OwnW] using hown3
      clear hown3 hgrow3 b3 b3' LIT BA BW HWb RT H1 HW p1 p2 CR
      go_wp2_with fail
      go_loopw [13, 14] (fun v vi wq => ∃ (k : Nat) (sa sb sc sd se sf sg sh : UInt32), k ≤ 64 ∧ vi = .int .i64 k ∧ OwnW wq w.heap.size v [sa, sb, sc, sd, se, sf, sg, sh] ∧ Below w3.heap.size w3 wq ∧ Hid (rnds (sched blk 64) (stOf H) k = ⟨sa, sb, sc, sd, se, sf, sg, sh⟩)) (fun _ vi _ => 64 - (RowKit.intOf vi).toNat)
      case atStart => exact ⟨0, _, _, _, _, _, _, _, _, by omega, rfl, O3.out, Below.refl _ _, rfl⟩
      case round =>
        obtain ⟨k, sa, sb, sc, sd, se, sf, sg, sh, hk, rfl, hown, hbq, hst⟩ := hrel
        obtain ⟨gv, cv, rfl, hv1, hv2, hv3, hv4, _, hown'⟩ := own_wrd8 hown (n := 8) rfl (by decide)
        by_cases hk64 : k < 64
        · have d0 := hown'.cellAt 0 (by decide)
          have d1 := hown'.cellAt 1 (by decide)
          have d2 := hown'.cellAt 2 (by decide)
          have d3 := hown'.cellAt 3 (by decide)
          have d4 := hown'.cellAt 4 (by decide)
          have d5 := hown'.cellAt 5 (by decide)
          have d6 := hown'.cellAt 6 (by decide)
          have d7 := hown'.cellAt 7 (by decide)
          simp only [us, List.map_cons, List.map_nil, List.getElem?_cons_zero, List.getElem?_cons_succ] at d0 d1 d2 d3 d4 d5 d6 d7
          have r1 := wrd_getD (RR.out.below hbq) k (by rw [stepsL_len]; exact hk64)
          have r2 := wrd_getD (WW.out.below hbq) k (by rw [sched_len]; exact hk64)
          have hnx := rnds_next k (sched blk 64) (stOf H) _ hst.out
          have c1 := fun W => right_q 6 se (by decide) (by decide) W
          have c2 := fun W => right_q 11 se (by decide) (by decide) W
          have c3 := fun W => right_q 25 se (by decide) (by decide) W
          have c4 := fun W => right_any 2 sa (by decide) (by decide) W
          have c5 := fun W => right_any 13 sa (by decide) (by decide) W
          have c6 := fun W => right_any 22 sa (by decide) (by decide) W
          have x1 := xor_u32 (rt 6 se) (rt 11 se)
          have x2 := xor_u32 (rt 6 se ^^^ rt 11 se) (rt 25 se)
          have x3 := xor_u32 (rt 2 sa) (rt 13 sa)
          have x4 := xor_u32 (rt 2 sa ^^^ rt 13 sa) (rt 22 sa)
          have hE : sgE se = rt 6 se ^^^ rt 11 se ^^^ rt 25 se := rfl
          have hA : sgA sa = rt 2 sa ^^^ rt 13 sa ^^^ rt 22 sa := rfl
          rw [← hE] at x2
          rw [← hA] at x4
          clear hE hA
          unfold rnd tee you ch mj at hnx
          simp only at hnx
          generalize stepsL.getD k 0 = K at *
          generalize (sched blk 64).getD k 0 = X at *
          generalize sgE se = rE at *
          generalize sgA sa = rA at *
          generalize rt 6 se ^^^ rt 11 se = z1 at *
          generalize rt 2 sa ^^^ rt 13 sa = z2 at *
          generalize rt 6 se = z3 at *
          generalize rt 11 se = z4 at *
          generalize rt 25 se = z5 at *
          generalize rt 2 sa = z6 at *
          generalize rt 13 sa = z7 at *
          generalize rt 22 sa = z8 at *
          have e2 := and_u32 se sf
          have e3 := not_u32 se
          have e4 := and_u32 (~~~se) sg
          have e5 := or_u32 (se &&& sf) (~~~se &&& sg)
          have u1 := and_u32 sa sb
          have u2 := and_u32 sa sc
          have u3 := or_u32 (sa &&& sb) (sa &&& sc)
          have u4 := and_u32 sb sc
          have u5 := or_u32 (sa &&& sb ||| sa &&& sc) (sb &&& sc)
          have F0 := add_nat sh rE
          have F1 := add_nat (sh + rE) (se &&& sf ||| ~~~se &&& sg)
          have F2 := add_nat (sh + rE + (se &&& sf ||| ~~~se &&& sg)) K
          have F3 := add_nat (sh + rE + (se &&& sf ||| ~~~se &&& sg) + K) X
          have F4 := add_nat sd (sh + rE + (se &&& sf ||| ~~~se &&& sg) + K + X)
          have F5 := add_nat rA (sa &&& sb ||| sa &&& sc ||| sb &&& sc)
          have F6 := add_nat (sh + rE + (se &&& sf ||| ~~~se &&& sg) + K + X) (rA + (sa &&& sb ||| sa &&& sc ||| sb &&& sc))
          generalize sh + rE = y1 at *
          generalize se &&& sf = y2 at *
          generalize ~~~se = y3 at *
          generalize y3 &&& sg = y4 at *
          generalize y2 ||| y4 = y5 at *
          generalize y1 + y5 = y6 at *
          generalize y6 + K = y7 at *
          generalize y7 + X = y8 at *
          generalize sa &&& sb = w11 at *
          generalize sa &&& sc = w12 at *
          generalize w11 ||| w12 = w13 at *
          generalize sb &&& sc = w14 at *
          generalize w13 ||| w14 = w15 at *
          generalize rA + w15 = w16 at *
          generalize sd + y8 = y9 at *
          generalize y8 + w16 = w17 at *
          have FF := Lib.hid (And.intro F0 (And.intro F1 (And.intro F2 (And.intro F3 (And.intro F4 (And.intro F5 F6))))))
          have C4 := Lib.hid c4
          have C5 := Lib.hid c5
          have C6 := Lib.hid c6
          have C1 := Lib.hid c1
          have C2 := Lib.hid c2
          have C3 := Lib.hid c3
          have HN := Lib.hid hnx
          have BQ := Lib.hid hbq
          have y3w : IntKind.u32.wrap (y3.toNat : Int) = (y3.toNat : Int) := by rw [wrap_u32]; have := y3.toNat_lt; omega
          have q1 : (0 : Int) ≤ (k : Int) := by omega
          have q2 : (k : Int) < 64 := by omega
          have hi4 : w.heap.size ≤ wr.heap.size := by have := hbq.size; omega
          clear F0 F1 F2 F3 F4 F5 F6 c1 c2 c3 c4 c5 c6 hnx hst hbq hown hown'
          go_wp2_with fail
          go_quiet (fail)
          change (World.drewN wr nq).cell? _ = _ at d0 d1 d2 d3 d4 d5 d6 d7 r1 r2
          have BQ' : Hid (Below w3.heap.size w3 (World.drewN wr nq)) := below_drewN BQ.out _
          have hi5 : w.heap.size ≤ (World.drewN wr nq).heap.size := hi4
          clear BQ hi4
          generalize World.drewN wr nq = wv at *
          go_wp2_with fail
          go_quiet ((go_at_call 63; (first | (with_reducible exact Calls.quiet_of_same (C1.out _)) | (with_reducible exact Calls.quiet_of_same (C2.out _)) | (with_reducible exact Calls.quiet_of_same (C3.out _)))))
          change (World.drewN wv nq).cell? _ = _ at d0 d1 d2 d3 d4 d5 d6 d7 r1 r2
          have BQ2 : Hid (Below w3.heap.size w3 (World.drewN wv nq)) := below_drewN BQ'.out _
          have hi6 : w.heap.size ≤ (World.drewN wv nq).heap.size := hi5
          clear BQ' hi5
          generalize World.drewN wv nq = wz at *
          go_wp2_with fail
          refine (C4.out _).mono ?_
          rintro e w' ⟨rfl, rfl⟩
          go_wp2_with fail
          refine (C5.out _).mono ?_
          rintro e w' ⟨rfl, rfl⟩
          go_wp2_with fail
          refine (C6.out _).mono ?_
          rintro e w' ⟨rfl, rfl⟩
          go_wp2_with fail
          go_roundw
          case rel => exact ⟨k + 1, w17, sa, sb, sc, y9, se, sf, sg, by omega, by go_num, own8 wz _ hi6 _ _ _ _ _ _ _ _ _ _ (by have := FF.out; omega) (by have := FF.out; omega), BQ2.out.alloc BQ2.out.size _, HN.out⟩
          case measure => simp [RowKit.intOf]; omega
        · obtain rfl : k = 64 := by omega
          have hrow : into H blk = List.zipWith (· + ·) [sa, sb, sc, sd, se, sf, sg, sh] H := by
            unfold into
            rw [hst.out]
            exact zip_swap _ _
          have hrl : [sa, sb, sc, sd, se, sf, sg, sh].length = 8 := rfl
          have hbw : Below w.heap.size w wr := B3.out.trans (hbq.mono hi3)
          obtain ⟨r, hr⟩ : ∃ r, r = [sa, sb, sc, sd, se, sf, sg, sh] := ⟨_, rfl⟩
          rw [← hr] at hrl hrow hown'
          have O4 : Hid (wr.ownsRow w.heap.size 91 1 (.slice (some ⟨gv, 0, none⟩) 8 cv) 8 (us (mixr r H 0))) := hown'
          have HRL := Lib.hid hrl
          have HROW := Lib.hid hrow
          have BW4 := Lib.hid hbw
          clear hrl hrow hown hown' hr hst hbw hbq B3 O3 RR WW
          go_wp2_with fail
          go_loopw [23] (fun vi wq => ∃ j : Nat, j ≤ 8 ∧ vi = .int .i64 j ∧ wq.ownsRow w.heap.size 91 1 (.slice (some ⟨gv, 0, none⟩) 8 cv) 8 (us (mixr r H j)) ∧ Below w.heap.size w wq) (fun vi _ => 8 - (RowKit.intOf vi).toNat)
          case atStart => exact ⟨0, by omega, rfl, O4.out, BW4.out⟩
          case round =>
            obtain ⟨j, hj, rfl, hown, hbq⟩ := hrel
            by_cases hj8 : j < 8
            · obtain ⟨hg, hst, hml⟩ := mixr_next r H j HRL.out HH.out hj8
              have d1 := (hown.cellAt j (by omega)).trans (us_getD _ j (by rw [hml]; exact hj8))
              rw [hg] at d1
              have f1 := hown.frozenAt j
              have d2 := (hbq.cell (p := ⟨hb1, ho1 + j, none⟩) hbl1).trans (word_at HC1.out j (by rw [HH.out]; exact hj8))
              have F := Lib.hid (add_nat (r.getD j 0) (H.getD j 0))
              have S := (hown.drew.stored j (.int .u32 ((r.getD j 0 + H.getD j 0).toNat : Int))).1
              rw [us_set, hst] at S
              have bS := (hbq.drew).setCell (p := ⟨gv, j, none⟩) hv1 (.int .u32 ((r.getD j 0 + H.getD j 0).toNat : Int))
              generalize r.getD j 0 + H.getD j 0 = x3 at *
              generalize r.getD j 0 = x1 at *
              generalize H.getD j 0 = x2 at *
              have e1 : IntKind.u32.wrap ((x1.toNat : Int) + (x2.toNat : Int)) = (x3.toNat : Int) := by rw [wrap_u32]; have := F.out; omega
              have SS := Lib.hid S
              have BS := Lib.hid bS
              have q1 : (0 : Int) ≤ (j : Int) := by omega
              have q2 : (j : Int) < 8 := by omega
              clear S bS hg hst hml hown hbq
              change wr.drew.cell? _ = _ at d1 d2
              change wr.drew.frozen? _ = _ at f1
              go_wp2_with fail
              refine wp_region_still_tail 12 (by kernel_rfl) (by kernel_rfl) ?_
              simp only [List.take_succ_cons, List.take_zero, List.drop_succ_cons, List.drop_zero]
              change wpStill _ _ wr.drew (fun a' => wpList _ _ _ _ a' wr.drew) _ _
              generalize wr.drew = w2 at d1 d2 f1 SS BS ⊢
              repeat still_step
              refine wpStill_nil ?_
              go_wp2_with fail
              go_roundw
              case rel => first | exact ⟨j + 1, by omega, by go_num, SS.out, BS.out⟩ | ((repeat apply Exists.intro); exact ⟨⟨j + 1, by omega, by go_num, SS.out, BS.out⟩, rfl⟩)
              case measure => simp [RowKit.intOf]; omega
            · obtain rfl : j = 8 := by omega
              rw [mixr_end r H HRL.out HH.out] at hown
              rw [← HROW.out] at hown
              have hil := into_len H blk HH.out
              go_wp2_with fail
              go_ret
              exact ⟨hbq, _, rfl, by rw [OwnW, hil]; exact hown⟩
end Go.Proofs.YtpcmminokhmkjaaDoor.Sh
