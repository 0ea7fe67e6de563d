/-
  The walk of the statement FrameBack. Conditions: frame's sentinels, sha's tables and errors.errorType stand in memory.
-/
import Derived.Test.YtmojhnekecbbiaaDoorLc0
import Derived.Test.YtmojhnekecbbiaaDoorLa
namespace Go.Proofs.YtmojhnekecbbiaaDoor.Sh
open Lb Go.RowKit Go.Lib

/-- what the loop's three rows hold -/
structure Three3 (B : Nat) (W : World) (k : UInt8) (ls : List (List UInt8)) (i : Nat) (u v z : Value) : Prop where
  all : Own W B u (Fr.allL k (ls.take i))
  rows : OwnO B W ((ls.take i).map fun l => (k, l)) v
  ends : OwnZ W B z (endZ k ls i)
theorem Three3.below {B : Nat} {W W' : World} {k : UInt8} {ls : List (List UInt8)} {i : Nat} {u v z : Value} (h : Three3 B W k ls i u v z) (hb : Below W.heap.size W W') : Three3 B W' k ls i u v z := ⟨own_below h.all hb, owno_below h.rows hb, row_below h.ends hb⟩
/-- behind the append of a record: rows have one more -/
theorem back_one {w W W2 : World} {k : UInt8} {ls : List (List UInt8)} {i : Nat} {u v z v1 b : Value} {F : List UInt8} {rs : List Rcd} (h : Three3 w.heap.size W k ls i u v z) (hF : Own W w.heap.size b F) (hB : Below w.heap.size w W) (hr : OwnO w.heap.size W2 rs v1) (hg : W.grownBy W2 v.ownBlock) :
    Own W2 w.heap.size u (Fr.allL k (ls.take i)) ∧ OwnO w.heap.size W2 rs v1 ∧ OwnZ W2 w.heap.size z (endZ k ls i) ∧ Own W2 w.heap.size b F ∧ Below w.heap.size w W2 ∧ w.heap.size ≤ W2.heap.size := by
  obtain ⟨us, _, ho, _⟩ := h.rows
  have hb2 := hB.grown hg hB.size (fun j hj => (World.ownsRow.lt ho j hj).1)
  exact ⟨World.ownsRow.kept h.all hg (apartT h.all ho (by decide)), hr, World.ownsRow.kept h.ends hg (apartT h.ends ho (by decide)), World.ownsRow.kept hF hg (apartT hF ho (by decide)), hb2, hb2.size⟩
/-- behind the append of bytes, and the laying of a number -/
theorem back_two {w W W2 : World} {k : UInt8} {ls : List (List UInt8)} {i : Nat} {u z v1 u1 : Value} {rs : List Rcd} {all : List UInt8} (hA : Own W w.heap.size u (Fr.allL k (ls.take i))) (hr : OwnO w.heap.size W rs v1) (hz : OwnZ W w.heap.size z (endZ k ls i)) (hB : Below w.heap.size w W) (hu : Own W2 w.heap.size u1 all) (hg : W.grownBy W2 u.ownBlock) (p : Int) :
    Own (W2.alloc (.cells #[.int .i64 p] 3)) w.heap.size u1 all ∧ OwnO w.heap.size (W2.alloc (.cells #[.int .i64 p] 3)) rs v1 ∧ OwnZ (W2.alloc (.cells #[.int .i64 p] 3)) w.heap.size z (endZ k ls i) ∧ Zrw (W2.alloc (.cells #[.int .i64 p] 3)) (some ⟨W2.heap.size, 0, none⟩) [p] ∧ Below w.heap.size w (W2.alloc (.cells #[.int .i64 p] 3)) ∧ w.heap.size ≤ (W2.alloc (.cells #[.int .i64 p] 3)).heap.size := by
  have hb2 := hB.grown hg hB.size (fun j hj => (World.ownsRow.lt hA j hj).1)
  have bt := al1 W2 (.cells #[.int .i64 p] 3)
  have hb3 := hb2.trans (bt.mono hb2.size)
  refine ⟨own_below hu bt, owno_below (owno_kept hr hA (by decide) hg) bt, row_below (World.ownsRow.kept hz hg (apartT hz hA (by decide))) bt, fun _ => ⟨W2.heap.size, 0, rfl, by simp, fun j hj => ?_⟩, hb3, hb3.size⟩
  obtain rfl : j = 0 := by simp at hj; omega
  rw [World.cell?_alloc_new]
  rfl
/-- behind the append of a number -/
theorem back_three {w W W2 : World} {k : UInt8} {ls : List (List UInt8)} {i : Nat} {z v1 u1 : Value} {rs : List Rcd} {all : List UInt8} (hu : Own W w.heap.size u1 all) (hr : OwnO w.heap.size W rs v1) (hz : OwnZ W w.heap.size z (endZ k ls i)) (hB : Below w.heap.size w W) (hg : W.grownBy W2 z.ownBlock) :
    Own W2 w.heap.size u1 all ∧ OwnO w.heap.size W2 rs v1 ∧ Below w.heap.size w W2 :=
  ⟨World.ownsRow.kept hu hg (apartT hu hz (by decide)), owno_kept hr hz (by decide) hg, hB.grown hg hB.size (fun j hj => (World.ownsRow.lt hz j hj).1)⟩

theorem own_to_byt {w : World} {B : Nat} {a : Option Addr} {n c : Nat} {l : List UInt8} (h : Own w B (.slice a n c) l) (_ : l.length = n) : Byt w a l := by
  obtain ⟨a', c', he, _, _, hb, _⟩ := own_byt h
  injection he with e1 _ _
  rw [e1]
  exact hb
theorem back_own {w : World} {B N : Nat} {v : Value} {l : List UInt8} (h : w.ownsRow B 5 1 v N (bs l)) (hN : N = l.length) : Own w B v l := by
  subst hN
  exact h
theorem three_next {B N : Nat} {W : World} {k : UInt8} {ls : List (List UInt8)} {i : Nat} {u v z : Value} {F d : List UInt8} (h1 : Own W B u (Fr.allL k (ls.take i) ++ F)) (h2 : OwnO B W ((ls.take i).map (fun l => (k, l)) ++ [(k, d)]) v) (h3 : OwnZ W B z (endZ k ls i ++ [(N : Int)]))
    (e1 : Fr.allL k (ls.take (i + 1)) = Fr.allL k (ls.take i) ++ F) (e2 : endZ k ls (i + 1) = endZ k ls i ++ [((Fr.allL k (ls.take (i + 1))).length : Int)]) (e3 : (ls.take (i + 1)).map (fun l => (k, l)) = (ls.take i).map (fun l => (k, l)) ++ [(k, d)]) (e4 : N = (Fr.allL k (ls.take i) ++ F).length) :
    Three3 B W k ls (i + 1) u v z := by
  subst e4
  exact ⟨by rw [e1]; exact h1, by rw [e3]; exact h2, by rw [e2, e1]; exact h3⟩
set_option maxHeartbeats 8000000 in
set_option maxRecDepth 100000 in
theorem back_bad (ao : Option Addr) (n c : Nat) (k cut : Int) (w : World) (CH : Hid (∀ W, Below w.heap.size w W → Calls Tryd.prog 6 #[] W fun e w' => e = .returned (.bool true) ∧ Below W.heap.size W w'))
    (hh : decide ((20 : Int) < (n : Int)) = true ∨ (decide ((20 : Int) < (n : Int)) = false ∧ decide (k < 1) = true) ∨ (decide ((20 : Int) < (n : Int)) = false ∧ decide (k < 1) = false ∧ decide (4 < k) = true)) :
    Calls Tryd.prog 4 #[.slice ao n c, .int .i64 k, .int .i64 cut] w fun e w' => e = .returned (.bool true) ∧ Below w.heap.size w w' := by
  rcases hh with d1 | ⟨d1, d2⟩ | ⟨d1, d2, d3⟩
  all_goals
    go_enter Tryd.func4, Tryd.ntmps4
    go_wp2_with fail
    refine (CH.out w (Below.refl _ _)).mono ?_
    rintro e w1 ⟨rfl, b1⟩
    have B1 := Lib.hid b1
    clear b1
    go_wp2_with fail
    go_ret
    exact ⟨rfl, B1.out⟩

set_option maxHeartbeats 8000000 in
set_option maxRecDepth 100000 in
theorem back_good (ao : Option Addr) (ls : List (List UInt8)) (n c : Nat) (k : UInt8) (cut : Int) (a0 a1 : Addr) (w : World) (hE : Env w a0 a1) (h : Rws2 w ao ls) (hn : ls.length = n) (hn20 : n ≤ 20) (hk1 : 1 ≤ k.toNat) (hk4 : k.toNat ≤ 4)
    (hc0 : -9223372036854775808 ≤ cut) (hc1 : cut ≤ 9223372036854775807) :
    Calls Tryd.prog 4 #[.slice ao n c, .int .i64 (k.toNat : Int), .int .i64 cut] w fun e w' => e = .returned (.bool true) ∧ Below w.heap.size w w' := by
  have CH := Lib.hid (fun W (hb : Below w.heap.size w W) => heads_any a0 a1 W (hE.below hb))
  have E0 := Lib.hid hE
  have H0 := Lib.hid h
  have HN := Lib.hid hn
  have d1 : decide ((20 : Int) < (n : Int)) = false := by simp; omega
  have d2 : decide ((k.toNat : Int) < 1) = false := by simp; omega
  have d3 : decide ((4 : Int) < (k.toNat : Int)) = false := by simp; omega
  have HK1 := Lib.hid hk1
  have HK4 := Lib.hid hk4
  have KT : Hid (kindB (k.toNat : Int) = true) := (kindB_nat _).2 ⟨hk1, hk4⟩
  have bt := al1 w (.cells #[.int .i64 0] 3)
  have OZ : OwnZ (w.alloc (.cells #[.int .i64 0] 3)) w.heap.size (.slice (some ⟨w.heap.size, 0, none⟩) 1 1) (endZ k ls 0) := ownz_lit w [0] w.heap.size (Nat.le_refl _) (by simp)
  have T0 : Hid (Three3 w.heap.size (w.alloc (.cells #[.int .i64 0] 3)) k ls 0 (.slice none 0 0) (.slice none 0 0) (.slice (some ⟨w.heap.size, 0, none⟩) 1 1)) := ⟨World.ownsRow_nil _ _ _ _, owno_nil _ _, OZ⟩
  have B0 := Lib.hid bt
  clear hE h hn hk1 hk4 bt OZ
  go_enter Tryd.func4, Tryd.ntmps4
  go_wp2_with fail
  go_loopw [7, 8, 9, 10] (fun v7 v8 v9 v10 wr => ∃ i : Nat, v10 = .int .i64 i ∧ i ≤ n ∧ Hid (Three3 w.heap.size wr k ls i v7 v8 v9) ∧ Hid (Below w.heap.size w wr) ∧ Hid (∀ l ∈ ls.take i, l.length ≤ 300)) (fun _ _ _ v10 _ => n - (RowKit.intOf v10).toNat)
  case atStart => exact ⟨0, rfl, by omega, T0.out, B0.out, by show ∀ l ∈ ls.take 0, l.length ≤ 300; simp⟩
  case round =>
    obtain ⟨i, rfl, hi, hT, hB, hS⟩ := hrel
    by_cases hin : i < n
    · have hil : i < ls.length := by have := HN.out; omega
      obtain ⟨bb, oo, rfl, hlt, aj, cj, x0, hd⟩ := H0.out.at i hil
      have q1 : (0 : Int) ≤ (i : Int) := by omega
      have q2 : (i : Int) < (n : Int) := by omega
      have y0 := (hB.out.cell (p := ⟨bb, oo + i, none⟩) hlt).trans x0
      have hT1 : Hid (∀ l : List UInt8, l.length ≤ 300 → l = ls[i] → ∀ l ∈ ls.take (i + 1), l.length ≤ 300) := fun l hl he x hx => by
        rw [List.take_succ_eq_append_getElem hil, List.mem_append] at hx
        rcases hx with hx | hx
        · exact hS.out x hx
        · rw [List.mem_singleton.1 hx, ← he]; exact hl
      have hAN := Lib.hid (all_next k ls i hil)
      have hEN := Lib.hid (endZ_next k ls i)
      have hMN : Hid ((ls.take (i + 1)).map (fun l => (k, l)) = (ls.take i).map (fun l => (k, l)) ++ [(k, ls[i])]) := by
        show _ = _
        rw [List.take_succ_eq_append_getElem hil, List.map_append]
        rfl
      obtain ⟨d, hde⟩ : ∃ d, d = ls[i] := ⟨_, rfl⟩
      rw [← hde] at x0 y0 hd hAN hMN
      have HDE := Lib.hid hde
      obtain ⟨q, hq⟩ : ∃ q, q = d.length := ⟨_, rfl⟩
      rw [← hq] at x0 y0 hd
      have HQ := Lib.hid hq
      have HD := Lib.hid hd
      have LT := Lib.hid hlt
      have X0 := Lib.hid x0
      clear x0 hd hlt hde hq
      by_cases h3 : 300 < q
      · have d4 : decide ((300 : Int) < (q : Int)) = true := by simp; omega
        go_wp2_with fail
        refine (CH.out _ hB.out).mono ?_
        rintro e w1 ⟨rfl, b1⟩
        have B1 := Lib.hid (below_chain hB.out b1)
        clear b1
        go_wp2_with fail
        go_ret
        exact ⟨rfl, B1.out⟩
      · have d4 : decide ((300 : Int) < (q : Int)) = false := by simp; omega
        have D1 := datO_below HD.out hB.out
        obtain ⟨_, _, he, hby, hnn, _, hcm, _⟩ := id D1
        injection he with e1 e2 e3
        subst e1
        subst e3
        clear e2
        have C8 := made_any (k.toNat : Int) aj d q cj wr hby hnn HQ.out.symm (by omega)
        have PE0 : putE (k.toNat : Int) (keyS (k.toNat : Int) d) d = 0 := put_made _ d KT.out (by rw [← HQ.out]; omega)
        have C8b := fun W (hb : Below wr.heap.size wr W) => made_any (k.toNat : Int) aj d q cj W (hby.below hb) hnn HQ.out.symm (by omega)
        have SZ := size_fr (k.toNat : Int) d q HQ.out.symm (by omega)
        have C9 := fun W => frsize_any (q : Int) (by omega) (by omega) W
        rw [SZ, kb_nat] at C9
        have RK : recC (k, d) (.slice aj q cj) = [.int .i64 (k.toNat : Int), .string (keyS (k.toNat : Nat) d), .slice aj q cj] := rfl
        have C7 := fun W (hb : Below wr.heap.size wr W) => frput_any (k.toNat : Int) (keyS (k.toNat : Int) d) aj d q cj a0 a1 W (E0.out.below (below_chain hB.out hb)) (hby.below hb) hnn HQ.out.symm (by omega)
        unfold AnsPut at C7
        rw [PE0] at C7
        simp only [if_true, kb_nat] at C7
        have SM := all_small k (ls.take i) hS.out
        have SL : (ls.take i).length = i := by rw [List.length_take, HN.out]; omega
        rw [SL] at SM
        have FL := Fr.frL_len k d
        have PL := putL_len d.length
        obtain ⟨F, hF⟩ : ∃ F, F = Fr.frL k d := ⟨_, rfl⟩
        rw [← hF] at C9 C7 FL hAN
        obtain ⟨K, hK⟩ : ∃ K, K = keyS (k.toNat : Int) d := ⟨_, rfl⟩
        rw [← hK] at C8 C8b C7 RK
        obtain ⟨m, hm⟩ : ∃ m, m = F.length := ⟨_, rfl⟩
        rw [← hm] at C9 FL
        have m316 : m ≤ 316 := by have := HQ.out; omega
        have HM : Hid (F.length = m) := hm.symm
        have P1 : Hid (((ls.take i).map fun l => (k, l)).length + 1 ≤ 1000000000) := by show _ + 1 ≤ _; rw [List.length_map, SL]; omega
        have P2 : Hid ((Fr.allL k (ls.take i)).length + m ≤ 140737488355328) := by show _ + m ≤ _; omega
        have P3 : Hid (((endZ k ls i).length + 1) * 8 ≤ 140737488355328) := by show (_ + 1) * 8 ≤ _; rw [endZ_len]; omega
        have HC7 := Lib.hid C7
        have HC8 := Lib.hid C8
        have HC8b := Lib.hid C8b
        have HC9 := Lib.hid C9
        have HRK := Lib.hid RK
        have HD1 := Lib.hid D1
        have hS2 := Lib.hid (hT1.out d (by rw [← HQ.out]; omega) HDE.out)
        have H3 := Lib.hid h3
        clear C7 C8 C8b C9 RK D1 hby hnn PE0 SZ SM SL FL PL hF hK hm h3 hT1
        go_wp2_with fail
        refine HC8.out.mono ?_
        rintro e w1 ⟨rfl, b1⟩
        have BR1 := Lib.hid b1
        have T1 := Lib.hid (hT.out.below b1)
        have B1 := Lib.hid (below_chain hB.out b1)
        clear b1
        go_wp2_with fail
        refine (HC7.out _ BR1.out).mono ?_
        rintro e w2 ⟨b2, v2, rfl, o2⟩
        have T2 := Lib.hid (T1.out.below b2)
        have BR2 := Lib.hid (below_chain BR1.out b2)
        have O2 : Hid (Own w2 w.heap.size v2 F) := o2.low B1.out.size
        have B2 := Lib.hid (below_chain B1.out b2)
        obtain ⟨a2, c2, rfl, _, _, _, n2⟩ := own_byt o2
        have N2 := Lib.hid n2
        rw [HM.out] at O2 ⊢
        have y2 := (B2.out.cell (p := ⟨bb, oo + i, none⟩) LT.out).trans X0.out
        clear b2 o2 n2 y0
        go_wp2_with fail
        refine (HC9.out _).mono ?_
        rintro e w3 ⟨rfl, rfl⟩
        go_wp2_with fail
        refine (HC8b.out _ BR2.out).mono ?_
        rintro e w4 ⟨rfl, b4⟩
        have T4 := T2.out.below b4
        have O4 := own_below O2.out b4
        have B4 := below_chain B2.out b4
        have D4 := datO_below HD1.out (below_chain BR2.out b4)
        have bt := al1 w4 (.cells #[.int .i64 (k.toNat : Int), .string K, .slice aj q cj] 29)
        have KB : Hid (Blk (w4.alloc (.cells #[.int .i64 (k.toNat : Int), .string K, .slice aj q cj] 29)) w4.heap.size (recC (k, d) (.slice aj q cj)) 29) := by
          show Blk _ _ _ _
          rw [HRK.out]
          exact Blk.new w4 [.int .i64 (k.toNat : Int), .string K, .slice aj q cj] 29 _ rfl
        have T5 := Lib.hid (T4.below bt)
        have O5 := Lib.hid (own_below O4 bt)
        have B5 := Lib.hid (below_chain B4 bt)
        have D5 := Lib.hid (datO_below D4 bt)
        have S5 := Lib.hid B5.out.size
        clear T4 O4 B4 D4 bt b4 y2
        go_wp2_with (first
          | (at_builtin; refine wpl_appo rfl (.tmp 66) (.tmp 73) rfl w.heap.size u8 (.slice aj q cj) ((ls.take i).map fun l => (k, l)) (k, d) rfl T5.out.rows D5.out w4.heap.size (by rfl) KB.out P1.out S5.out ?_; intro v1 W5 R5 g5
             have FF := Lib.hid (back_one T5.out O5.out B5.out R5 g5); clear R5 g5)
          | (at_builtin; refine wpl_app_len (t := 22) (e := 5) rfl (.tmp 75) (.tmp 76) rfl Tryd.underlying22 info5 w.heap.size u7 (Fr.allL k (ls.take i)) F rfl FF.out.1 a2 m c2 (by rfl) (own_to_byt FF.out.2.2.2.1 HM.out) N2.out HM.out P2.out FF.out.2.2.2.2.2 ?_; intro u1 W6 A6 g6
             obtain ⟨a6, c6, rfl, _, _, _, _⟩ := own_byt A6
             obtain ⟨N1, hN1⟩ : ∃ N1, N1 = (Fr.allL k (ls.take i) ++ F).length := ⟨_, rfl⟩
             rw [← hN1] at A6 ⊢
             have HN1 := Lib.hid hN1
             have GG := Lib.hid (back_two FF.out.1 FF.out.2.1 FF.out.2.2.1 FF.out.2.2.2.2.1 (back_own A6 hN1) g6 (N1 : Int)); clear A6 g6 hN1)
          | (at_builtin; refine wpl_appz_len (t := 35) (e := 3) rfl (.tmp 78) (.tmp 81) rfl Tryd.underlying35 info3 w.heap.size u9 (endZ k ls i) [(N1 : Int)] rfl GG.out.2.2.1 (some ⟨W6.heap.size, 0, none⟩) 1 1 (by rfl) GG.out.2.2.2.1 (fun h => by cases h) rfl P3.out GG.out.2.2.2.2.2 ?_; intro z1 W7 Z7 g7
             have HH := Lib.hid (back_three GG.out.1 GG.out.2.1 GG.out.2.2.1 GG.out.2.2.2.2.1 g7); have Z7 := Lib.hid Z7; clear g7))
        go_roundw
        case rel => exact ⟨i + 1, by go_num, by omega, three_next HH.out.1 HH.out.2.1 Z7.out hAN.out hEN.out hMN.out HN1.out, HH.out.2.2, hS2.out⟩
        case measure => simp [RowKit.intOf]; omega
    · obtain rfl : n = i := by omega
      have e1 : ls.take n = ls := by rw [← HN.out]; exact List.take_length
      obtain ⟨tA, tR, tZ⟩ := hT.out
      have hS' := hS.out
      rw [e1] at tA tR hS'
      have sm := all_small k ls hS'
      rw [HN.out] at sm
      have h8 : ∀ l ∈ ls, l.length ≤ 8192 := fun l hl => by have := hS' l hl; omega
      have sc := Fr.scan_cut k HK1.out HK4.out ls n (Fr.allL k ls).length h8 (by rw [e1]; exact Nat.le_refl _) (fun hh => by rw [HN.out] at hh; omega) (Nat.le_refl _)
      rw [e1, List.take_length] at sc
      have SC := Lib.hid (fun j q h1 h2 h3 => Fr.scan_cut k HK1.out HK4.out ls j q h8 h1 h2 h3)
      have EL := Fr.ends_len k ls 0
      have ET := endZ_take k ls
      have ZL := endZ_len k ls n
      have EA := Lib.hid (endZ_at k ls n)
      rw [HN.out] at EL ET
      have ML : (ls.map fun l => (k, l)).length = n := by rw [List.length_map, HN.out]
      obtain ⟨aA, cA, rfl, hcA, hcmA, hyA, hnA⟩ := own_byt tA
      obtain ⟨aR, cR, rfl, hcR, hcmR, hfR, _⟩ := ownf_read (owno_f tR)
      obtain ⟨aZ, cZ, rfl, hcZ, hcmZ, hzZ, hnZ⟩ := own_zrw tZ
      obtain ⟨AL, hAL⟩ : ∃ AL, AL = Fr.allL k ls := ⟨_, rfl⟩
      rw [← hAL] at sc sm hyA hcA ⊢
      have HAL := Lib.hid hAL
      obtain ⟨N, hN⟩ : ∃ N, N = AL.length := ⟨_, rfl⟩
      rw [← hN] at sc sm hcA ⊢
      rw [ML] at hcR ⊢
      rw [ZL] at hcZ ⊢
      obtain ⟨M, hM⟩ : ∃ M, M = n + 1 := ⟨_, rfl⟩
      rw [← hM] at hcZ ZL ⊢
      have HMn := Lib.hid hM
      have HZL := Lib.hid ZL
      have hNL := Lib.hid hN
      have C10 := scan_any aA AL N cA a0 a1 wr (E0.out.below hB.out) hyA hnA hN.symm hcA hcmA (by omega)
      unfold AnsS at C10
      rw [sc] at C10
      have C10' := Lib.hid C10
      have YA := Lib.hid hyA
      have FR := Lib.hid hfR
      have ZZ := Lib.hid hzZ
      have NA := Lib.hid hnA
      have NZ := Lib.hid hnZ
      have HML := Lib.hid ML
      have HEL := Lib.hid EL
      have HET := Lib.hid ET
      have HSM := Lib.hid sm
      clear e1 tA tR tZ hS' sm h8 sc EL ET ZL ML hyA hfR hzZ hnA hnZ hAL hN C10 hT hS hM
      go_wp2_with fail
      refine C10'.out.mono ?_
      rintro e w1 ⟨b1, u1, v1, rfl, hu, hv⟩
      obtain ⟨ax, cx, rfl, hcx, hcmx, hfx, _⟩ := ownf_read hu
      obtain ⟨ay, cy, rfl, hcy, hcmy, hzy, _⟩ := own_zrw hv
      rw [HML.out] at hcx ⊢
      rw [HEL.out] at hcy ⊢
      have B1 := Lib.hid (below_chain hB.out b1)
      have C11 := Lib.hid (recs_same ax aR (ls.map fun l => (k, l)) n cx cR w1 hfx (FR.out.below b1) HML.out hcx hcmx hcR)
      have YA1 := Lib.hid (YA.out.below b1)
      have FR1 := Lib.hid (FR.out.below b1)
      have ZZ1 := Lib.hid (ZZ.out.below b1)
      have ZY1 := Lib.hid hzy
      clear b1 hu hv hfx hzy C10'
      go_wp2_with fail
      refine C11.out.mono ?_
      rintro e w2 ⟨rfl, b2⟩
      have zt := (ZZ1.out.below b2).take n
      rw [HET.out] at zt
      have C12 := Lib.hid (ints_same ay aZ (Fr.endsL k 0 ls) n cy cZ w2 (ZY1.out.below b2) zt HEL.out hcy hcmy (by have := HMn.out; omega))
      have sl35 := fun W => slice_to35 aZ M cZ n (by have := HMn.out; omega) W
      have B2 := Lib.hid (below_chain B1.out b2)
      have YA2 := Lib.hid (YA1.out.below b2)
      have FR2 := Lib.hid (FR1.out.below b2)
      have ZZ2 := Lib.hid (ZZ1.out.below b2)
      clear b2 zt C11
      go_wp2_with fail
      refine C12.out.mono ?_
      rintro e w3 ⟨rfl, b3⟩
      have B3 := Lib.hid (below_chain B2.out b3)
      have YA3 := Lib.hid (YA2.out.below b3)
      have FR3 := Lib.hid (FR2.out.below b3)
      have ZZ3 := Lib.hid (ZZ2.out.below b3)
      clear b3 C12 sl35
      by_cases hc2 : cut < 0
      · have d4 : decide (cut < 0) = true := by simp [hc2]
        go_wp2_with fail
        refine (CH.out _ B3.out).mono ?_
        rintro e w4 ⟨rfl, b4⟩
        have B4 := Lib.hid (below_chain B3.out b4)
        clear b4
        go_wp2_with fail
        go_ret
        exact ⟨rfl, B4.out⟩
      by_cases hc3 : (N : Int) < cut
      · have d4 : decide (cut < 0) = false := by simp; omega
        have d5 : decide ((N : Int) < cut) = true := by simp [hc3]
        go_wp2_with fail
        refine (CH.out _ B3.out).mono ?_
        rintro e w4 ⟨rfl, b4⟩
        have B4 := Lib.hid (below_chain B3.out b4)
        clear b4
        go_wp2_with fail
        go_ret
        exact ⟨rfl, B4.out⟩
      · have d4 : decide (cut < 0) = false := by simp; omega
        have d5 : decide ((N : Int) < cut) = false := by simp; omega
        obtain ⟨q, rfl⟩ : ∃ q : Nat, cut = q := ⟨cut.toNat, by omega⟩
        have qN : q ≤ N := by omega
        clear hc2 hc3 hc0 hc1
        go_wp2_with fail
        go_loopw [16] (fun v16 wz => ∃ j : Nat, v16 = .int .i64 j ∧ j ≤ n ∧ wz = w3 ∧ Hid ((Fr.allL k (ls.take j)).length ≤ q)) (fun v16 _ => n - (RowKit.intOf v16).toNat)
        case atStart => exact ⟨0, rfl, by omega, rfl, by show (Fr.allL k []).length ≤ q; simp [Fr.allL]⟩
        case round =>
          obtain ⟨j, rfl, hj, rfl, hlo⟩ := hrel
          obtain ⟨bz, oz, rfl, hltz, z0⟩ := zrw_cellW ZZ3.out j (by rw [HZL.out, HMn.out]; omega)
          rw [EA.out j hj] at z0
          obtain ⟨Lj, hLj⟩ : ∃ Lj, Lj = (Fr.allL k (ls.take j)).length := ⟨_, rfl⟩
          rw [← hLj] at z0
          have Z0 := Lib.hid z0
          have LZ := Lib.hid hltz
          have B34 : ∀ {w4 : World}, Below wr.heap.size wr w4 → w4.cell? ⟨bz, oz + j, none⟩ = wr.cell? ⟨bz, oz + j, none⟩ := fun hb => hb.cell (p := ⟨bz, oz + j, none⟩) LZ.out
          obtain ⟨j1, hj1⟩ : ∃ j1, j1 = j + 1 := ⟨_, rfl⟩
          have jp : (j : Int) + 1 = (j1 : Int) := by omega
          by_cases hjn : j < n
          · obtain ⟨bz', oz', hbz, _, z1⟩ := zrw_cellW ZZ3.out j1 (by rw [HZL.out, HMn.out]; omega)
            injection hbz with hbz
            injection hbz with hb1 hb2
            subst hb1
            subst hb2
            rw [EA.out j1 (by omega)] at z1
            have dM : decide ((j1 : Int) < (M : Int)) = true := by have := HMn.out; simp; omega
            have dM' : decide (j1 < M) = true := by have := HMn.out; simp; omega
            have q7 : (0 : Int) ≤ (j1 : Int) := by omega
            have q8 : (j1 : Int) < (M : Int) := by have := HMn.out; omega
            obtain ⟨y, hy⟩ : ∃ y, y = (Fr.allL k (ls.take j1)).length := ⟨_, rfl⟩
            rw [← hy] at z1
            by_cases hyq : y ≤ q
            · have dq : decide ((y : Int) ≤ (q : Int)) = true := by simp; omega
              have dq' : decide (y ≤ q) = true := by simp; omega
              have hlo2 : Hid ((Fr.allL k (ls.take j1)).length ≤ q) := by show _ ≤ q; rw [← hy]; exact hyq
              have J1 : Hid (j1 ≤ n) := by show _ ≤ n; omega
              have J2 : Hid (j1 = j + 1) := hj1
              clear hy hyq hj1 hLj z0 B34
              go_wp2_with fail
              go_roundw
              case rel => exact ⟨j1, rfl, J1.out, by first | rfl | trivial, hlo2⟩
              case measure => have := J2.out; simp [RowKit.intOf]; omega
            · have dq : decide ((y : Int) ≤ (q : Int)) = false := by simp; omega
              have dq' : decide (y ≤ q) = false := by simp; omega
              have hsc := SC.out j q hlo.out (fun _ => by rw [← hj1, ← hy]; omega) (by rw [← HAL.out, ← hNL.out]; exact qN)
              rw [← HAL.out] at hsc
              clear hy hyq hj1 z0
              rw [← hLj] at hsc
              have C10b := scan_any aA (AL.take q) q cA a0 a1 wr (E0.out.below B3.out) (YA3.out.take q) NA.out (by rw [List.length_take, ← hNL.out]; omega) (by omega) hcmA (by have := HSM.out; omega)
              unfold AnsS at C10b
              rw [hsc] at C10b
              have C10c := Lib.hid C10b
              have slA := fun W => slice_to aA N cA q (by omega) W
              have slR := fun W => slice_to34 aR n cR j (by omega) W
              have q5 : (0 : Int) ≤ (j : Int) := by omega
              have q6 : (j : Int) < (M : Int) := by have := HMn.out; omega
              have hjc : j ≤ cR := by omega
              clear C10b hsc hLj
              go_wp2_with fail
              refine C10c.out.mono ?_
              rintro e w4 ⟨b4, u4, v4, rfl, hu, hv⟩
              obtain ⟨ax4, cx4, rfl, hcx4, hcmx4, hfx4, _⟩ := ownf_read hu
              obtain ⟨ay4, cy4, rfl, _, _, _, _⟩ := own_zrw hv
              have ML4 : ((ls.take j).map fun l => (k, l)).length = j := by rw [List.length_map, List.length_take, HN.out]; omega
              rw [ML4] at hcx4 ⊢
              have B4 := Lib.hid (below_chain B3.out b4)
              have fr4 := (FR3.out.below b4).take j
              rw [← List.map_take] at fr4
              have C11b := Lib.hid (recs_same ax4 aR ((ls.take j).map fun l => (k, l)) j cx4 cR w4 hfx4 fr4 ML4 hcx4 hcmx4 hjc)
              have z4 := (B34 b4).trans Z0.out
              clear hu hv hfx4 fr4 ML4 C10c
              go_wp2_with fail
              refine C11b.out.mono ?_
              rintro e w5 ⟨rfl, b5⟩
              have B5 := Lib.hid (below_chain B4.out b5)
              have z5 := ((below_chain b4 b5).cell (p := ⟨bz, oz + j, none⟩) LZ.out).trans Z0.out
              clear b4 b5 C11b z4
              go_wp2_with fail
              refine (CH.out _ B5.out).mono ?_
              rintro e w6 ⟨rfl, b6⟩
              have B6 := Lib.hid (below_chain B5.out b6)
              clear b6
              go_wp2_with fail
              go_ret
              exact ⟨rfl, B6.out⟩
          · have dM : decide ((j1 : Int) < (M : Int)) = false := by have := HMn.out; simp; omega
            have dM' : decide (j1 < M) = false := by have := HMn.out; simp; omega
            have hsc := SC.out j q hlo.out (fun hh => by rw [HN.out] at hh; omega) (by rw [← HAL.out, ← hNL.out]; exact qN)
            rw [← HAL.out] at hsc
            clear hj1 z0
            rw [← hLj] at hsc
            have C10b := scan_any aA (AL.take q) q cA a0 a1 wr (E0.out.below B3.out) (YA3.out.take q) NA.out (by rw [List.length_take, ← hNL.out]; omega) (by omega) hcmA (by have := HSM.out; omega)
            unfold AnsS at C10b
            rw [hsc] at C10b
            have C10c := Lib.hid C10b
            have slA := fun W => slice_to aA N cA q (by omega) W
            have slR := fun W => slice_to34 aR n cR j (by omega) W
            have q5 : (0 : Int) ≤ (j : Int) := by omega
            have q6 : (j : Int) < (M : Int) := by have := HMn.out; omega
            have hjc : j ≤ cR := by omega
            clear C10b hsc hLj
            go_wp2_with fail
            refine C10c.out.mono ?_
            rintro e w4 ⟨b4, u4, v4, rfl, hu, hv⟩
            obtain ⟨ax4, cx4, rfl, hcx4, hcmx4, hfx4, _⟩ := ownf_read hu
            obtain ⟨ay4, cy4, rfl, _, _, _, _⟩ := own_zrw hv
            have ML4 : ((ls.take j).map fun l => (k, l)).length = j := by rw [List.length_map, List.length_take, HN.out]; omega
            rw [ML4] at hcx4 ⊢
            have B4 := Lib.hid (below_chain B3.out b4)
            have fr4 := (FR3.out.below b4).take j
            rw [← List.map_take] at fr4
            have C11b := Lib.hid (recs_same ax4 aR ((ls.take j).map fun l => (k, l)) j cx4 cR w4 hfx4 fr4 ML4 hcx4 hcmx4 hjc)
            have z4 := (B34 b4).trans Z0.out
            clear hu hv hfx4 fr4 ML4 C10c
            go_wp2_with fail
            refine C11b.out.mono ?_
            rintro e w5 ⟨rfl, b5⟩
            have B5 := Lib.hid (below_chain B4.out b5)
            have z5 := ((below_chain b4 b5).cell (p := ⟨bz, oz + j, none⟩) LZ.out).trans Z0.out
            clear b4 b5 C11b z4
            go_wp2_with fail
            refine (CH.out _ B5.out).mono ?_
            rintro e w6 ⟨rfl, b6⟩
            have B6 := Lib.hid (below_chain B5.out b6)
            clear b6
            go_wp2_with fail
            go_ret
            exact ⟨rfl, B6.out⟩
theorem back_law (ao : Option Addr) (ls : List (List UInt8)) (n c : Nat) (k cut : Int) (a0 a1 : Addr) (w : World) (hE : Env w a0 a1) (h : Rws2 w ao ls) (hn : ls.length = n) (hc0 : -9223372036854775808 ≤ cut) (hc1 : cut ≤ 9223372036854775807) :
    Calls Tryd.prog 4 #[.slice ao n c, .int .i64 k, .int .i64 cut] w fun e w' => e = .returned (.bool true) ∧ Below w.heap.size w w' := by
  have CH : Hid (∀ W, Below w.heap.size w W → Calls Tryd.prog 6 #[] W fun e w' => e = .returned (.bool true) ∧ Below W.heap.size W w') := fun W hb => heads_any a0 a1 W (hE.below hb)
  by_cases h20 : 20 < n
  · exact back_bad ao n c k cut w CH (Or.inl (by simp; omega))
  by_cases h1 : k < 1
  · exact back_bad ao n c k cut w CH (Or.inr (Or.inl ⟨by simp; omega, by simp [h1]⟩))
  by_cases h4 : 4 < k
  · exact back_bad ao n c k cut w CH (Or.inr (Or.inr ⟨by simp; omega, by simp; omega, by simp [h4]⟩))
  · have hk : (UInt8.ofNat k.toNat).toNat = k.toNat := by
      show k.toNat % 256 = k.toNat
      omega
    have e : k = ((UInt8.ofNat k.toNat).toNat : Int) := by rw [hk]; omega
    rw [e]
    exact back_good ao ls n c _ cut a0 a1 w hE h hn (by omega) (by rw [hk]; omega) (by rw [hk]; omega) hc0 hc1
end Go.Proofs.YtmojhnekecbbiaaDoor.Sh
