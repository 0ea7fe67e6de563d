/-
  The contract of the package's Merge where a run may not be, and where there is none. Conditions: each law's own.
-/
import Derived.Test.YtpcmminokhmkjaaDoorSy
import Derived.Test.YtpcmminokhmkjaaDoorSx
import Derived.Test.YtpcmminokhmkjaaDoorSv
import Derived.Deep.RegionHeld3
import Derived.Test.YtpcmminokhmkjaaDoorLz
import Derived.Test.YtpcmminokhmkjaaDoorSo
import Derived.RowKit3
import Derived.WalkSpells
import Derived.ProofKit
import Derived.Test.YtpcmminokhmkjaaDoorSs
namespace Go.Proofs.YtpcmminokhmkjaaDoor.St
open Go.Shelf Go.RowKit Go.Lib Go.Sort
set_option maxRecDepth 100000 in
theorem refcheck_none (p : Option Addr) (cap : Nat) (w : World) : Calls Tryd.prog 26 #[.slice p 0 cap] w fun e w' => e = .returned (.bool true) ∧ w' = w := by
  go_enter Tryd.func26, Tryd.ntmps26
  go_wp2
  refine wp_loop_rounds 1 ?_
  rw [rounds_succ]
  go_wp2
  go_ret
  exact ⟨rfl, rfl⟩
theorem refcheck_any (ao : Option Addr) (n cap : Nat) (l : List Ent) (w : World) (h : Erw w ao l) (hn : l.length = n) (hn2 : n ≤ 1099511627776) (hk : ∀ i, i < n → l[i]!.key.size ≤ 9223372036854775807) :
    Calls Tryd.prog 26 #[.slice ao n cap] w fun e w' => e = .returned (.bool (chk l)) ∧ Below w.heap.size w w' := by
  cases l with
  | nil =>
    subst hn
    refine (refcheck_none ao cap w).mono ?_
    rintro e w' ⟨rfl, rfl⟩
    exact ⟨rfl, Below.refl _ _⟩
  | cons x r =>
    obtain ⟨b, o, rfl, hb, hc⟩ := h (by simp)
    exact refcheck_some b o n cap (x :: r) w hb hc hn hn2 hk
theorem fold_len : ∀ (r acc : List Ent), (r.foldl wth acc).length ≤ acc.length + r.length
  | [], _ => Nat.le_refl _
  | x :: r, acc => by
    have h1 := fold_len r (wth acc x)
    have h2 := wth_len acc x
    rw [List.foldl_cons, List.length_cons]
    omega
theorem mrg_len : ∀ rows : List (List Ent), (mrg rows).length ≤ rows.flatten.length
  | [] => Nat.le_refl _
  | r :: rs => by
    have h1 := mrg_len rs
    have h2 := fold_len r (mrg rs)
    rw [List.flatten_cons, List.length_append]
    show (r.foldl wth (mrg rs)).length ≤ _
    omega
theorem flat_drop (rows : List (List Ent)) (i : Nat) : (rows.drop i).flatten.length ≤ rows.flatten.length := by
  have h := congrArg List.length (congrArg List.flatten (List.take_append_drop i rows))
  rw [List.flatten_append, List.length_append] at h
  omega
theorem mrg_part (rows : List (List Ent)) (i q : Nat) (hi : i < rows.length) : ((rows[i].take q).foldl wth (mrg (rows.drop (i + 1)))).length ≤ rows.flatten.length := by
  have h1 := fold_len (rows[i].take q) (mrg (rows.drop (i + 1)))
  have h2 := mrg_len (rows.drop (i + 1))
  have h3 := flat_drop rows i
  rw [List.drop_eq_getElem_cons hi, List.flatten_cons, List.length_append] at h3
  rw [List.length_take] at h1
  omega
theorem fold_step (l acc : List Ent) (q : Nat) (hq : q < l.length) : (l.take (q + 1)).foldl wth acc = wth ((l.take q).foldl wth acc) l[q]! := by
  rw [List.take_succ_eq_append_getElem hq, List.foldl_append, getElem!_pos l q hq]
  rfl
theorem mrg_drop (rows : List (List Ent)) (i : Nat) (hi : i < rows.length) : mrg (rows.drop i) = rows[i].foldl wth (mrg (rows.drop (i + 1))) := by
  rw [List.drop_eq_getElem_cons hi]
  rfl
set_option maxHeartbeats 8000000 in
set_option maxRecDepth 100000 in
theorem refmerge_some (k o n cap : Nat) (rows : List (List Ent)) (w : World) (h : Rws w k o rows) (hn : rows.length = n) (hn2 : n ≤ 1099511627776) (hk : k < w.heap.size) (hbig : rows.flatten.length ≤ 400000000000) (hkey : ∀ i (hi : i < rows.length) q, q < (rows[i]).length → (rows[i])[q]!.key.size ≤ 9223372036854775807) :
    Calls Tryd.prog 10 #[.slice (some ⟨k, o, none⟩) n cap] w fun e w' => Below w.heap.size w w' ∧ (((∀ i (hi : i < rows.length), chk rows[i] = true) ∧ ∃ v, e = .returned (.tuple #[v, .int .i64 0]) ∧ OwnE w' w.heap.size v (mrg rows)) ∨ ((∃ i, ∃ hi : i < rows.length, chk rows[i] = false) ∧ e = .returned (.tuple #[.slice none 0 0, .int .i64 2]))) := by
  have HN := Lib.hid hn
  have HLEN : Hid (∀ i (hi : i < rows.length), (rows[i]).length ≤ 400000000000) := fun i hi => by
    have := rows_take rows i hi
    have h2 := rows_len rows (i + 1)
    rw [this, List.length_append] at h2
    omega
  have HR : Hid (∀ W, Below w.heap.size w W → ∀ i (hi : i < rows.length), ∃ ao c, W.cell? ⟨k, o + i, none⟩ = some (.slice ao (rows[i]).length c) ∧ Erw W ao rows[i] ∧ (ao = none → c = 0)) := fun W hW i hi => (h.below hk hW) i hi
  have HCK : Hid (∀ i (hi : i < rows.length) ao c W, Erw W ao rows[i] → Calls Tryd.prog 26 #[.slice ao (rows[i]).length c] W fun e w' => e = .returned (.bool (chk rows[i])) ∧ Below W.heap.size W w') := fun i hi ao c W hW => refcheck_any ao _ c rows[i] W hW rfl (by have := HLEN.out i hi; omega) (fun q hq => hkey i hi q hq)
  have HBIG := Lib.hid hbig
  have HKW := Lib.hid hk
  have B0 : Hid (Below w.heap.size w w) := Below.refl _ _
  have O0 : Hid (OwnE w w.heap.size (.slice none 0 0) (mrg (rows.drop n))) := by show OwnE _ _ _ _; rw [List.drop_of_length_le (by omega)]; exact own_nil _ _
  have A0 : Hid (∀ i (hi : i < rows.length), n ≤ i → chk rows[i] = true) := fun i hi h1 => by omega
  have e1 : IntKind.i64.wrap ((n : Int) - 1) = (n : Int) - 1 := by rw [IntKind.wrap_i64]; omega
  clear h hn hkey hbig hk
  go_enter Tryd.func10, Tryd.ntmps10
  go_wp2_with fail
  go_loopg [4, 5] n (fun kx s4 s5 wr => ∃ (j : Nat), s5 = .int .i64 ((j : Int) - 1) ∧ j ≤ n ∧ j ≤ kx ∧ Hid (Below w.heap.size w wr) ∧ Hid (OwnE wr w.heap.size s4 (mrg (rows.drop j))) ∧ Hid (∀ i (hi : i < rows.length), j ≤ i → chk rows[i] = true))
  case atStart => exact ⟨n, rfl, Nat.le_refl _, Nat.le_refl _, B0, O0, A0⟩
  case round =>
    clear B0 O0 A0 e1
    obtain ⟨j, rfl, hjn, hkx, B1, O1, A1⟩ := hrel
    rcases Nat.eq_zero_or_pos j with rfl | hj
    · have hd1 : decide (((0 : Nat) : Int) - 1 ≥ 0) = false := by decide
      have HFIN : Hid (∀ i (hi : i < rows.length), chk rows[i] = true) := fun i hi => A1.out i hi (Nat.zero_le _)
      go_wp2_with fail
      exact bodyPost_ret (results_tmp2 rfl _ _ _) rfl ⟨B1.out, .inl ⟨HFIN.out, _, rfl, O1.out⟩⟩
    · obtain ⟨i, rfl⟩ : ∃ i, j = i + 1 := ⟨j - 1, by omega⟩
      have hi : i < rows.length := by rw [HN.out]; omega
      have hin : i < n := by omega
      obtain ⟨ao, c, f0, hE, hnn⟩ := HR.out wr B1.out i hi
      have CK := HCK.out i hi ao c wr hE
      have MP : Hid (∀ q, ((rows[i].take q).foldl wth (mrg (rows.drop (i + 1)))).length ≤ 400000000000) := fun q => Nat.le_trans (mrg_part rows i q hi) HBIG.out
      have MD : Hid (mrg (rows.drop i) = rows[i].foldl wth (mrg (rows.drop (i + 1)))) := mrg_drop rows i hi
      have KEEP : Hid (∀ W, Below w.heap.size w W → W.cell? ⟨k, o + i, none⟩ = some (.slice ao (rows[i]).length c)) := fun W hW => by
        rw [hW.cell (p := ⟨k, o + i, none⟩) HKW.out, ← B1.out.cell (p := ⟨k, o + i, none⟩) HKW.out]
        exact f0
      have KEEPE : Hid (∀ W, Below w.heap.size w W → Erw W ao rows[i]) := fun W hW => by
        obtain ⟨ao2, c2, g1, g2, _⟩ := HR.out W hW i hi
        have := KEEP.out W hW
        rw [g1] at this
        injection this with this
        injection this with this
        rw [← this]
        exact g2
      have A2 : Hid (chk rows[i] = true → ∀ p (hp : p < rows.length), i ≤ p → chk rows[p] = true) := fun hc p hp hip => by
        rcases Nat.lt_or_eq_of_le hip with c1 | rfl
        · exact A1.out p hp c1
        · exact hc
      have BAD : Hid (chk rows[i] = false → ∃ i, ∃ hi : i < rows.length, chk rows[i] = false) := fun hh => ⟨i, hi, hh⟩
      obtain ⟨l, hl⟩ : ∃ l, l = rows[i] := ⟨_, rfl⟩
      rw [← hl] at f0 hE CK MP MD KEEP KEEPE A2 BAD
      obtain ⟨m, hm⟩ : ∃ m, m = l.length := ⟨_, rfl⟩
      rw [← hm] at f0 CK KEEP
      have HM := Lib.hid hm
      obtain ⟨acc, hacc⟩ : ∃ acc, acc = mrg (rows.drop (i + 1)) := ⟨_, rfl⟩
      rw [← hacc] at MP MD O1
      have hml : m ≤ 400000000000 := by
        have := HLEN.out i hi
        rw [← hl, ← hm] at this
        exact this
      have pa : (0 : Int) ≤ (i : Int) := by omega
      have pb : (i : Int) < (n : Int) := by omega
      have ei : (((i + 1 : Nat) : Int)) - 1 = (i : Int) := by omega
      have hd1 : decide ((i : Int) ≥ 0) = true := decide_eq_true pa
      have hwi : IntKind.i64.wrap ((i : Int) - 1) = (i : Int) - 1 := by rw [IntKind.wrap_i64]; omega
      rw [ei]
      clear ei hl hacc hm hE
      cases hck : chk l with
      | false =>
        rw [hck] at CK
        have CKH := Lib.hid CK
        have HB := Lib.hid (BAD.out hck)
        clear CK hck
        go_wp2_with (go_at_call 26; refine CKH.out.mono ?_; rintro e w2 ⟨rfl, b2⟩)
        have B2 : Hid (Below w.heap.size w w2) := Sh.below_chain B1.out b2
        clear b2 CKH f0
        go_wp2_with fail
        exact bodyPost_ret (results_tmp2 rfl _ _ _) rfl ⟨B2.out, .inr ⟨HB.out, rfl⟩⟩
      | true =>
        rw [hck] at CK
        have CKH := Lib.hid CK
        have A3 := Lib.hid (A2.out hck)
        clear CK hck
        go_wp2_with (go_at_call 26; refine CKH.out.mono ?_; rintro e w2 ⟨rfl, b2⟩)
        have B2 : Hid (Below w.heap.size w w2) := Sh.below_chain B1.out b2
        have O2 : Hid (OwnE w2 w.heap.size u4 acc) := by
          obtain ⟨g1, g2 | ⟨g, cap', cur, e1, e2, e3, e4⟩⟩ := O1.out
          · exact ⟨g1, Or.inl g2⟩
          · exact ⟨g1, Or.inr ⟨g, cap', cur, e1, e2, (b2.block g (Array.getElem?_eq_some_iff.1 e3).1).trans e3, e4⟩⟩
        clear b2 CKH f0
        go_wp2_with fail
        go_loopg [4, 6] m (fun kx s4 s6 wr => ∃ (q : Nat), s6 = .int .i64 q ∧ q ≤ m ∧ m - q ≤ kx ∧ Hid (Below w.heap.size w wr) ∧ Hid (OwnE wr w.heap.size s4 ((l.take q).foldl wth acc)))
        case atStart => exact ⟨0, rfl, Nat.zero_le _, by omega, B2, O2⟩
        case round =>
          clear B2 O2 B1 O1
          obtain ⟨q, rfl, hqm, hkq, B3, O3⟩ := hrel
          have f0 := KEEP.out wr B3.out
          by_cases hlt : q < m
          · have hltz : (q : Int) < (m : Int) := by omega
            have hd2 : decide ((q : Int) < (m : Int)) = true := decide_eq_true hltz
            have hd3 : decide (q < m) = true := decide_eq_true hlt
            have pc : (0 : Int) ≤ (q : Int) := by omega
            have hEr := KEEPE.out wr B3.out
            obtain ⟨b, oo, rfl, hbw, hcell⟩ := hEr (by intro h0; have := HM.out; rw [h0] at this; simp at this; omega)
            have hl5 := MP.out q
            have hstep := fold_step l acc q (by rw [← HM.out]; exact hlt)
            obtain ⟨L, hL⟩ : ∃ L, L = (l.take q).foldl wth acc := ⟨_, rfl⟩
            rw [← hL] at hl5 hstep O3
            have HS := Lib.hid hstep
            obtain ⟨x, hx⟩ : ∃ x, x = l[q]! := ⟨_, rfl⟩
            rw [← hx] at HS
            have hc5 : ∀ c u, (encE x)[c]? = some u → wr.cell? ⟨b, oo + q * 5 + c, none⟩ = some u := fun c u hu => by
              rw [Nat.add_assoc]
              exact hcell _ _ (cs_get l q (by rw [← HM.out]; exact hlt) c u (by rw [← hx]; exact hu))
            obtain ⟨a2, c2, rfl, hc2, hc3, hE2, hn2'⟩ := own_erw O3.out
            have HWT := Lib.hid (fun W (hW : Erw W a2 L) => refwith_any a2 L.length c2 L x W hW rfl hc2 hc3 hn2' (by omega))
            have E2 := Lib.hid hE2
            obtain ⟨key, p1, p2, p3, p4⟩ := x
            have x0 := hc5 0 _ rfl
            have x1 := hc5 1 _ rfl
            have x2 := hc5 2 _ rfl
            have x3 := hc5 3 _ rfl
            have x4 := hc5 4 _ rfl
            simp only [Nat.add_zero] at x0
            have CW := Lib.hid (HWT.out wr E2.out)
            simp only [encE] at CW
            clear hcell hc5 hx hL hstep hE2 hc3 hl5 HWT
            generalize L.length = ll at CW ⊢
            go_wp2_with (go_at_call 27; refine CW.out.mono ?_; rintro e w3 ⟨b3, v, rfl, hown⟩)
            have B4 : Hid (Below w.heap.size w w3) := Sh.below_chain B3.out b3
            have O4 : Hid (OwnE w3 w.heap.size v ((l.take (q + 1)).foldl wth acc)) := by
              show OwnE _ _ _ _
              rw [HS.out]
              exact hown.low B3.out.size
            clear b3 hown CW x0 x1 x2 x3 x4
            go_wp2_with fail
            go_roundg (m - (q + 1))
            case measure => omega
            case rel => exact ⟨q + 1, by go_num, by omega, Nat.le_refl _, B4, O4⟩
          · obtain rfl : q = m := by omega
            have hltz : ¬ (q : Int) < (q : Int) := by omega
            have hd2 : decide ((q : Int) < (q : Int)) = false := decide_eq_false hltz
            have O4 : Hid (OwnE wr w.heap.size u4 (mrg (rows.drop i))) := by
              show OwnE _ _ _ _
              rw [MD.out]
              have := O3.out
              rwa [List.take_of_length_le (by rw [← HM.out]; exact Nat.le_refl _)] at this
            clear O3
            go_wp2_with fail
            go_roundg i
            case measure => omega
            case rel => exact ⟨i, rfl, by omega, Nat.le_refl _, B3, O4, A3⟩
end Go.Proofs.YtpcmminokhmkjaaDoor.St
namespace Go.Proofs.YtpcmminokhmkjaaDoor.St
open Go.Shelf Go.RowKit Go.Lib Go.Sort
set_option maxRecDepth 100000 in
theorem keyof_any (x : Ent) (W : World) : Calls Tryd.prog 25 #[.agg (encE x).toArray] W fun e w' => e = .returned (.string x.key) ∧ Gw W w' := by
  obtain ⟨k, a, b, c, d⟩ := x
  simp only [encE]
  go_enter Tryd.func25, Tryd.ntmps25
  go_wp2
  go_ret
  exact ⟨rfl, (Gw.refl W).alloc _⟩
set_option maxHeartbeats 1000000 in
set_option maxRecDepth 100000 in
theorem closure38 (x : Ent) (k : ByteArray) (b : Nat) (W : World) (hb : b < W.heap.size) (hc : W.cell? ⟨b, 0, none⟩ = some (.func (.func 25) #[] #[])) : Calls Tryd.prog 38 #[.agg (encE x).toArray, .string k, .pointer (some ⟨b, 0, none⟩)] W fun e w' => e = .returned (.int .i64 (cmpK x.key k)) ∧ Gw W w' := by
  have eg : ∀ args w, (callFunc 25 args).run Tryd.prog w = .ok (.enter 25 args) w := enters_of Tryd.func25 (by decide) rfl
  have KO := Lib.hid (fun W' => keyof_any x W')
  obtain ⟨key, p1, p2, p3, p4⟩ := x
  simp only [encE] at KO ⊢
  have hcon := Lib.hid (fun W' => compare_any key k W')
  generalize cmpK key k = r at hcon ⊢
  have G1 : Hid (Gw W (W.alloc (.cells #[.string key, .int .i64 p1, .int .i64 p2, .int .i64 p3, .int .i64 p4] 31))) := (Gw.refl W).alloc _
  have hc2 : (W.alloc (.cells #[.string key, .int .i64 p1, .int .i64 p2, .int .i64 p3, .int .i64 p4] 31)).cell? ⟨b, 0, none⟩ = some (.func (.func 25) #[] #[]) := by
    rw [G1.out.below.cell (p := ⟨b, 0, none⟩) hb]
    exact hc
  go_enter Tryd.func38, Tryd.ntmps38
  go_wp2_with (first | (go_at_fn 25; refine (KO.out _).mono ?_; rintro e w1 ⟨rfl, g1⟩) | (go_at_call 21; refine (hcon.out _).mono ?_; rintro e w2 ⟨rfl, rfl⟩))
  go_ret
  exact ⟨rfl, Gw.trans G1.out g1⟩
theorem cmpK_lt (a b : ByteArray) : decide (cmpK a b < 0) = kl a b := by
  unfold cmpK
  cases h1 : kl a b with
  | true => rfl
  | false => cases kl b a <;> rfl
theorem cmpK_eq (a b : ByteArray) : (cmpK a b == 0) = decide (a = b) := by
  unfold cmpK
  cases h1 : kl a b with
  | true =>
    rw [eq_comm, decide_eq_false_iff_not.2]
    · rfl
    · rintro rfl
      rw [kl_ir] at h1
      cases h1
  | false =>
    cases h2 : kl b a with
    | true =>
      rw [eq_comm, decide_eq_false_iff_not.2]
      · rfl
      · rintro rfl
        rw [kl_ir] at h2
        cases h2
    | false => rw [kl_tot h1 h2]; simp
theorem ri_at {l : List Ent} (h : Ri l) (i j : Nat) (hij : i < j) (hj : j < l.length) : kl l[i]!.key l[j]!.key = true := by
  have := List.pairwise_iff_getElem.1 h i j (by omega) hj hij
  rwa [getElem!_pos l i (by omega), getElem!_pos l j hj]
/-- does a row that rises have a key? -/
def hasK (l : List Ent) (k : ByteArray) : Bool := decide (plc l k < l.length ∧ l[plc l k]!.key = k)
set_option maxHeartbeats 8000000 in
set_option maxRecDepth 100000 in
theorem search_any (ao : Option Addr) (n c bx : Nat) (l : List Ent) (k : ByteArray) (w : World) (h : Erw w ao l) (hn : l.length = n) (hbig : n ≤ 1099511627776) (hs : Ri l) (hb : bx < w.heap.size) (hcell : w.cell? ⟨bx, 0, none⟩ = some (.func (.func 25) #[] #[])) :
    Calls Tryd.prog 37 #[.slice ao n c, .string k, .func (.func 38) #[] #[.pointer (some ⟨bx, 0, none⟩)]] w fun e w' => e = .returned (.tuple #[.int .i64 (plc l k), .bool (hasK l k)]) ∧ Gw w w' := by
  have eg : ∀ args w, (callFunc 38 args).run Tryd.prog w = .ok (.enter 38 args) w := enters_of Tryd.func38 (by decide) rfl
  have HN := Lib.hid hn
  have HCL : Hid (∀ W, Gw w W → ∀ x, Calls Tryd.prog 38 #[.agg (encE x).toArray, .string k, .pointer (some ⟨bx, 0, none⟩)] W fun e w' => e = .returned (.int .i64 (cmpK x.key k)) ∧ Gw W w') := fun W hW x =>
    closure38 x k bx W (Nat.lt_of_lt_of_le hb hW.below.size) ((hW.below.cell (p := ⟨bx, 0, none⟩) hb).trans hcell)
  have HC : Hid (∀ W, Gw w W → ∀ i, i < n → ∃ b o, ao = some ⟨b, o, none⟩ ∧ ∀ c u, (encE l[i]!)[c]? = some u → W.cell? ⟨b, o + i * 5 + c, none⟩ = some u) := fun W hW i hi => by
    obtain ⟨b, o, e, hbw, hc⟩ := h (by intro h0; rw [h0] at hn; simp at hn; omega)
    refine ⟨b, o, e, fun c u hu => ?_⟩
    rw [hW.below.cell (p := ⟨b, o + i * 5 + c, none⟩) hbw, Nat.add_assoc]
    exact hc _ _ (cs_get l i (by omega) c u hu)
  have HUP : Hid (∀ q t, q ≤ t → t < n → kl l[t]!.key k = true → kl l[q]!.key k = true) := fun q t h1 h2 h3 => by
    rcases Nat.lt_or_eq_of_le h1 with c | rfl
    · exact kl_tr (ri_at hs q t c (by omega)) h3
    · exact h3
  have HP : Hid (∀ i, i ≤ n → (∀ q, q < i → kl l[q]!.key k = true) → (i < n → kl l[i]!.key k = false) → plc l k = i) := fun i h1 h2 h3 => plc_of (by omega) h2 (by intro hh; exact h3 (by omega))
  have HK : Hid (∀ i, plc l k = i → (i < n → hasK l k = decide (l[i]!.key = k)) ∧ (¬ i < n → hasK l k = false)) := fun i hi => by
    unfold hasK
    rw [hi, hn]
    exact ⟨fun h1 => by simp [h1], fun h1 => by simp [h1]⟩
  have L0 : Hid (∀ q, q < 0 → kl l[q]!.key k = true) := fun q hq => absurd hq (Nat.not_lt_zero _)
  have R0 : Hid (n < n → kl l[n]!.key k = false) := fun hh => absurd hh (Nat.lt_irrefl _)
  have G0 : Hid (Gw w w) := Gw.refl w
  clear h hn hs hb hcell
  go_enter Tryd.func37, Tryd.ntmps37
  go_wp2_with fail
  go_loopg [9, 10] n (fun kx s9 s10 wr => ∃ (i j : Nat), s9 = .int .i64 i ∧ s10 = .int .i64 j ∧ i ≤ j ∧ j ≤ n ∧ j - i ≤ kx ∧ Hid (Gw w wr) ∧ Hid (∀ q, q < i → kl l[q]!.key k = true) ∧ Hid (j < n → kl l[j]!.key k = false))
  case atStart => exact ⟨0, n, rfl, rfl, Nat.zero_le _, Nat.le_refl _, by omega, G0, L0, R0⟩
  case round =>
    clear G0 L0 R0
    obtain ⟨i, j, rfl, rfl, hij, hjn, hkx, G1, L1, R1⟩ := hrel
    by_cases hlt : i < j
    · have hltz : (i : Int) < (j : Int) := by omega
      obtain ⟨m, hm⟩ : ∃ m, m = (i + j) / 2 := ⟨_, rfl⟩
      have hI : ((i : Int) + (j : Int)) / 2 = (m : Int) := by omega
      have hw0 : IntKind.i64.wrap ((i : Int) + (j : Int)) = (i : Int) + (j : Int) := by rw [IntKind.wrap_i64]; omega
      have hw1 : IntKind.u64.wrap ((i : Int) + (j : Int)) = (i : Int) + (j : Int) := by rw [IntKind.wrap]; simp [IntKind.bits, IntKind.signed]; omega
      have hw2 : IntKind.i64.wrap (m : Int) = (m : Int) := by rw [IntKind.wrap_i64]; omega
      have hb1 : i ≤ m := by omega
      have hb2 : m < j := by omega
      have hmn : m < n := by omega
      have pa1 : (0 : Int) ≤ (m : Int) := by omega
      have pa2 : (m : Int) < (n : Int) := by omega
      have ea1 : ((m : Int)).toNat = m := by omega
      obtain ⟨b, o, rfl, hc5⟩ := HC.out wr G1.out m hmn
      have CC := HCL.out wr G1.out l[m]!
      have hcl := cmpK_lt l[m]!.key k
      clear hm
      obtain ⟨x, hx⟩ : ∃ x, x = l[m]! := ⟨_, rfl⟩
      rw [← hx] at hc5 CC hcl
      have HX := Lib.hid hx
      clear hx
      obtain ⟨v, hv⟩ : ∃ v, v = cmpK x.key k := ⟨_, rfl⟩
      rw [← hv] at CC hcl
      cases hkl : kl x.key k with
      | true =>
        rw [hkl] at hcl
        have L2 : Hid (∀ q, q < m + 1 → kl l[q]!.key k = true) := fun q hq => HUP.out q m (by omega) hmn (by rw [← HX.out]; exact hkl)
        obtain ⟨key, p1, p2, p3, p4⟩ := x
        have x0 := hc5 0 _ rfl
        have x1 := hc5 1 _ rfl
        have x2 := hc5 2 _ rfl
        have x3 := hc5 3 _ rfl
        have x4 := hc5 4 _ rfl
        simp only [Nat.add_zero] at x0
        simp only [encE] at CC
        have CH := Lib.hid CC
        clear CC hc5 hkl hv L1
        go_wp2_with (go_at_fn 38; refine CH.out.mono ?_; rintro e w2 ⟨rfl, g2⟩)
        have G2 : Hid (Gw w w2) := Gw.trans G1.out g2
        clear g2 CH x0 x1 x2 x3 x4
        go_wp2_with fail
        go_roundg (j - (m + 1))
        case measure => omega
        case rel => exact ⟨m + 1, j, by go_num, rfl, by omega, by omega, Nat.le_refl _, G2, L2, R1⟩
      | false =>
        rw [hkl] at hcl
        have R2 : Hid (m < n → kl l[m]!.key k = false) := fun _ => by rw [← HX.out]; exact hkl
        obtain ⟨key, p1, p2, p3, p4⟩ := x
        have x0 := hc5 0 _ rfl
        have x1 := hc5 1 _ rfl
        have x2 := hc5 2 _ rfl
        have x3 := hc5 3 _ rfl
        have x4 := hc5 4 _ rfl
        simp only [Nat.add_zero] at x0
        simp only [encE] at CC
        have CH := Lib.hid CC
        clear CC hc5 hkl hv R1
        go_wp2_with (go_at_fn 38; refine CH.out.mono ?_; rintro e w2 ⟨rfl, g2⟩)
        have G2 : Hid (Gw w w2) := Gw.trans G1.out g2
        clear g2 CH x0 x1 x2 x3 x4
        go_wp2_with fail
        go_roundg (m - i)
        case measure => omega
        case rel => exact ⟨i, m, rfl, rfl, by omega, by omega, Nat.le_refl _, G2, L1, R2⟩
    · obtain rfl : i = j := by omega
      have hltz : ¬ (i : Int) < (i : Int) := by omega
      have PL := HP.out i hjn L1.out R1.out
      have HK2 := HK.out i PL
      by_cases hin : i < n
      · have hd1 : decide ((i : Int) < (n : Int)) = true := decide_eq_true (by omega)
        have hd2 : decide (i < n) = true := decide_eq_true hin
        have pa1 : (0 : Int) ≤ (i : Int) := by omega
        have pa2 : (i : Int) < (n : Int) := by omega
        have HF : Hid (hasK l k = decide (l[i]!.key = k)) := HK2.1 hin
        obtain ⟨b, o, rfl, hc5⟩ := HC.out wr G1.out i hin
        have CC := HCL.out wr G1.out l[i]!
        have hcl := cmpK_eq l[i]!.key k
        obtain ⟨x, hx⟩ : ∃ x, x = l[i]! := ⟨_, rfl⟩
        rw [← hx] at hc5 CC hcl HF
        clear hx HK2
        obtain ⟨v, hv⟩ : ∃ v, v = cmpK x.key k := ⟨_, rfl⟩
        obtain ⟨B, hB⟩ : ∃ B, B = decide (x.key = k) := ⟨_, rfl⟩
        rw [← hv] at CC hcl
        rw [← hB] at hcl HF
        have PH := Lib.hid PL
        obtain ⟨key, p1, p2, p3, p4⟩ := x
        have x0 := hc5 0 _ rfl
        have x1 := hc5 1 _ rfl
        have x2 := hc5 2 _ rfl
        have x3 := hc5 3 _ rfl
        have x4 := hc5 4 _ rfl
        simp only [Nat.add_zero] at x0
        simp only [encE] at CC
        have CH := Lib.hid CC
        clear CC hc5 hv hB L1 R1 PL
        go_wp2_with (go_at_fn 38; refine CH.out.mono ?_; rintro e w2 ⟨rfl, g2⟩)
        exact bodyPost_ret (results_tmp2 rfl _ _ _) rfl ⟨by rw [PH.out, HF.out]; rfl, Gw.trans G1.out g2⟩
      · have hd1 : decide ((i : Int) < (n : Int)) = false := decide_eq_false (by omega)
        have hd2 : decide (i < n) = false := decide_eq_false hin
        have HF : Hid (hasK l k = false) := HK2.2 hin
        have PH := Lib.hid PL
        clear HK2 PL
        go_wp2_with fail
        exact bodyPost_ret (results_tmp2 rfl _ _ _) rfl ⟨by rw [PH.out, HF.out]; rfl, G1.out⟩
set_option maxHeartbeats 1000000 in
set_option maxRecDepth 100000 in
theorem place_any (ao : Option Addr) (n c : Nat) (l : List Ent) (k : ByteArray) (w : World) (h : Erw w ao l) (hn : l.length = n) (hbig : n ≤ 1099511627776) (hs : Ri l) :
    Calls Tryd.prog 24 #[.slice ao n c, .string k, .func (.func 25) #[] #[]] w fun e w' => e = .returned (.tuple #[.int .i64 (plc l k), .int .i64 (plcE l k)]) ∧ Gw w w' := by
  have SR := Lib.hid (search_any ao n c w.heap.size l k (w.alloc (.cells #[.func (.func 25) #[] #[]] 55)) (erw_alloc h _) hn hbig hs (by simp) (World.cell?_alloc_new _ _ _ _))
  have G1 : Hid (Gw w (w.alloc (.cells #[.func (.func 25) #[] #[]] 55))) := (Gw.refl w).alloc _
  have PN : plc l k ≤ 1099511627776 := Nat.le_trans (plc_le l k) (by omega)
  have HE : Hid (plcE l k = if hasK l k then plc l k + 1 else plc l k) := by
    show _ = _
    by_cases hh : plc l k < l.length ∧ l[plc l k]!.key = k
    · rw [plcE, hasK, if_pos hh, decide_eq_true hh, if_pos rfl]
    · rw [plcE, hasK, if_neg hh, decide_eq_false hh]
      rfl
  obtain ⟨P, hP⟩ : ∃ P, P = plc l k := ⟨_, rfl⟩
  obtain ⟨E, hE⟩ : ∃ E, E = plcE l k := ⟨_, rfl⟩
  rw [← hP] at SR PN HE ⊢
  rw [← hE] at HE ⊢
  have hw : IntKind.i64.wrap ((P : Int) + 1) = (P : Int) + 1 := by rw [IntKind.wrap_i64]; omega
  clear hP hE h hn hs
  cases hk : hasK l k with
  | true =>
    rw [hk] at SR HE
    have HE2 : Hid (E = P + 1) := HE.out
    clear HE hk
    go_enter Tryd.func24, Tryd.ntmps24
    go_wp2_with (go_at_call 37; refine SR.out.mono ?_; rintro e w2 ⟨rfl, g2⟩)
    go_wp2_with fail
    exact bodyPost_ret (results_tmp2 rfl _ _ _) rfl ⟨by rw [HE2.out]; rfl, Gw.trans G1.out g2⟩
  | false =>
    rw [hk] at SR HE
    have HE2 : Hid (E = P) := HE.out
    clear HE hk
    go_enter Tryd.func24, Tryd.ntmps24
    go_wp2_with (go_at_call 37; refine SR.out.mono ?_; rintro e w2 ⟨rfl, g2⟩)
    go_wp2_with fail
    exact bodyPost_ret (results_tmp2 rfl _ _ _) rfl ⟨by rw [HE2.out]; rfl, Gw.trans G1.out g2⟩
end Go.Proofs.YtpcmminokhmkjaaDoor.St
namespace Go.Proofs.YtpcmminokhmkjaaDoor.St
open Go.Shelf Go.RowKit Go.Lib Go.Sort
theorem keep5s {W W' : World} {B b : Nat} {u0 u1 u2 u3 u4 : Value} (hB : Below B W W') (hb : b < B)
    (h : W.cell? ⟨b, 0, none⟩ = some u0 ∧ W.cell? ⟨b, 1, none⟩ = some u1 ∧ W.cell? ⟨b, 2, none⟩ = some u2 ∧ W.cell? ⟨b, 3, none⟩ = some u3 ∧ W.cell? ⟨b, 4, none⟩ = some u4) :
    W'.cell? ⟨b, 0, none⟩ = some u0 ∧ W'.cell? ⟨b, 1, none⟩ = some u1 ∧ W'.cell? ⟨b, 2, none⟩ = some u2 ∧ W'.cell? ⟨b, 3, none⟩ = some u3 ∧ W'.cell? ⟨b, 4, none⟩ = some u4 :=
  ⟨(hB.cell (p := ⟨b, 0, none⟩) hb).trans h.1, (hB.cell (p := ⟨b, 1, none⟩) hb).trans h.2.1, (hB.cell (p := ⟨b, 2, none⟩) hb).trans h.2.2.1, (hB.cell (p := ⟨b, 3, none⟩) hb).trans h.2.2.2.1, (hB.cell (p := ⟨b, 4, none⟩) hb).trans h.2.2.2.2⟩
/-- three slices in a block -/
theorem rws3 (W : World) (k : Nat) (a1 a2 a3 : Option Addr) (r1 r2 r3 : List Ent) (n1 n2 n3 c1 c2 c3 : Nat) (h1 : Erw W a1 r1) (h2 : Erw W a2 r2) (h3 : Erw W a3 r3) (e1 : r1.length = n1) (e2 : r2.length = n2) (e3 : r3.length = n3)
    (z1 : a1 = none → c1 = 0) (z2 : a2 = none → c2 = 0) (z3 : a3 = none → c3 = 0) (g0 : W.cell? ⟨k, 0, none⟩ = some (.slice a1 n1 c1)) (g1 : W.cell? ⟨k, 1, none⟩ = some (.slice a2 n2 c2)) (g2 : W.cell? ⟨k, 2, none⟩ = some (.slice a3 n3 c3)) : Rws W k 0 [r1, r2, r3] := by
  intro j hj
  subst e1 e2 e3
  rcases (show j = 0 ∨ j = 1 ∨ j = 2 by simp at hj; omega) with rfl | rfl | rfl
  · exact ⟨a1, c1, g0, h1, z1⟩
  · exact ⟨a2, c2, g1, h2, z2⟩
  · exact ⟨a3, c3, g2, h3, z3⟩
set_option maxHeartbeats 4000000 in
set_option maxRecDepth 100000 in
theorem exchanged_ok (ao : Option Addr) (n cap P E : Nat) (l : List Ent) (x : Ent) (w : World) (h : Erw w ao l) (hn : l.length = n) (hcap : n ≤ cap) (_ : cap ≤ 9223372036854775807) (hnone : ao = none → cap = 0) (hn2 : n ≤ 500000000000) (hP : P ≤ n) (hE : E ≤ n) (hz : x.key.size ≤ 9223372036854775807) (hok : okE x = true) :
    Calls Tryd.prog 33 #[.slice ao n cap, .int .i64 P, .int .i64 E, .agg (encE x).toArray] w fun e w' => Below w.heap.size w w' ∧ ∃ v, e = .returned (.tuple #[v, .int .i64 0]) ∧ OwnE w' w.heap.size v (l.take P ++ [x] ++ l.drop E) := by
  have HL := Lib.hid h
  have HN := Lib.hid hn
  have R11 := Lib.hid (fun W => rightG x hz W)
  rw [hok] at R11
  obtain ⟨W1, hW1⟩ : ∃ W1, W1 = w.alloc (.cells (encE x).toArray 31) := ⟨_, rfl⟩
  have B1 : Hid (Below w.heap.size w W1) := by rw [hW1]; exact (Below.refl _ _).alloc (Nat.le_refl _) _
  have lt1 : w.heap.size < W1.heap.size := by rw [hW1]; simp
  have CL : Hid (∀ j u, (encE x)[j]? = some u → W1.cell? ⟨w.heap.size, j, none⟩ = some u) := fun j u hj => by
    rw [hW1, World.cell?_alloc_new]
    simpa using hj
  have s1 := fun W => slice_toE ao n cap P (by omega) W
  obtain ⟨af, s2, sf, nf⟩ := slice_fromE ao n cap E l (by omega) hn.symm hnone hcap
  have hX := erw_one
  have q1 : (0 : Int) ≤ (P : Int) := by omega
  have q2 : (0 : Int) ≤ (E : Int) := by omega
  have SF := Lib.hid sf
  clear h hn sf hok
  have HXR : Hid (∀ W : World, Erw (W.alloc (.cells (encE x).toArray 31)) (some ⟨W.heap.size, 0, none⟩) [x]) := fun W => erw_one W x
  obtain ⟨L, hL⟩ : ∃ L, L = [l.take P, [x], l.drop E] := ⟨_, rfl⟩
  have HLF : Hid (L.flatten = l.take P ++ [x] ++ l.drop E) := by show _ = _; rw [hL]; simp
  have HRW : Hid (∀ W k (a2 : Option Addr), Erw W ao l → Erw W a2 [x] → a2 ≠ none → W.cell? ⟨k, 0, none⟩ = some (.slice ao P cap) → W.cell? ⟨k, 1, none⟩ = some (.slice a2 1 1) → W.cell? ⟨k, 2, none⟩ = some (.slice af (n - E) (cap - E)) → Rws W k 0 L) := fun W k a2 h1 h2 h3 g0 g1 g2 => by
    rw [hL]
    exact rws3 W k ao a2 af _ _ _ P 1 (n - E) cap 1 (cap - E) (h1.take P (by have := HN.out; omega)) h2 (SF.out W h1) (by rw [List.length_take]; have := HN.out; omega) rfl (by rw [List.length_drop]; have := HN.out; omega) hnone (fun hh => absurd hh h3) nf g0 g1 g2
  have HLL : Hid (L.length = 3) := by show _ = _; rw [hL]; rfl
  have HLB : Hid (L.flatten.length ≤ 1099511627776) := by show _ ≤ _; rw [HLF.out, List.length_append, List.length_append, List.length_take, List.length_drop, List.length_singleton]; have := HN.out; omega
  rw [← HLF.out]
  obtain ⟨key, p1, p2, p3, p4⟩ := x
  simp only [encE] at hW1 CL R11 HXR ⊢
  have y0 : W1.cell? ⟨w.heap.size, 0, none⟩ = some (.string key) := CL.out 0 _ rfl
  have y1 : W1.cell? ⟨w.heap.size, 1, none⟩ = some (.int .i64 p1) := CL.out 1 _ rfl
  have y2 : W1.cell? ⟨w.heap.size, 2, none⟩ = some (.int .i64 p2) := CL.out 2 _ rfl
  have y3 : W1.cell? ⟨w.heap.size, 3, none⟩ = some (.int .i64 p3) := CL.out 3 _ rfl
  have y4 : W1.cell? ⟨w.heap.size, 4, none⟩ = some (.int .i64 p4) := CL.out 4 _ rfl
  clear hL hX
  go_enter Tryd.func33, Tryd.ntmps33
  go_wp2_with fail
  rw [← hW1]
  clear hW1
  refine (R11.out _).mono ?_
  rintro e w2 ⟨rfl, g2⟩
  have B2 : Hid (Below w.heap.size w w2) := Sh.below_chain B1.out g2.below
  have lt2 : w.heap.size < w2.heap.size := Nat.lt_of_lt_of_le lt1 g2.below.size
  have cc : ∀ j u, W1.cell? ⟨w.heap.size, j, none⟩ = some u → w2.cell? ⟨w.heap.size, j, none⟩ = some u := fun j u hu => (g2.below.cell (p := ⟨w.heap.size, j, none⟩) lt1).trans hu
  have z0 := cc _ _ y0
  have z1 := cc _ _ y1
  have z2 := cc _ _ y2
  have z3 := cc _ _ y3
  have z4 := cc _ _ y4
  have LT2 := Lib.hid lt2
  have LT3 : Hid (w.heap.size < ((w2.alloc (.cells #[.string key, .int .i64 p1, .int .i64 p2, .int .i64 p3, .int .i64 p4] 31)).alloc (.cells #[.slice ao P cap, .slice (some ⟨w2.heap.size, 0, none⟩) 1 1, .slice af (n - E) (cap - E)] 22)).drew.heap.size) := by show _ < _; simp; omega
  clear cc y0 y1 y2 y3 y4 g2 lt1 lt2 CL B1 R11
  go_wp2_with fail
  obtain ⟨W3, hW3⟩ : ∃ W3, W3 = ((w2.alloc (.cells #[.string key, .int .i64 p1, .int .i64 p2, .int .i64 p3, .int .i64 p4] 31)).alloc (.cells #[.slice ao P cap, .slice (some ⟨w2.heap.size, 0, none⟩) 1 1, .slice af (n - E) (cap - E)] 22)).drew := ⟨_, rfl⟩
  have b3 : Below w2.heap.size w2 W3 := by rw [hW3]; exact (((Below.refl _ w2).alloc (Nat.le_refl _) _).alloc (by simp) _).drew
  have B3 : Hid (Below w.heap.size w W3) := Sh.below_chain B2.out b3
  have RW3 : Rws W3 (w2.heap.size + 1) 0 L := by
    refine HRW.out W3 (w2.heap.size + 1) (some ⟨w2.heap.size, 0, none⟩) (HL.out.below B3.out) ?_ (by simp) ?_ ?_ ?_
    · have := erw_alloc (HXR.out w2) (.cells #[.slice ao P cap, .slice (some ⟨w2.heap.size, 0, none⟩) 1 1, .slice af (n - E) (cap - E)] 22)
      rw [hW3]
      exact this
    all_goals
      rw [hW3]
      have hh := World.cell?_alloc_new (w2.alloc (.cells #[.string key, .int .i64 p1, .int .i64 p2, .int .i64 p3, .int .i64 p4] 31)) #[Value.slice ao P cap, .slice (some ⟨w2.heap.size, 0, none⟩) 1 1, .slice af (n - E) (cap - E)] 22
      rw [World.size_alloc] at hh
      exact hh _
  have CC := Lib.hid (concat_any (w2.heap.size + 1) 0 3 3 L W3 RW3 HLL.out (by omega) (by rw [hW3]; simp) HLB.out)
  have HB3 := Lib.hid b3
  clear RW3 b3
  rw [hW3] at CC B3 HB3
  clear hW3
  go_region_held3 (fun w' => w'.cell? ⟨w.heap.size, 0, none⟩ = some (.string key) ∧ w'.cell? ⟨w.heap.size, 1, none⟩ = some (.int .i64 p1) ∧ w'.cell? ⟨w.heap.size, 2, none⟩ = some (.int .i64 p2) ∧ w'.cell? ⟨w.heap.size, 3, none⟩ = some (.int .i64 p3) ∧ w'.cell? ⟨w.heap.size, 4, none⟩ = some (.int .i64 p4))
    (first | go_keep | exact keep5s b4 LT3.out (by assumption))
    ((first
      | (go_at_call 18; refine CC.out.mono ?_; rintro e w4 ⟨b4, v, rfl, hown⟩)))
  have B5 : Hid (Below w.heap.size w w4) := Sh.below_chain B3.out b4
  have O5 := Lib.hid (hown.low B3.out.size)
  clear b4 hown
  go_wp2_with fail
  exact bodyPost_ret (results_tmp2 rfl _ _ _) rfl ⟨B5.out, _, rfl, O5.out⟩
end Go.Proofs.YtpcmminokhmkjaaDoor.St
namespace Go.Proofs.YtpcmminokhmkjaaDoor.St
open Go.Shelf Go.RowKit Go.Lib Go.Sort
/-- keys that memory can bear -/
def Kz (l : List Ent) : Prop := ∀ i, i < l.length → l[i]!.key.size ≤ 9223372036854775807
set_option maxHeartbeats 4000000 in
set_option maxRecDepth 100000 in
theorem put_ok (ao : Option Addr) (n cap : Nat) (l : List Ent) (x : Ent) (w : World) (h : Erw w ao l) (hn : l.length = n) (hcap : n ≤ cap) (hcap2 : cap ≤ 9223372036854775807) (hnone : ao = none → cap = 0) (hn2 : n ≤ 500000000000) (hz : x.key.size ≤ 9223372036854775807) (hok : okE x = true) (hkz : Kz l) (hc : chk l = true) :
    Calls Tryd.prog 13 #[.slice ao n cap, .agg (encE x).toArray] w fun e w' => Below w.heap.size w w' ∧ ∃ v, e = .returned (.tuple #[v, .int .i64 0]) ∧ OwnE w' w.heap.size v (wth l x) := by
  have HN := Lib.hid hn
  have ri := chk_ri hc
  have HCK : Hid (∀ W, Below w.heap.size w W → Calls Tryd.prog 5 #[.slice ao n cap] W fun e w' => e = .returned (.bool true) ∧ Gw W w') := fun W hW => by
    have := check_any ao n cap l W (h.below hW) hn (by omega) (by rw [← hn]; exact hkz)
    rwa [hc] at this
  have HPL : Hid (∀ W, Below w.heap.size w W → Calls Tryd.prog 24 #[.slice ao n cap, .string x.key, .func (.func 25) #[] #[]] W fun e w' => e = .returned (.tuple #[.int .i64 (plc l x.key), .int .i64 (plcE l x.key)]) ∧ Gw W w') := fun W hW => place_any ao n cap l x.key W (h.below hW) hn (by omega) ri
  have HEX : Hid (∀ W, Below w.heap.size w W → Calls Tryd.prog 33 #[.slice ao n cap, .int .i64 (plc l x.key), .int .i64 (plcE l x.key), .agg (encE x).toArray] W fun e w' => Below W.heap.size W w' ∧ ∃ v, e = .returned (.tuple #[v, .int .i64 0]) ∧ OwnE w' W.heap.size v (wth l x)) := fun W hW =>
    exchanged_ok ao n cap (plc l x.key) (plcE l x.key) l x W (h.below hW) hn hcap hcap2 hnone hn2 (by rw [← hn]; exact plc_le _ _) (by rw [← hn]; exact plcE_le _ _) hz hok
  generalize wth l x = L at HEX ⊢
  generalize plcE l x.key = E at HEX HPL
  generalize plc l x.key = P at HEX HPL
  obtain ⟨W1, hW1⟩ : ∃ W1, W1 = w.alloc (.cells (encE x).toArray 31) := ⟨_, rfl⟩
  have B1 : Hid (Below w.heap.size w W1) := by rw [hW1]; exact (Below.refl _ _).alloc (Nat.le_refl _) _
  have lt1 : w.heap.size < W1.heap.size := by rw [hW1]; simp
  have CL : Hid (∀ j u, (encE x)[j]? = some u → W1.cell? ⟨w.heap.size, j, none⟩ = some u) := fun j u hj => by
    rw [hW1, World.cell?_alloc_new]
    simpa using hj
  obtain ⟨key, p1, p2, p3, p4⟩ := x
  simp only [encE] at hW1 CL HEX ⊢
  simp only at HPL
  clear h hn ri hc hkz hok hcap hcap2 hnone hn2 hz
  go_enter Tryd.func13, Tryd.ntmps13
  go_wp2_with fail
  rw [← hW1]
  clear hW1
  refine (HCK.out W1 B1.out).mono ?_
  rintro e w2 ⟨rfl, g2⟩
  have B2 : Hid (Below w.heap.size w w2) := Sh.below_chain B1.out g2.below
  have c0 : w2.cell? ⟨w.heap.size, 0, none⟩ = some (.string key) := (g2.below.cell (p := ⟨w.heap.size, 0, none⟩) lt1).trans (CL.out 0 _ rfl)
  have lt2 : w.heap.size < w2.heap.size := Nat.lt_of_lt_of_le lt1 g2.below.size
  have CL2 : Hid (∀ j u, (encE ⟨key, p1, p2, p3, p4⟩)[j]? = some u → w2.cell? ⟨w.heap.size, j, none⟩ = some u) := fun j u hj => (g2.below.cell (p := ⟨w.heap.size, j, none⟩) lt1).trans (CL.out j u hj)
  have CP := Lib.hid (HPL.out w2 B2.out)
  clear g2 CL lt1
  go_wp2_with (first
    | (go_at_call 24; refine CP.out.mono ?_; rintro e w3 ⟨rfl, g3⟩
       have B3 : Hid (Below w.heap.size w w3) := Sh.below_chain B2.out g3.below
       have cc : ∀ j u, (encE ⟨key, p1, p2, p3, p4⟩)[j]? = some u → w3.cell? ⟨w.heap.size, j, none⟩ = some u := fun j u hj => (g3.below.cell (p := ⟨w.heap.size, j, none⟩) lt2).trans (CL2.out j u hj)
       have y0 := cc 0 _ rfl
       have y1 := cc 1 _ rfl
       have y2 := cc 2 _ rfl
       have y3 := cc 3 _ rfl
       have y4 := cc 4 _ rfl
       have CX := Lib.hid (HEX.out w3 B3.out)
       clear g3 cc CP CL2)
    | (go_at_call 33; refine CX.out.mono ?_; rintro e w4 ⟨b4, v, rfl, hown⟩
       have B5 : Hid (Below w.heap.size w w4) := Sh.below_chain B3.out b4
       have O5 := Lib.hid (hown.low B3.out.size)
       clear b4 hown CX))
  exact bodyPost_ret (results_tmp2 rfl _ _ _) rfl ⟨B5.out, _, rfl, O5.out⟩
theorem results_ent {fn : Func} {p u : Tmp} (h : fn.results = #[.cell p 31, .tmp u]) (tmps : Array Value) (w : World) (g : Nat) (e : Ent) (y : Value)
    (hp : tmps.getD p undef = .pointer (some ⟨g, 0, none⟩)) (hy : tmps.getD u undef = y) (hg : w.heap[g]? = some (.cells (encE e).toArray 31 (0, 0))) :
    (results fn tmps).run Tryd.prog w = .ok (.tuple #[.agg (encE e).toArray, y]) w := by
  rw [results_cell_tmp h, hp, hy]
  simp [asAddr, Result.andThen, run_loadVar_row w g 31 31 (encE e).toArray (0, 0) _ hg Tryd.underlying31 rfl (size31 _ _ _ _ _)]
theorem below_row {B : Nat} {a w : World} (h : Below B a w) {g : Nat} (hg : B ≤ g) (cs : Array Value) : Below B a (w.setRow g cs) :=
  h.trans ⟨rfl, rfl, rfl, by simp, fun k hk => by simp only [World.setRow, Array.getElem?_modify]; rw [if_neg (by omega)]⟩
theorem sz5 (a b c d e a' b' c' d' e' : Value) : (#[a, b, c, d, e] : Array Value).size = (#[a', b', c', d', e'] : Array Value).size := rfl
theorem all5 (k : ByteArray) (a b c d : Int) : (#[.string k, .int .i64 a, .int .i64 b, .int .i64 c, .int .i64 d] : Array Value).all (·.oneCell') = true := by simp [Value.oneCell']
def e0 : Ent := ⟨⟨#[]⟩, 0, 0, 0, 0⟩
/-- what Get answers -/
def getE (l : List Ent) (k : ByteArray) : Ent × Bool := if chk l = true ∧ hasK l k = true then (l[plc l k]!, true) else (e0, false)
set_option maxHeartbeats 4000000 in
set_option maxRecDepth 100000 in
theorem get_any (ao : Option Addr) (n cap : Nat) (l : List Ent) (k : ByteArray) (w : World) (h : Erw w ao l) (hn : l.length = n) (hn2 : n ≤ 500000000000) (hkz : Kz l) :
    Calls Tryd.prog 8 #[.slice ao n cap, .string k] w fun e w' => Below w.heap.size w w' ∧ e = .returned (.tuple #[.agg (encE (getE l k).1).toArray, .bool (getE l k).2]) := by
  have HN := Lib.hid hn
  obtain ⟨W1, hW1⟩ : ∃ W1, W1 = w.alloc (.cells (encE e0).toArray 31) := ⟨_, rfl⟩
  have B1 : Hid (Below w.heap.size w W1) := by rw [hW1]; exact (Below.refl _ _).alloc (Nat.le_refl _) _
  have lt1 : w.heap.size < W1.heap.size := by rw [hW1]; simp
  have CL : Hid (W1.heap[w.heap.size]? = some (.cells (encE e0).toArray 31 (0, 0))) := by
    rw [hW1]
    exact heap_alloc_new w _
  have HCK : Hid (∀ W, Below w.heap.size w W → Calls Tryd.prog 5 #[.slice ao n cap] W fun e w' => e = .returned (.bool (chk l)) ∧ Gw W w') := fun W hW => check_any ao n cap l W (h.below hW) hn (by omega) (by rw [← hn]; exact hkz)
  cases hc : chk l with
  | false =>
    rw [hc] at HCK
    have HG : Hid (getE l k = (e0, false)) := by show _ = _; rw [getE, if_neg]; rw [hc]; simp
    have CK := Lib.hid (HCK.out W1 B1.out)
    rw [HG.out]
    clear h hn hkz HCK hc
    simp only [encE, e0] at hW1 CL ⊢
    go_enter Tryd.func8, Tryd.ntmps8
    go_wp2_with fail
    rw [← hW1]
    clear hW1
    refine CK.out.mono ?_
    rintro e w2 ⟨rfl, g2⟩
    have B2 : Hid (Below w.heap.size w w2) := Sh.below_chain B1.out g2.below
    have G2 : w2.heap[w.heap.size]? = some (.cells #[.string ⟨#[]⟩, .int .i64 0, .int .i64 0, .int .i64 0, .int .i64 0] 31 (0, 0)) := (g2.below.block w.heap.size lt1).trans CL.out
    have K4 := Lib.hid (setRow_heap w2 w.heap.size #[.string ⟨#[]⟩, .int .i64 0, .int .i64 0, .int .i64 0, .int .i64 0] #[.string ⟨#[]⟩, .int .i64 0, .int .i64 0, .int .i64 0, .int .i64 0] 31 (0, 0) G2)
    have B4 : Hid (Below w.heap.size w (w2.setRow w.heap.size #[.string ⟨#[]⟩, .int .i64 0, .int .i64 0, .int .i64 0, .int .i64 0])) := below_row B2.out (Nat.le_refl _) _
    clear g2
    go_wp2_with (first
      | (with_reducible refine wpList_store_row rfl 31 (.tmp 4) (.tmp 11) rfl w.heap.size #[.string ⟨#[]⟩, .int .i64 0, .int .i64 0, .int .i64 0, .int .i64 0] rfl rfl 31 #[.string ⟨#[]⟩, .int .i64 0, .int .i64 0, .int .i64 0, .int .i64 0] G2 (size31 _ _ _ _ _) (sz5 _ _ _ _ _ _ _ _ _ _) (all5 _ _ _ _ _) ?_))
    exact bodyPost_ret (results_ent rfl _ _ w.heap.size e0 _ rfl rfl K4.out) rfl ⟨B4.out, rfl⟩
  | true =>
    rw [hc] at HCK
    have ri := chk_ri hc
    have HPL : Hid (∀ W, Below w.heap.size w W → Calls Tryd.prog 24 #[.slice ao n cap, .string k, .func (.func 25) #[] #[]] W fun e w' => e = .returned (.tuple #[.int .i64 (plc l k), .int .i64 (plcE l k)]) ∧ Gw W w') := fun W hW => place_any ao n cap l k W (h.below hW) hn (by omega) ri
    have HG : Hid (getE l k = if hasK l k = true then (l[plc l k]!, true) else (e0, false)) := by show _ = _; rw [getE, hc]; simp
    have HH : Hid (plcE l k = if hasK l k then plc l k + 1 else plc l k) := by
      show _ = _
      by_cases hh : plc l k < l.length ∧ l[plc l k]!.key = k
      · rw [plcE, hasK, if_pos hh, decide_eq_true hh, if_pos rfl]
      · rw [plcE, hasK, if_neg hh, decide_eq_false hh]
        rfl
    have HB : Hid (hasK l k = true → plc l k < n) := fun hh => by
      have := of_decide_eq_true hh
      omega
    have HC : Hid (∀ W, Below w.heap.size w W → ∀ i, i < n → ∃ b o, ao = some ⟨b, o, none⟩ ∧ ∀ c u, (encE l[i]!)[c]? = some u → W.cell? ⟨b, o + i * 5 + c, none⟩ = some u) := fun W hW i hi => by
      obtain ⟨b, o, e, hbw, hc⟩ := h (by intro h0; rw [h0] at hn; simp at hn; omega)
      refine ⟨b, o, e, fun c u hu => ?_⟩
      rw [hW.cell (p := ⟨b, o + i * 5 + c, none⟩) hbw, Nat.add_assoc]
      exact hc _ _ (cs_get l i (by omega) c u hu)
    obtain ⟨P, hP⟩ : ∃ P, P = plc l k := ⟨_, rfl⟩
    obtain ⟨E, hE⟩ : ∃ E, E = plcE l k := ⟨_, rfl⟩
    rw [← hP] at HPL HG HH HB
    rw [← hE] at HPL HH
    have CK := Lib.hid (HCK.out W1 B1.out)
    clear h hn hkz HCK hc ri hP hE
    cases hk : hasK l k with
    | false =>
      rw [hk] at HG HH
      have HE : E = P := HH.out
      have HG2 : Hid (getE l k = (e0, false)) := HG.out
      rw [HG2.out]
      have eqq : ((P : Int) == (P : Int)) = true := by simp
      subst HE
      clear HG HH hk HB
      simp only [encE, e0] at hW1 CL ⊢
      go_enter Tryd.func8, Tryd.ntmps8
      go_wp2_with fail
      rw [← hW1]
      clear hW1
      refine CK.out.mono ?_
      rintro e w2 ⟨rfl, g2⟩
      have B2 : Hid (Below w.heap.size w w2) := Sh.below_chain B1.out g2.below
      have CP := Lib.hid (HPL.out w2 B2.out)
      have lt2 : w.heap.size < w2.heap.size := Nat.lt_of_lt_of_le lt1 g2.below.size
      have G2 : Hid (w2.heap[w.heap.size]? = some (.cells #[.string ⟨#[]⟩, .int .i64 0, .int .i64 0, .int .i64 0, .int .i64 0] 31 (0, 0))) := (g2.below.block w.heap.size lt1).trans CL.out
      clear g2 lt1
      go_wp2_with (first
        | (go_at_call 24; refine CP.out.mono ?_; rintro e w3 ⟨rfl, g3⟩
           have B3 : Hid (Below w.heap.size w w3) := Sh.below_chain B2.out g3.below
           have G3 : Hid (w3.heap[w.heap.size]? = some (.cells #[.string ⟨#[]⟩, .int .i64 0, .int .i64 0, .int .i64 0, .int .i64 0] 31 (0, 0))) := (g3.below.block w.heap.size lt2).trans G2.out
           have K4 := Lib.hid (setRow_heap w3 w.heap.size #[.string ⟨#[]⟩, .int .i64 0, .int .i64 0, .int .i64 0, .int .i64 0] #[.string ⟨#[]⟩, .int .i64 0, .int .i64 0, .int .i64 0, .int .i64 0] 31 (0, 0) G3.out)
           have B4 : Hid (Below w.heap.size w (w3.setRow w.heap.size #[.string ⟨#[]⟩, .int .i64 0, .int .i64 0, .int .i64 0, .int .i64 0])) := below_row B3.out (Nat.le_refl _) _
           clear g3)
        | (with_reducible refine wpList_store_row rfl 31 (.tmp 4) (.tmp 21) rfl w.heap.size #[.string ⟨#[]⟩, .int .i64 0, .int .i64 0, .int .i64 0, .int .i64 0] rfl rfl 31 #[.string ⟨#[]⟩, .int .i64 0, .int .i64 0, .int .i64 0, .int .i64 0] G3.out (size31 _ _ _ _ _) (sz5 _ _ _ _ _ _ _ _ _ _) (all5 _ _ _ _ _) ?_))
      exact bodyPost_ret (results_ent rfl _ _ w.heap.size e0 _ rfl rfl K4.out) rfl ⟨B4.out, rfl⟩
    | true =>
      rw [hk] at HG HH
      have HE : E = P + 1 := HH.out
      have hPn := HB.out hk
      have HG2 : Hid (getE l k = (l[P]!, true)) := HG.out
      rw [HG2.out]
      obtain ⟨x, hx⟩ : ∃ x, x = l[P]! := ⟨_, rfl⟩
      rw [← hx]
      have HX := Lib.hid hx
      have eqq : ((P : Int) == ((P + 1 : Nat) : Int)) = false := by simp; omega
      have eqq2 : ((P : Int) == (P : Int) + 1) = false := by simp; omega
      have q1 : (0 : Int) ≤ (P : Int) := by omega
      have q2 : (P : Int) < (n : Int) := by omega
      subst HE
      clear HG HH hk HB hx
      obtain ⟨key, p1, p2, p3, p4⟩ := x
      simp only [encE, e0] at hW1 CL ⊢
      go_enter Tryd.func8, Tryd.ntmps8
      go_wp2_with fail
      rw [← hW1]
      clear hW1
      refine CK.out.mono ?_
      rintro e w2 ⟨rfl, g2⟩
      have B2 : Hid (Below w.heap.size w w2) := Sh.below_chain B1.out g2.below
      have CP := Lib.hid (HPL.out w2 B2.out)
      have lt2 : w.heap.size < w2.heap.size := Nat.lt_of_lt_of_le lt1 g2.below.size
      have G2 : Hid (w2.heap[w.heap.size]? = some (.cells #[.string ⟨#[]⟩, .int .i64 0, .int .i64 0, .int .i64 0, .int .i64 0] 31 (0, 0))) := (g2.below.block w.heap.size lt1).trans CL.out
      obtain ⟨b, o, rfl, _⟩ := HC.out w2 B2.out P hPn
      clear g2 lt1
      go_wp2_with (first
        | (go_at_call 24; refine CP.out.mono ?_; rintro e w3 ⟨rfl, g3⟩
           have B3 : Hid (Below w.heap.size w w3) := Sh.below_chain B2.out g3.below
           have G3 : Hid (w3.heap[w.heap.size]? = some (.cells #[.string ⟨#[]⟩, .int .i64 0, .int .i64 0, .int .i64 0, .int .i64 0] 31 (0, 0))) := (g3.below.block w.heap.size lt2).trans G2.out
           have K4 := Lib.hid (setRow_heap w3 w.heap.size #[.string ⟨#[]⟩, .int .i64 0, .int .i64 0, .int .i64 0, .int .i64 0] #[.string key, .int .i64 p1, .int .i64 p2, .int .i64 p3, .int .i64 p4] 31 (0, 0) G3.out)
           have B4 : Hid (Below w.heap.size w (w3.setRow w.heap.size #[.string key, .int .i64 p1, .int .i64 p2, .int .i64 p3, .int .i64 p4])) := below_row B3.out (Nat.le_refl _) _
           obtain ⟨b', o', e', hc5⟩ := HC.out w3 B3.out P hPn
           injection e' with e'
           injection e' with e1 e2
           subst e1 e2
           rw [← HX.out] at hc5
           have x0 := hc5 0 _ rfl
           have x1 := hc5 1 _ rfl
           have x2 := hc5 2 _ rfl
           have x3 := hc5 3 _ rfl
           have x4 := hc5 4 _ rfl
           simp only [Nat.add_zero] at x0
           clear g3 hc5)
        | (with_reducible refine wpList_store_row rfl 31 (.tmp 4) (.tmp 25) rfl w.heap.size #[.string key, .int .i64 p1, .int .i64 p2, .int .i64 p3, .int .i64 p4] rfl rfl 31 #[.string ⟨#[]⟩, .int .i64 0, .int .i64 0, .int .i64 0, .int .i64 0] G3.out (size31 _ _ _ _ _) (sz5 _ _ _ _ _ _ _ _ _ _) (all5 _ _ _ _ _) ?_))
      exact bodyPost_ret (results_ent rfl _ _ w.heap.size ⟨key, p1, p2, p3, p4⟩ _ rfl rfl K4.out) rfl ⟨B4.out, rfl⟩
end Go.Proofs.YtpcmminokhmkjaaDoor.St
namespace Go.Proofs.YtpcmminokhmkjaaDoor.St
open Go.Shelf Go.RowKit Go.Lib Go.Sort
set_option maxRecDepth 100000 in
theorem clone_nil (w : World) : Calls Tryd.prog 32 #[.slice none 0 0] w fun e w' => w' = w ∧ e = .returned (.slice none 0 0) := by
  have k0 := fun (W : World) (a : Option Addr) (n c : Nat) => Lib.run_eql_slice_nil (P := Tryd.prog) W 22 31 a n c 0 0 Tryd.underlying22
  go_enter Tryd.func32, Tryd.ntmps32
  go_wp2_with fail
  go_ret
  exact ⟨rfl, rfl⟩
set_option maxHeartbeats 1000000 in
set_option maxRecDepth 100000 in
theorem exchanged_nil (x : Ent) (w : World) (hz : x.key.size ≤ 9223372036854775807) (hok : okE x = false) :
    Calls Tryd.prog 33 #[.slice none 0 0, .int .i64 0, .int .i64 0, .agg (encE x).toArray] w fun e w' => Below w.heap.size w w' ∧ e = .returned (.tuple #[.slice none 0 0, .int .i64 2]) := by
  have R11 := Lib.hid (fun W => rightG x hz W)
  rw [hok] at R11
  have CN := Lib.hid (fun W => clone_nil W)
  obtain ⟨W1, hW1⟩ : ∃ W1, W1 = w.alloc (.cells (encE x).toArray 31) := ⟨_, rfl⟩
  have B1 : Hid (Below w.heap.size w W1) := by rw [hW1]; exact (Below.refl _ _).alloc (Nat.le_refl _) _
  have CL : Hid (∀ j u, (encE x)[j]? = some u → W1.cell? ⟨w.heap.size, j, none⟩ = some u) := fun j u hj => by
    rw [hW1, World.cell?_alloc_new]
    simpa using hj
  obtain ⟨key, p1, p2, p3, p4⟩ := x
  simp only [encE] at hW1 CL R11 ⊢
  have y0 : W1.cell? ⟨w.heap.size, 0, none⟩ = some (.string key) := CL.out 0 _ rfl
  have y1 : W1.cell? ⟨w.heap.size, 1, none⟩ = some (.int .i64 p1) := CL.out 1 _ rfl
  have y2 : W1.cell? ⟨w.heap.size, 2, none⟩ = some (.int .i64 p2) := CL.out 2 _ rfl
  have y3 : W1.cell? ⟨w.heap.size, 3, none⟩ = some (.int .i64 p3) := CL.out 3 _ rfl
  have y4 : W1.cell? ⟨w.heap.size, 4, none⟩ = some (.int .i64 p4) := CL.out 4 _ rfl
  clear hz hok
  go_enter Tryd.func33, Tryd.ntmps33
  go_wp2_with fail
  rw [← hW1]
  clear hW1
  refine (R11.out _).mono ?_
  rintro e w2 ⟨rfl, g2⟩
  have B2 : Hid (Below w.heap.size w w2) := Sh.below_chain B1.out g2.below
  go_wp2_with (go_at_call 32; refine (CN.out _).mono ?_; rintro e w3 ⟨rfl, rfl⟩)
  exact bodyPost_ret (results_tmp2 rfl _ _ _) rfl ⟨B2.out, rfl⟩
set_option maxHeartbeats 1000000 in
set_option maxRecDepth 100000 in
theorem put_nil (x : Ent) (w : World) (hz : x.key.size ≤ 9223372036854775807) (hok : okE x = false) :
    Calls Tryd.prog 13 #[.slice none 0 0, .agg (encE x).toArray] w fun e w' => Below w.heap.size w w' ∧ e = .returned (.tuple #[.slice none 0 0, .int .i64 2]) := by
  have CK := Lib.hid (fun W => check_none none 0 W)
  have PL := Lib.hid (fun W => place_any none 0 0 [] x.key W (erw_nil _ _) rfl (by omega) List.Pairwise.nil)
  have EX := Lib.hid (fun W => exchanged_nil x W hz hok)
  obtain ⟨W1, hW1⟩ : ∃ W1, W1 = w.alloc (.cells (encE x).toArray 31) := ⟨_, rfl⟩
  have B1 : Hid (Below w.heap.size w W1) := by rw [hW1]; exact (Below.refl _ _).alloc (Nat.le_refl _) _
  have lt1 : w.heap.size < W1.heap.size := by rw [hW1]; simp
  have CL : Hid (∀ j u, (encE x)[j]? = some u → W1.cell? ⟨w.heap.size, j, none⟩ = some u) := fun j u hj => by
    rw [hW1, World.cell?_alloc_new]
    simpa using hj
  have HP : plc [] x.key = 0 := rfl
  have HE : plcE [] x.key = 0 := by simp [plcE, plc]
  rw [HP, HE] at PL
  obtain ⟨key, p1, p2, p3, p4⟩ := x
  simp only [encE] at hW1 CL EX ⊢
  simp only [Int.natCast_zero] at PL
  have y0 : W1.cell? ⟨w.heap.size, 0, none⟩ = some (.string key) := CL.out 0 _ rfl
  clear hz hok HP HE
  go_enter Tryd.func13, Tryd.ntmps13
  go_wp2_with (first
    | (go_at_call 5; rw [← hW1]; clear hW1; refine (CK.out _).mono ?_; rintro e w2 ⟨rfl, rfl⟩)
    | (go_at_call 24; refine (PL.out _).mono ?_; rintro e w3 ⟨rfl, g3⟩
       have B3 : Hid (Below w.heap.size w w3) := Sh.below_chain B1.out g3.below
       have cc : ∀ j u, (encE ⟨key, p1, p2, p3, p4⟩)[j]? = some u → w3.cell? ⟨w.heap.size, j, none⟩ = some u := fun j u hj => (g3.below.cell (p := ⟨w.heap.size, j, none⟩) lt1).trans (CL.out j u hj)
       have z0 := cc 0 _ rfl
       have z1 := cc 1 _ rfl
       have z2 := cc 2 _ rfl
       have z3 := cc 3 _ rfl
       have z4 := cc 4 _ rfl
       clear g3 cc)
    | (go_at_call 33; refine (EX.out _).mono ?_; rintro e w4 ⟨b4, rfl⟩
       have B5 : Hid (Below w.heap.size w w4) := Sh.below_chain B3.out b4
       clear b4))
  exact bodyPost_ret (results_tmp2 rfl _ _ _) rfl ⟨B5.out, rfl⟩
theorem hasK_E (l : List Ent) (k : ByteArray) : plcE l k = if hasK l k then plc l k + 1 else plc l k := by
  by_cases hh : plc l k < l.length ∧ l[plc l k]!.key = k
  · rw [plcE, hasK, if_pos hh, decide_eq_true hh, if_pos rfl]
  · rw [plcE, hasK, if_neg hh, decide_eq_false hh]
    rfl
/-- an entry with another number of those that refer -/
def refE (e : Ent) (by_ : Int) : Ent := { e with refs := e.refs + by_ }
set_option maxHeartbeats 4000000 in
set_option maxRecDepth 100000 in
theorem refer_ok (ao : Option Addr) (n cap : Nat) (l : List Ent) (k : ByteArray) (r : Int) (w : World) (h : Erw w ao l) (hn : l.length = n) (hcap : n ≤ cap) (hcap2 : cap ≤ 9223372036854775807) (hnone : ao = none → cap = 0) (hn2 : n ≤ 500000000000) (hkz : Kz l) (hc : chk l = true) (hk : hasK l k = true) (hok : okE (refE l[plc l k]! r) = true) (hwr : IntKind.i64.wrap (l[plc l k]!.refs + r) = l[plc l k]!.refs + r) :
    Calls Tryd.prog 14 #[.slice ao n cap, .string k, .int .i64 r] w fun e w' => Below w.heap.size w w' ∧ ∃ v, e = .returned (.tuple #[v, .int .i64 0]) ∧ OwnE w' w.heap.size v (l.take (plc l k) ++ [refE l[plc l k]! r] ++ l.drop (plcE l k)) := by
  have ri := chk_ri hc
  have HCK : Hid (∀ W, Below w.heap.size w W → Calls Tryd.prog 5 #[.slice ao n cap] W fun e w' => e = .returned (.bool true) ∧ Gw W w') := fun W hW => by
    have := check_any ao n cap l W (h.below hW) hn (by omega) (by rw [← hn]; exact hkz)
    rwa [hc] at this
  have hPn : plc l k < n := by have := of_decide_eq_true hk; omega
  have HPL : Hid (∀ W, Below w.heap.size w W → Calls Tryd.prog 24 #[.slice ao n cap, .string k, .func (.func 25) #[] #[]] W fun e w' => e = .returned (.tuple #[.int .i64 (plc l k), .int .i64 (plcE l k)]) ∧ Gw W w') := fun W hW => place_any ao n cap l k W (h.below hW) hn (by omega) ri
  have HEX : Hid (∀ W, Below w.heap.size w W → Calls Tryd.prog 33 #[.slice ao n cap, .int .i64 (plc l k), .int .i64 (plcE l k), .agg (encE (refE l[plc l k]! r)).toArray] W fun e w' => Below W.heap.size W w' ∧ ∃ v, e = .returned (.tuple #[v, .int .i64 0]) ∧ OwnE w' W.heap.size v (l.take (plc l k) ++ [refE l[plc l k]! r] ++ l.drop (plcE l k))) := fun W hW =>
    exchanged_ok ao n cap (plc l k) (plcE l k) l (refE l[plc l k]! r) W (h.below hW) hn hcap hcap2 hnone hn2 (by omega) (by rw [← hn]; exact plcE_le _ _) (by show l[plc l k]!.key.size ≤ _; exact hkz _ (by omega)) hok
  have HC : Hid (∀ W, Below w.heap.size w W → ∀ i, i < n → ∃ b o, ao = some ⟨b, o, none⟩ ∧ ∀ c u, (encE l[i]!)[c]? = some u → W.cell? ⟨b, o + i * 5 + c, none⟩ = some u) := fun W hW i hi => by
    obtain ⟨b, o, e, hbw, hc⟩ := h (by intro h0; rw [h0] at hn; simp at hn; omega)
    refine ⟨b, o, e, fun c u hu => ?_⟩
    rw [hW.cell (p := ⟨b, o + i * 5 + c, none⟩) hbw, Nat.add_assoc]
    exact hc _ _ (cs_get l i (by omega) c u hu)
  have hE := hasK_E l k
  rw [hk, if_pos rfl] at hE
  rw [hE] at HPL HEX ⊢
  generalize l.take (plc l k) ++ [refE l[plc l k]! r] ++ l.drop (plc l k + 1) = L at HEX ⊢
  obtain ⟨P, hP⟩ : ∃ P, P = plc l k := ⟨_, rfl⟩
  rw [← hP] at HPL HEX hPn hwr
  have ec : ((P + 1 : Nat) : Int) = (P : Int) + 1 := by omega
  rw [ec] at HEX HPL
  clear ec
  have eqq2 : ((P : Int) == (P : Int) + 1) = false := by simp; omega
  have q1 : (0 : Int) ≤ (P : Int) := by omega
  have q2 : (P : Int) < (n : Int) := by omega
  obtain ⟨x, hx⟩ : ∃ x, x = l[P]! := ⟨_, rfl⟩
  rw [← hx] at HEX hwr
  have HX := Lib.hid hx
  clear h hn hcap hcap2 hnone hn2 hkz hc hk hok ri hP hE hx
  have CK := Lib.hid (HCK.out w (Below.refl _ _))
  obtain ⟨key, p1, p2, p3, p4⟩ := x
  simp only [refE, encE] at HEX hwr
  go_enter Tryd.func14, Tryd.ntmps14
  go_wp2_with (first
    | (go_at_call 5; refine CK.out.mono ?_; rintro e w2 ⟨rfl, g2⟩
       have B2 : Hid (Below w.heap.size w w2) := g2.below
       have CP := Lib.hid (HPL.out w2 B2.out)
       clear g2)
    | (go_at_call 24; refine CP.out.mono ?_; rintro e w3 ⟨rfl, g3⟩
       have B3 : Hid (Below w.heap.size w w3) := Sh.below_chain B2.out g3.below
       obtain ⟨b, o, rfl, hc5⟩ := HC.out w3 B3.out P hPn
       rw [← HX.out] at hc5
       have x0 := hc5 0 _ rfl
       have x1 := hc5 1 _ rfl
       have x2 := hc5 2 _ rfl
       have x3 := hc5 3 _ rfl
       have x4 := hc5 4 _ rfl
       simp only [Nat.add_zero] at x0
       clear g3 hc5)
    | (go_at_call 33
       have B4 : Hid (Below w.heap.size w (w3.alloc (.cells #[.string key, .int .i64 p1, .int .i64 p2, .int .i64 p3, .int .i64 (p4 + r)] 31))) := B3.out.alloc B3.out.size _
       refine (HEX.out _ B4.out).mono ?_; rintro e w4 ⟨b4, v, rfl, hown⟩
       have B5 : Hid (Below w.heap.size w w4) := Sh.below_chain B4.out b4
       have O5 := Lib.hid (hown.low B4.out.size)
       clear b4 hown))
  exact bodyPost_ret (results_tmp2 rfl _ _ _) rfl ⟨B5.out, _, rfl, O5.out⟩
/-- two slices in a block -/
theorem rws2 (W : World) (k : Nat) (a1 a3 : Option Addr) (r1 r3 : List Ent) (n1 n3 c1 c3 : Nat) (h1 : Erw W a1 r1) (h3 : Erw W a3 r3) (e1 : r1.length = n1) (e3 : r3.length = n3)
    (z1 : a1 = none → c1 = 0) (z3 : a3 = none → c3 = 0) (g0 : W.cell? ⟨k, 0, none⟩ = some (.slice a1 n1 c1)) (g2 : W.cell? ⟨k, 1, none⟩ = some (.slice a3 n3 c3)) : Rws W k 0 [r1, r3] := by
  intro j hj
  subst e1 e3
  rcases (show j = 0 ∨ j = 1 by simp at hj; omega) with rfl | rfl
  · exact ⟨a1, c1, g0, h1, z1⟩
  · exact ⟨a3, c3, g2, h3, z3⟩
set_option maxHeartbeats 4000000 in
set_option maxRecDepth 100000 in
theorem del_ok (ao : Option Addr) (n cap : Nat) (l : List Ent) (k : ByteArray) (w : World) (h : Erw w ao l) (hn : l.length = n) (hcap : n ≤ cap) (_ : cap ≤ 9223372036854775807) (hnone : ao = none → cap = 0) (hn2 : n ≤ 500000000000) (hkz : Kz l) (hc : chk l = true) (hk : hasK l k = true) :
    Calls Tryd.prog 15 #[.slice ao n cap, .string k] w fun e w' => Below w.heap.size w w' ∧ ∃ v, e = .returned (.tuple #[v, .int .i64 0]) ∧ OwnE w' w.heap.size v (l.take (plc l k) ++ l.drop (plc l k + 1)) := by
  have ri := chk_ri hc
  have HL := Lib.hid h
  have HN := Lib.hid hn
  have CK : Hid (Calls Tryd.prog 5 #[.slice ao n cap] w fun e w' => e = .returned (.bool true) ∧ Gw w w') := by
    have := check_any ao n cap l w h hn (by omega) (by rw [← hn]; exact hkz)
    rwa [hc] at this
  have hPn : plc l k < n := by have := of_decide_eq_true hk; omega
  have HPL : Hid (∀ W, Below w.heap.size w W → Calls Tryd.prog 24 #[.slice ao n cap, .string k, .func (.func 25) #[] #[]] W fun e w' => e = .returned (.tuple #[.int .i64 (plc l k), .int .i64 (plcE l k)]) ∧ Gw W w') := fun W hW => place_any ao n cap l k W (h.below hW) hn (by omega) ri
  have hE := hasK_E l k
  rw [hk, if_pos rfl] at hE
  rw [hE] at HPL
  obtain ⟨P, hP⟩ : ∃ P, P = plc l k := ⟨_, rfl⟩
  rw [← hP] at HPL hPn ⊢
  have ec : ((P + 1 : Nat) : Int) = (P : Int) + 1 := by omega
  have s1 := fun W => slice_toE ao n cap P (by omega) W
  obtain ⟨af, s2, sf, nf⟩ := slice_fromE ao n cap (P + 1) l (by omega) hn.symm hnone hcap
  rw [ec] at HPL s2
  clear ec
  have eqq2 : ((P : Int) == (P : Int) + 1) = false := by simp; omega
  have q1 : (0 : Int) ≤ (P : Int) := by omega
  have SF := Lib.hid sf
  obtain ⟨L, hL⟩ : ∃ L, L = [l.take P, l.drop (P + 1)] := ⟨_, rfl⟩
  have HLF : Hid (L.flatten = l.take P ++ l.drop (P + 1)) := by show _ = _; rw [hL]; simp
  have HRW : Hid (∀ W k, Erw W ao l → W.cell? ⟨k, 0, none⟩ = some (.slice ao P cap) → W.cell? ⟨k, 1, none⟩ = some (.slice af (n - (P + 1)) (cap - (P + 1))) → Rws W k 0 L) := fun W k h1 g0 g2 => by
    rw [hL]
    exact rws2 W k ao af _ _ P (n - (P + 1)) cap (cap - (P + 1)) (h1.take P (by have := HN.out; omega)) (SF.out W h1) (by rw [List.length_take]; have := HN.out; omega) (by rw [List.length_drop]; have := HN.out; omega) hnone nf g0 g2
  have HLL : Hid (L.length = 2) := by show _ = _; rw [hL]; rfl
  have HLB : Hid (L.flatten.length ≤ 1099511627776) := by show _ ≤ _; rw [HLF.out, List.length_append, List.length_take, List.length_drop]; have := HN.out; omega
  rw [← HLF.out]
  clear h hn hkz hc hk ri hP hE sf hL
  generalize hm1 : n - (P + 1) = m1 at *
  generalize hm2 : cap - (P + 1) = m2 at *
  clear hm1 hm2
  have q3 : (0 : Int) ≤ (P : Int) + 1 := by omega
  go_enter Tryd.func15, Tryd.ntmps15
  go_wp2_with (first
    | (go_at_call 5; refine CK.out.mono ?_; rintro e w2 ⟨rfl, g2⟩
       have B2 : Hid (Below w.heap.size w w2) := g2.below
       have CP := Lib.hid (HPL.out w2 B2.out)
       clear g2)
    | (go_at_call 24; refine CP.out.mono ?_; rintro e w3 ⟨rfl, g3⟩
       have B3 : Hid (Below w.heap.size w w3) := Sh.below_chain B2.out g3.below
       clear g3))
  obtain ⟨W3, hW3⟩ : ∃ W3, W3 = (w3.alloc (.cells #[.slice ao P cap, .slice af m1 m2] 22)).drew := ⟨_, rfl⟩
  have b3 : Below w3.heap.size w3 W3 := by rw [hW3]; exact ((Below.refl _ w3).alloc (Nat.le_refl _) _).drew
  have B4 : Hid (Below w.heap.size w W3) := Sh.below_chain B3.out b3
  have RW3 : Rws W3 w3.heap.size 0 L := by
    refine HRW.out W3 w3.heap.size (HL.out.below B4.out) ?_ ?_
    all_goals
      rw [hW3]
      have hh := World.cell?_alloc_new w3 #[Value.slice ao P cap, .slice af m1 m2] 22
      exact hh _
  have CC := Lib.hid (concat_any w3.heap.size 0 2 2 L W3 RW3 HLL.out (by omega) (by rw [hW3]; simp) HLB.out)
  clear RW3 b3
  rw [hW3] at CC B4
  clear hW3
  go_region_held3 (fun _ => True)
    (first | go_keep | trivial)
    ((first
      | (go_at_call 18; refine CC.out.mono ?_; rintro e w4 ⟨b4, v, rfl, hown⟩)))
  have B5 : Hid (Below w.heap.size w w4) := Sh.below_chain B4.out b4
  have O5 := Lib.hid (hown.low B4.out.size)
  clear b4 hown
  go_wp2_with fail
  exact bodyPost_ret (results_tmp2 rfl _ _ _) rfl ⟨B5.out, _, rfl, O5.out⟩
set_option maxHeartbeats 4000000 in
set_option maxRecDepth 100000 in
theorem del_none (ao : Option Addr) (n cap : Nat) (l : List Ent) (k : ByteArray) (w : World) (h : Erw w ao l) (hn : l.length = n) (hn2 : n ≤ 500000000000) (hkz : Kz l) (hc : chk l = true) (hk : hasK l k = false) :
    Calls Tryd.prog 15 #[.slice ao n cap, .string k] w fun e w' => Below w.heap.size w w' ∧ e = .returned (.tuple #[.slice none 0 0, .int .i64 140]) := by
  have ri := chk_ri hc
  have CK : Hid (Calls Tryd.prog 5 #[.slice ao n cap] w fun e w' => e = .returned (.bool true) ∧ Gw w w') := by
    have := check_any ao n cap l w h hn (by omega) (by rw [← hn]; exact hkz)
    rwa [hc] at this
  have HPL : Hid (∀ W, Below w.heap.size w W → Calls Tryd.prog 24 #[.slice ao n cap, .string k, .func (.func 25) #[] #[]] W fun e w' => e = .returned (.tuple #[.int .i64 (plc l k), .int .i64 (plcE l k)]) ∧ Gw W w') := fun W hW => place_any ao n cap l k W (h.below hW) hn (by omega) ri
  have hE := hasK_E l k
  rw [hk] at hE
  have hE2 : plcE l k = plc l k := hE
  rw [hE2] at HPL
  generalize plc l k = P at HPL
  clear h hn hkz hc hk ri hE hE2
  have eqq : ((P : Int) == (P : Int)) = true := by simp
  go_enter Tryd.func15, Tryd.ntmps15
  go_wp2_with (first
    | (go_at_call 5; refine CK.out.mono ?_; rintro e w2 ⟨rfl, g2⟩
       have B2 : Hid (Below w.heap.size w w2) := g2.below
       have CP := Lib.hid (HPL.out w2 B2.out)
       clear g2)
    | (go_at_call 24; refine CP.out.mono ?_; rintro e w3 ⟨rfl, g3⟩
       have B3 : Hid (Below w.heap.size w w3) := Sh.below_chain B2.out g3.below
       clear g3))
  exact bodyPost_ret (results_tmp2 rfl _ _ _) rfl ⟨B3.out, rfl⟩
set_option maxRecDepth 100000 in
theorem info3z (W : World) : (Instr.makeSlice 45 (.int .i64 3) (.int .i64 3)).run Tryd.prog W = .ok (.slice (some ⟨W.heap.size, 0, none⟩) 3 3) (W.alloc (.cells #[.int .i64 0, .int .i64 0, .int .i64 0] 3)) := by
  have info3 : (Tryd.prog.info? 3).map (fun i => (i.zero, i.size, i.bytes)) = some (some (.int .i64 0), 1, 8) := by kernel_rfl
  obtain ⟨i0, hi, hz0, hz1, hz2⟩ := info_parts info3
  rw [run_make W 45 3 i0 (.int .i64 0) Tryd.underlying45 hi hz0 .i64 .i64 3 3 (by omega) (by omega) (by rw [hz2]; omega) (by omega), hz1]
  have e : madeCells (Value.int .i64 0).cells (Int.toNat 3 * 1) = #[.int .i64 0, .int .i64 0, .int .i64 0] := by kernel_rfl
  rw [e]
  rfl
set_option maxHeartbeats 4000000 in
set_option maxRecDepth 100000 in
/-- the bytes of a row of one entry, of three packs -/
theorem bytes_one (b o cap : Nat) (key : ByteArray) (w : World) (h : Erw w (some ⟨b, o, none⟩) [⟨key, 2, 0, 9, 3⟩]) (hz : key.size ≤ 9223372036854775807) (hc : chk [⟨key, 2, 0, 9, 3⟩] = true) :
    Calls Tryd.prog 17 #[.slice (some ⟨b, o, none⟩) 1 cap, .int .i64 3] w fun e w' => Below w.heap.size w w' ∧ ∃ g, e = .returned (.slice (some ⟨g, 0, none⟩) 3 3) ∧ w.heap.size ≤ g ∧ w'.heap[g]? = some (.cells #[.int .i64 0, .int .i64 0, .int .i64 9] 3 (0, 0)) := by
  have CK : Hid (Calls Tryd.prog 5 #[.slice (some ⟨b, o, none⟩) 1 cap] w fun e w' => e = .returned (.bool true) ∧ Gw w w') := by
    have := check_any (some ⟨b, o, none⟩) 1 cap [⟨key, 2, 0, 9, 3⟩] w h rfl (by omega) (fun i hi => by rw [show i = 0 by omega]; exact hz)
    rwa [hc] at this
  obtain ⟨b', o', e', hbw, hcell⟩ := h (by simp)
  injection e' with e'
  injection e' with e1 e2
  subst e1 e2
  have HC : Hid (∀ W, Below w.heap.size w W → ∀ c u, (encE ⟨key, 2, 0, 9, 3⟩)[c]? = some u → W.cell? ⟨b, o + c, none⟩ = some u) := fun W hW c u hu => by
    rw [hW.cell (p := ⟨b, o + c, none⟩) hbw]
    exact hcell _ _ (by simpa [cs] using hu)
  have BW := Lib.hid hbw
  clear h hz hc hcell
  have zM : ∀ W, (Instr.makeSlice 45 (.int .i64 3) (.int .i64 3)).run Tryd.prog W = .ok (.slice (some ⟨W.heap.size, 0, none⟩) 3 3) (W.alloc (.cells #[.int .i64 0, .int .i64 0, .int .i64 0] 3)) := info3z
  go_enter Tryd.func17, Tryd.ntmps17
  go_wp2_with (go_at_call 5; refine CK.out.mono ?_; rintro e w2 ⟨rfl, g2⟩)
  obtain ⟨W3, hW3⟩ : ∃ W3, W3 = w2.alloc (.cells #[.int .i64 0, .int .i64 0, .int .i64 0] 3) := ⟨_, rfl⟩
  have b3 : Below w2.heap.size w2 W3 := by rw [hW3]; exact (Below.refl _ w2).alloc (Nat.le_refl _) _
  have B3 : Hid (Below w.heap.size w W3) := Sh.below_chain g2.below b3
  have GG : Hid (W3.heap[w2.heap.size]? = some (.cells #[.int .i64 0, .int .i64 0, .int .i64 0] 3 (0, 0))) := by rw [hW3]; exact heap_alloc_new _ _
  have LG : Hid (w.heap.size ≤ w2.heap.size) := g2.below.size
  generalize w2.heap.size = g at GG LG ⊢
  rw [← hW3]
  clear hW3 b3 g2 w2
  have x0 := HC.out W3 B3.out 0 _ rfl
  have x1 := HC.out W3 B3.out 1 _ rfl
  have x2 := HC.out W3 B3.out 2 _ rfl
  have x3 := HC.out W3 B3.out 3 _ rfl
  have x4 := HC.out W3 B3.out 4 _ rfl
  simp only [Nat.add_zero] at x0
  have hgl : g < W3.heap.size := (Array.getElem?_eq_some_iff.1 GG.out).1
  obtain ⟨W4, hW4⟩ : ∃ W4, W4 = W3.alloc (.cells #[.string key, .int .i64 2, .int .i64 0, .int .i64 9, .int .i64 3] 31) := ⟨_, rfl⟩
  have B4 : Hid (Below w.heap.size w W4) := by rw [hW4]; exact B3.out.alloc B3.out.size _
  have G4 : Hid (W4.heap[g]? = some (.cells #[.int .i64 0, .int .i64 0, .int .i64 0] 3 (0, 0))) := by
    show _ = _
    rw [hW4, Below.heap_alloc _ _ _ hgl]
    exact GG.out
  have y1 : W4.cell? ⟨W3.heap.size, 1, none⟩ = some (.int .i64 2) := by rw [hW4, World.cell?_alloc_new]; rfl
  have y3 : W4.cell? ⟨W3.heap.size, 3, none⟩ = some (.int .i64 9) := by rw [hW4, World.cell?_alloc_new]; rfl
  have a2 : W4.cell? ⟨g, 2, none⟩ = some (.int .i64 0) := by simp [World.cell?, G4.out]
  have f2 : W4.frozen? ⟨g, 2, none⟩ = false := by simp [World.frozen?, G4.out]
  refine wp_loop_rounds 2 ?_
  rw [rounds_succ]
  go_wp2_with fail
  rw [← hW4]
  clear hW4
  have hset : Hid (((W4.setCell ⟨g, 2, none⟩ (.int .i64 9)).drew).heap[g]? = some (.cells #[.int .i64 0, .int .i64 0, .int .i64 9] 3 (0, 0))) := by
    show (W4.setCell ⟨g, 2, none⟩ (.int .i64 9)).heap[g]? = _
    simp [World.setCell, Array.getElem?_modify, G4.out]
  have BS : Hid (Below w.heap.size w ((W4.setCell ⟨g, 2, none⟩ (.int .i64 9)).drew)) := (B4.out.setCell LG.out _).drew
  go_region
  all_goals
    generalize (W4.setCell ⟨g, 2, none⟩ (.int .i64 9)).drew = W5 at hset BS ⊢
    go_wp2_with fail
    rw [rounds_succ]
    go_wp2_with fail
    go_ret
    exact ⟨BS.out, g, rfl, LG.out, hset.out⟩
end Go.Proofs.YtpcmminokhmkjaaDoor.St
namespace Go.Proofs.YtpcmminokhmkjaaDoor.St
open Go.Shelf Go.RowKit Go.Lib Go.Sort
set_option maxHeartbeats 4000000 in
set_option maxRecDepth 100000 in
/-- three ints, twice -/
theorem ints_three (g1 g2 c1 c2 : Nat) (a b c : Int) (w : World) (h1 : w.heap[g1]? = some (.cells #[.int .i64 a, .int .i64 b, .int .i64 c] 3 (0, 0))) (h2 : w.heap[g2]? = some (.cells #[.int .i64 a, .int .i64 b, .int .i64 c] 3 (0, 0))) :
    Calls Tryd.prog 16 #[.slice (some ⟨g1, 0, none⟩) 3 c1, .slice (some ⟨g2, 0, none⟩) 3 c2] w fun e w' => e = .returned (.bool true) ∧ Below w.heap.size w w' := by
  have mixed : Tryd.prog.follows Departure.mixedOrders = true := by kernel_rfl
  have l1 : g1 < w.heap.size := (Array.getElem?_eq_some_iff.1 h1).1
  have l2 : g2 < w.heap.size := (Array.getElem?_eq_some_iff.1 h2).1
  have HC1 : Hid (∀ W, Below w.heap.size w W → W.cell? ⟨g1, 0, none⟩ = some (.int .i64 a) ∧ W.cell? ⟨g1, 1, none⟩ = some (.int .i64 b) ∧ W.cell? ⟨g1, 2, none⟩ = some (.int .i64 c)) := fun W hW => by
    have := (hW.block g1 l1).trans h1
    simp [World.cell?, this]
  have HC2 : Hid (∀ W, Below w.heap.size w W → W.cell? ⟨g2, 0, none⟩ = some (.int .i64 a) ∧ W.cell? ⟨g2, 1, none⟩ = some (.int .i64 b) ∧ W.cell? ⟨g2, 2, none⟩ = some (.int .i64 c)) := fun W hW => by
    have := (hW.block g2 l2).trans h2
    simp [World.cell?, this]
  have G0 : Hid (Below w.heap.size w w) := Below.refl _ _
  clear h1 h2 l1 l2
  go_enter Tryd.func16, Tryd.ntmps16
  go_wp2_with fail
  go_loopg [5] 3 (fun kx s5 wr => ∃ (i : Nat), s5 = .int .i64 i ∧ i ≤ 3 ∧ 3 - i ≤ kx ∧ Hid (Below w.heap.size w wr))
  case atStart => exact ⟨0, rfl, Nat.zero_le _, by omega, G0⟩
  case round =>
    clear G0
    obtain ⟨i, rfl, hin, hkx, G1⟩ := hrel
    have F1 : Hid (∀ N os, (Lz.loo wr N os).cell? ⟨g1, 0, none⟩ = some (.int .i64 a) ∧ (Lz.loo wr N os).cell? ⟨g1, 1, none⟩ = some (.int .i64 b) ∧ (Lz.loo wr N os).cell? ⟨g1, 2, none⟩ = some (.int .i64 c)) := fun N os => HC1.out _ (Below.trans G1.out ((Lz.loo_below wr N os).mono G1.out.size))
    have F2 : Hid (∀ N os, (Lz.loo wr N os).cell? ⟨g2, 0, none⟩ = some (.int .i64 a) ∧ (Lz.loo wr N os).cell? ⟨g2, 1, none⟩ = some (.int .i64 b) ∧ (Lz.loo wr N os).cell? ⟨g2, 2, none⟩ = some (.int .i64 c)) := fun N os => HC2.out _ (Below.trans G1.out ((Lz.loo_below wr N os).mono G1.out.size))
    have FIN : ∀ d os, Hid (Below w.heap.size w (Lz.loo wr d os)) := fun d os => Below.trans G1.out ((Lz.loo_below wr d os).mono G1.out.size)
    have FIN := Lib.hid FIN
    rcases (show i = 0 ∨ i = 1 ∨ i = 2 ∨ i = 3 by omega) with rfl | rfl | rfl | rfl
    · have x0 := fun N os => (F1.out N os).1
      have y0 := fun N os => (F2.out N os).1
      go_wp2_with fail
      refine Lz.wp_region_quiet_loo mixed (by kernel_rfl) ?_
      repeat (quiet_step (fail))
      refine wpQuiet_nil ?_
      intro _ hw'
      obtain ⟨⟨nq, osq⟩, hw''⟩ := hw'
      subst hw''
      have G2 := FIN.out nq osq
      clear x0 y0 F1 F2
      generalize Lz.loo wr nq osq = w2 at G2 ⊢
      go_wp2_with fail
      go_roundg 2
      case measure => omega
      case rel => exact ⟨1, by go_num, by omega, Nat.le_refl _, G2⟩
    · have x0 := fun N os => (F1.out N os).2.1
      have y0 := fun N os => (F2.out N os).2.1
      go_wp2_with fail
      refine Lz.wp_region_quiet_loo mixed (by kernel_rfl) ?_
      repeat (quiet_step (fail))
      refine wpQuiet_nil ?_
      intro _ hw'
      obtain ⟨⟨nq, osq⟩, hw''⟩ := hw'
      subst hw''
      have G2 := FIN.out nq osq
      clear x0 y0 F1 F2
      generalize Lz.loo wr nq osq = w2 at G2 ⊢
      go_wp2_with fail
      go_roundg 1
      case measure => omega
      case rel => exact ⟨2, by go_num, by omega, Nat.le_refl _, G2⟩
    · have x0 := fun N os => (F1.out N os).2.2
      have y0 := fun N os => (F2.out N os).2.2
      go_wp2_with fail
      refine Lz.wp_region_quiet_loo mixed (by kernel_rfl) ?_
      repeat (quiet_step (fail))
      refine wpQuiet_nil ?_
      intro _ hw'
      obtain ⟨⟨nq, osq⟩, hw''⟩ := hw'
      subst hw''
      have G2 := FIN.out nq osq
      clear x0 y0 F1 F2
      generalize Lz.loo wr nq osq = w2 at G2 ⊢
      go_wp2_with fail
      go_roundg 0
      case measure => omega
      case rel => exact ⟨3, by go_num, by omega, Nat.le_refl _, G2⟩
    · go_wp2_with fail
      go_ret
      exact ⟨rfl, G1.out⟩
end Go.Proofs.YtpcmminokhmkjaaDoor.St
namespace Go.Proofs.YtpcmminokhmkjaaDoor.St
open Go.Shelf Go.RowKit Go.Lib Go.Sort
set_option maxHeartbeats 8000000 in
set_option maxRecDepth 100000 in
theorem merge_no (k o n cap j : Nat) (rows : List (List Ent)) (w : World) (h : Rws w k o rows) (hn : rows.length = n) (hn2 : n ≤ 1099511627776) (hk : k < w.heap.size) (hbig : rows.flatten.length ≤ 1099511627776) (hkey : ∀ i (hi : i < rows.length) q, q < (rows[i]).length → (rows[i])[q]!.key.size ≤ 9223372036854775807) (hj : j < n) (hall : ∀ i (hi : i < rows.length), i < j → chk rows[i] = true) (hbad : ∀ hi : j < rows.length, chk rows[j] = false) :
    Calls Tryd.prog 7 #[.slice (some ⟨k, o, none⟩) n cap] w fun e w' => Below w.heap.size w w' ∧ e = .returned (.tuple #[.slice none 0 0, .int .i64 2]) := by
  have HLEN : Hid (∀ i (hi : i < rows.length), (rows[i]).length ≤ 1099511627776) := fun i hi => by
    have := rows_take rows i hi
    have h2 := rows_len rows (i + 1)
    rw [this, List.length_append] at h2
    omega
  have HCK : Hid (∀ W, Below w.heap.size w W → ∀ i (hi : i < n), i ≤ j → ∃ ao m c, W.cell? ⟨k, o + i, none⟩ = some (.slice ao m c) ∧ ∀ W2, Below W.heap.size W W2 → Calls Tryd.prog 5 #[.slice ao m c] W2 fun e w' => e = .returned (.bool (decide (i < j))) ∧ Gw W2 w') := fun W hW i hi hij => by
    have hi' : i < rows.length := by omega
    obtain ⟨ao, c, h1, h2, h3⟩ := (h.below hk hW) i hi'
    refine ⟨ao, (rows[i]).length, c, h1, fun W2 hW2 => ?_⟩
    have := check_any ao (rows[i]).length c rows[i] W2 (h2.below hW2) rfl (HLEN.out i hi') (fun q hq => hkey i hi' q hq)
    rcases Nat.lt_or_eq_of_le hij with c1 | rfl
    · rw [decide_eq_true c1]
      rwa [hall i hi' c1] at this
    · rw [decide_eq_false (Nat.lt_irrefl _)]
      rwa [hbad hi'] at this
  have B0 : Hid (Below w.heap.size w w) := Below.refl _ _
  clear h hn hkey hall HLEN hbad hbig hk
  go_enter Tryd.func7, Tryd.ntmps7
  go_wp2_with fail
  go_loopg [9] n (fun kx s9 wr => ∃ (i : Nat), s9 = .int .i64 i ∧ i ≤ j ∧ n - i ≤ kx ∧ Hid (Below w.heap.size w wr))
  case atStart => exact ⟨0, rfl, Nat.zero_le _, by omega, B0⟩
  case round =>
    clear B0
    obtain ⟨i, rfl, hij, hkx, B1⟩ := hrel
    have hltz : (i : Int) < (n : Int) := by omega
    have pa1 : (0 : Int) ≤ (i : Int) := by omega
    obtain ⟨ao, m, c, f0, C5⟩ := HCK.out wr B1.out i (by omega) hij
    have CH0 := C5 wr (Below.refl _ _)
    clear C5
    by_cases hlt : i < j
    · rw [decide_eq_true hlt] at CH0
      have CH := Lib.hid CH0
      clear CH0
      go_wp2_with (go_at_call 5; refine CH.out.mono ?_; rintro e w2 ⟨rfl, g2⟩)
      have B2 : Hid (Below w.heap.size w w2) := Sh.below_chain B1.out g2.below
      clear g2 CH f0
      go_wp2_with fail
      go_roundg (n - (i + 1))
      case measure => omega
      case rel => exact ⟨i + 1, by go_num, by omega, Nat.le_refl _, B2⟩
    · rw [decide_eq_false hlt] at CH0
      have CH := Lib.hid CH0
      clear CH0
      go_wp2_with (go_at_call 5; refine CH.out.mono ?_; rintro e w2 ⟨rfl, g2⟩)
      have B2 : Hid (Below w.heap.size w w2) := Sh.below_chain B1.out g2.below
      clear g2 CH f0
      go_wp2_with fail
      exact bodyPost_ret (results_tmp2 rfl _ _ _) rfl ⟨B2.out, rfl⟩
set_option maxRecDepth 100000 in
theorem merge_none (p : Option Addr) (cap : Nat) (w : World) : Calls Tryd.prog 7 #[.slice p 0 cap] w fun e w' => w' = w ∧ e = .returned (.tuple #[.slice none 0 0, .int .i64 0]) := by
  have CC := Lib.hid (fun W => concat_none p cap W)
  have SN := Lib.hid (fun W => sort_none none 0 (.func (.func 20) #[] #[]) W)
  have CN := Lib.hid (fun W => compact_none none 0 (.func (.func 23) #[] #[]) W)
  go_enter Tryd.func7, Tryd.ntmps7
  go_wp2
  refine wp_loop_rounds 1 ?_
  rw [rounds_succ]
  go_wp2_with (first | (go_at_call 18; refine (CC.out _).mono ?_; rintro e w3 ⟨rfl, rfl⟩) | (go_at_call 19; refine (SN.out _).mono ?_; rintro e w3 ⟨rfl, rfl⟩) | (go_at_call 22; refine (CN.out _).mono ?_; rintro e w3 ⟨rfl, rfl⟩))
  exact bodyPost_ret (results_tmp2 rfl _ _ _) rfl ⟨rfl, rfl⟩
end Go.Proofs.YtpcmminokhmkjaaDoor.St
