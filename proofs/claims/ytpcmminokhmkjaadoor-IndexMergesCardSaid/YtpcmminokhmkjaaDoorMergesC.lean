/-
  THE STATEMENT IndexMerges (P14.2): of all runs, right or not, the package's Merge answers the row and the error that the document's own does; what came in reads behind the call as before.
  Conditions: none.
-/
import Derived.Test.YtpcmminokhmkjaaDoorTg
import Derived.Deep.Slices
import Derived.ChangeArms
import Derived.Test.YtpcmminokhmkjaaDoorTie
import Derived.Test.YtpcmminokhmkjaaDoorCards
import Derived.OpenShut
import Derived.LaidMore
import Derived.LaidHandle
import Derived.Lay
import Derived.Stop.Joined
import Derived.Deep.DeepHandedRow
import Derived.MakeChecks
namespace Go.Proofs.YtpcmminokhmkjaaDoor.St
open Go.Shelf Go.RowKit Go.Lib Go.Sort
set_option maxRecDepth 100000 in
theorem refmerge_none (p : Option Addr) (cap : Nat) (w : World) : Calls Tryd.prog 10 #[.slice p 0 cap] w fun e w' => w' = w ∧ e = .returned (.tuple #[.slice none 0 0, .int .i64 0]) := by
  go_enter Tryd.func10, Tryd.ntmps10
  go_wp2
  refine wp_loop_rounds 1 ?_
  rw [rounds_succ]
  go_wp2
  exact bodyPost_ret (results_tmp2 rfl _ _ _) rfl ⟨rfl, rfl⟩
/-- runs as a value -/
def Runs (w : World) (v : Value) (rows : List (List Ent)) : Prop :=
  ∃ ao cap, v = .slice ao rows.length cap ∧ rows.length ≤ 9223372036854775807 ∧ (rows ≠ [] → ∃ k o, ao = some ⟨k, o, none⟩ ∧ k < w.heap.size ∧ Rws w k o rows) ∧ ∀ i (hi : i < rows.length) q, q < (rows[i]).length → (rows[i])[q]!.key.size ≤ 9223372036854775807
theorem Runs.below {w w' : World} {v : Value} {rows : List (List Ent)} (h : Runs w v rows) (hb : Below w.heap.size w w') : Runs w' v rows := by
  obtain ⟨ao, cap, h1, h2, h3, h4⟩ := h
  refine ⟨ao, cap, h1, h2, fun hne => ?_, h4⟩
  obtain ⟨k, o, e, hk, hr⟩ := h3 hne
  exact ⟨k, o, e, Nat.lt_of_lt_of_le hk hb.size, hr.below hk hb⟩
/-- what either Merge answers -/
def AnsM (w : World) (rows : List (List Ent)) (e : Ending) (w' : World) : Prop :=
  Below w.heap.size w w' ∧ ∃ ao c l, e = .returned (.tuple #[.slice ao (l : List Ent).length c, .int .i64 (if rows.all chk then 0 else 2)]) ∧ l = (if rows.all chk then mrg rows else []) ∧ Erw w' ao l ∧ (ao = none → c = 0) ∧ l.length ≤ c ∧ c ≤ 9223372036854775807
theorem all_chk (rows : List (List Ent)) : rows.all chk = true ↔ ∀ i (hi : i < rows.length), chk rows[i] = true := by
  rw [List.all_eq_true]
  constructor
  · intro h i hi
    exact h _ (List.getElem_mem hi)
  · intro h x hx
    obtain ⟨i, hi, rfl⟩ := List.getElem_of_mem hx
    exact h i hi
theorem merge_any (v : Value) (rows : List (List Ent)) (w : World) (h : Runs w v rows) (hl : rows.length ≤ 1099511627776) (hbig : rows.flatten.length ≤ 400000000000) : Calls Tryd.prog 7 #[v] w (AnsM w rows) := by
  obtain ⟨ao, cap, rfl, _, hr, hkey⟩ := h
  cases hrows : rows with
  | nil =>
    refine (merge_none ao cap w).mono ?_
    rintro e w' ⟨rfl, rfl⟩
    exact ⟨Below.refl _ _, none, 0, [], rfl, rfl, erw_nil _ _, fun _ => rfl, Nat.le_refl _, by omega⟩
  | cons x r =>
    obtain ⟨k, o, rfl, hk, hR⟩ := hr (by rw [hrows]; simp)
    rw [← hrows]
    by_cases hc : rows.all chk = true
    · refine (merge_ok k o rows.length cap rows w hR rfl hl hk (by omega) hkey ((all_chk rows).1 hc)).mono ?_
      rintro e w' ⟨hB, ao, l, c, rfl, hm, he, hn, h1, h2⟩
      have := mrg_is hm (fun x hx => List.all_eq_true.1 hc x hx)
      subst this
      refine ⟨hB, ao, c, _, ?_, ?_, he, hn, h1, h2⟩
      · rw [if_pos hc]
      · rw [if_pos hc]
    · have hex : ∃ j, ∃ hj : j < rows.length, chk rows[j] = false := by
        by_cases hh : ∃ j, ∃ hj : j < rows.length, chk rows[j] = false
        · exact hh
        · refine absurd ((all_chk rows).2 fun i hi => ?_) hc
          cases hq : chk rows[i] with
          | true => rfl
          | false => exact absurd ⟨i, hi, hq⟩ hh
      obtain ⟨j, ⟨hj, hbad⟩, hmin⟩ := least hex
      refine (merge_no k o rows.length cap j rows w hR rfl hl hk (by omega) hkey hj (fun i hi hij => ?_) (fun _ => hbad)).mono ?_
      · cases hq : chk rows[i] with
        | true => rfl
        | false => exact absurd ⟨hi, hq⟩ (hmin i hij)
      · rintro e w' ⟨hB, rfl⟩
        exact ⟨hB, none, 0, [], by rw [if_neg hc]; rfl, by rw [if_neg hc], erw_nil _ _, fun _ => rfl, Nat.le_refl _, by omega⟩
theorem refmerge_any (v : Value) (rows : List (List Ent)) (w : World) (h : Runs w v rows) (hl : rows.length ≤ 1099511627776) (hbig : rows.flatten.length ≤ 400000000000) : Calls Tryd.prog 10 #[v] w (AnsM w rows) := by
  obtain ⟨ao, cap, rfl, _, hr, hkey⟩ := h
  cases hrows : rows with
  | nil =>
    refine (refmerge_none ao cap w).mono ?_
    rintro e w' ⟨rfl, rfl⟩
    exact ⟨Below.refl _ _, none, 0, [], rfl, rfl, erw_nil _ _, fun _ => rfl, Nat.le_refl _, by omega⟩
  | cons x r =>
    obtain ⟨k, o, rfl, hk, hR⟩ := hr (by rw [hrows]; simp)
    rw [← hrows]
    refine (refmerge_some k o rows.length cap rows w hR rfl hl hk hbig hkey).mono ?_
    rintro e w' ⟨hB, ⟨hall, v, rfl, hown⟩ | ⟨⟨j, hj, hbad⟩, rfl⟩⟩
    · have hc := (all_chk rows).2 hall
      obtain ⟨ao2, c2, rfl, h1, h2, h3, h4⟩ := own_erw hown
      exact ⟨hB, ao2, c2, mrg rows, by rw [if_pos hc], by rw [if_pos hc], h3, h4, h1, h2⟩
    · have hc : ¬ rows.all chk = true := fun hh => by
        have := (all_chk rows).1 hh j hj
        rw [hbad] at this
        cases this
      exact ⟨hB, none, 0, [], by rw [if_neg hc]; rfl, by rw [if_neg hc], erw_nil _ _, fun _ => rfl, Nat.le_refl _, by omega⟩
theorem flat_len : ∀ (rows : List (List Ent)) (m : Nat), (∀ x ∈ rows, x.length ≤ m) → rows.flatten.length ≤ rows.length * m
  | [], _, _ => by simp
  | x :: r, m, h => by
    have h1 := flat_len r m fun y hy => h y (List.mem_cons_of_mem _ hy)
    have h2 := h x (by simp)
    rw [List.flatten_cons, List.length_append, List.length_cons, Nat.add_mul]
    omega
set_option maxHeartbeats 8000000 in
set_option maxRecDepth 100000 in
theorem merges_law (v : Value) (rows : List (List Ent)) (w : World) (h : Runs w v rows) : Calls Tryd.prog 4 #[v] w fun e w' => e = .returned (.bool true) ∧ Below w.heap.size w w' := by
  have HR := Lib.hid (fun (W : World) (hW : Below w.heap.size w W) => h.below hW)
  have HH := Lib.hid (fun W => heads_any W)
  have B0 : Hid (Below w.heap.size w w) := Below.refl _ _
  obtain ⟨ao, cap, rfl, hl, hr, _⟩ := h
  obtain ⟨n, hn⟩ : ∃ n, n = rows.length := ⟨_, rfl⟩
  rw [← hn] at hl ⊢
  have HN := Lib.hid hn
  have HRW : Hid (∀ W, Below w.heap.size w W → ∀ i (hi : i < rows.length), ∃ k o a2 c2, ao = some ⟨k, o, none⟩ ∧ W.cell? ⟨k, o + i, none⟩ = some (.slice a2 (rows[i]).length c2)) := fun W hW i hi => by
    obtain ⟨k, o, e, hk, hR⟩ := hr (by intro h0; rw [h0] at hi; simp at hi)
    obtain ⟨a2, c2, h1, _⟩ := hR.below hk hW i hi
    exact ⟨k, o, a2, c2, e, h1⟩
  clear hr hn
  by_cases hbig : n > 10
  · have hd : decide ((n : Int) > 10) = true := decide_eq_true (by omega)
    have hd2 : decide (n > 10) = true := decide_eq_true hbig
    have hd3 : decide ((10 : Int) < (n : Int)) = true := decide_eq_true (by omega)
    have hd4 : (10 : Int) < (n : Int) := by omega
    go_enter Tryd.func4, Tryd.ntmps4
    go_wp2_with (go_at_call 6; refine (HH.out _).mono ?_; rintro e w2 ⟨rfl, b2⟩)
    go_ret
    exact ⟨rfl, b2⟩
  · have hd : decide ((n : Int) > 10) = false := decide_eq_false (by omega)
    have hd2 : decide (n > 10) = false := decide_eq_false hbig
    have hd4 : ¬ (10 : Int) < (n : Int) := by omega
    have L0 : Hid (∀ q (hq : q < rows.length), q < 0 → (rows[q]).length ≤ 100) := fun q hq h0 => absurd h0 (Nat.not_lt_zero _)
    go_enter Tryd.func4, Tryd.ntmps4
    go_wp2_with fail
    go_loopg [3] n (fun kx s3 wr => ∃ (i : Nat), s3 = .int .i64 i ∧ i ≤ n ∧ n - i ≤ kx ∧ Hid (Below w.heap.size w wr) ∧ Hid (∀ q (hq : q < rows.length), q < i → (rows[q]).length ≤ 100))
    case atStart => exact ⟨0, rfl, Nat.zero_le _, by omega, B0, L0⟩
    case round =>
      clear B0 L0
      obtain ⟨i, rfl, hin, hkx, B1, L1⟩ := hrel
      by_cases hlt : i < n
      · have hltz : (i : Int) < (n : Int) := by omega
        have pa1 : (0 : Int) ≤ (i : Int) := by omega
        have hi : i < rows.length := by rw [← HN.out]; exact hlt
        obtain ⟨k, o, a2, c2, rfl, f0⟩ := HRW.out wr B1.out i hi
        obtain ⟨m, hm⟩ : ∃ m, m = (rows[i]).length := ⟨_, rfl⟩
        rw [← hm] at f0
        have HM := Lib.hid hm
        clear hm
        by_cases hmb : m > 100
        · have hm4 : (100 : Int) < (m : Int) := by omega
          go_wp2_with (go_at_call 6; refine (HH.out _).mono ?_; rintro e w2 ⟨rfl, b2⟩)
          go_ret
          exact ⟨rfl, Sh.below_chain B1.out b2⟩
        · have hm4 : ¬ (100 : Int) < (m : Int) := by omega
          have L2 : Hid (∀ q (hq : q < rows.length), q < i + 1 → (rows[q]).length ≤ 100) := fun q hq h1 => by
            rcases Nat.lt_or_eq_of_le (Nat.le_of_lt_succ h1) with c | rfl
            · exact L1.out q hq c
            · rw [← HM.out]; omega
          go_wp2_with fail
          go_roundg (n - (i + 1))
          case measure => omega
          case rel => exact ⟨i + 1, by go_num, by omega, Nat.le_refl _, B1, L2⟩
      · have hltz : ¬ (i : Int) < (n : Int) := by omega
        have hflat : rows.flatten.length ≤ 400000000000 := by
          have := flat_len rows 100 fun x hx => by
            obtain ⟨q, hq, rfl⟩ := List.getElem_of_mem hx
            exact L1.out q hq (by have := HN.out; omega)
          have hn10 : rows.length ≤ 10 := by have := HN.out; omega
          have : rows.length * 100 ≤ 1000 := by omega
          omega
        have hn40 : rows.length ≤ 1099511627776 := by have := HN.out; omega
        have CM := merge_any _ rows wr (HR.out wr B1.out) hn40 hflat
        have CR : Hid (∀ W, Below w.heap.size w W → Calls Tryd.prog 10 #[.slice ao n cap] W (AnsM W rows)) := fun W hW => by
          have := refmerge_any _ rows W (HR.out W hW) hn40 hflat
          rwa [← HN.out] at this
        rw [← HN.out] at CM
        have CMH := Lib.hid CM
        obtain ⟨E, hE⟩ : ∃ E : Int, E = (if rows.all chk then 0 else 2) := ⟨_, rfl⟩
        obtain ⟨L, hL⟩ : ∃ L : List Ent, L = (if rows.all chk then mrg rows else []) := ⟨_, rfl⟩
        unfold AnsM at CMH CR
        rw [← hE, ← hL] at CMH CR
        have HL : Hid (L.length ≤ 400000000000) := by
          show L.length ≤ _
          rw [hL]
          split
          · exact Nat.le_trans (mrg_len rows) hflat
          · simp
        clear CM hE hL hflat hn40
        go_wp2_with (first
          | (go_at_call 7; refine CMH.out.mono ?_; rintro e w2 ⟨b2, a1, c1, l1, rfl, rfl, e1, _⟩
             have B2 : Hid (Below w.heap.size w w2) := Sh.below_chain B1.out b2
             have E1 := Lib.hid e1
             have CR2 := Lib.hid (CR.out w2 B2.out)
             clear b2 e1 CMH)
          | (go_at_call 10; refine CR2.out.mono ?_; rintro e w3 ⟨b3, a2, c2, l2, rfl, rfl, e2, _⟩
             have B3 : Hid (Below w.heap.size w w3) := Sh.below_chain B2.out b3
             have CS0 := same_any a1 a2 l2.length c1 c2 l2 l2 w3 (E1.out.below b3) e2 rfl rfl (by have := HL.out; omega)
             rw [decide_eq_true rfl] at CS0
             have CS := Lib.hid CS0
             clear b3 e2 CR2 CS0)
          | (go_at_call 9; refine CS.out.mono ?_; rintro e w4 ⟨rfl, g4⟩
             have B4 : Hid (Below w.heap.size w w4) := Sh.below_chain B3.out g4.below
             clear g4 CS)
          | (go_at_call 6; refine (HH.out _).mono ?_; rintro e w5 ⟨rfl, b5⟩))
        go_ret
        exact ⟨rfl, Sh.below_chain B4.out b5⟩
end Go.Proofs.YtpcmminokhmkjaaDoor.St
namespace Go.Proofs.YtpcmminokhmkjaaDoor.St
open Go.ChangeShapes Go.WideShapes Go.ChangeAt Go.RowKit Go.Lib
theorem cells31 : Tryd.prog.cellsOf 31 = 5 := by kernel_rfl
theorem cells23 : Tryd.prog.cellsOf 23 = 1 := by kernel_rfl
theorem cells3i : Tryd.prog.cellsOf 3 = 1 := by kernel_rfl
theorem cells22 : Tryd.prog.cellsOf 22 = 1 := by kernel_rfl
section
variable {H : Type} {enc : TypeId × Value → H}
set_option maxRecDepth 100000 in
theorem open_ent1 {W : World} {n : Nat} {cs : List Value} {y : DataW H × List MemPlace} (hlen : cs.length = 5) (h : DataW.trod enc Tryd.prog W 0 (fun _ => true) true n 31 cs = some y) :
    ∃ x : Ent, cs = encE x ∧ x.key.size ≤ 9223372036854775807 := by
  match cs, hlen with
  | [c0, c1, c2, c3, c4], _ =>
    obtain ⟨xs, n, _, hx, _, hlen, hfs⟩ := DataW.trod_struct Tryd.underlying31 h
    match xs, hlen with
    | [y0, y1, y2, y3, y4], _ =>
      have f0 : DataW.trod enc Tryd.prog W 0 (fun _ => true) true n 23 [c0] = some y0 := by
        have h := hfs 0 _ rfl
        change DataW.trod enc Tryd.prog W 0 (fun _ => true) true n 23 (List.take (Tryd.prog.cellsOf 23) (List.drop 0 [c0, c1, c2, c3, c4])) = some y0 at h
        rw [cells23] at h
        exact h
      have f1 : DataW.trod enc Tryd.prog W 0 (fun _ => true) true n 3 [c1] = some y1 := by
        have h := hfs 1 _ rfl
        change DataW.trod enc Tryd.prog W 0 (fun _ => true) true n 3 (List.take (Tryd.prog.cellsOf 3) (List.drop 1 [c0, c1, c2, c3, c4])) = some y1 at h
        rw [cells3i] at h
        exact h
      have f2 : DataW.trod enc Tryd.prog W 0 (fun _ => true) true n 3 [c2] = some y2 := by
        have h := hfs 2 _ rfl
        change DataW.trod enc Tryd.prog W 0 (fun _ => true) true n 3 (List.take (Tryd.prog.cellsOf 3) (List.drop 2 [c0, c1, c2, c3, c4])) = some y2 at h
        rw [cells3i] at h
        exact h
      have f3 : DataW.trod enc Tryd.prog W 0 (fun _ => true) true n 3 [c3] = some y3 := by
        have h := hfs 3 _ rfl
        change DataW.trod enc Tryd.prog W 0 (fun _ => true) true n 3 (List.take (Tryd.prog.cellsOf 3) (List.drop 3 [c0, c1, c2, c3, c4])) = some y3 at h
        rw [cells3i] at h
        exact h
      have f4 : DataW.trod enc Tryd.prog W 0 (fun _ => true) true n 3 [c4] = some y4 := by
        have h := hfs 4 _ rfl
        change DataW.trod enc Tryd.prog W 0 (fun _ => true) true n 3 (List.take (Tryd.prog.cellsOf 3) (List.drop 4 [c0, c1, c2, c3, c4])) = some y4 at h
        rw [cells3i] at h
        exact h
      obtain ⟨t, e0, _, ht⟩ := DataW.trod_string Tryd.underlying23 f0
      obtain ⟨g1, e1, _, _⟩ := DataW.trod_int Tryd.underlying3 f1
      obtain ⟨g2, e2, _, _⟩ := DataW.trod_int Tryd.underlying3 f2
      obtain ⟨g3, e3, _, _⟩ := DataW.trod_int Tryd.underlying3 f3
      obtain ⟨g4, e4, _, _⟩ := DataW.trod_int Tryd.underlying3 f4
      simp only [List.cons.injEq, and_true] at e0 e1 e2 e3 e4
      subst e0 e1 e2 e3 e4
      exact ⟨⟨t, g1, g2, g3, g4⟩, rfl, by unfold maxLen at ht; exact ht⟩
set_option maxRecDepth 100000 in
/-- a row of entries -/
theorem open_ents {W : World} {fuel : Nat} {cs : List Value} {y : DataW H × List MemPlace} (hf : DataW.trod enc Tryd.prog W 0 (fun _ => true) true fuel 22 cs = some y) (hlt : ∀ x ∈ y.2, x.block < W.heap.size) :
    ∃ (ao : Option Addr) (L : List Ent) (c : Nat), cs = [.slice ao L.length c] ∧ L.length ≤ c ∧ c ≤ 9223372036854775807 ∧ (ao = none → c = 0) ∧ Erw W ao L ∧ Kz L := by
  rcases Go.Deep.open_slice Tryd.underlying22 hf with ⟨rfl, rfl⟩ | ⟨a, len, cap, m, n, D, Pl, rfl, _, hl, hm, hmm, rfl, hel⟩
  · exact ⟨none, [], 0, rfl, Nat.le_refl _, by omega, fun _ => rfl, erw_nil _ _, fun i hi => absurd hi (Nat.not_lt_zero _)⟩
  · simp only [if_true] at hmm
    subst hmm
    rw [cells31] at hlt
    have each : ∀ i, i < m → ∃ x : Ent, (∀ j, j < 5 → W.cell? (a.add (i * 5 + j)) = (encE x)[j]?) ∧ x.key.size ≤ 9223372036854775807 := fun i hi => by
      obtain ⟨cs', h1, h2⟩ := hel i hi
      rw [cells31] at h1
      obtain ⟨_, hlen, hcell⟩ := World.cells?_some h1
      obtain ⟨x, hx1, hx2⟩ := open_ent1 hlen h2
      refine ⟨x, fun j hj => ?_, hx2⟩
      have hcj := hcell j hj
      rw [Go.Deep.add_add] at hcj
      rw [← hx1]
      exact hcj
    obtain ⟨q, hq⟩ := Go.Deep.choose_lt each
    have hll : ((List.range len).map q).length = len := by simp
    have hget : ∀ i, i < len → ((List.range len).map q)[i]! = q i := fun i hi => by
      rw [getElem!_pos _ i (by rw [hll]; exact hi)]
      simp
    refine ⟨some a, (List.range len).map q, m, by rw [hll], by rw [hll]; exact hl, by unfold maxLen at hm; exact hm, (fun hh => by cases hh), fun hne => ?_, fun i hi => ?_⟩
    · have hl0 : 0 < len := by
        rcases Nat.eq_zero_or_pos len with h0 | h0
        · exact absurd (by rw [h0]; rfl) hne
        · exact h0
      obtain ⟨b, off, spot⟩ := a
      have hspot : spot = none := by
        have h1 := (hq 0 (by omega)).1 0 (by omega)
        exact by simpa [Addr.add] using World.cell?_spot h1
      subst hspot
      refine ⟨b, off, rfl, hlt (.cell b off) (List.mem_append_left _ (MemPlace.mem_row.2 ⟨0, by omega, by simp⟩)), fun j u hj => ?_⟩
      have hjl : j < (cs ((List.range len).map q)).length := (List.getElem?_eq_some_iff.1 hj).1
      rw [cs_len, hll] at hjl
      have h5 := (hq (j / 5) (by omega)).1 (j % 5) (by omega)
      rw [add_plain] at h5
      have hc := cs_get ((List.range len).map q) (j / 5) (by rw [hll]; omega) (j % 5) ((encE (q (j / 5)))[j % 5]!) (by
        rw [hget _ (by omega), getElem!_pos (encE (q (j / 5))) (j % 5) (by show j % 5 < 5; omega)]
        exact List.getElem?_eq_getElem _)
      rw [Nat.div_add_mod' j 5] at hc h5
      rw [hc] at hj
      rw [h5, ← hj, getElem!_pos (encE (q (j / 5))) (j % 5) (by show j % 5 < 5; omega)]
      exact List.getElem?_eq_getElem _
    · rw [hll] at hi
      rw [hget i hi]
      exact (hq i (by omega)).2
set_option maxRecDepth 100000 in
theorem open_row {W : World} {base : Nat} {v : Value} {d : DataW H} {p : List MemPlace} (hval : Value.okWide Tryd.prog W .any base 22 v) (h : DataW.Trod enc Tryd.prog W 0 (fun _ => true) true 22 v d p) (hlt : ∀ x ∈ p, x.block < W.heap.size) :
    ∃ (ao : Option Addr) (L : List Ent) (c : Nat), v = .slice ao L.length c ∧ L.length ≤ c ∧ c ≤ 9223372036854775807 ∧ (ao = none → c = 0) ∧ Erw W ao L ∧ Kz L := by
  obtain ⟨a0, len, cap, rfl⟩ := okWide_slice Tryd.underlying22 hval
  obtain ⟨fuel, hf⟩ := h
  obtain ⟨ao, L, c, hcs, h1, h2, h3, h4, h5⟩ := open_ents hf hlt
  simp [Value.cells] at hcs
  obtain ⟨rfl, rfl, rfl⟩ := hcs
  exact ⟨a0, L, cap, rfl, h1, h2, h3, h4, h5⟩
set_option maxRecDepth 100000 in
theorem open_runs {W : World} {base : Nat} {v : Value} {d : DataW H} {p : List MemPlace} (hval : Value.okWide Tryd.prog W .any base 29 v) (h : DataW.Trod enc Tryd.prog W 0 (fun _ => true) true 29 v d p) (hlt : ∀ x ∈ p, x.block < W.heap.size) :
    ∃ rows : List (List Ent), Runs W v rows := by
  obtain ⟨a0, len, cap, rfl⟩ := okWide_slice Tryd.underlying29 hval
  obtain ⟨fuel, hf⟩ := h
  rcases Go.Deep.open_slice1 Tryd.underlying29 cells22 hf with ⟨hcs, hx⟩ | ⟨a, len', cap', m, n, V, D, Pl, hcs, _, hl, hm, hmm, hx, hel⟩
  · simp [Value.cells] at hcs
    obtain ⟨rfl, rfl, rfl⟩ := hcs
    exact ⟨[], none, 0, rfl, by simp, fun h => absurd rfl h, fun i hi => absurd hi (Nat.not_lt_zero _)⟩
  · simp [Value.cells] at hcs
    obtain ⟨rfl, rfl, rfl⟩ := hcs
    simp only [if_true] at hmm
    subst hmm
    simp only [Prod.mk.injEq] at hx
    obtain ⟨rfl, rfl⟩ := hx
    have each : ∀ i, i < m → ∃ L : List Ent, ∃ ao c, W.cell? (a.add i) = some (.slice ao L.length c) ∧ (ao = none → c = 0) ∧ Erw W ao L ∧ Kz L := fun i hi => by
      obtain ⟨h1, h2⟩ := hel i hi
      obtain ⟨ao, L, c, e, _, _, h3, h4, h5⟩ := open_ents h2 (fun x hx => hlt x (List.mem_append_right _ (List.mem_flatMap.2 ⟨i, List.mem_range.2 hi, hx⟩)))
      injection e with e
      exact ⟨L, ao, c, by rw [h1, e], h3, h4, h5⟩
    obtain ⟨q, hq⟩ := Go.Deep.choose_lt each
    have hll : ((List.range len).map q).length = len := by simp
    have hget : ∀ i (hi : i < ((List.range len).map q).length), ((List.range len).map q)[i] = q i := fun i hi => by simp
    refine ⟨(List.range len).map q, some a, m, by rw [hll], by rw [hll]; unfold maxLen at hm; omega, fun hne => ?_, fun i hi j hj => ?_⟩
    · have hl0 : 0 < len := by
        rcases Nat.eq_zero_or_pos len with h0 | h0
        · exact absurd (by rw [h0]; rfl) hne
        · exact h0
      obtain ⟨b, off, spot⟩ := a
      have hspot : spot = none := by
        obtain ⟨_, _, h1, _⟩ := hq 0 (by omega)
        exact by simpa [Addr.add] using World.cell?_spot h1
      subst hspot
      refine ⟨b, off, rfl, hlt (.cell b off) (List.mem_append_left _ (MemPlace.mem_row.2 ⟨0, by omega, by simp⟩)), fun j hj => ?_⟩
      rw [hget j hj]
      obtain ⟨ao, c, h1, h2, h3, _⟩ := hq j (by rw [hll] at hj; omega)
      rw [add_plain] at h1
      exact ⟨ao, c, h1, h3, h2⟩
    · rw [hget i hi] at hj ⊢
      obtain ⟨_, _, _, _, _, h4⟩ := hq i (by rw [hll] at hi; omega)
      exact h4 j hj
end
end Go.Proofs.YtpcmminokhmkjaaDoor.St
namespace Go.Proofs.YtpcmminokhmkjaaDoor.St
open Go.ChangeShapes Go.WideShapes Go.ChangeAt Go.RowKit Go.Lib
theorem own : ownKnob Tryd.prog.godebug = none := by kernel_rfl
/-- what each row lists -/
def laidAll : List (String × DataW Unit) := Rows.indexMergesRow.laid
/-- a state that meets it -/
noncomputable def laidWorld (os : Os) : World := World.laidAll Tryd.prog os laidAll
theorem laidWorld_os (os : Os) : (laidWorld os).os = os := World.laidAll_os _ _ _
theorem laidWorld_met (os : Os) (args : Array Value) : laidMetH Tryd.prog laidAll ((laidWorld os).forCall (fun _ _ => 0) ⟨#[], args, []⟩).memory := by
  rw [MakeChecks.laidMetH_plain _ _ _ (by kernel_rfl)]
  exact laidMet_laidAll _ (by kernel_rfl) (by kernel_rfl)
theorem laidWorld_shaped (os : Os) (args : Array Value) : ((laidWorld os).forCall (fun _ _ => 0) ⟨#[], args, []⟩).Shaped Tryd.prog :=
  World.shaped_of_ZipB (by kernel_rfl) (by kernel_rfl)
theorem laidOut : laidOutB Tryd.prog = true := by kernel_rfl
end Go.Proofs.YtpcmminokhmkjaaDoor.St
namespace Go.Proofs.YtpcmminokhmkjaaDoor
namespace St
open Sh Go.ChangeShapes Go.WideShapes Go.ChangeAt Go.RowKit Go.Lib Go.ChangeMaps

set_option maxRecDepth 100000 in
/-- WHAT THE WALK GIVES, for every argument and every memory that meets the row. -/
theorem indexMerges_contract (H : Type) (enc : TypeId × Value → H) (W : World) (base : Nat) (args : Array Value) (ds gs : List (DataW H)) (before : List MemPlace)
    (hval : ∀ (j : Nat) t v, Tryd.f4.params[j]? = some t → args[j]? = some v → Value.okWide Tryd.prog W .any base t v)
    (hW : DataW.Whole enc Tryd.prog Tryd.f4.params.toList Rows.indexMergesSpec.vars false W args.toList ds gs before) 
    (hsz0 : (DataW.weightsEach Tryd.prog (Tryd.f4.params.toList ++ (OpenSpec.ofChange Rows.indexMergesSpec).bare.plain.varTypes Tryd.prog) (ds ++ gs)).all (· ≤ reachBytes) = true) (_hL : laidMetH Tryd.prog Rows.indexMergesRow.laid W) :
    Calls Tryd.prog 4 args W fun e W' => ∃ v, e = .returned v ∧ Rows.indexMergesSpec.post enc Tryd.prog Tryd.f4 false true false false W args v W' := by
  have hsz := hsz0
  clear hsz0
  have hW' := hW
  obtain ⟨p, q, hA0, hV, rfl, hfz, hnd⟩ := hW
  have hA : DataW.TrodAll enc Tryd.prog W 0 (fun _ => true) true Tryd.f4.params.toList args.toList ds p := hA0
  have hAk := hA
  clear hA0
  rw [Tryd.params4] at hA hval hsz
  obtain ⟨rfl, rfl⟩ := trodVars_none hV
  simp only [List.append_nil] at hW' hsz
  have hlt : ∀ x ∈ p, x.block < W.heap.size := fun x hx => by simpa using hW'.lt x hx
  obtain ⟨v0, vs0, d0, ds0, p0, q0, hargs, rfl, hp0, h0, r0⟩ := trodAll_cons hA
  obtain ⟨rfl, rfl, hpn⟩ := trodAll_nil r0
  obtain rfl : args = #[v0] := by cases args; simp_all
  have hlt0 : ∀ x ∈ p0, x.block < W.heap.size := fun x hx => hlt x (by rw [hp0]; exact List.mem_append_left _ hx)
  have hltq0 : ∀ x ∈ q0, x.block < W.heap.size := fun x hx => hlt x (by rw [hp0]; exact List.mem_append_right _ hx)
  obtain ⟨rows, hrows⟩ := open_runs (hval 0 29 v0 rfl rfl) h0 hlt0
  refine (merges_law v0 rows W hrows).mono fun e W' ⟨he, hb⟩ => ?_
  subst he
  exact ⟨_, rfl, _, _, _, [], p, [], hW', trodAll_mk1 (shut_bool Tryd.underlying4 _), below_trodAll laidOut hb _ _ _ _ (by kernel_rfl) hAk hlt, rfl, hb.frame _, fun h => by cases h⟩

theorem indexMerges_reads (os : Os) {H : Type} (enc : TypeId × Value → H) : ∃ places, DataW.whole enc Tryd.prog ((laidWorld os).forCall (fun _ _ => 0) ⟨#[], #[.slice none 0 0], []⟩).memory Tryd.f4.params.toList Rows.indexMergesSpec.vars false (#[Value.slice none 0 0] : Array Value).toList 8 = some ([.nil], [], places) :=
  ⟨[], by kernel_rfl⟩

set_option maxRecDepth 100000 in
theorem indexMerges_lifted (os : Os) (started : os.Started) (H : Type) (enc : TypeId × Value → H) (F : Stop.Interp) :
    ReturnsInHanded {} Tryd.checked os 4 .any ((OpenSpec.ofChange Rows.indexMergesSpec).preRow enc Tryd.prog Tryd.f4 Rows.indexMergesRow.domain false Rows.indexMergesRow.laid) (((OpenSpec.ofChange Rows.indexMergesSpec).at F).post enc Tryd.prog Tryd.f4 false true false false) := by
  obtain ⟨places, hx⟩ := indexMerges_reads os enc
  refine returnsInHanded_of_row (C := Tryd.checked) (s := OpenSpec.ofChange Rows.indexMergesSpec) own started (by kernel_rfl) Tryd.func4 ?_ ?_
  · refine ⟨laidWorld os, fun _ _ => 0, ⟨#[], #[.slice none 0 0], []⟩, laidWorld_os os, laidWorld_shaped os _, rfl, (Input.okWide_of_okWideB (by kernel_rfl)).2, ?_, ?_⟩
    · exact OpenSpec.preRow_of_cond 8 hx (by kernel_rfl) (fun k hk => by cases hk) (by kernel_rfl) (laidWorld_met os _)
    · simp only [Assume.holds]
      exact ⟨by simp, by simp, fun _ => Modest.zero, by simp, by simp⟩
  intro W base args ds gs before hval hW _ _ hsz hL hsh _
  exact indexMerges_contract H enc W base args ds gs before hval hW hsz hL

theorem indexMerges_said : Rows.IndexMergesSaid :=
  OpenClaim.holds_of_cond 4 Tryd.f4 rfl rfl rfl rfl rfl rfl rfl ⟨rfl, rfl, rfl, rfl, rfl⟩ rfl rfl rfl rfl rfl (by kernel_rfl) Tryd.func4 (by kernel_rfl)
    (of_decide_eq_true (by kernel_rfl)) (by unfold Func.isWrapper; first | (rw [if_pos (by decide +kernel)]; kernel_rfl) | (rw [if_neg (by decide +kernel)]; exact ⟨rfl, rfl⟩))
    (fun os started H enc _ F => by rw [OpenClaim.pre_eq_preRow]; exact indexMerges_lifted os started H enc F)
end St
theorem indexMerges_plain (f : FuncId) (fn : Func) (hf : Tryd.pinned.checked.prog.funcNamed Rows.indexMergesRow.func = some f) (hfn : Tryd.pinned.checked.prog.funcs[f]? = some fn) :
    false = Tryd.pinned.checked.prog.looks [] ∧ ∀ (j : Nat) t, fn.params[j]? = some t → Tryd.pinned.checked.prog.wantsStandIn t = false := by
  obtain rfl : f = 4 := Option.some.inj ((show Tryd.prog.funcNamed Rows.indexMergesRow.func = some 4 by kernel_rfl).symm.trans hf) |>.symm
  obtain rfl : fn = Tryd.f4 := (Option.some.inj (Tryd.func4.symm.trans hfn)).symm
  refine ⟨by kernel_rfl, fun j t ht => ?_⟩
  rw [Tryd.params4] at ht
  have hm : t ∈ [29] := by simpa using Array.mem_of_getElem? ht
  have hall : ([29].all fun u => !Tryd.prog.wantsStandIn u) = true := by kernel_rfl
  exact (show Tryd.prog.wantsStandIn t = false by simpa using List.all_eq_true.1 hall t hm)
/-- THE STATEMENT. -/
theorem indexMerges_card : Rows.IndexMergesCardSaid :=
  Claim7.holds_tied_plain_at .later [] _ _ _ _ St.indexMerges_said (fun _ h => by cases h) (by kernel_rfl) (fun _ h => by cases h) indexMerges_row_tie rfl ⟨rfl, rfl⟩ (by kernel_rfl) rfl indexMerges_plain (by kernel_rfl)
end Go.Proofs.YtpcmminokhmkjaaDoor
