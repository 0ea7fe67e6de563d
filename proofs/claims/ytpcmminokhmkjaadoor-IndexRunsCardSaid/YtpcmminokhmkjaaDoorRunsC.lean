/-
  THE STATEMENT IndexRuns (P14.2): of every two rows and key, right or not, of a key the first run's entry counts; what came in reads behind the call as before.
  Conditions: none.
-/
import Derived.Test.YtpcmminokhmkjaaDoorTg
import Derived.Deep.Slices
import Derived.ChangeArms
import Derived.Test.YtpcmminokhmkjaaDoorTie
import Derived.Test.YtpcmminokhmkjaaDoorCards
import Derived.OpenShut
import Derived.LaidMore
import Derived.LaidHandle
import Derived.Lay
import Derived.Stop.Joined
import Derived.Deep.DeepHandedRow
import Derived.MakeChecks
namespace Go.Proofs.YtpcmminokhmkjaaDoor.St
open Go.Shelf Go.RowKit Go.Lib Go.Sort
set_option maxRecDepth 100000 in
theorem refmerge_none (p : Option Addr) (cap : Nat) (w : World) : Calls Tryd.prog 10 #[.slice p 0 cap] w fun e w' => w' = w ∧ e = .returned (.tuple #[.slice none 0 0, .int .i64 0]) := by
  go_enter Tryd.func10, Tryd.ntmps10
  go_wp2
  refine wp_loop_rounds 1 ?_
  rw [rounds_succ]
  go_wp2
  exact bodyPost_ret (results_tmp2 rfl _ _ _) rfl ⟨rfl, rfl⟩
/-- runs as a value -/
def Runs (w : World) (v : Value) (rows : List (List Ent)) : Prop :=
  ∃ ao cap, v = .slice ao rows.length cap ∧ rows.length ≤ 9223372036854775807 ∧ (rows ≠ [] → ∃ k o, ao = some ⟨k, o, none⟩ ∧ k < w.heap.size ∧ Rws w k o rows) ∧ ∀ i (hi : i < rows.length) q, q < (rows[i]).length → (rows[i])[q]!.key.size ≤ 9223372036854775807
theorem Runs.below {w w' : World} {v : Value} {rows : List (List Ent)} (h : Runs w v rows) (hb : Below w.heap.size w w') : Runs w' v rows := by
  obtain ⟨ao, cap, h1, h2, h3, h4⟩ := h
  refine ⟨ao, cap, h1, h2, fun hne => ?_, h4⟩
  obtain ⟨k, o, e, hk, hr⟩ := h3 hne
  exact ⟨k, o, e, Nat.lt_of_lt_of_le hk hb.size, hr.below hk hb⟩
/-- what either Merge answers -/
def AnsM (w : World) (rows : List (List Ent)) (e : Ending) (w' : World) : Prop :=
  Below w.heap.size w w' ∧ ∃ ao c l, e = .returned (.tuple #[.slice ao (l : List Ent).length c, .int .i64 (if rows.all chk then 0 else 2)]) ∧ l = (if rows.all chk then mrg rows else []) ∧ Erw w' ao l ∧ (ao = none → c = 0) ∧ l.length ≤ c ∧ c ≤ 9223372036854775807
theorem all_chk (rows : List (List Ent)) : rows.all chk = true ↔ ∀ i (hi : i < rows.length), chk rows[i] = true := by
  rw [List.all_eq_true]
  constructor
  · intro h i hi
    exact h _ (List.getElem_mem hi)
  · intro h x hx
    obtain ⟨i, hi, rfl⟩ := List.getElem_of_mem hx
    exact h i hi
theorem merge_any (v : Value) (rows : List (List Ent)) (w : World) (h : Runs w v rows) (hl : rows.length ≤ 1099511627776) (hbig : rows.flatten.length ≤ 400000000000) : Calls Tryd.prog 7 #[v] w (AnsM w rows) := by
  obtain ⟨ao, cap, rfl, _, hr, hkey⟩ := h
  cases hrows : rows with
  | nil =>
    refine (merge_none ao cap w).mono ?_
    rintro e w' ⟨rfl, rfl⟩
    exact ⟨Below.refl _ _, none, 0, [], rfl, rfl, erw_nil _ _, fun _ => rfl, Nat.le_refl _, by omega⟩
  | cons x r =>
    obtain ⟨k, o, rfl, hk, hR⟩ := hr (by rw [hrows]; simp)
    rw [← hrows]
    by_cases hc : rows.all chk = true
    · refine (merge_ok k o rows.length cap rows w hR rfl hl hk (by omega) hkey ((all_chk rows).1 hc)).mono ?_
      rintro e w' ⟨hB, ao, l, c, rfl, hm, he, hn, h1, h2⟩
      have := mrg_is hm (fun x hx => List.all_eq_true.1 hc x hx)
      subst this
      refine ⟨hB, ao, c, _, ?_, ?_, he, hn, h1, h2⟩
      · rw [if_pos hc]
      · rw [if_pos hc]
    · have hex : ∃ j, ∃ hj : j < rows.length, chk rows[j] = false := by
        by_cases hh : ∃ j, ∃ hj : j < rows.length, chk rows[j] = false
        · exact hh
        · refine absurd ((all_chk rows).2 fun i hi => ?_) hc
          cases hq : chk rows[i] with
          | true => rfl
          | false => exact absurd ⟨i, hi, hq⟩ hh
      obtain ⟨j, ⟨hj, hbad⟩, hmin⟩ := least hex
      refine (merge_no k o rows.length cap j rows w hR rfl hl hk (by omega) hkey hj (fun i hi hij => ?_) (fun _ => hbad)).mono ?_
      · cases hq : chk rows[i] with
        | true => rfl
        | false => exact absurd ⟨hi, hq⟩ (hmin i hij)
      · rintro e w' ⟨hB, rfl⟩
        exact ⟨hB, none, 0, [], by rw [if_neg hc]; rfl, by rw [if_neg hc], erw_nil _ _, fun _ => rfl, Nat.le_refl _, by omega⟩
theorem refmerge_any (v : Value) (rows : List (List Ent)) (w : World) (h : Runs w v rows) (hl : rows.length ≤ 1099511627776) (hbig : rows.flatten.length ≤ 400000000000) : Calls Tryd.prog 10 #[v] w (AnsM w rows) := by
  obtain ⟨ao, cap, rfl, _, hr, hkey⟩ := h
  cases hrows : rows with
  | nil =>
    refine (refmerge_none ao cap w).mono ?_
    rintro e w' ⟨rfl, rfl⟩
    exact ⟨Below.refl _ _, none, 0, [], rfl, rfl, erw_nil _ _, fun _ => rfl, Nat.le_refl _, by omega⟩
  | cons x r =>
    obtain ⟨k, o, rfl, hk, hR⟩ := hr (by rw [hrows]; simp)
    rw [← hrows]
    refine (refmerge_some k o rows.length cap rows w hR rfl hl hk hbig hkey).mono ?_
    rintro e w' ⟨hB, ⟨hall, v, rfl, hown⟩ | ⟨⟨j, hj, hbad⟩, rfl⟩⟩
    · have hc := (all_chk rows).2 hall
      obtain ⟨ao2, c2, rfl, h1, h2, h3, h4⟩ := own_erw hown
      exact ⟨hB, ao2, c2, mrg rows, by rw [if_pos hc], by rw [if_pos hc], h3, h4, h1, h2⟩
    · have hc : ¬ rows.all chk = true := fun hh => by
        have := (all_chk rows).1 hh j hj
        rw [hbad] at this
        cases this
      exact ⟨hB, none, 0, [], by rw [if_neg hc]; rfl, by rw [if_neg hc], erw_nil _ _, fun _ => rfl, Nat.le_refl _, by omega⟩
theorem flat_len : ∀ (rows : List (List Ent)) (m : Nat), (∀ x ∈ rows, x.length ≤ m) → rows.flatten.length ≤ rows.length * m
  | [], _, _ => by simp
  | x :: r, m, h => by
    have h1 := flat_len r m fun y hy => h y (List.mem_cons_of_mem _ hy)
    have h2 := h x (by simp)
    rw [List.flatten_cons, List.length_append, List.length_cons, Nat.add_mul]
    omega
set_option maxHeartbeats 8000000 in
set_option maxRecDepth 100000 in
theorem merges_law (v : Value) (rows : List (List Ent)) (w : World) (h : Runs w v rows) : Calls Tryd.prog 4 #[v] w fun e w' => e = .returned (.bool true) ∧ Below w.heap.size w w' := by
  have HR := Lib.hid (fun (W : World) (hW : Below w.heap.size w W) => h.below hW)
  have HH := Lib.hid (fun W => heads_any W)
  have B0 : Hid (Below w.heap.size w w) := Below.refl _ _
  obtain ⟨ao, cap, rfl, hl, hr, _⟩ := h
  obtain ⟨n, hn⟩ : ∃ n, n = rows.length := ⟨_, rfl⟩
  rw [← hn] at hl ⊢
  have HN := Lib.hid hn
  have HRW : Hid (∀ W, Below w.heap.size w W → ∀ i (hi : i < rows.length), ∃ k o a2 c2, ao = some ⟨k, o, none⟩ ∧ W.cell? ⟨k, o + i, none⟩ = some (.slice a2 (rows[i]).length c2)) := fun W hW i hi => by
    obtain ⟨k, o, e, hk, hR⟩ := hr (by intro h0; rw [h0] at hi; simp at hi)
    obtain ⟨a2, c2, h1, _⟩ := hR.below hk hW i hi
    exact ⟨k, o, a2, c2, e, h1⟩
  clear hr hn
  by_cases hbig : n > 10
  · have hd : decide ((n : Int) > 10) = true := decide_eq_true (by omega)
    have hd2 : decide (n > 10) = true := decide_eq_true hbig
    have hd3 : decide ((10 : Int) < (n : Int)) = true := decide_eq_true (by omega)
    have hd4 : (10 : Int) < (n : Int) := by omega
    go_enter Tryd.func4, Tryd.ntmps4
    go_wp2_with (go_at_call 6; refine (HH.out _).mono ?_; rintro e w2 ⟨rfl, b2⟩)
    go_ret
    exact ⟨rfl, b2⟩
  · have hd : decide ((n : Int) > 10) = false := decide_eq_false (by omega)
    have hd2 : decide (n > 10) = false := decide_eq_false hbig
    have hd4 : ¬ (10 : Int) < (n : Int) := by omega
    have L0 : Hid (∀ q (hq : q < rows.length), q < 0 → (rows[q]).length ≤ 100) := fun q hq h0 => absurd h0 (Nat.not_lt_zero _)
    go_enter Tryd.func4, Tryd.ntmps4
    go_wp2_with fail
    go_loopg [3] n (fun kx s3 wr => ∃ (i : Nat), s3 = .int .i64 i ∧ i ≤ n ∧ n - i ≤ kx ∧ Hid (Below w.heap.size w wr) ∧ Hid (∀ q (hq : q < rows.length), q < i → (rows[q]).length ≤ 100))
    case atStart => exact ⟨0, rfl, Nat.zero_le _, by omega, B0, L0⟩
    case round =>
      clear B0 L0
      obtain ⟨i, rfl, hin, hkx, B1, L1⟩ := hrel
      by_cases hlt : i < n
      · have hltz : (i : Int) < (n : Int) := by omega
        have pa1 : (0 : Int) ≤ (i : Int) := by omega
        have hi : i < rows.length := by rw [← HN.out]; exact hlt
        obtain ⟨k, o, a2, c2, rfl, f0⟩ := HRW.out wr B1.out i hi
        obtain ⟨m, hm⟩ : ∃ m, m = (rows[i]).length := ⟨_, rfl⟩
        rw [← hm] at f0
        have HM := Lib.hid hm
        clear hm
        by_cases hmb : m > 100
        · have hm4 : (100 : Int) < (m : Int) := by omega
          go_wp2_with (go_at_call 6; refine (HH.out _).mono ?_; rintro e w2 ⟨rfl, b2⟩)
          go_ret
          exact ⟨rfl, Sh.below_chain B1.out b2⟩
        · have hm4 : ¬ (100 : Int) < (m : Int) := by omega
          have L2 : Hid (∀ q (hq : q < rows.length), q < i + 1 → (rows[q]).length ≤ 100) := fun q hq h1 => by
            rcases Nat.lt_or_eq_of_le (Nat.le_of_lt_succ h1) with c | rfl
            · exact L1.out q hq c
            · rw [← HM.out]; omega
          go_wp2_with fail
          go_roundg (n - (i + 1))
          case measure => omega
          case rel => exact ⟨i + 1, by go_num, by omega, Nat.le_refl _, B1, L2⟩
      · have hltz : ¬ (i : Int) < (n : Int) := by omega
        have hflat : rows.flatten.length ≤ 400000000000 := by
          have := flat_len rows 100 fun x hx => by
            obtain ⟨q, hq, rfl⟩ := List.getElem_of_mem hx
            exact L1.out q hq (by have := HN.out; omega)
          have hn10 : rows.length ≤ 10 := by have := HN.out; omega
          have : rows.length * 100 ≤ 1000 := by omega
          omega
        have hn40 : rows.length ≤ 1099511627776 := by have := HN.out; omega
        have CM := merge_any _ rows wr (HR.out wr B1.out) hn40 hflat
        have CR : Hid (∀ W, Below w.heap.size w W → Calls Tryd.prog 10 #[.slice ao n cap] W (AnsM W rows)) := fun W hW => by
          have := refmerge_any _ rows W (HR.out W hW) hn40 hflat
          rwa [← HN.out] at this
        rw [← HN.out] at CM
        have CMH := Lib.hid CM
        obtain ⟨E, hE⟩ : ∃ E : Int, E = (if rows.all chk then 0 else 2) := ⟨_, rfl⟩
        obtain ⟨L, hL⟩ : ∃ L : List Ent, L = (if rows.all chk then mrg rows else []) := ⟨_, rfl⟩
        unfold AnsM at CMH CR
        rw [← hE, ← hL] at CMH CR
        have HL : Hid (L.length ≤ 400000000000) := by
          show L.length ≤ _
          rw [hL]
          split
          · exact Nat.le_trans (mrg_len rows) hflat
          · simp
        clear CM hE hL hflat hn40
        go_wp2_with (first
          | (go_at_call 7; refine CMH.out.mono ?_; rintro e w2 ⟨b2, a1, c1, l1, rfl, rfl, e1, _⟩
             have B2 : Hid (Below w.heap.size w w2) := Sh.below_chain B1.out b2
             have E1 := Lib.hid e1
             have CR2 := Lib.hid (CR.out w2 B2.out)
             clear b2 e1 CMH)
          | (go_at_call 10; refine CR2.out.mono ?_; rintro e w3 ⟨b3, a2, c2, l2, rfl, rfl, e2, _⟩
             have B3 : Hid (Below w.heap.size w w3) := Sh.below_chain B2.out b3
             have CS0 := same_any a1 a2 l2.length c1 c2 l2 l2 w3 (E1.out.below b3) e2 rfl rfl (by have := HL.out; omega)
             rw [decide_eq_true rfl] at CS0
             have CS := Lib.hid CS0
             clear b3 e2 CR2 CS0)
          | (go_at_call 9; refine CS.out.mono ?_; rintro e w4 ⟨rfl, g4⟩
             have B4 : Hid (Below w.heap.size w w4) := Sh.below_chain B3.out g4.below
             clear g4 CS)
          | (go_at_call 6; refine (HH.out _).mono ?_; rintro e w5 ⟨rfl, b5⟩))
        go_ret
        exact ⟨rfl, Sh.below_chain B4.out b5⟩
end Go.Proofs.YtpcmminokhmkjaaDoor.St
namespace Go.Proofs.YtpcmminokhmkjaaDoor.St
open Go.ChangeShapes Go.WideShapes Go.ChangeAt Go.RowKit Go.Lib
theorem cells31 : Tryd.prog.cellsOf 31 = 5 := by kernel_rfl
theorem cells23 : Tryd.prog.cellsOf 23 = 1 := by kernel_rfl
theorem cells3i : Tryd.prog.cellsOf 3 = 1 := by kernel_rfl
theorem cells22 : Tryd.prog.cellsOf 22 = 1 := by kernel_rfl
section
variable {H : Type} {enc : TypeId × Value → H}
set_option maxRecDepth 100000 in
theorem open_ent1 {W : World} {n : Nat} {cs : List Value} {y : DataW H × List MemPlace} (hlen : cs.length = 5) (h : DataW.trod enc Tryd.prog W 0 (fun _ => true) true n 31 cs = some y) :
    ∃ x : Ent, cs = encE x ∧ x.key.size ≤ 9223372036854775807 := by
  match cs, hlen with
  | [c0, c1, c2, c3, c4], _ =>
    obtain ⟨xs, n, _, hx, _, hlen, hfs⟩ := DataW.trod_struct Tryd.underlying31 h
    match xs, hlen with
    | [y0, y1, y2, y3, y4], _ =>
      have f0 : DataW.trod enc Tryd.prog W 0 (fun _ => true) true n 23 [c0] = some y0 := by
        have h := hfs 0 _ rfl
        change DataW.trod enc Tryd.prog W 0 (fun _ => true) true n 23 (List.take (Tryd.prog.cellsOf 23) (List.drop 0 [c0, c1, c2, c3, c4])) = some y0 at h
        rw [cells23] at h
        exact h
      have f1 : DataW.trod enc Tryd.prog W 0 (fun _ => true) true n 3 [c1] = some y1 := by
        have h := hfs 1 _ rfl
        change DataW.trod enc Tryd.prog W 0 (fun _ => true) true n 3 (List.take (Tryd.prog.cellsOf 3) (List.drop 1 [c0, c1, c2, c3, c4])) = some y1 at h
        rw [cells3i] at h
        exact h
      have f2 : DataW.trod enc Tryd.prog W 0 (fun _ => true) true n 3 [c2] = some y2 := by
        have h := hfs 2 _ rfl
        change DataW.trod enc Tryd.prog W 0 (fun _ => true) true n 3 (List.take (Tryd.prog.cellsOf 3) (List.drop 2 [c0, c1, c2, c3, c4])) = some y2 at h
        rw [cells3i] at h
        exact h
      have f3 : DataW.trod enc Tryd.prog W 0 (fun _ => true) true n 3 [c3] = some y3 := by
        have h := hfs 3 _ rfl
        change DataW.trod enc Tryd.prog W 0 (fun _ => true) true n 3 (List.take (Tryd.prog.cellsOf 3) (List.drop 3 [c0, c1, c2, c3, c4])) = some y3 at h
        rw [cells3i] at h
        exact h
      have f4 : DataW.trod enc Tryd.prog W 0 (fun _ => true) true n 3 [c4] = some y4 := by
        have h := hfs 4 _ rfl
        change DataW.trod enc Tryd.prog W 0 (fun _ => true) true n 3 (List.take (Tryd.prog.cellsOf 3) (List.drop 4 [c0, c1, c2, c3, c4])) = some y4 at h
        rw [cells3i] at h
        exact h
      obtain ⟨t, e0, _, ht⟩ := DataW.trod_string Tryd.underlying23 f0
      obtain ⟨g1, e1, _, _⟩ := DataW.trod_int Tryd.underlying3 f1
      obtain ⟨g2, e2, _, _⟩ := DataW.trod_int Tryd.underlying3 f2
      obtain ⟨g3, e3, _, _⟩ := DataW.trod_int Tryd.underlying3 f3
      obtain ⟨g4, e4, _, _⟩ := DataW.trod_int Tryd.underlying3 f4
      simp only [List.cons.injEq, and_true] at e0 e1 e2 e3 e4
      subst e0 e1 e2 e3 e4
      exact ⟨⟨t, g1, g2, g3, g4⟩, rfl, by unfold maxLen at ht; exact ht⟩
set_option maxRecDepth 100000 in
/-- a row of entries -/
theorem open_ents {W : World} {fuel : Nat} {cs : List Value} {y : DataW H × List MemPlace} (hf : DataW.trod enc Tryd.prog W 0 (fun _ => true) true fuel 22 cs = some y) (hlt : ∀ x ∈ y.2, x.block < W.heap.size) :
    ∃ (ao : Option Addr) (L : List Ent) (c : Nat), cs = [.slice ao L.length c] ∧ L.length ≤ c ∧ c ≤ 9223372036854775807 ∧ (ao = none → c = 0) ∧ Erw W ao L ∧ Kz L := by
  rcases Go.Deep.open_slice Tryd.underlying22 hf with ⟨rfl, rfl⟩ | ⟨a, len, cap, m, n, D, Pl, rfl, _, hl, hm, hmm, rfl, hel⟩
  · exact ⟨none, [], 0, rfl, Nat.le_refl _, by omega, fun _ => rfl, erw_nil _ _, fun i hi => absurd hi (Nat.not_lt_zero _)⟩
  · simp only [if_true] at hmm
    subst hmm
    rw [cells31] at hlt
    have each : ∀ i, i < m → ∃ x : Ent, (∀ j, j < 5 → W.cell? (a.add (i * 5 + j)) = (encE x)[j]?) ∧ x.key.size ≤ 9223372036854775807 := fun i hi => by
      obtain ⟨cs', h1, h2⟩ := hel i hi
      rw [cells31] at h1
      obtain ⟨_, hlen, hcell⟩ := World.cells?_some h1
      obtain ⟨x, hx1, hx2⟩ := open_ent1 hlen h2
      refine ⟨x, fun j hj => ?_, hx2⟩
      have hcj := hcell j hj
      rw [Go.Deep.add_add] at hcj
      rw [← hx1]
      exact hcj
    obtain ⟨q, hq⟩ := Go.Deep.choose_lt each
    have hll : ((List.range len).map q).length = len := by simp
    have hget : ∀ i, i < len → ((List.range len).map q)[i]! = q i := fun i hi => by
      rw [getElem!_pos _ i (by rw [hll]; exact hi)]
      simp
    refine ⟨some a, (List.range len).map q, m, by rw [hll], by rw [hll]; exact hl, by unfold maxLen at hm; exact hm, (fun hh => by cases hh), fun hne => ?_, fun i hi => ?_⟩
    · have hl0 : 0 < len := by
        rcases Nat.eq_zero_or_pos len with h0 | h0
        · exact absurd (by rw [h0]; rfl) hne
        · exact h0
      obtain ⟨b, off, spot⟩ := a
      have hspot : spot = none := by
        have h1 := (hq 0 (by omega)).1 0 (by omega)
        exact by simpa [Addr.add] using World.cell?_spot h1
      subst hspot
      refine ⟨b, off, rfl, hlt (.cell b off) (List.mem_append_left _ (MemPlace.mem_row.2 ⟨0, by omega, by simp⟩)), fun j u hj => ?_⟩
      have hjl : j < (cs ((List.range len).map q)).length := (List.getElem?_eq_some_iff.1 hj).1
      rw [cs_len, hll] at hjl
      have h5 := (hq (j / 5) (by omega)).1 (j % 5) (by omega)
      rw [add_plain] at h5
      have hc := cs_get ((List.range len).map q) (j / 5) (by rw [hll]; omega) (j % 5) ((encE (q (j / 5)))[j % 5]!) (by
        rw [hget _ (by omega), getElem!_pos (encE (q (j / 5))) (j % 5) (by show j % 5 < 5; omega)]
        exact List.getElem?_eq_getElem _)
      rw [Nat.div_add_mod' j 5] at hc h5
      rw [hc] at hj
      rw [h5, ← hj, getElem!_pos (encE (q (j / 5))) (j % 5) (by show j % 5 < 5; omega)]
      exact List.getElem?_eq_getElem _
    · rw [hll] at hi
      rw [hget i hi]
      exact (hq i (by omega)).2
set_option maxRecDepth 100000 in
theorem open_row {W : World} {base : Nat} {v : Value} {d : DataW H} {p : List MemPlace} (hval : Value.okWide Tryd.prog W .any base 22 v) (h : DataW.Trod enc Tryd.prog W 0 (fun _ => true) true 22 v d p) (hlt : ∀ x ∈ p, x.block < W.heap.size) :
    ∃ (ao : Option Addr) (L : List Ent) (c : Nat), v = .slice ao L.length c ∧ L.length ≤ c ∧ c ≤ 9223372036854775807 ∧ (ao = none → c = 0) ∧ Erw W ao L ∧ Kz L := by
  obtain ⟨a0, len, cap, rfl⟩ := okWide_slice Tryd.underlying22 hval
  obtain ⟨fuel, hf⟩ := h
  obtain ⟨ao, L, c, hcs, h1, h2, h3, h4, h5⟩ := open_ents hf hlt
  simp [Value.cells] at hcs
  obtain ⟨rfl, rfl, rfl⟩ := hcs
  exact ⟨a0, L, cap, rfl, h1, h2, h3, h4, h5⟩
set_option maxRecDepth 100000 in
theorem open_runs {W : World} {base : Nat} {v : Value} {d : DataW H} {p : List MemPlace} (hval : Value.okWide Tryd.prog W .any base 29 v) (h : DataW.Trod enc Tryd.prog W 0 (fun _ => true) true 29 v d p) (hlt : ∀ x ∈ p, x.block < W.heap.size) :
    ∃ rows : List (List Ent), Runs W v rows := by
  obtain ⟨a0, len, cap, rfl⟩ := okWide_slice Tryd.underlying29 hval
  obtain ⟨fuel, hf⟩ := h
  rcases Go.Deep.open_slice1 Tryd.underlying29 cells22 hf with ⟨hcs, hx⟩ | ⟨a, len', cap', m, n, V, D, Pl, hcs, _, hl, hm, hmm, hx, hel⟩
  · simp [Value.cells] at hcs
    obtain ⟨rfl, rfl, rfl⟩ := hcs
    exact ⟨[], none, 0, rfl, by simp, fun h => absurd rfl h, fun i hi => absurd hi (Nat.not_lt_zero _)⟩
  · simp [Value.cells] at hcs
    obtain ⟨rfl, rfl, rfl⟩ := hcs
    simp only [if_true] at hmm
    subst hmm
    simp only [Prod.mk.injEq] at hx
    obtain ⟨rfl, rfl⟩ := hx
    have each : ∀ i, i < m → ∃ L : List Ent, ∃ ao c, W.cell? (a.add i) = some (.slice ao L.length c) ∧ (ao = none → c = 0) ∧ Erw W ao L ∧ Kz L := fun i hi => by
      obtain ⟨h1, h2⟩ := hel i hi
      obtain ⟨ao, L, c, e, _, _, h3, h4, h5⟩ := open_ents h2 (fun x hx => hlt x (List.mem_append_right _ (List.mem_flatMap.2 ⟨i, List.mem_range.2 hi, hx⟩)))
      injection e with e
      exact ⟨L, ao, c, by rw [h1, e], h3, h4, h5⟩
    obtain ⟨q, hq⟩ := Go.Deep.choose_lt each
    have hll : ((List.range len).map q).length = len := by simp
    have hget : ∀ i (hi : i < ((List.range len).map q).length), ((List.range len).map q)[i] = q i := fun i hi => by simp
    refine ⟨(List.range len).map q, some a, m, by rw [hll], by rw [hll]; unfold maxLen at hm; omega, fun hne => ?_, fun i hi j hj => ?_⟩
    · have hl0 : 0 < len := by
        rcases Nat.eq_zero_or_pos len with h0 | h0
        · exact absurd (by rw [h0]; rfl) hne
        · exact h0
      obtain ⟨b, off, spot⟩ := a
      have hspot : spot = none := by
        obtain ⟨_, _, h1, _⟩ := hq 0 (by omega)
        exact by simpa [Addr.add] using World.cell?_spot h1
      subst hspot
      refine ⟨b, off, rfl, hlt (.cell b off) (List.mem_append_left _ (MemPlace.mem_row.2 ⟨0, by omega, by simp⟩)), fun j hj => ?_⟩
      rw [hget j hj]
      obtain ⟨ao, c, h1, h2, h3, _⟩ := hq j (by rw [hll] at hj; omega)
      rw [add_plain] at h1
      exact ⟨ao, c, h1, h3, h2⟩
    · rw [hget i hi] at hj ⊢
      obtain ⟨_, _, _, _, _, h4⟩ := hq i (by rw [hll] at hi; omega)
      exact h4 j hj
end
end Go.Proofs.YtpcmminokhmkjaaDoor.St
namespace Go.Proofs.YtpcmminokhmkjaaDoor.St
open Go.Shelf Go.RowKit Go.Lib Go.Sort
theorem chk_okE {l : List Ent} (h : chk l = true) {x : Ent} (hx : x ∈ l) : okE x = true := by
  obtain ⟨i, hi, rfl⟩ := List.getElem_of_mem hx
  have := List.all_eq_true.1 h i (List.mem_range.2 hi)
  unfold kP at this
  rw [getElem!_pos l i hi] at this
  exact (Bool.and_eq_true_iff.1 this).1
theorem chk_of {l : List Ent} (h : Ri l) (hok : ∀ x ∈ l, okE x = true) : chk l = true := by
  refine List.all_eq_true.2 fun i hi => ?_
  have hi := List.mem_range.1 hi
  unfold kP
  rw [getElem!_pos l i hi, hok _ (List.getElem_mem hi), Bool.true_and]
  rcases Nat.eq_zero_or_pos i with rfl | h0
  · rfl
  · have := List.pairwise_iff_getElem.1 h (i - 1) i (by omega) hi (by omega)
    rw [getElem!_pos l (i - 1) (by omega), this, Bool.or_true]
theorem fst_mem {L : List Ent} {y : Ent} (h : Fst L y) : y ∈ L := by
  obtain ⟨q, h1, _⟩ := h
  exact List.mem_of_getElem? h1
theorem hasK_mem {l : List Ent} (h : Ri l) (k : ByteArray) : (hasK l k = true → l[plc l k]! ∈ l ∧ l[plc l k]!.key = k) ∧ (∀ x ∈ l, x.key = k → hasK l k = true ∧ l[plc l k]! = x) := by
  constructor
  · intro hh
    have := of_decide_eq_true hh
    refine ⟨?_, this.2⟩
    rw [getElem!_pos l _ this.1]
    exact List.getElem_mem _
  · intro x hx hk
    obtain ⟨i, hi, rfl⟩ := List.getElem_of_mem hx
    have hp : plc l k = i := plc_of (by omega) (fun q hq => by
      have := ri_at h q i hq hi
      rwa [getElem!_pos l i hi, hk] at this) (fun _ => by rw [getElem!_pos l i hi, hk, kl_ir])
    rw [hp, getElem!_pos l i hi]
    refine ⟨?_, rfl⟩
    unfold hasK
    rw [hp, getElem!_pos l i hi]
    exact decide_eq_true ⟨hi, hk⟩
theorem getE_some {l : List Ent} (h : chk l = true) {k : ByteArray} {x : Ent} (hx : x ∈ l) (hk : x.key = k) : getE l k = (x, true) := by
  obtain ⟨h1, h2⟩ := (hasK_mem (chk_ri h) k).2 x hx hk
  rw [getE, if_pos ⟨h, h1⟩, h2]
theorem getE_none {l : List Ent} (h : chk l = true) {k : ByteArray} (hn : ∀ x ∈ l, x.key ≠ k) : getE l k = (e0, false) := by
  rw [getE, if_neg]
  rintro ⟨_, h2⟩
  obtain ⟨h3, h4⟩ := (hasK_mem (chk_ri h) k).1 h2
  exact hn _ h3 h4
theorem mrg_chk {rows : List (List Ent)} (h : ∀ r ∈ rows, chk r = true) : chk (mrg rows) = true := by
  obtain ⟨h1, h2⟩ := mrg_mem rows fun r hr => chk_ri (h r hr)
  refine chk_of h1 fun x hx => ?_
  obtain ⟨r, hr, hxr⟩ := List.mem_flatten.1 (fst_mem ((h2 x).1 hx))
  exact chk_okE (h r hr) hxr
theorem mrg_get (a b : List Ent) (k : ByteArray) (ha : chk a = true) (hb : chk b = true) : getE (mrg [a, b]) k = if (getE a k).2 = true then getE a k else getE b k := by
  have hall : ∀ r ∈ [a, b], chk r = true := fun r hr => by
    rcases List.mem_cons.1 hr with rfl | hr
    · exact ha
    · rcases List.mem_cons.1 hr with rfl | hr
      · exact hb
      · cases hr
  have hm := mrg_chk hall
  obtain ⟨_, hmem⟩ := mrg_mem [a, b] fun r hr => chk_ri (hall r hr)
  have hiff : ∀ y, y ∈ mrg [a, b] ↔ y ∈ a ∨ (y ∈ b ∧ ∀ z ∈ a, z.key ≠ y.key) := fun y => by
    rw [hmem y, List.flatten_cons, List.flatten_cons, List.flatten_nil, List.append_nil, fst_app, fst_ri (chk_ri ha), fst_ri (chk_ri hb)]
  by_cases h1 : ∃ x ∈ a, x.key = k
  · obtain ⟨x, hx, hk⟩ := h1
    rw [getE_some ha hx hk, if_pos rfl, getE_some hm ((hiff x).2 (.inl hx)) hk]
  · have n1 : ∀ x ∈ a, x.key ≠ k := fun x hx hk => h1 ⟨x, hx, hk⟩
    rw [getE_none ha n1, if_neg (by simp)]
    by_cases h2 : ∃ x ∈ b, x.key = k
    · obtain ⟨x, hx, hk⟩ := h2
      rw [getE_some hb hx hk, getE_some hm ((hiff x).2 (.inr ⟨hx, fun z hz => by rw [hk]; exact n1 z hz⟩)) hk]
    · have n2 : ∀ x ∈ b, x.key ≠ k := fun x hx hk => h2 ⟨x, hx, hk⟩
      rw [getE_none hb n2, getE_none hm fun x hx => ?_]
      rcases (hiff x).1 hx with h | ⟨h, _⟩
      · exact n1 x h
      · exact n2 x h
theorem mrg_aa (a : List Ent) (h : chk a = true) : mrg [a, a, []] = a := by
  have hr := chk_ri h
  have hall : ∀ r ∈ [a, a, []], Ri r := fun r hx => by
    simp only [List.mem_cons, List.not_mem_nil, or_false] at hx
    rcases hx with rfl | rfl | rfl
    · exact hr
    · exact hr
    · exact List.Pairwise.nil
  obtain ⟨h1, h2⟩ := mrg_mem [a, a, []] hall
  refine ri_uniq h1 hr fun y => ?_
  rw [h2 y]
  simp only [List.flatten_cons, List.flatten_nil, List.append_nil]
  rw [fst_app, fst_ri hr]
  constructor
  · rintro (h | ⟨h, _⟩)
    · exact h
    · exact h
  · exact .inl
theorem kz_mrg {rows : List (List Ent)} (h : ∀ r ∈ rows, Kz r) (hr : ∀ r ∈ rows, Ri r) : Kz (mrg rows) := fun i hi => by
  obtain ⟨_, h2⟩ := mrg_mem rows hr
  have hm : (mrg rows)[i]! ∈ mrg rows := by rw [getElem!_pos _ i hi]; exact List.getElem_mem hi
  obtain ⟨r, hr, hx⟩ := List.mem_flatten.1 (fst_mem ((h2 _).1 hm))
  obtain ⟨j, hj, he⟩ := List.getElem_of_mem hx
  have := h r hr j hj
  rwa [getElem!_pos r j hj, he] at this
theorem runs2 (W : World) (k : Nat) (hk : k < W.heap.size) (a1 a2 : Option Addr) (r1 r2 : List Ent) (c1 c2 : Nat) (h1 : Erw W a1 r1) (h2 : Erw W a2 r2) (z1 : a1 = none → c1 = 0) (z2 : a2 = none → c2 = 0) (k1 : Kz r1) (k2 : Kz r2)
    (g0 : W.cell? ⟨k, 0, none⟩ = some (.slice a1 r1.length c1)) (g1 : W.cell? ⟨k, 1, none⟩ = some (.slice a2 r2.length c2)) : Runs W (.slice (some ⟨k, 0, none⟩) 2 2) [r1, r2] := by
  refine ⟨_, _, rfl, by simp, fun _ => ⟨k, 0, rfl, hk, rws2 W k a1 a2 r1 r2 _ _ c1 c2 h1 h2 rfl rfl z1 z2 g0 g1⟩, fun i hi q hq => ?_⟩
  rcases (show i = 0 ∨ i = 1 by simp at hi; omega) with rfl | rfl
  · exact k1 q hq
  · exact k2 q hq
theorem runs3 (W : World) (k : Nat) (hk : k < W.heap.size) (a1 a2 a3 : Option Addr) (r1 r2 r3 : List Ent) (c1 c2 c3 : Nat) (h1 : Erw W a1 r1) (h2 : Erw W a2 r2) (h3 : Erw W a3 r3) (z1 : a1 = none → c1 = 0) (z2 : a2 = none → c2 = 0) (z3 : a3 = none → c3 = 0) (k1 : Kz r1) (k2 : Kz r2) (k3 : Kz r3)
    (g0 : W.cell? ⟨k, 0, none⟩ = some (.slice a1 r1.length c1)) (g1 : W.cell? ⟨k, 1, none⟩ = some (.slice a2 r2.length c2)) (g2 : W.cell? ⟨k, 2, none⟩ = some (.slice a3 r3.length c3)) : Runs W (.slice (some ⟨k, 0, none⟩) 3 3) [r1, r2, r3] := by
  refine ⟨_, _, rfl, by simp, fun _ => ⟨k, 0, rfl, hk, rws3 W k a1 a2 a3 r1 r2 r3 _ _ _ c1 c2 c3 h1 h2 h3 rfl rfl rfl z1 z2 z3 g0 g1 g2⟩, fun i hi q hq => ?_⟩
  rcases (show i = 0 ∨ i = 1 ∨ i = 2 by simp at hi; omega) with rfl | rfl | rfl
  · exact k1 q hq
  · exact k2 q hq
  · exact k3 q hq
theorem alloc_cells (w : World) (cs : Array Value) (t : TypeId) (j : Nat) : (w.alloc (.cells cs t)).cell? ⟨w.heap.size, j, none⟩ = cs[j]? := by
  rw [World.cell?_alloc_new]
theorem erw_blk {W : World} {g : Nat} {x : Ent} (h : W.heap[g]? = some (.cells (encE x).toArray 31 (0, 0))) : Erw W (some ⟨g, 0, none⟩) [x] := fun _ => by
  refine ⟨g, 0, rfl, (Array.getElem?_eq_some_iff.1 h).1, fun j u hj => ?_⟩
  have : (encE x)[j]? = some u := by simpa [cs] using hj
  simp [World.cell?, h, this]
set_option maxHeartbeats 8000000 in
set_option maxRecDepth 100000 in
theorem runs_law (aa : Option Addr) (a : List Ent) (ca : Nat) (ab : Option Addr) (b : List Ent) (cb : Nat) (k : ByteArray) (w : World) (ha : Erw w aa a) (hac : a.length ≤ ca) (ham : ca ≤ 9223372036854775807) (han : aa = none → ca = 0) (hak : Kz a)
    (hb : Erw w ab b) (hbc : b.length ≤ cb) (hbm : cb ≤ 9223372036854775807) (hbn : ab = none → cb = 0) (hbk : Kz b) (_hk : k.size ≤ 9223372036854775807) :
    Calls Tryd.prog 3 #[.slice aa a.length ca, .slice ab b.length cb, .string k] w fun e w' => e = .returned (.bool true) ∧ Below w.heap.size w w' := by
  have HH := Lib.hid (fun W => heads_any W)
  have HA := Lib.hid (fun (W : World) (hW : Below w.heap.size w W) => ha.below hW)
  have HB := Lib.hid (fun (W : World) (hW : Below w.heap.size w W) => hb.below hW)
  obtain ⟨n, hn⟩ : ∃ n, n = a.length := ⟨_, rfl⟩
  obtain ⟨m, hm⟩ : ∃ m, m = b.length := ⟨_, rfl⟩
  rw [← hn, ← hm]
  have HN := Lib.hid hn
  have HM := Lib.hid hm
  have HAN := Lib.hid han
  have HBN := Lib.hid hbn
  have HAK := Lib.hid hak
  have HBK := Lib.hid hbk
  have nle : n ≤ 9223372036854775807 := by omega
  have mle : m ≤ 9223372036854775807 := by omega
  clear ha hb hac ham han hak hbc hbm hbn hbk hn hm _hk
  by_cases hn200 : n > 200
  · have hd4 : (200 : Int) < (n : Int) := by omega
    have hd5 : decide ((200 : Int) < (n : Int)) = true := decide_eq_true hd4
    have hd6 : decide (200 < n) = true := decide_eq_true (by omega)
    go_enter Tryd.func3, Tryd.ntmps3
    go_wp2_with (go_at_call 6; refine (HH.out _).mono ?_; rintro e w2 ⟨rfl, b2⟩)
    go_ret
    exact ⟨rfl, b2⟩
  have hd4 : ¬ (200 : Int) < (n : Int) := by omega
  have hd5 : decide ((200 : Int) < (n : Int)) = false := decide_eq_false hd4
  have hd6 : decide (200 < n) = false := decide_eq_false (by omega)
  by_cases hm200 : m > 200
  · have hd7 : (200 : Int) < (m : Int) := by omega
    have hd8 : decide ((200 : Int) < (m : Int)) = true := decide_eq_true hd7
    have hd9 : decide (200 < m) = true := decide_eq_true (by omega)
    go_enter Tryd.func3, Tryd.ntmps3
    go_wp2_with (go_at_call 6; refine (HH.out _).mono ?_; rintro e w2 ⟨rfl, b2⟩)
    go_ret
    exact ⟨rfl, b2⟩
  have hd7 : ¬ (200 : Int) < (m : Int) := by omega
  have hd8 : decide ((200 : Int) < (m : Int)) = false := decide_eq_false hd7
  have hd9 : decide (200 < m) = false := decide_eq_false (by omega)
  have CA := check_any aa n ca a w (HA.out w (Below.refl _ _)) HN.out.symm (by omega) (by have := HAK.out; unfold Kz at this; rwa [← HN.out] at this)
  have CB : Hid (∀ W, Below w.heap.size w W → Calls Tryd.prog 5 #[.slice ab m cb] W fun e w' => e = .returned (.bool (chk b)) ∧ Gw W w') := fun W hW => check_any ab m cb b W (HB.out W hW) HM.out.symm (by omega) (by have := HBK.out; unfold Kz at this; rwa [← HM.out] at this)
  cases hca : chk a with
  | false =>
    rw [hca] at CA
    have CAH := Lib.hid CA
    clear CA hca
    go_enter Tryd.func3, Tryd.ntmps3
    go_wp2_with (first
      | (go_at_call 5; refine CAH.out.mono ?_; rintro e w1 ⟨rfl, g1⟩; have B1 := Lib.hid g1.below; clear g1 CAH)
      | (go_at_call 6; refine (HH.out _).mono ?_; rintro e w2 ⟨rfl, b2⟩))
    go_ret
    exact ⟨rfl, Sh.below_chain B1.out b2⟩
  | true =>
    rw [hca] at CA
    have CAH := Lib.hid CA
    have HCA := Lib.hid hca
    clear CA hca
    cases hcb : chk b with
    | false =>
      rw [hcb] at CB
      clear hcb
      go_enter Tryd.func3, Tryd.ntmps3
      go_wp2_with (first
        | (go_at_call 5; refine CAH.out.mono ?_; rintro e w1 ⟨rfl, g1⟩; have B1 := Lib.hid g1.below; have CBH := Lib.hid (CB.out w1 B1.out); clear g1 CAH)
        | (go_at_call 5; refine CBH.out.mono ?_; rintro e w1b ⟨rfl, g1⟩; have B1b := Lib.hid (Sh.below_chain B1.out g1.below); clear g1 CBH)
        | (go_at_call 6; refine (HH.out _).mono ?_; rintro e w2 ⟨rfl, b2⟩))
      go_ret
      exact ⟨rfl, Sh.below_chain B1b.out b2⟩
    | true =>
      rw [hcb] at CB
      have HCB := Lib.hid hcb
      clear hcb
      have hkz : ∀ r ∈ [a, b], Kz r := fun r hr => by
        simp only [List.mem_cons, List.not_mem_nil, or_false] at hr
        rcases hr with rfl | rfl
        · exact HAK.out
        · exact HBK.out
      have hri : ∀ r ∈ [a, b], Ri r := fun r hr => by
        simp only [List.mem_cons, List.not_mem_nil, or_false] at hr
        rcases hr with rfl | rfl
        · exact chk_ri HCA.out
        · exact chk_ri HCB.out
      have hab : [a, b].all chk = true := by simp [HCA.out, HCB.out]
      have haa : [a, a, []].all chk = true := by simp [HCA.out]; rfl
      have hlen : (mrg [a, b]).length ≤ 400 := by
        have := mrg_len [a, b]
        have h1 := HN.out
        have h2 := HM.out
        simp only [List.flatten_cons, List.flatten_nil, List.append_nil, List.length_append] at this
        omega
      have CM2 : Hid (∀ W, Below w.heap.size w W → Calls Tryd.prog 7 #[.slice (some ⟨W.heap.size, 0, none⟩) 2 2] (W.alloc (.cells #[.slice aa n ca, .slice ab m cb] 22)) fun e w' => Below w.heap.size w w' ∧ ∃ ao c, e = .returned (.tuple #[.slice ao (mrg [a, b]).length c, .int .i64 0]) ∧ Erw w' ao (mrg [a, b])) := fun W hW => by
        have hb := hW.alloc hW.size (.cells #[.slice aa n ca, .slice ab m cb] 22)
        have h0 := alloc_cells W #[.slice aa n ca, .slice ab m cb] 22 0
        have h1 := alloc_cells W #[.slice aa n ca, .slice ab m cb] 22 1
        have hr := runs2 (W.alloc (.cells #[.slice aa n ca, .slice ab m cb] 22)) W.heap.size (by simp) aa ab a b ca cb (HA.out _ hb) (HB.out _ hb) HAN.out HBN.out HAK.out HBK.out (by rw [h0, ← HN.out]; rfl) (by rw [h1, ← HM.out]; rfl)
        refine (merge_any _ _ _ hr (by simp) (by have h1 := HN.out; have h2 := HM.out; simp; omega)).mono ?_
        rintro e w' ⟨hB, ao, c, l, rfl, rfl, he, _⟩
        rw [if_pos hab] at he ⊢
        rw [if_pos hab]
        exact ⟨Sh.below_chain hb hB, ao, c, rfl, he⟩
      have CM3 : Hid (∀ W, Below w.heap.size w W → Calls Tryd.prog 7 #[.slice (some ⟨W.heap.size, 0, none⟩) 3 3] (W.alloc (.cells #[.slice aa n ca, .slice aa n ca, .slice none 0 0] 22)) fun e w' => Below w.heap.size w w' ∧ ∃ ao c, e = .returned (.tuple #[.slice ao n c, .int .i64 0]) ∧ Erw w' ao a ∧ Below W.heap.size W w') := fun W hW => by
        have hb0 := (Below.refl W.heap.size W).alloc (Nat.le_refl _) (.cells #[.slice aa n ca, .slice aa n ca, .slice none 0 0] 22)
        have hb := Sh.below_chain hW hb0
        have h0 := alloc_cells W #[.slice aa n ca, .slice aa n ca, .slice none 0 0] 22 0
        have h1 := alloc_cells W #[.slice aa n ca, .slice aa n ca, .slice none 0 0] 22 1
        have h2 := alloc_cells W #[.slice aa n ca, .slice aa n ca, .slice none 0 0] 22 2
        have hr := runs3 (W.alloc (.cells #[.slice aa n ca, .slice aa n ca, .slice none 0 0] 22)) W.heap.size (by simp) aa aa none a a [] ca ca 0 (HA.out _ hb) (HA.out _ hb) (erw_nil _ _) HAN.out HAN.out (fun _ => rfl) HAK.out HAK.out (fun i hi => absurd hi (Nat.not_lt_zero _)) (by rw [h0, ← HN.out]; rfl) (by rw [h1, ← HN.out]; rfl) (by rw [h2]; rfl)
        refine (merge_any _ _ _ hr (by simp) (by have h1 := HN.out; simp; omega)).mono ?_
        rintro e w' ⟨hB, ao, c, l, rfl, rfl, he, _⟩
        rw [if_pos haa, mrg_aa a HCA.out] at he ⊢
        rw [if_pos haa, ← HN.out]
        exact ⟨Sh.below_chain hb hB, ao, c, rfl, he, Sh.below_chain hb0 hB⟩
      have CGA : Hid (∀ W, Below w.heap.size w W → Calls Tryd.prog 8 #[.slice aa n ca, .string k] W fun e w' => Below W.heap.size W w' ∧ e = .returned (.tuple #[.agg (encE (getE a k).1).toArray, .bool (getE a k).2])) := fun W hW => get_any aa n ca a k W (HA.out W hW) HN.out.symm (by omega) HAK.out
      have CGB : Hid (∀ W, Below w.heap.size w W → Calls Tryd.prog 8 #[.slice ab m cb, .string k] W fun e w' => Below W.heap.size W w' ∧ e = .returned (.tuple #[.agg (encE (getE b k).1).toArray, .bool (getE b k).2])) := fun W hW => get_any ab m cb b k W (HB.out W hW) HM.out.symm (by omega) HBK.out
      have CGM : Hid (∀ ao c W, Erw W ao (mrg [a, b]) → Calls Tryd.prog 8 #[.slice ao (mrg [a, b]).length c, .string k] W fun e w' => Below W.heap.size W w' ∧ e = .returned (.tuple #[.agg (encE (if (getE a k).2 = true then getE a k else getE b k).1).toArray, .bool (if (getE a k).2 = true then getE a k else getE b k).2])) := fun ao c W hW => by
        have := get_any ao (mrg [a, b]).length c (mrg [a, b]) k W hW rfl (by omega) (kz_mrg hkz hri)
        rwa [mrg_get a b k HCA.out HCB.out] at this
      have LEN : (mrg [a, b]).length ≤ 9223372036854775807 := by omega
      generalize hLL : (mrg [a, b]).length = ll at CM2 CGM LEN
      clear hLL hkz hri hab haa hlen
      obtain ⟨XA, hXA⟩ : ∃ XA, XA = getE a k := ⟨_, rfl⟩
      obtain ⟨XB, hXB⟩ : ∃ XB, XB = getE b k := ⟨_, rfl⟩
      rw [← hXA] at CGA
      rw [← hXB] at CGB
      simp only [← hXA, ← hXB] at CGM
      clear hXA hXB
      obtain ⟨⟨kx, x1, x2, x3, x4⟩, oka⟩ := XA
      simp only [encE] at CGA
      cases oka with
      | true =>
        simp only [if_true, encE] at CGM
        go_enter Tryd.func3, Tryd.ntmps3
        go_wp2_with (first
        | (go_at_call 5; refine CAH.out.mono ?_; rintro e w1 ⟨rfl, g1⟩
           have B1 := Lib.hid g1.below
           have CBH := Lib.hid (CB.out w1 B1.out)
           clear g1 CAH)
        | (go_at_call 5; refine CBH.out.mono ?_; rintro e w2 ⟨rfl, g2⟩
           have B2 := Lib.hid (Sh.below_chain B1.out g2.below)
           have C7 := Lib.hid (CM2.out w2 B2.out)
           clear g2 CBH)
        | (go_at_call 7; refine C7.out.mono ?_; rintro e w3 ⟨B3', am, cm, rfl, em⟩
           have B3 := Lib.hid B3'
           have C8 := Lib.hid (CGA.out w3 B3')
           have EM3 := Lib.hid em
           clear B3' em C7)
        | (go_at_call 8; refine C8.out.mono ?_; rintro e w4 ⟨b4, rfl⟩
           have B4 := Lib.hid (Sh.below_chain B3.out b4)
           have B5 : Hid (Below w.heap.size w (w4.alloc (.cells #[.string kx, .int .i64 x1, .int .i64 x2, .int .i64 x3, .int .i64 x4] 31))) := B4.out.alloc B4.out.size _
           have G5 : Hid ((w4.alloc (.cells #[.string kx, .int .i64 x1, .int .i64 x2, .int .i64 x3, .int .i64 x4] 31)).heap[w4.heap.size]? = some (.cells #[.string kx, .int .i64 x1, .int .i64 x2, .int .i64 x3, .int .i64 x4] 31 (0, 0))) := heap_alloc_new w4 _
           have LT5 : Hid (w4.heap.size < (w4.alloc (.cells #[.string kx, .int .i64 x1, .int .i64 x2, .int .i64 x3, .int .i64 x4] 31)).heap.size) := by show _ < _; simp
           have LW5 : Hid (w.heap.size ≤ w4.heap.size) := B4.out.size
           have EM5 := Lib.hid (erw_alloc (EM3.out.below b4) (.cells #[.string kx, .int .i64 x1, .int .i64 x2, .int .i64 x3, .int .i64 x4] 31))
           have C8m := Lib.hid (CGM.out am cm _ EM5.out)
           clear b4 C8 EM3)
        | (go_at_call 8; refine C8m.out.mono ?_; rintro e w8 ⟨b8, rfl⟩
           have B8 := Lib.hid (Sh.below_chain B5.out b8)
           have B9 : Hid (Below w.heap.size w (w8.alloc (.cells #[.string kx, .int .i64 x1, .int .i64 x2, .int .i64 x3, .int .i64 x4] 31))) := B8.out.alloc B8.out.size _
           have G9 : Hid (Erw (w8.alloc (.cells #[.string kx, .int .i64 x1, .int .i64 x2, .int .i64 x3, .int .i64 x4] 31)) (some ⟨w4.heap.size, 0, none⟩) [⟨kx, x1, x2, x3, x4⟩]) := erw_alloc (erw_blk (x := ⟨kx, x1, x2, x3, x4⟩) ((b8.block _ LT5.out).trans G5.out)) _
           have G10 : Hid (Erw (w8.alloc (.cells #[.string kx, .int .i64 x1, .int .i64 x2, .int .i64 x3, .int .i64 x4] 31)) (some ⟨w8.heap.size, 0, none⟩) [⟨kx, x1, x2, x3, x4⟩]) := erw_blk (x := ⟨kx, x1, x2, x3, x4⟩) (heap_alloc_new w8 _)
           have C7b0 := CM3.out _ B9.out
           rw [World.size_alloc] at C7b0
           have C7b := Lib.hid C7b0
           clear b8 C8m C7b0)
        | (go_at_call 7; refine C7b.out.mono ?_; rintro e w11 ⟨B11', as_, cs_, rfl, es, b11⟩
           have B11 := Lib.hid B11'
           have hb11 : Below (w8.alloc (.cells #[.string kx, .int .i64 x1, .int .i64 x2, .int .i64 x3, .int .i64 x4] 31)).heap.size (w8.alloc (.cells #[.string kx, .int .i64 x1, .int .i64 x2, .int .i64 x3, .int .i64 x4] 31)) w11 := by rw [World.size_alloc]; exact b11
           have cX := (erw_cells (G9.out.below hb11)).2
           have cY := (erw_cells (G10.out.below hb11)).2
           have z0 := cX 0 _ rfl
           have z1 := cX 1 _ rfl
           have z2 := cX 2 _ rfl
           have z3 := cX 3 _ rfl
           have z4 := cX 4 _ rfl
           have v0 := cY 0 _ rfl
           have v1 := cY 1 _ rfl
           have v2 := cY 2 _ rfl
           have v3 := cY 3 _ rfl
           have v4 := cY 4 _ rfl
           simp only [Nat.add_zero, Nat.zero_add] at z0 z1 z2 z3 z4 v0 v1 v2 v3 v4
           have CS0 := same_any as_ aa n cs_ ca a a w11 es (HA.out w11 B11') HN.out.symm HN.out.symm (by omega)
           rw [decide_eq_true rfl] at CS0
           have CS := Lib.hid CS0
           have KE := fun W => eq_ent ⟨kx, x1, x2, x3, x4⟩ ⟨kx, x1, x2, x3, x4⟩ W
           simp only [decide_true, encE] at KE
           clear B11' cX cY es b11 hb11 C7b CS0)
        | (go_at_call 9; refine CS.out.mono ?_; rintro e w12 ⟨rfl, g12⟩
           have B12 := Lib.hid (Sh.below_chain B11.out g12.below)
           clear g12 CS)
        | (go_at_call 6; refine (HH.out _).mono ?_; rintro e w13 ⟨rfl, b13⟩))
        go_ret
        exact ⟨rfl, Sh.below_chain B12.out b13⟩
      | false =>
        obtain ⟨⟨ky, y1, y2, y3, y4⟩, okb⟩ := XB
        simp only [encE] at CGB
        simp only [Bool.false_eq_true, if_false, encE] at CGM
        go_enter Tryd.func3, Tryd.ntmps3
        go_wp2_with (first
        | (go_at_call 5; refine CAH.out.mono ?_; rintro e w1 ⟨rfl, g1⟩
           have B1 := Lib.hid g1.below
           have CBH := Lib.hid (CB.out w1 B1.out)
           clear g1 CAH)
        | (go_at_call 5; refine CBH.out.mono ?_; rintro e w2 ⟨rfl, g2⟩
           have B2 := Lib.hid (Sh.below_chain B1.out g2.below)
           have C7 := Lib.hid (CM2.out w2 B2.out)
           clear g2 CBH)
        | (go_at_call 7; refine C7.out.mono ?_; rintro e w3 ⟨B3', am, cm, rfl, em⟩
           have B3 := Lib.hid B3'
           have C8 := Lib.hid (CGA.out w3 B3')
           have EM3 := Lib.hid em
           clear B3' em C7)
        | (go_at_call 8; refine C8.out.mono ?_; rintro e w4 ⟨b4, rfl⟩
           have B4 := Lib.hid (Sh.below_chain B3.out b4)
           have B5 : Hid (Below w.heap.size w (w4.alloc (.cells #[.string kx, .int .i64 x1, .int .i64 x2, .int .i64 x3, .int .i64 x4] 31))) := B4.out.alloc B4.out.size _
           have G5 : Hid ((w4.alloc (.cells #[.string kx, .int .i64 x1, .int .i64 x2, .int .i64 x3, .int .i64 x4] 31)).heap[w4.heap.size]? = some (.cells #[.string kx, .int .i64 x1, .int .i64 x2, .int .i64 x3, .int .i64 x4] 31 (0, 0))) := heap_alloc_new w4 _
           have LT5 : Hid (w4.heap.size < (w4.alloc (.cells #[.string kx, .int .i64 x1, .int .i64 x2, .int .i64 x3, .int .i64 x4] 31)).heap.size) := by show _ < _; simp
           have LW5 : Hid (w.heap.size ≤ w4.heap.size) := B4.out.size
           have EM4 := Lib.hid (EM3.out.below b4)
           have W45 : Hid (Below w4.heap.size w4 (w4.alloc (.cells #[.string kx, .int .i64 x1, .int .i64 x2, .int .i64 x3, .int .i64 x4] 31))) := (Below.refl _ w4).alloc (Nat.le_refl _) _
           have EM5 := Lib.hid (erw_alloc (EM3.out.below b4) (.cells #[.string kx, .int .i64 x1, .int .i64 x2, .int .i64 x3, .int .i64 x4] 31))
           have C8b := Lib.hid (CGB.out _ B5.out)
           clear b4 C8 EM3)
        | (go_at_call 8; refine C8b.out.mono ?_; rintro e w6 ⟨b6, rfl⟩
           have B6 := Lib.hid (Sh.below_chain B5.out b6)
           have G6 : Hid (w6.heap[w4.heap.size]? = some (.cells #[.string kx, .int .i64 x1, .int .i64 x2, .int .i64 x3, .int .i64 x4] 31 (0, 0))) := (b6.block _ LT5.out).trans G5.out
           have G7 : Hid ((w6.setRow w4.heap.size #[.string ky, .int .i64 y1, .int .i64 y2, .int .i64 y3, .int .i64 y4]).heap[w4.heap.size]? = some (.cells #[.string ky, .int .i64 y1, .int .i64 y2, .int .i64 y3, .int .i64 y4] 31 (0, 0))) := setRow_heap w6 w4.heap.size #[.string kx, .int .i64 x1, .int .i64 x2, .int .i64 x3, .int .i64 x4] #[.string ky, .int .i64 y1, .int .i64 y2, .int .i64 y3, .int .i64 y4] 31 (0, 0) G6.out
           have B7 : Hid (Below w.heap.size w (w6.setRow w4.heap.size #[.string ky, .int .i64 y1, .int .i64 y2, .int .i64 y3, .int .i64 y4])) := below_row B6.out LW5.out _
           have LT7 : Hid (w4.heap.size < (w6.setRow w4.heap.size #[.string ky, .int .i64 y1, .int .i64 y2, .int .i64 y3, .int .i64 y4]).heap.size) := by show _ < _; rw [size_setRow]; exact Nat.lt_of_lt_of_le LT5.out b6.size
           have EM7 : Hid (Erw (w6.setRow w4.heap.size #[.string ky, .int .i64 y1, .int .i64 y2, .int .i64 y3, .int .i64 y4]) am (mrg [a, b])) := EM4.out.below (below_row (Sh.below_chain W45.out b6) (Nat.le_refl _) _)
           have C8m := Lib.hid (CGM.out am cm _ EM7.out)
           clear b6 C8b)
        | (with_reducible refine wpList_store_row rfl 31 (.tmp 9) (.tmp 53) rfl w4.heap.size #[.string ky, .int .i64 y1, .int .i64 y2, .int .i64 y3, .int .i64 y4] rfl rfl 31 #[.string kx, .int .i64 x1, .int .i64 x2, .int .i64 x3, .int .i64 x4] G6.out (size31 _ _ _ _ _) (sz5 _ _ _ _ _ _ _ _ _ _) (all5 _ _ _ _ _) ?_)
        | (go_at_call 8; refine C8m.out.mono ?_; rintro e w8 ⟨b8, rfl⟩
           have B8 := Lib.hid (Sh.below_chain B7.out b8)
           have B9 : Hid (Below w.heap.size w (w8.alloc (.cells #[.string ky, .int .i64 y1, .int .i64 y2, .int .i64 y3, .int .i64 y4] 31))) := B8.out.alloc B8.out.size _
           have G9 : Hid (Erw (w8.alloc (.cells #[.string ky, .int .i64 y1, .int .i64 y2, .int .i64 y3, .int .i64 y4] 31)) (some ⟨w4.heap.size, 0, none⟩) [⟨ky, y1, y2, y3, y4⟩]) := erw_alloc (erw_blk (x := ⟨ky, y1, y2, y3, y4⟩) ((b8.block _ LT7.out).trans G7.out)) _
           have G10 : Hid (Erw (w8.alloc (.cells #[.string ky, .int .i64 y1, .int .i64 y2, .int .i64 y3, .int .i64 y4] 31)) (some ⟨w8.heap.size, 0, none⟩) [⟨ky, y1, y2, y3, y4⟩]) := erw_blk (x := ⟨ky, y1, y2, y3, y4⟩) (heap_alloc_new w8 _)
           have C7b0 := CM3.out _ B9.out
           rw [World.size_alloc] at C7b0
           have C7b := Lib.hid C7b0
           clear b8 C8m C7b0)
        | (go_at_call 7; refine C7b.out.mono ?_; rintro e w11 ⟨B11', as_, cs_, rfl, es, b11⟩
           have B11 := Lib.hid B11'
           have hb11 : Below (w8.alloc (.cells #[.string ky, .int .i64 y1, .int .i64 y2, .int .i64 y3, .int .i64 y4] 31)).heap.size (w8.alloc (.cells #[.string ky, .int .i64 y1, .int .i64 y2, .int .i64 y3, .int .i64 y4] 31)) w11 := by rw [World.size_alloc]; exact b11
           have cX := (erw_cells (G9.out.below hb11)).2
           have cY := (erw_cells (G10.out.below hb11)).2
           have z0 := cX 0 _ rfl
           have z1 := cX 1 _ rfl
           have z2 := cX 2 _ rfl
           have z3 := cX 3 _ rfl
           have z4 := cX 4 _ rfl
           have v0 := cY 0 _ rfl
           have v1 := cY 1 _ rfl
           have v2 := cY 2 _ rfl
           have v3 := cY 3 _ rfl
           have v4 := cY 4 _ rfl
           simp only [Nat.add_zero, Nat.zero_add] at z0 z1 z2 z3 z4 v0 v1 v2 v3 v4
           have CS0 := same_any as_ aa n cs_ ca a a w11 es (HA.out w11 B11') HN.out.symm HN.out.symm (by omega)
           rw [decide_eq_true rfl] at CS0
           have CS := Lib.hid CS0
           have KE := fun W => eq_ent ⟨ky, y1, y2, y3, y4⟩ ⟨ky, y1, y2, y3, y4⟩ W
           simp only [decide_true, encE] at KE
           clear B11' cX cY es b11 hb11 C7b CS0)
        | (go_at_call 9; refine CS.out.mono ?_; rintro e w12 ⟨rfl, g12⟩
           have B12 := Lib.hid (Sh.below_chain B11.out g12.below)
           clear g12 CS)
        | (go_at_call 6; refine (HH.out _).mono ?_; rintro e w13 ⟨rfl, b13⟩))
        go_ret
        exact ⟨rfl, Sh.below_chain B12.out b13⟩
end Go.Proofs.YtpcmminokhmkjaaDoor.St
namespace Go.Proofs.YtpcmminokhmkjaaDoor.St
open Go.ChangeShapes Go.WideShapes Go.ChangeAt Go.RowKit Go.Lib
theorem own : ownKnob Tryd.prog.godebug = none := by kernel_rfl
/-- what each row lists -/
def laidAll : List (String × DataW Unit) := Rows.indexMergesRow.laid
/-- a state that meets it -/
noncomputable def laidWorld (os : Os) : World := World.laidAll Tryd.prog os laidAll
theorem laidWorld_os (os : Os) : (laidWorld os).os = os := World.laidAll_os _ _ _
theorem laidWorld_met (os : Os) (args : Array Value) : laidMetH Tryd.prog laidAll ((laidWorld os).forCall (fun _ _ => 0) ⟨#[], args, []⟩).memory := by
  rw [MakeChecks.laidMetH_plain _ _ _ (by kernel_rfl)]
  exact laidMet_laidAll _ (by kernel_rfl) (by kernel_rfl)
theorem laidWorld_shaped (os : Os) (args : Array Value) : ((laidWorld os).forCall (fun _ _ => 0) ⟨#[], args, []⟩).Shaped Tryd.prog :=
  World.shaped_of_ZipB (by kernel_rfl) (by kernel_rfl)
theorem laidOut : laidOutB Tryd.prog = true := by kernel_rfl
end Go.Proofs.YtpcmminokhmkjaaDoor.St
namespace Go.Proofs.YtpcmminokhmkjaaDoor
namespace St
open Sh Go.ChangeShapes Go.WideShapes Go.ChangeAt Go.RowKit Go.Lib Go.ChangeMaps

set_option maxRecDepth 100000 in
/-- WHAT THE WALK GIVES, for every argument and every memory that meets the row. -/
theorem indexRuns_contract (H : Type) (enc : TypeId × Value → H) (W : World) (base : Nat) (args : Array Value) (ds gs : List (DataW H)) (before : List MemPlace)
    (hval : ∀ (j : Nat) t v, Tryd.f3.params[j]? = some t → args[j]? = some v → Value.okWide Tryd.prog W .any base t v)
    (hW : DataW.Whole enc Tryd.prog Tryd.f3.params.toList Rows.indexRunsSpec.vars false W args.toList ds gs before) 
    (hsz0 : (DataW.weightsEach Tryd.prog (Tryd.f3.params.toList ++ (OpenSpec.ofChange Rows.indexRunsSpec).bare.plain.varTypes Tryd.prog) (ds ++ gs)).all (· ≤ reachBytes) = true) (_hL : laidMetH Tryd.prog Rows.indexRunsRow.laid W) :
    Calls Tryd.prog 3 args W fun e W' => ∃ v, e = .returned v ∧ Rows.indexRunsSpec.post enc Tryd.prog Tryd.f3 false true false false W args v W' := by
  have hsz := hsz0
  clear hsz0
  have hW' := hW
  obtain ⟨p, q, hA0, hV, rfl, hfz, hnd⟩ := hW
  have hA : DataW.TrodAll enc Tryd.prog W 0 (fun _ => true) true Tryd.f3.params.toList args.toList ds p := hA0
  have hAk := hA
  clear hA0
  rw [Tryd.params3] at hA hval hsz
  obtain ⟨rfl, rfl⟩ := trodVars_none hV
  simp only [List.append_nil] at hW' hsz
  have hlt : ∀ x ∈ p, x.block < W.heap.size := fun x hx => by simpa using hW'.lt x hx
  obtain ⟨v0, vs0, d0, ds0, p0, q0, hargs, rfl, hp0, h0, r0⟩ := trodAll_cons hA
  obtain ⟨v1, vs1, d1, ds1, p1, q1, rfl, rfl, hp1, h1, r1⟩ := trodAll_cons r0
  obtain ⟨v2, vs2, d2, ds2, p2, q2, rfl, rfl, hp2, h2, r2⟩ := trodAll_cons r1
  obtain ⟨rfl, rfl, hpn⟩ := trodAll_nil r2
  obtain rfl : args = #[v0, v1, v2] := by cases args; simp_all
  have hlt0 : ∀ x ∈ p0, x.block < W.heap.size := fun x hx => hlt x (by rw [hp0]; exact List.mem_append_left _ hx)
  have hltq0 : ∀ x ∈ q0, x.block < W.heap.size := fun x hx => hlt x (by rw [hp0]; exact List.mem_append_right _ hx)
  have hlt1 : ∀ x ∈ p1, x.block < W.heap.size := fun x hx => hltq0 x (by rw [hp1]; exact List.mem_append_left _ hx)
  have hltq1 : ∀ x ∈ q1, x.block < W.heap.size := fun x hx => hltq0 x (by rw [hp1]; exact List.mem_append_right _ hx)
  have hlt2 : ∀ x ∈ p2, x.block < W.heap.size := fun x hx => hltq1 x (by rw [hp2]; exact List.mem_append_left _ hx)
  have hltq2 : ∀ x ∈ q2, x.block < W.heap.size := fun x hx => hltq1 x (by rw [hp2]; exact List.mem_append_right _ hx)
  obtain ⟨ala, la, cla, rfl, hlac, hlam, hlan, hlar, hlak⟩ := open_row (hval 0 22 v0 rfl rfl) h0 hlt0
  obtain ⟨alb, lb, clb, rfl, hlbc, hlbm, hlbn, hlbr, hlbk⟩ := open_row (hval 1 22 v1 rfl rfl) h1 hlt1
  obtain ⟨k, rfl, rfl, rfl, ws2⟩ := open_string Tryd.underlying23 (hval 2 23 v2 rfl rfl) h2
  refine (runs_law ala la cla alb lb clb k W hlar hlac hlam hlan hlak hlbr hlbc hlbm hlbn hlbk (by unfold maxLen at *; omega)).mono fun e W' ⟨he, hb⟩ => ?_
  subst he
  exact ⟨_, rfl, _, _, _, [], p, [], hW', trodAll_mk1 (shut_bool Tryd.underlying4 _), below_trodAll laidOut hb _ _ _ _ (by kernel_rfl) hAk hlt, rfl, hb.frame _, fun h => by cases h⟩

theorem indexRuns_reads (os : Os) {H : Type} (enc : TypeId × Value → H) : ∃ places, DataW.whole enc Tryd.prog ((laidWorld os).forCall (fun _ _ => 0) ⟨#[], #[.slice none 0 0, .slice none 0 0, .string ⟨#[]⟩], []⟩).memory Tryd.f3.params.toList Rows.indexRunsSpec.vars false (#[Value.slice none 0 0, Value.slice none 0 0, Value.string ⟨#[]⟩] : Array Value).toList 8 = some ([.nil, .nil, .lit (.string [])], [], places) :=
  ⟨[], by kernel_rfl⟩

set_option maxRecDepth 100000 in
theorem indexRuns_lifted (os : Os) (started : os.Started) (H : Type) (enc : TypeId × Value → H) (F : Stop.Interp) :
    ReturnsInHanded {} Tryd.checked os 3 .any ((OpenSpec.ofChange Rows.indexRunsSpec).preRow enc Tryd.prog Tryd.f3 Rows.indexRunsRow.domain false Rows.indexRunsRow.laid) (((OpenSpec.ofChange Rows.indexRunsSpec).at F).post enc Tryd.prog Tryd.f3 false true false false) := by
  obtain ⟨places, hx⟩ := indexRuns_reads os enc
  refine returnsInHanded_of_row (C := Tryd.checked) (s := OpenSpec.ofChange Rows.indexRunsSpec) own started (by kernel_rfl) Tryd.func3 ?_ ?_
  · refine ⟨laidWorld os, fun _ _ => 0, ⟨#[], #[.slice none 0 0, .slice none 0 0, .string ⟨#[]⟩], []⟩, laidWorld_os os, laidWorld_shaped os _, rfl, (Input.okWide_of_okWideB (by kernel_rfl)).2, ?_, ?_⟩
    · exact OpenSpec.preRow_of_cond 8 hx (by kernel_rfl) (fun k hk => by cases hk) (by kernel_rfl) (laidWorld_met os _)
    · simp only [Assume.holds]
      exact ⟨by simp, by simp, fun _ => Modest.zero, by simp, by simp⟩
  intro W base args ds gs before hval hW _ _ hsz hL hsh _
  exact indexRuns_contract H enc W base args ds gs before hval hW hsz hL

theorem indexRuns_said : Rows.IndexRunsSaid :=
  OpenClaim.holds_of_cond 3 Tryd.f3 rfl rfl rfl rfl rfl rfl rfl ⟨rfl, rfl, rfl, rfl, rfl⟩ rfl rfl rfl rfl rfl (by kernel_rfl) Tryd.func3 (by kernel_rfl)
    (of_decide_eq_true (by kernel_rfl)) (by unfold Func.isWrapper; first | (rw [if_pos (by decide +kernel)]; kernel_rfl) | (rw [if_neg (by decide +kernel)]; exact ⟨rfl, rfl⟩))
    (fun os started H enc _ F => by rw [OpenClaim.pre_eq_preRow]; exact indexRuns_lifted os started H enc F)
end St
theorem indexRuns_plain (f : FuncId) (fn : Func) (hf : Tryd.pinned.checked.prog.funcNamed Rows.indexRunsRow.func = some f) (hfn : Tryd.pinned.checked.prog.funcs[f]? = some fn) :
    false = Tryd.pinned.checked.prog.looks [] ∧ ∀ (j : Nat) t, fn.params[j]? = some t → Tryd.pinned.checked.prog.wantsStandIn t = false := by
  obtain rfl : f = 3 := Option.some.inj ((show Tryd.prog.funcNamed Rows.indexRunsRow.func = some 3 by kernel_rfl).symm.trans hf) |>.symm
  obtain rfl : fn = Tryd.f3 := (Option.some.inj (Tryd.func3.symm.trans hfn)).symm
  refine ⟨by kernel_rfl, fun j t ht => ?_⟩
  rw [Tryd.params3] at ht
  have hm : t ∈ [22, 22, 23] := by simpa using Array.mem_of_getElem? ht
  have hall : ([22, 22, 23].all fun u => !Tryd.prog.wantsStandIn u) = true := by kernel_rfl
  exact (show Tryd.prog.wantsStandIn t = false by simpa using List.all_eq_true.1 hall t hm)
/-- THE STATEMENT. -/
theorem indexRuns_card : Rows.IndexRunsCardSaid :=
  Claim7.holds_tied_plain_at .later [] _ _ _ _ St.indexRuns_said (fun _ h => by cases h) (by kernel_rfl) (fun _ h => by cases h) indexRuns_row_tie rfl ⟨rfl, rfl⟩ (by kernel_rfl) rfl indexRuns_plain (by kernel_rfl)
end Go.Proofs.YtpcmminokhmkjaaDoor
