/-
  The contract of the package's Merge where every run may be. Conditions: each law's own.
-/
import Derived.Test.YtpcmminokhmkjaaDoorSr
namespace Go.Proofs.YtpcmminokhmkjaaDoor.St
open Go.Shelf Go.RowKit Go.Lib Go.Sort
/-- what Merge may answer of entries, one behind the other: the first of each key in a row that is sorted by key, and stably -/
def MrgOf (l r : List Ent) : Prop := ∃ d' : Array TE, PermIn 0 l.length (tagd l) d' ∧ So ltT tgT 0 l.length d' ∧ r = (kp d' l.length).map (·.1)
theorem erw_kp {w : World} {g K : Nat} {d2 : Array TE} {L : List TE} (hg : g < w.heap.size) (hH : HoldsK encT 5 w g 0 d2) (hK : L.length = K) (hs : K ≤ d2.size) (hv : ∀ q, q < K → d2[q]! = L[q]!) : Erw w (some ⟨g, 0, none⟩) (L.map (·.1)) := fun _ => by
  refine ⟨g, 0, rfl, hg, fun j u hj => ?_⟩
  have hjl : j < (cs (L.map (·.1))).length := (List.getElem?_eq_some_iff.1 hj).1
  rw [cs_len, List.length_map, hK] at hjl
  have hq : j / 5 < K := by omega
  have h1 := (hH j (by rw [size_flatK]; omega)).1
  rw [get_flatK _ _ _ j (by omega), hv _ hq] at h1
  rw [h1, ← hj]
  have := cs_get (L.map (·.1)) (j / 5) (by rw [List.length_map]; omega) (j % 5) ((encT L[j / 5]!)[j % 5]!) (by
    rw [getElem!_pos (L.map (·.1)) (j / 5) (by rw [List.length_map]; omega), List.getElem_map, getElem!_pos L (j / 5) (by omega), getElem!_pos (encT L[j / 5]) (j % 5) (by show j % 5 < 5; omega)]
    exact List.getElem?_eq_getElem _)
  rw [Nat.div_add_mod' j 5] at this
  exact this.symm
set_option maxHeartbeats 8000000 in
set_option maxRecDepth 100000 in
theorem merge_ok (k o n cap : Nat) (rows : List (List Ent)) (w : World) (h : Rws w k o rows) (hn : rows.length = n) (hn2 : n ≤ 1099511627776) (hk : k < w.heap.size) (hbig : rows.flatten.length ≤ 1099511627776) (hkey : ∀ i (hi : i < rows.length) q, q < (rows[i]).length → (rows[i])[q]!.key.size ≤ 9223372036854775807) (hall : ∀ i (hi : i < rows.length), chk rows[i] = true) :
    Calls Tryd.prog 7 #[.slice (some ⟨k, o, none⟩) n cap] w fun e w' => Below w.heap.size w w' ∧ ∃ ao r c, e = .returned (.tuple #[.slice ao r.length c, .int .i64 0]) ∧ MrgOf rows.flatten r ∧ Erw w' ao r ∧ (ao = none → c = 0) ∧ r.length ≤ c ∧ c ≤ 9223372036854775807 := by
  have HR := Lib.hid h
  have HN := Lib.hid hn
  have HLEN : Hid (∀ i (hi : i < rows.length), (rows[i]).length ≤ 1099511627776) := fun i hi => by
    have := rows_take rows i hi
    have h2 := rows_len rows (i + 1)
    rw [this, List.length_append] at h2
    omega
  have HCK : Hid (∀ W, Below w.heap.size w W → ∀ i (hi : i < n), ∃ ao m c, W.cell? ⟨k, o + i, none⟩ = some (.slice ao m c) ∧ ∀ W2, Below W.heap.size W W2 → Calls Tryd.prog 5 #[.slice ao m c] W2 fun e w' => e = .returned (.bool true) ∧ Gw W2 w') := fun W hW i hi => by
    have hi' : i < rows.length := by omega
    obtain ⟨ao, c, h1, h2, h3⟩ := (h.below hk hW) i hi'
    refine ⟨ao, (rows[i]).length, c, h1, fun W2 hW2 => ?_⟩
    have := check_any ao (rows[i]).length c rows[i] W2 (h2.below hW2) rfl (HLEN.out i hi') (fun q hq => hkey i hi' q hq)
    rwa [hall i hi'] at this
  have HCC : Hid (∀ W, Below w.heap.size w W → Calls Tryd.prog 18 #[.slice (some ⟨k, o, none⟩) n cap] W fun e w' => Below W.heap.size W w' ∧ ∃ v, e = .returned v ∧ OwnE w' W.heap.size v rows.flatten) := fun W hW => concat_any k o n cap rows W (h.below hk hW) hn (by omega) (Nat.lt_of_lt_of_le hk hW.size) hbig
  obtain ⟨l, hl⟩ : ∃ l, l = rows.flatten := ⟨_, rfl⟩
  rw [← hl] at HCC hbig ⊢
  have B0 : Hid (Below w.heap.size w w) := Below.refl _ _
  clear h hn hkey hall HLEN hl HR
  go_enter Tryd.func7, Tryd.ntmps7
  go_wp2_with fail
  go_loopg [9] n (fun kx s9 wr => ∃ (i : Nat), s9 = .int .i64 i ∧ i ≤ n ∧ n - i ≤ kx ∧ Hid (Below w.heap.size w wr))
  case atStart => exact ⟨0, rfl, Nat.zero_le _, by omega, B0⟩
  case round =>
    clear B0
    obtain ⟨i, rfl, hin, hkx, B1⟩ := hrel
    by_cases hlt : i < n
    · have hltz : (i : Int) < (n : Int) := by omega
      have pa1 : (0 : Int) ≤ (i : Int) := by omega
      obtain ⟨ao, m, c, f0, C5⟩ := HCK.out wr B1.out i hlt
      have CH := Lib.hid (C5 wr (Below.refl _ _))
      clear C5
      go_wp2_with (go_at_call 5; refine CH.out.mono ?_; rintro e w2 ⟨rfl, g2⟩)
      have B2 : Hid (Below w.heap.size w w2) := Sh.below_chain B1.out g2.below
      clear g2 CH f0
      go_wp2_with fail
      go_roundg (n - (i + 1))
      case measure => omega
      case rel => exact ⟨i + 1, by go_num, by omega, Nat.le_refl _, B2⟩
    · have hltz : ¬ (i : Int) < (n : Int) := by omega
      have CC := Lib.hid (HCC.out wr B1.out)
      go_wp2_with (go_at_call 18; refine CC.out.mono ?_; rintro e w2 ⟨b2, v, rfl, hown⟩)
      have B2 : Hid (Below w.heap.size w w2) := Sh.below_chain B1.out b2
      rcases Nat.eq_zero_or_pos l.length with h0 | h0
      · obtain rfl : l = [] := List.eq_nil_of_length_eq_zero h0
        obtain ⟨ao, c, rfl, _, hcc, _, hnn⟩ := own_erw hown
        have HCC := Lib.hid hcc
        simp only [List.length_nil]
        have SN := Lib.hid (fun W => sort_none ao c (.func (.func 20) #[] #[]) W)
        have CN := Lib.hid (fun W => compact_none ao c (.func (.func 23) #[] #[]) W)
        have HNN := Lib.hid hnn
        clear hown hnn CC h0 hcc
        go_wp2_with (first | (go_at_call 19; refine (SN.out _).mono ?_; rintro e w3 ⟨rfl, rfl⟩) | (go_at_call 22; refine (CN.out _).mono ?_; rintro e w3 ⟨rfl, rfl⟩))
        exact bodyPost_ret (results_tmp2 rfl _ _ _) rfl ⟨B2.out, ao, [], c, rfl, ⟨#[], permIn_refl _ _ _, fun p q _ _ h3 => absurd h3 (Nat.not_lt_zero _), rfl⟩, erw_nil _ _, HNN.out, Nat.zero_le _, HCC.out⟩
      · obtain ⟨g, c, rfl⟩ : ∃ g c, v = .slice (some ⟨g, 0, none⟩) l.length c := by
          obtain ⟨_, ⟨_, h1⟩ | ⟨g, cap', cur, e1, _⟩⟩ := hown
          · omega
          · exact ⟨g, cap', e1⟩
        obtain ⟨R2, hc, hg⟩ := rw_of_own hown rfl
        have HCC : Hid (c ≤ 9223372036854775807) := by
          obtain ⟨ao', c', e', _, h2, _, _⟩ := own_erw hown
          injection e' with _ _ e3
          subst e3
          exact h2
        have hgw : w.heap.size ≤ g := Nat.le_trans B1.out.size hg
        obtain ⟨N, hN⟩ : ∃ N, N = l.length := ⟨_, rfl⟩
        have SRT := sort_any g 0 c N (tagd l) w2 R2 (by rw [tagd_size, hN]) (by omega) (fun q hq => by rw [tagd_get l q (by omega)]; rfl)
        have hNb : N ≤ 1099511627776 := by omega
        rw [← hN] at hc ⊢
        have SRTH := Lib.hid SRT
        have R2H := Lib.hid R2
        have HNL := Lib.hid hN
        clear SRT R2 hown CC hN h0
        go_wp2_with (go_at_call 19; refine SRTH.out.mono ?_; rintro e w3 ⟨rfl, d', S3, P3, SO3⟩)
        have hsz : d'.size = N := by rw [P3.1, tagd_size, HNL.out]
        have R3 : Hid (RW w3 g 0 d') := ⟨R2H.out.hk, R2H.out.h1, S3.holds R2H.out.hblk R2H.out.hH (by rw [hsz, tagd_size, HNL.out]), S3.lt R2H.out.hblk⟩
        have B3 : Hid (Below w.heap.size w w3) := B2.out.trans (swk_below S3 hgw B2.out.size)
        have CMP := Lib.hid (compact_any g 0 c N d' w3 w3 R3.out hsz hc (by omega) (SWK.start R3.out.hH))
        have PP := Lib.hid P3
        have SS := Lib.hid SO3
        have HSZ := Lib.hid hsz
        clear S3 P3 SO3 SRTH hsz
        go_wp2_with (go_at_call 22; refine CMP.out.mono ?_; rintro e w4 ⟨d2, S4, rfl, hs4, hv4⟩)
        have B4 : Hid (Below w.heap.size w w4) := B3.out.trans (swk_below S4 hgw B3.out.size)
        have KL : (kp d' N).length ≤ N := by
          unfold kp
          rw [List.length_map]
          exact Nat.le_trans (List.length_filter_le _ _) (by simp)
        have E4 : Hid (Erw w4 (some ⟨g, 0, none⟩) ((kp d' N).map (·.1))) := erw_kp (S4.lt R3.out.hblk) (S4.holds R3.out.hblk R3.out.hH (by rw [hs4, HSZ.out])) rfl (by rw [hs4]; exact KL) hv4
        have ML : Hid (MrgOf l ((kp d' N).map (·.1))) := ⟨d', by rw [← HNL.out]; exact PP.out, by rw [← HNL.out]; exact SS.out, by rw [← HNL.out]⟩
        have LL : Hid (((kp d' N).map (·.1)).length = (kp d' N).length) := List.length_map _
        clear CMP S4 hv4 hs4
        have KC : Hid ((kp d' N).length ≤ c) := Nat.le_trans KL hc
        clear KL
        generalize (kp d' N).length = K at LL KC ⊢
        go_wp2_with fail
        exact bodyPost_ret (results_tmp2 rfl _ _ _) rfl ⟨B4.out, some ⟨g, 0, none⟩, _, c, by rw [LL.out]; rfl, ML.out, E4.out, (fun hh => by cases hh), by rw [LL.out]; exact KC.out, HCC.out⟩
end Go.Proofs.YtpcmminokhmkjaaDoor.St
