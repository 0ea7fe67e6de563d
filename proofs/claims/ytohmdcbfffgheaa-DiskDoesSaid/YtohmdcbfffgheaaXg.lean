/-
  append of noughts, told by their number, to a row of bytes of the call's own. Conditions: each law's own.
-/
import Derived.Test.YtohmdcbfffgheaaXf
import Derived.Lib.AppendZerosOnto
namespace Go.Proofs.Ytohmdcbfffgheaa.Dk
open Go.RowKit Go.Lib Go.Maps
theorem run_append_room_zeros (w : World) (b n cap k : Nat) (hroom : n + k ≤ cap) (hk : k ≤ 4194304) (hc : ∀ j, j < k → (w.cell? ⟨b, n + j, none⟩).isSome = true) (hf : ∀ j, j < k → w.frozen? ⟨b, n + j, none⟩ = false) :
    (Builtin.append_ #[29, 3] 29 #[.slice (some ⟨b, 0, none⟩) n cap, .int .i64 (k : Int)]).run Try.prog w = .ok (.slice (some ⟨b, 0, none⟩) (n + k) cap) (w.setCells b n (bs (List.replicate k 0))) := by
  obtain ⟨i5, hi, hz, hs, hb⟩ := info_parts info5
  have hl : (bs (List.replicate k 0)).length = k := by simp [bs]
  have hst := run_storeCells_cells (P := Try.prog) b n (bs (List.replicate k 0)) 0 w (by simpa [hl] using hc) (by simpa [hl] using hf) (bs_one _)
  simp only [Nat.add_zero] at hst
  have hw : IntKind.i64.wrap (k : Int) = k := by rw [IntKind.wrap_i64]; omega
  have hneg : ¬ ((k : Int) < 0) := by omega
  have h48 : ¬ (281474976710656 < (k : Int)) := by omega
  by_cases hk0 : k = 0
  · subst hk0
    have e : bs (List.replicate 0 0) = [] := rfl
    rw [e] at hst ⊢
    have hw0 : IntKind.i64.wrap 0 = 0 := by decide
    have hr0 : n ≤ cap := by omega
    simp [Builtin.append_, run_underlying Try.underlying29, run_underlying Try.underlying3, sizeOf, typeInfo, hi, hs, hb, asInt, asIntOf, Addr.add_lit, hst, hw0, hr0]
  · have hzc : (Builtin.zeroCells (Value.int .u8 0).cells k).toList = bs (List.replicate k 0) := by
      rw [show bs (List.replicate k 0) = List.replicate k (Value.int .u8 0) by simp [bs], List.eq_replicate_iff]
      refine ⟨by simp [Builtin.zeroCells, Value.cells], fun x hx => ?_⟩
      simp [Builtin.zeroCells, Value.cells, Nat.mod_one] at hx
      exact hx.2.symm
    simp [Builtin.append_, run_underlying Try.underlying29, run_underlying Try.underlying3, sizeOf, typeInfo, zeroValue, hi, hz, hs, hb, asInt, asIntOf, hw, hneg, h48, hk0, hroom, Addr.add_lit, hzc, hst]

theorem run_append_own_zeros (w : World) (B : Nat) (v : Value) (xs : List UInt8) (k : Nat) (hown : Own w B v xs) (hB : B ≤ w.heap.size) (hk : xs.length + k ≤ 4194304) :
    ∃ v' w', (Builtin.append_ #[29, 3] 29 #[v, .int .i64 (k : Int)]).run Try.prog w = .ok v' w' ∧ Own w' B v' (xs ++ List.replicate k 0) ∧ Below B w w' := by
  obtain ⟨i5, hi, hz, hs, hb⟩ := info_parts info5
  have hlen : (xs ++ List.replicate k 0).length = xs.length + k := by simp
  have grow : ∀ (base : Option Addr) (cap : Nat), (Builtin.firstCells i5.size xs.length (.slice base xs.length cap)).run Try.prog w.drew = .ok (bs xs).toArray w.drew → cap < xs.length + k → 0 < k → cap ≤ 9223372036854775807 →
      ∃ v' w', (Builtin.append_ #[29, 3] 29 #[.slice base xs.length cap, .int .i64 (k : Int)]).run Try.prog w = .ok v' w' ∧ Own w' B v' (xs ++ List.replicate k 0) ∧ Below B w w' := fun base cap hold hg h0 hcm => by
    have hr := Lib.run_append_grow_zeros (P := Try.prog) w 29 3 29 5 i5 (.int .u8 0) .i64 .i64 Try.underlying29 Try.underlying3 hi hz base xs.length cap (bs xs) hold k h0 (by rw [hs]; omega) hg (by omega) (by rw [hb]; omega)
      (by rw [hb]; exact growslice_fits (by omega) (by omega))
    have hge := grownCap_ge w (xs.length + k) cap 5
    have hcm2 := grownCap_le_maxLen w (xs.length + k) cap 5 (by unfold maxLen; omega)
    generalize grownCap w (xs.length + k) cap 5 = G at *
    refine ⟨_, _, hr, ?_, (Below.refl B w).drew.alloc hB _⟩
    unfold Own
    rw [hlen]
    have hzc : (Builtin.zeroCells (Value.int .u8 0).cells k).toList = bs (List.replicate k 0) := by
      rw [show bs (List.replicate k 0) = List.replicate k (Value.int .u8 0) by simp [bs], List.eq_replicate_iff]
      refine ⟨by simp [Builtin.zeroCells, Value.cells], fun x hx => ?_⟩
      simp [Builtin.zeroCells, Value.cells, Nat.mod_one] at hx
      exact hx.2.symm
    refine ⟨by rw [bs_len, hlen]; omega, Or.inr ⟨w.heap.size, G, _, rfl, hB, heap_alloc_new w.drew _, hge, hcm2, ?_, ?_⟩⟩
    · have hz1 : (Value.int IntKind.u8 0).cells.size = 1 := rfl
      simp only [Array.size_append, List.size_toArray, size_zeroCells, hz1, bs_len]
      omega
    · rw [Array.toList_append, Array.toList_append, hzc, bs_app]
      have h9 : (bs xs ++ bs (List.replicate k 0)).length = xs.length + k := by rw [List.length_append, bs_len, bs_len, List.length_replicate]
      rw [Nat.mul_one, List.take_append_of_le_length (by rw [h9]; exact Nat.le_refl _), List.take_of_length_le (by rw [h9]; exact Nat.le_refl _)]
  have hown' := hown
  obtain ⟨h1, ⟨rfl, h2⟩ | ⟨g, cap, cur, rfl, e2, e3, e4, e5, e6, e7⟩⟩ := hown'
  · have hx : xs = [] := List.eq_nil_of_length_eq_zero h2
    subst hx
    by_cases h0 : k = 0
    · subst h0
      refine ⟨.slice none 0 0, w, ?_, by simpa using hown, Below.refl _ _⟩
      simp [Builtin.append_, run_underlying Try.underlying29, run_underlying Try.underlying3, sizeOf, typeInfo, hi, hb, asInt, asIntOf, show IntKind.i64.wrap 0 = 0 by decide]
    · exact grow none 0 (run_firstCells_none _ _ _ _ _) (by simp; omega) (by omega) (by omega)
  · have hcm : cap ≤ 9223372036854775807 := by unfold maxLen at e5; omega
    by_cases hroom : xs.length + k ≤ cap
    · have hblk : Blk w g cur.toList 5 := by unfold Blk; rw [e3]
      have hr := run_append_room_zeros w g xs.length cap k hroom (by omega) (fun j hj => by
        rw [hblk.cell, List.getElem?_eq_getElem (show xs.length + j < cur.toList.length by have h8 : cur.toList.length = cap := by { rw [Array.length_toList, e6, Nat.mul_one] }; omega)]; rfl) (fun j hj => hblk.frozen _)
      refine ⟨_, _, hr, ?_, (Below.refl B w).grown (gb_sets g _ _ w) hB (fun j e => by injection e with e; omega)⟩
      have hcl : cur.toList.length = cap := by rw [Array.length_toList, e6, Nat.mul_one]
      rw [Nat.mul_one] at e7
      have hsp : cur.toList = bs xs ++ ((cur.toList.drop xs.length).take k ++ (cur.toList.drop xs.length).drop k) := by rw [List.take_append_drop, ← e7, List.take_append_drop]
      have hb2 := Blk.sets (bs (List.replicate k 0)) cur.toList xs.length w hblk
      have hov : overl cur.toList xs.length (bs (List.replicate k 0)) = bs xs ++ (bs (List.replicate k 0) ++ (cur.toList.drop xs.length).drop k) := by
        have h9 := overl_mid (bs (List.replicate k 0)) (bs xs) ((cur.toList.drop xs.length).take k) ((cur.toList.drop xs.length).drop k) (by rw [List.length_take, List.length_drop, hcl, bs_len, List.length_replicate]; omega)
        rw [← hsp, bs_len] at h9
        exact h9
      rw [hov] at hb2
      unfold Own
      rw [hlen]
      refine ⟨by rw [bs_len, hlen]; omega, Or.inr ⟨g, cap, _, rfl, e2, hb2, hroom, e5, ?_, ?_⟩⟩
      · rw [List.size_toArray, List.length_append, List.length_append, bs_len, bs_len, List.length_replicate, List.length_drop, List.length_drop, hcl]
        omega
      · rw [bs_app, ← List.append_assoc]
        have h9 : (bs xs ++ bs (List.replicate k 0)).length = xs.length + k := by rw [List.length_append, bs_len, bs_len, List.length_replicate]
        rw [Nat.mul_one, List.take_append_of_le_length (by rw [h9]; exact Nat.le_refl _), List.take_of_length_le (by rw [h9]; exact Nat.le_refl _)]
    · exact grow _ cap (by
        refine run_firstCells_some w.drew i5.size xs.length ⟨g, 0, none⟩ xs.length cap (bs xs) (by rw [bs_len, hs]; omega) (fun j u hj => ?_)
        have hj2 : j < xs.length := by have := (List.getElem?_eq_some_iff.1 hj).1; rw [bs_len] at this; exact this
        exact World.ownsRow.cells hown (g := g) rfl j u hj) (by omega) (by omega) hcm
/-- what the page's New answers -/
def RefNewP (w : World) (l : List UInt8) (q N : Nat) (e : Ending) (w' : World) : Prop :=
  (e = .returned (.tuple #[.pointer none, .int .i64 2]) ∧ Below w.heap.size w w' ∧ (N = 0 ∨ 4096 < N)) ∨ (1 ≤ N ∧ N ≤ 4096 ∧ Below w.heap.size w w' ∧ ∃ (g bb rb : Nat) (v : Value), e = .returned (.tuple #[.pointer (some ⟨g, 0, none⟩), .int .i64 0]) ∧ w.heap.size ≤ g ∧ Rv w' g v (.slice (some ⟨bb, 0, none⟩) N N) (.slice (some ⟨rb, 0, none⟩) N N) q false false 0 0 ∧
    Own w' w.heap.size v (img l (256 * N)) ∧ Blk w' bb (List.replicate N (.bool false)) 4 ∧ Blk w' rb (List.replicate N (.slice none 0 0)) 29)
theorem Own.low2 {w : World} {B B' : Nat} {v : Value} {l : List UInt8} (h : Own w B v l) (hb : B' ≤ B) : Own w B' v l := by
  obtain ⟨h1, h2 | ⟨g, cap, cur, e1, e2, e3⟩⟩ := h
  · exact ⟨h1, Or.inl h2⟩
  · exact ⟨h1, Or.inr ⟨g, cap, cur, e1, Nat.le_trans hb e2, e3⟩⟩
theorem refload_new (w w1 : World) (v : Value) (l : List UInt8) (q N : Nat) (hb : Below w.heap.size w w1) (ho : Own w1 w.heap.size v (img l (256 * N))) (hl : l.length ≤ 256 * N) (hq : q ≤ N) (hN : N ≤ 8192) :
    Calls Try.prog 16 #[v, .int .i64 (q : Int)] w1 (RefNewP w l q N) := by
  obtain ⟨ao, c, rfl, h1, h2, h3, h4⟩ := own_byt ho
  rw [img_len _ _ hl] at h1 ⊢
  by_cases h0 : N = 0 ∨ 4096 < N
  · refine (rload_bad ao (256 * N) c q (by omega) (by omega)).mono ?_
    rintro e w2 ⟨rfl, rfl⟩
    exact .inl ⟨rfl, hb, h0⟩
  · obtain ⟨b, o, rfl, _, _⟩ := h3 (by intro h9; have := img_len l (256 * N) hl; rw [h9] at this; simp at this; omega)
    refine (refload_ok b o c N (256 * N) (img l (256 * N)) q w1 h3 (img_len _ _ hl) rfl (by omega) (by omega) hq).mono ?_
    rintro e w2 ⟨hb2, g, bb, rb, v2, rfl, hg, hr, _, _, ho2, hB, hR⟩
    have := hb.size
    exact .inr ⟨by omega, by omega, below_chain hb hb2, g, bb, rb, v2, rfl, by omega, hr, ho2.low2 this, hB, hR⟩
set_option maxHeartbeats 4000000 in
set_option maxRecDepth 100000 in
theorem refnew_bad (n : Int) (ao : Option Addr) (m c : Nat) (w : World) (h : n < 0 ∨ 4096 < n) : Calls Try.prog 33 #[.int .i64 n, .slice ao m c] w fun e w' => e = .returned (.tuple #[.pointer none, .int .i64 2]) ∧ w' = w := by
  by_cases h1 : n < 0
  · have t1 : decide (n < 0) = true := by simpa using h1
    clear h
    go_enter Try.func33, Try.ntmps33
    go_wp2_with fail
    go_ret2
    exact ⟨rfl, rfl⟩
  · have t1 : decide (n < 0) = false := by simpa using h1
    have t2 : decide (4096 < n) = true := by simp; omega
    clear h
    go_enter Try.func33, Try.ntmps33
    go_wp2_with fail
    go_ret2
    exact ⟨rfl, rfl⟩
set_option maxHeartbeats 4000000 in
set_option maxRecDepth 100000 in
theorem refnew_ok (n : Nat) (ao : Option Addr) (l : List UInt8) (m c : Nat) (w : World) (h : Byt w ao l) (hnil : ao = none → c = 0) (hl : l.length = m) (hm : m ≤ 100000) (hn : n ≤ 4096) :
    Calls Try.prog 33 #[.int .i64 (n : Int), .slice ao m c] w (RefNewP w l (upTo m) (upTo m + n)) := by
  obtain ⟨q, hq⟩ : ∃ q, q = upTo m := ⟨_, rfl⟩
  obtain ⟨N, hN⟩ : ∃ N, N = q + n := ⟨_, rfl⟩
  obtain ⟨k, hk⟩ : ∃ k, k = 256 * N - m := ⟨_, rfl⟩
  have hq2 : q = (m + 255) / 256 := by rw [hq]; unfold upTo; split <;> omega
  have hmN : m ≤ 256 * N := by omega
  have t1 : decide ((n : Int) < 0) = false := by simp
  have t2 : decide ((4096 : Int) < (n : Int)) = false := by simp; omega
  have t3 : decide ((1048576 : Int) < (m : Int)) = false := by simp; omega
  have t3' : decide (1048576 < m) = false := by simp; omega
  have t2' : decide (4096 < n) = false := by simp; omega
  have e0 : (m : Int) + 256 - 1 = (m : Int) + 255 := by omega
  have e1 : ((m : Int) + 256 - 1).tdiv 256 = (q : Int) := by rw [Int.tdiv_eq_ediv_of_nonneg (by omega)]; omega
  have e2 : ((m : Int) + 256 - 1) / 256 = (q : Int) := by omega
  have e5 : ((m : Int) + 255) / 256 = (q : Int) := by omega
  have e6 : ((m : Int) + 255).tdiv 256 = (q : Int) := by rw [Int.tdiv_eq_ediv_of_nonneg (by omega)]; omega
  have e3 : (q : Int) + (n : Int) = (N : Int) := by omega
  have e4 : (N : Int) * 256 - (m : Int) = (k : Int) := by omega
  have m0 : (0 : Int) ≤ (m : Int) := by omega
  have m1 : (m : Int) ≤ 100000 := by omega
  have x0 : (0 : Int) ≤ (q : Int) := by omega
  have x1 : (q : Int) ≤ 400 := by omega
  have n0 : (n : Int) ≤ 4096 := by omega
  have y0 : (0 : Int) ≤ (N : Int) := by omega
  have y1 : (N : Int) ≤ 8192 := by omega
  have HO := Lib.hid (own_none w)
  have B1 := Lib.hid ((Below.refl w.heap.size w).alloc (Nat.le_refl _) (.cells #[] 5))
  have HBY := Lib.hid (h.below B1.out)
  have HNL := Lib.hid hnil
  have HLN : Hid (l.length = m) := hl
  have p1 : ([] : List UInt8).length + m ≤ 140737488355328 := by simp; omega
  have pb : w.heap.size ≤ (w.alloc (.cells #[] 5)).heap.size := by simp
  have HE : Hid (∀ (W : World) (v : Value), Below w.heap.size w W → Own W w.heap.size v l → ∃ v' w', (Builtin.append_ #[29, 3] 29 #[v, .int .i64 (k : Int)]).run Try.prog W = .ok v' w' ∧ Own w' w.heap.size v' (img l (256 * N)) ∧ Below w.heap.size w w') := fun W v hb ho => by
    obtain ⟨v', w', h1, h2, h3⟩ := run_append_own_zeros W w.heap.size v l k ho hb.size (by omega)
    refine ⟨v', w', h1, ?_, hb.trans h3⟩
    unfold img
    rw [hl, ← hk]
    exact h2
  have HC := Lib.hid (fun (W : World) (v : Value) (hb : Below w.heap.size w W) (ho : Own W w.heap.size v (img l (256 * N))) => refload_new w W v l q N hb ho (by omega) (by omega) (by omega))
  rw [← hq, ← hN]
  clear h hnil hl hm hn hq hN hk hq2 hmN
  go_enter Try.func33, Try.ntmps33
  go_wp2_with (first
    | (at_builtin; refine wpl_app_len (t := 29) (e := 5) rfl (.tmp 23) (.tmp 24) rfl Try.underlying29 info5 w.heap.size (.slice (some ⟨w.heap.size, 0, none⟩) 0 0) [] l rfl HO.out ao m c rfl HBY.out HNL.out HLN p1 pb ?_; intro v2 w2 hown2 hgrow2; rw [List.nil_append] at hown2; have hb2 := B1.out.grown hgrow2 pb (fun j hj => (HO.out.lt j hj).1); obtain ⟨v3, w3, hr3, ho3, hb3⟩ := HE.out w2 v2 hb2 hown2; have HR3 := Lib.hid hr3; have HO3 := Lib.hid ho3; have HB3 := Lib.hid hb3; clear hown2 hgrow2 hb2 hr3 ho3 hb3)
    | (at_builtin; refine Lib.wpList_append_run _ rfl (.tmp 25) (.tmp 32) 29 3 rfl v2 (.int .i64 (k : Int)) rfl rfl v3 w3 HR3.out ?_))
  refine (HC.out w3 v3 HB3.out HO3.out).mono ?_
  rintro e w4 hP
  rcases hP with ⟨rfl, hb4, hN4⟩ | ⟨hN4, hN5, hb4, g, bb, rb, v4, rfl, hX⟩
  · have B4 := Lib.hid hb4
    have N4 := Lib.hid hN4
    clear hb4 hN4
    go_wp2_with fail
    go_ret2
    exact .inl ⟨rfl, B4.out, N4.out⟩
  · have B4 := Lib.hid hb4
    have X4 := Lib.hid hX
    clear hb4 hX
    go_wp2_with fail
    go_ret2
    exact .inr ⟨hN4, hN5, B4.out, g, bb, rb, v4, rfl, X4.out⟩
end Go.Proofs.Ytohmdcbfffgheaa.Dk
