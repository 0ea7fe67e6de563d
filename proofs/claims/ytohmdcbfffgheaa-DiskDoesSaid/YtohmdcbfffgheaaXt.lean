/-
  Both devices: Crash (of whatever list), Arm, Start, Cached, Writes. Conditions: each law's own.
-/
import Derived.Test.YtohmdcbfffgheaaXs
namespace Go.Proofs.Ytohmdcbfffgheaa.Dk
open Go.RowKit Go.Lib Go.Maps
variable {w : World} {g sa mb h gi bb rb : Nat} {S : List (List UInt8)} {low : Int} {k : Nat} {D : DataW Unit} {P : Nat → Option (List UInt8)} {pw armed : Bool} {left rl nw : Int} {q : Nat}
theorem keep_of {w0 w : World} {ao : Option Addr} {ks : List Int} (hz : Zrw w0 ao ks) (hb : Below w0.heap.size w0 w) (N : List Nat) (hN : ∀ n ∈ N, w0.heap.size ≤ n) : Keep w ao N ks := fun hne => by
  obtain ⟨b, o, h1, h2, h3⟩ := hz hne
  exact ⟨b, o, h1, Nat.lt_of_lt_of_le h2 hb.size, fun e => by have := hN b e; omega, fun j hj => (hb.cell (p := ⟨b, o + j, none⟩) h2).trans (h3 j hj)⟩
def UnitR (B g sa mb h gi bb rb N : Nat) (low : Int) (q : Nat) (f : FuncId) (args : Array Value) (M : List Nat) (w1 : World) : Prop :=
  ∀ W, Below w1.heap.size w1 W → B ≤ bb → Calls Try.prog f args W fun e w2 => e = .returned (.tuple #[]) ∧ Fr W w2 M ∧ Pair w2 B g sa mb h gi rb N low (q + 1)
theorem two_crash (T : Two w g sa mb h gi bb rb S low k D P pw armed left rl nw) (U : Num q k pw armed left rl nw) (w0 : World) (ao : Option Addr) (ks : List Int) (c : Nat) (hz : Zrw w0 ao ks) (hb0 : Below w0.heap.size w0 w) (hg : w0.heap.size ≤ g) (hsa : w0.heap.size ≤ sa) (hmb : w0.heap.size ≤ mb) (hgi : w0.heap.size ≤ gi)
    (hr : ∀ x ∈ ks, -9223372036854775808 ≤ x ∧ x ≤ 9223372036854775807) (hm : ks.length ≤ 9223372036854775807) :
    Calls Try.prog 24 #[.pointer (some ⟨g, 0, none⟩), .slice ao ks.length c] w fun e w1 => e = .returned (.tuple #[]) ∧ Fr w w1 [g, sa, mb] ∧ UnitR w0.heap.size g sa mb h gi bb rb S.length low q 25 #[.pointer (some ⟨h, 0, none⟩), .slice ao ks.length c] [h, gi] w1 := by
  obtain ⟨n1, n2⟩ := T.len1
  refine (crash_all T.dv T.tie.ind (by omega) n2 ao ks c (keep_of hz hb0 _ (by simp; omega)) hr hm).mono ?_
  rintro e w1 ⟨rfl, F1, D1⟩
  have R1 := T.rv.kept F1 (by simp)
  refine ⟨rfl, F1, fun W hb hbb => ?_⟩
  have R2 := R1.kept (fr_below hb []) (by simp)
  have D2 := D1.later hb
  have z1 := D2.dv.lt
  have z2 := D2.sec.lt
  have z3 := D2.map.lt
  have B1 : Below w0.heap.size w w1 := F1.below hb0.size (by simp; omega)
  have B2 : Below w0.heap.size w0 W := (hb0.trans B1).trans (hb.mono (hb0.trans B1).size)
  have hcr := T.tie.crash ks
  refine (rcrash_all R2 (by simp; omega) ao ks ks.length c (keep_of hz B2 _ (by simp; omega)) rfl hm hr).mono ?_
  rintro e w2 ⟨rfl, hf2, b2, hb2, hr2⟩
  rw [hcr] at D2
  exact ⟨rfl, hf2, b2, _, 0, _, _, false, false, -1, rl, nw, ⟨T.dkept D2 hf2 (by simp), hr2, Tie.nil _⟩, ⟨by omega, U.n0, by have := U.n1; omega, by omega, by omega, fun h => by cases h⟩, crS_len _ _ _, by have := B2.size; omega⟩
theorem two_arm (T : Two w g sa mb h gi bb rb S low k D P pw armed left rl nw) (U : Num q k pw armed left rl nw) (B0 : Nat) (x : Int) (hx : x ≤ 9223372036854775807) :
    Calls Try.prog 10 #[.pointer (some ⟨g, 0, none⟩), .int .i64 x] w fun e w1 => e = .returned (.tuple #[]) ∧ Fr w w1 [g, sa, mb] ∧ UnitR B0 g sa mb h gi bb rb S.length low q 23 #[.pointer (some ⟨h, 0, none⟩), .int .i64 x] [h, gi] w1 := by
  obtain ⟨n1, n2⟩ := T.len1
  refine (arm_any x T.dv.dv (by omega)).mono ?_
  rintro e w1 ⟨rfl, hg1, hd1⟩
  have D1 := T.dv.turn hg1 hd1
  have F1 : Fr w w1 [g, sa, mb] := fr_grown hg1 (by simp)
  have R1 := T.rv.kept F1 (by simp)
  refine ⟨rfl, F1, fun W hb hbb => ?_⟩
  have R2 := R1.kept (fr_below hb []) (by simp)
  obtain ⟨cap, c1, c2, d⟩ := R2.dv
  refine (rarm_any d x).mono ?_
  rintro e w2 ⟨rfl, hg2, hd2⟩
  have hf2 : Fr W w2 [h] := fr_grown hg2 (by simp)
  exact ⟨rfl, hf2.wide (by simp), bb, S, k, D, P, pw, _, _, x, nw, ⟨T.dkept (D1.later hb) hf2 (by simp), R2.dvs hf2 ⟨cap, c1, c2, hd2⟩, T.tie⟩, ⟨Nat.le_succ_of_le U.k, U.n0, by have := U.n1; omega, by omega, by omega, fun _ => ⟨by congr 1; simp; omega, fun _ => by omega⟩⟩, rfl, hbb⟩
theorem two_start (T : Two w g sa mb h gi bb rb S low k D P pw armed left rl nw) (U : Num q k pw armed left rl nw) (B0 : Nat) :
    Calls Try.prog 26 #[.pointer (some ⟨g, 0, none⟩)] w fun e w1 => e = .returned (.tuple #[]) ∧ Fr w w1 [g, sa, mb] ∧ UnitR B0 g sa mb h gi bb rb S.length low q 27 #[.pointer (some ⟨h, 0, none⟩)] [h, gi] w1 := by
  obtain ⟨n1, n2⟩ := T.len1
  refine (start_any T.dv.dv (by omega)).mono ?_
  rintro e w1 ⟨rfl, hg1, hd1⟩
  have D1 := T.dv.turn hg1 hd1
  have F1 : Fr w w1 [g, sa, mb] := fr_grown hg1 (by simp)
  have R1 := T.rv.kept F1 (by simp)
  refine ⟨rfl, F1, fun W hb hbb => ?_⟩
  have R2 := R1.kept (fr_below hb []) (by simp)
  obtain ⟨cap, c1, c2, d⟩ := R2.dv
  refine (rstart_any d).mono ?_
  rintro e w2 ⟨rfl, hg2, hd2⟩
  have hf2 : Fr W w2 [h] := fr_grown hg2 (by simp)
  exact ⟨rfl, hf2.wide (by simp), bb, S, k, D, P, true, false, -1, rl, nw, ⟨T.dkept (D1.later hb) hf2 (by simp), R2.dvs hf2 ⟨cap, c1, c2, hd2⟩, T.tie⟩, ⟨Nat.le_succ_of_le U.k, U.n0, by have := U.n1; omega, by omega, by omega, fun _ => ⟨by decide, fun h => by omega⟩⟩, rfl, hbb⟩
/-- a row of ints -/
def AnsZ (w : World) (l : List Int) (e : Ending) (w' : World) : Prop := Below w.heap.size w w' ∧ ∃ ao c, e = .returned (.slice ao l.length c) ∧ l.length ≤ c ∧ c ≤ 9223372036854775807 ∧ Zrw w' ao l
theorem two_cached (T : Two w g sa mb h gi bb rb S low k D P pw armed left rl nw) (U : Num q k pw armed left rl nw) (hq : q ≤ 1000) :
    ∃ l, Calls Try.prog 14 #[.pointer (some ⟨g, 0, none⟩)] w (AnsZ w l) ∧ ∀ W, Below w.heap.size w W → Calls Try.prog 29 #[.pointer (some ⟨h, 0, none⟩)] W (AnsZ W l) := by
  obtain ⟨n1, n2⟩ := T.len1
  refine ⟨keyL P S.length, (cached_is T.dv (by omega) (by have := U.k; omega) _ (T.tie.keys T.dv)).mono ?_, fun W hb => ?_⟩
  · rintro e w1 ⟨hb, ao, c, rfl, h1, h2, h3⟩
    exact ⟨hb, ao, c, rfl, h1, h2, h3.zrw⟩
  · exact rcached_any (T.below hb).rv
theorem two_writes (T : Two w g sa mb h gi bb rb S low k D P pw armed left rl nw) :
    ∃ x, (∀ W, Below w.heap.size w W → Calls Try.prog 13 #[.pointer (some ⟨g, 0, none⟩)] W fun e w' => e = .returned (.int .i64 x) ∧ w' = W) ∧ ∀ W, Below w.heap.size w W → Calls Try.prog 30 #[.pointer (some ⟨h, 0, none⟩)] W fun e w' => e = .returned (.int .i64 x) ∧ w' = W := by
  obtain ⟨n1, n2⟩ := T.len1
  refine ⟨nw, fun W hb => ?_, fun W hb => ?_⟩
  · have := writes_any (T.below hb).dv.dv
    rw [if_neg (by omega)] at this
    exact this
  · obtain ⟨cap, _, _, d⟩ := (T.below hb).rv.dv
    exact rwrites_any d
theorem two_image (T : Two w g sa mb h gi bb rb S low k D P pw armed left rl nw) :
    ∃ l, (Calls Try.prog 31 #[.pointer (some ⟨g, 0, none⟩)] w fun e w' => Below w.heap.size w w' ∧ ∃ v, e = .returned v ∧ Own w' w.heap.size v l) ∧ ∀ W, Below w.heap.size w W → Calls Try.prog 32 #[.pointer (some ⟨h, 0, none⟩)] W fun e w' => Below W.heap.size W w' ∧ ∃ v, e = .returned v ∧ Own w' W.heap.size v l := by
  obtain ⟨n1, n2⟩ := T.len1
  refine ⟨S.flatten, image_any T.dv (by omega) n2, fun W hb => ?_⟩
  have R := (T.below hb).rv
  obtain ⟨e1, hby⟩ := R.img
  obtain ⟨cap, c1, c2, d⟩ := R.dv
  rw [← e1] at d
  exact rimage_any d hby (fun h => by cases h) (by omega)
theorem bytes_eq (ao bo : Option Addr) (l : List UInt8) (n c d : Nat) (w : World) (h1 : Byt w ao l) (h2 : Byt w bo l) (n1 : ao = none → c = 0) (n2 : bo = none → d = 0) (hl : l.length = n) :
    Calls Try.prog 22 #[.slice ao n c, .slice bo n d] w fun e w' => e = .returned (.bool true) ∧ w' = w := by
  have c1 := conv_byt (t := 29) (e := 5) (d := 9) (P := Try.prog) Try.underlying29 Try.underlying5 Try.underlying9 ao l c h1 n1
  have c2 := conv_byt (t := 29) (e := 5) (d := 9) (P := Try.prog) Try.underlying29 Try.underlying5 Try.underlying9 bo l d h2 n2
  rw [hl] at c1 c2
  clear h1 h2
  generalize l.toArray = x at *
  go_enter Try.func22, Try.ntmps22
  go_wp2_with fail
  go_ret
  exact ⟨by simp, rfl⟩
theorem secs_join (l : List UInt8) (N : Nat) (hl : l.length = 256 * N) : (secs l N).flatten = l := by
  have h : ∀ k, k ≤ N → ((List.range k).map (secN l)).flatten = l.take (256 * k) := by
    intro k
    induction k with
    | zero => intro _; simp
    | succ k ih =>
      intro hk
      rw [List.range_succ, List.map_append, List.flatten_append, ih (by omega)]
      simp only [List.map_cons, List.map_nil, List.flatten_cons, List.flatten_nil, List.append_nil, secN]
      rw [show 256 * (k + 1) = 256 * k + 256 by omega, List.take_add]
  have h1 := h N (Nat.le_refl _)
  rw [List.take_of_length_le (by omega)] at h1
  exact h1
/-- what Load gives -/
theorem pair_load {w0 w1 w2 : World} {l : List UInt8} {N lo : Nat} (hl : l.length = 256 * N) (h1 : 1 ≤ N) (h2 : N ≤ 4096) (hb1 : Below w0.heap.size w0 w1) (hd : DevS w1 g sa mb (secs l N) (lo : Int) 0 (.map []) true (-1) 0) (hb2 : Below w1.heap.size w1 w2) {v : Value}
    (hh : w1.heap.size ≤ h) (hbb : w1.heap.size ≤ bb) (hrb : w1.heap.size ≤ rb) (hR : Rv w2 h v (.slice (some ⟨bb, 0, none⟩) N N) (.slice (some ⟨rb, 0, none⟩) N N) (lo : Int) false false 0 0) (ho : Own w2 w1.heap.size v l) (hB : Blk w2 bb (List.replicate N (.bool false)) 4) (hr : Blk w2 rb (List.replicate N (.slice none 0 0)) 29) :
    ∃ gi, w1.heap.size ≤ gi ∧ Pair w2 w0.heap.size g sa mb h gi rb N (lo : Int) 0 := by
  have ho' : w2.ownsRow w1.heap.size 5 1 v l.length (bs l) := ho
  obtain ⟨_, ⟨rfl, e0⟩ | ⟨gi, cap, cur, rfl, hbg, hg, q1, q2, q3⟩⟩ := ho'
  · omega
  have z1 := hd.dv.lt
  have z2 := hd.sec.lt
  have z3 := hd.map.lt
  have hI : Blk w2 gi cur.toList 5 := by unfold Blk; rw [hg]
  have hsl := secs_len l N
  have hlen : ∀ s ∈ secs l N, s.length = 256 := hd.len
  have hfl := secs_join l N hl
  refine ⟨gi, hbg, bb, secs l N, 0, .map [], fun _ => none, true, false, -1, 0, 0, ⟨hd.later hb2, ?_, by rw [hsl]; exact Tie.nil N⟩, ⟨by omega, by omega, by omega, by omega, by omega, fun _ => ⟨by decide, fun h => by omega⟩⟩, hsl, by have := hb1.size; omega⟩
  refine ⟨⟨cap, by rw [hsl]; omega, by unfold maxLen at q2; omega, by rw [hsl, ← hl]; exact hR⟩, ⟨cur.toList, hI, ?_⟩, ?_, ⟨_, hr, by simp [hsl], fun i hi => ⟨none, 0, 0, by rw [hsl] at hi; simp [hi], by omega⟩, fun i s hs _ => by cases hs⟩, hlen, by omega, by omega, ⟨blk_ne hR hI (by decide), blk_ne hR hB (by decide), blk_ne hR hr (by decide), blk_ne hI hB (by decide), blk_ne hI hr (by decide), blk_ne hB hr (by decide)⟩, ?_⟩
  · rw [hsl, ← hl, flat_bs, hfl]
    simpa using q3.2
  · have e : boL (secs l N).length (fun _ => none) = List.replicate N (.bool false) := by
      rw [hsl]
      apply List.ext_getElem?
      intro j
      by_cases hj : j < N <;> simp [boL, hj]
    rw [e]
    exact hB
  · simp only [List.mem_cons, List.not_mem_nil, or_false, not_or]
    omega
end Go.Proofs.Ytohmdcbfffgheaa.Dk
