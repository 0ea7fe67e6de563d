/-
  The program's device and the page's, side by side: each call answers the same at both, and leaves both the same. Conditions: each law's own.
-/
import Derived.Test.YtohmdcbfffgheaaXq
namespace Go.Proofs.Ytohmdcbfffgheaa.Dk
open Go.RowKit Go.Lib Go.Maps

/-- both devices -/
structure Two (w : World) (g sa mb h gi bb rb : Nat) (S : List (List UInt8)) (low : Int) (k : Nat) (D : DataW Unit) (P : Nat → Option (List UInt8)) (pw armed : Bool) (left rl nw : Int) : Prop where
  dv : DevS w g sa mb S low k D pw left nw
  rv : RefS w [g, sa, mb] h gi bb rb S low P (!pw) armed rl nw
  tie : Tie D P S.length
/-- their numbers -/
structure Num (q k : Nat) (pw armed : Bool) (left rl nw : Int) : Prop where
  k : k ≤ q
  n0 : 0 ≤ nw
  n1 : nw ≤ (q : Int)
  l0 : -1 ≤ left
  l1 : left ≤ 9223372036854775807
  arm : pw = true → armed = decide (0 ≤ left) ∧ (0 ≤ left → rl = left)
/-- they are there -/
def Pair (w : World) (B g sa mb h gi rb N : Nat) (low : Int) (q : Nat) : Prop :=
  ∃ (bb : Nat) (S : List (List UInt8)) (k : Nat) (D : DataW Unit) (P : Nat → Option (List UInt8)) (pw armed : Bool) (left rl nw : Int), Two w g sa mb h gi bb rb S low k D P pw armed left rl nw ∧ Num q k pw armed left rl nw ∧ S.length = N ∧ B ≤ bb
variable {w : World} {g sa mb h gi bb rb : Nat} {S : List (List UInt8)} {low : Int} {k : Nat} {D : DataW Unit} {P : Nat → Option (List UInt8)} {pw armed : Bool} {left rl nw : Int} {q : Nat}
theorem Num.up (h : Num q k pw armed left rl nw) : Num (q + 1) k pw armed left rl nw := ⟨Nat.le_succ_of_le h.k, h.n0, by have := h.n1; omega, h.l0, h.l1, h.arm⟩
theorem Two.len1 (T : Two w g sa mb h gi bb rb S low k D P pw armed left rl nw) : 1 ≤ S.length ∧ S.length ≤ 4096 := ⟨T.rv.n1, T.rv.n2⟩
theorem Two.far (T : Two w g sa mb h gi bb rb S low k D P pw armed left rl nw) : ∀ x ∈ [h, gi, bb, rb], x ≠ g ∧ x ≠ sa ∧ x ≠ mb := by
  obtain ⟨a1, a2, a3, a4⟩ := T.rv.aw
  simp only [List.mem_cons, List.not_mem_nil, or_false, not_or] at a1 a2 a3 a4
  intro x hx
  simp only [List.mem_cons, List.not_mem_nil, or_false] at hx
  rcases hx with rfl | rfl | rfl | rfl
  · exact a1
  · exact a2
  · exact a3
  · exact a4
/-- the program's device while the page's changes -/
theorem Two.dkept (T : Two w g sa mb h gi bb rb S low k D P pw armed left rl nw) {w1 w2 : World} {S1 : List (List UInt8)} {k1 : Nat} {D1 : DataW Unit} {pw1 : Bool} {left1 nw1 : Int} (hd : DevS w1 g sa mb S1 low k1 D1 pw1 left1 nw1) {N : List Nat} (hf : Fr w1 w2 N) (hN : ∀ x ∈ N, x ∈ [h, gi, bb, rb]) : DevS w2 g sa mb S1 low k1 D1 pw1 left1 nw1 :=
  hd.kept hf (fun e => (T.far _ (hN _ e)).1 rfl) (fun e => (T.far _ (hN _ e)).2.1 rfl) (fun e => (T.far _ (hN _ e)).2.2 rfl)
theorem Two.below (T : Two w g sa mb h gi bb rb S low k D P pw armed left rl nw) {w' : World} (hb : Below w.heap.size w w') : Two w' g sa mb h gi bb rb S low k D P pw armed left rl nw := ⟨T.dv.later hb, T.rv.kept (fr_below hb []) (by simp), T.tie⟩
theorem Pair.below {B N : Nat} (T : Pair w B g sa mb h gi rb N low q) {w' : World} (hb : Below w.heap.size w w') : Pair w' B g sa mb h gi rb N low q := by
  obtain ⟨bb, S, k, D, P, pw, armed, left, rl, nw, t, u, n, b⟩ := T
  exact ⟨bb, S, k, D, P, pw, armed, left, rl, nw, t.below hb, u, n, b⟩
theorem awake_on {n : Nat} (hn : 1 ≤ n) : awakeE n true = 0 := by unfold awakeE; rw [if_neg (by omega)]; rfl
theorem awake_off {n : Nat} (hn : 1 ≤ n) : awakeE n false = 91 := by unfold awakeE; rw [if_neg (by omega)]; rfl
theorem found_off {n : Nat} (hn : 1 ≤ n) (i : Int) : foundE n false i = 91 := by unfold foundE; rw [awake_off hn]; rfl
theorem found_out {n : Nat} (hn : 1 ≤ n) {i : Int} (h : i < 0 ∨ (n : Int) ≤ i) : foundE n true i = 90 := by unfold foundE; rw [awake_on hn, if_neg (by simp), if_pos h]
theorem found_in {n : Nat} (hn : 1 ≤ n) {i : Int} (h : ¬ (i < 0 ∨ (n : Int) ≤ i)) : foundE n true i = 0 := by unfold foundE; rw [awake_on hn, if_neg (by simp), if_neg h]
/-- the page's goes where power lasts -/
theorem goes_on {w : World} {h : Nat} {im bo ro : Value} (U : Num q k true armed left rl nw) (hq : q ≤ 1000) (hl : left ≠ 0) (d : Rv w h im bo ro low false armed rl nw) :
    Calls Try.prog 41 #[.pointer (some ⟨h, 0, none⟩)] w fun e w' => e = .returned (.bool false) ∧ w.grownBy w' (some h) ∧ Rv w' h im bo ro low false armed (if 0 < left then rl - 1 else rl) (nw + 1) := by
  obtain ⟨a1, a2⟩ := U.arm rfl
  have u1 := U.n0
  have u2 := U.n1
  have u3 := U.l0
  have u4 := U.l1
  by_cases hp : 0 ≤ left
  · have e : armed = true := by rw [a1]; simp [hp]
    subst e
    have e2 := a2 hp
    rw [if_pos (by omega)]
    exact goes_armed d (by omega) (by omega) u1 (by omega)
  · have e : armed = false := by rw [a1]; simp [hp]
    subst e
    rw [if_neg (by omega)]
    exact goes_un d u1 (by omega)
theorem Num.ran (U : Num q k true armed left rl nw) (_ : left ≠ 0) {k2 : Nat} (hk : k2 ≤ q + 1) : Num (q + 1) k2 true armed (if 0 < left then left - 1 else left) (if 0 < left then rl - 1 else rl) (nw + 1) := by
  obtain ⟨a1, a2⟩ := U.arm rfl
  have u1 := U.n0
  have u2 := U.n1
  have u3 := U.l0
  have u4 := U.l1
  by_cases hp : 0 < left
  · rw [if_pos hp, if_pos hp]
    refine ⟨hk, by omega, by omega, by omega, by omega, fun _ => ⟨?_, fun _ => by rw [a2 (by omega)]⟩⟩
    rw [a1]
    simp
    omega
  · rw [if_neg hp, if_neg hp]
    exact ⟨hk, by omega, by omega, u3, u4, fun _ => ⟨a1, a2⟩⟩
/-- what a write leaves, at the page -/
def WroteR (B g sa mb h gi bb rb N : Nat) (low : Int) (q : Nat) (z : Int) (l : List UInt8) (i : Int) (w1 : World) : Prop :=
  ∀ W B2 v2, Below w1.heap.size w1 W → Own W B2 v2 l → h < B2 → bb < B2 → B ≤ bb → Calls Try.prog 17 #[.pointer (some ⟨h, 0, none⟩), .int .i64 i, v2] W fun e w2 => e = .returned (.int .i64 z) ∧ Fr W w2 [h, bb, rb] ∧ Pair w2 B g sa mb h gi rb N low (q + 1)
set_option maxRecDepth 100000 in
theorem two_write (T : Two w g sa mb h gi bb rb S low k D P pw armed left rl nw) (U : Num q k pw armed left rl nw) (hq : q ≤ 1000) (i : Int) (B0 B : Nat) (v : Value) (l : List UInt8) (hv : Own w B v l) (hB1 : g < B) (hB2 : mb < B) :
    ∃ z, Calls Try.prog 11 #[.pointer (some ⟨g, 0, none⟩), .int .i64 i, v] w fun e w1 => e = .returned (.int .i64 z) ∧ Fr w w1 [g, mb] ∧ WroteR B0 g sa mb h gi bb rb S.length low q z l i w1 := by
  obtain ⟨n1, n2⟩ := T.len1
  have quiet : ∀ z : Int, (∀ ao n c, n = l.length → Calls Try.prog 11 #[.pointer (some ⟨g, 0, none⟩), .int .i64 i, .slice ao n c] w fun e w' => e = .returned (.int .i64 z) ∧ w' = w) →
      (∀ W im n c ro ao m cc, n = S.length → m = l.length → Rv W h im (.slice (some ⟨bb, 0, none⟩) n c) ro low (!pw) armed rl nw → Calls Try.prog 17 #[.pointer (some ⟨h, 0, none⟩), .int .i64 i, .slice ao m cc] W fun e w' => e = .returned (.int .i64 z) ∧ w' = W) →
      ∃ z, Calls Try.prog 11 #[.pointer (some ⟨g, 0, none⟩), .int .i64 i, v] w fun e w1 => e = .returned (.int .i64 z) ∧ Fr w w1 [g, mb] ∧ WroteR B0 g sa mb h gi bb rb S.length low q z l i w1 := by
    intro z h1 h2
    obtain ⟨ao, c, rfl, _⟩ := own_byt hv
    refine ⟨z, (h1 ao l.length c rfl).mono ?_⟩
    rintro e w1 ⟨rfl, rfl⟩
    refine ⟨rfl, Fr.refl _ _, fun W B2 v2 hb ho2 _ _ hbb => ?_⟩
    obtain ⟨ao2, c2, rfl, _⟩ := own_byt ho2
    have T2 := T.below hb
    obtain ⟨cap, _, _, d⟩ := T2.rv.dv
    refine (h2 W _ _ _ _ ao2 l.length c2 rfl rfl d).mono ?_
    rintro e w2 ⟨rfl, rfl⟩
    exact ⟨rfl, Fr.refl _ _, bb, S, k, D, P, pw, armed, left, rl, nw, T2, U.up, rfl, hbb⟩
  cases pw with
  | false => exact quiet 91 (fun ao n c _ => write_no T.dv i ao n c 91 (found_off n1 i) (by decide)) (fun W im n c ro ao m cc _ _ d => rwrite_dead d i ao m cc)
  | true =>
    by_cases hi : i < 0 ∨ (S.length : Int) ≤ i
    · refine quiet 90 (fun ao n c _ => write_no T.dv i ao n c 90 (found_out n1 hi) (by decide)) (fun W im n c ro ao m cc hn _ d => ?_)
      by_cases h0 : i < 0
      · exact rwrite_neg d i ao m cc h0
      · exact rwrite_out d i ao m cc h0 (by omega)
    have hz := found_in n1 hi
    by_cases hlo : i < low
    · exact quiet 92 (fun ao n c _ => write_low T.dv i ao n c hz hlo) (fun W im n c ro ao m cc hn _ d => rwrite_low d i ao m cc (by omega) (by omega) hlo)
    by_cases hl : l.length = 256
    case neg => exact quiet 2 (fun ao n c hn => write_arg T.dv i ao n c hz hlo (by omega)) (fun W im n c ro ao m cc hn hm d => rwrite_arg d i ao m cc (by omega) (by omega) hlo (by omega))
    obtain ⟨j, rfl⟩ : ∃ j : Nat, i = (j : Int) := ⟨i.toNat, by omega⟩
    have hj : j < S.length := by omega
    obtain ⟨b, c, rfl, hby, hbB⟩ := own_row hv hl
    by_cases h0 : left = 0
    · subst h0
      refine ⟨91, (write_dead T.dv (j : Int) (some ⟨b, 0, none⟩) c hz hlo).mono ?_⟩
      rintro e w1 ⟨rfl, hg1, hd1⟩
      have D1 := T.dv.turn hg1 hd1
      have F1 : Fr w w1 [g, mb] := fr_grown hg1 (by simp)
      have R1 := T.rv.kept F1 (by simp)
      refine ⟨rfl, F1, fun W B2 v2 hb ho2 _ _ hbb => ?_⟩
      obtain ⟨b2, c2, rfl, _, _⟩ := own_row ho2 hl
      have R2 := R1.kept (fr_below hb []) (by simp)
      obtain ⟨a1, a2⟩ := U.arm rfl
      have e1 : armed = true := by rw [a1]; rfl
      have e2 : rl = 0 := a2 (by omega)
      subst e1 e2
      have CW := rwrite_off R2 j hj hlo (some ⟨b2, 0, none⟩) c2 l hl
      rw [hl] at CW
      refine CW.mono ?_
      rintro e w2 ⟨rfl, hf2, hr2⟩
      exact ⟨rfl, hf2.wide (by simp), bb, S, k, D, P, false, false, 0, 0, nw, ⟨T.dkept (D1.later hb) hf2 (by simp), hr2, T.tie⟩, ⟨Nat.le_succ_of_le U.k, U.n0, by have := U.n1; omega, by omega, by omega, fun h => by cases h⟩, rfl, hbb⟩
    · refine ⟨0, (write_ok T.dv j b 0 c l hz hj n2 hlo hby hl (by have := U.k; omega) h0 U.l0 U.l1 U.n0 (by have := U.n1; omega) (by omega) (by omega)).mono ?_⟩
      rintro e w1 ⟨rfl, F1, D1⟩
      have R1 := T.rv.kept F1 (by simp)
      refine ⟨rfl, F1, fun W B2 v2 hb ho2 hh2 hbb2 hbb => ?_⟩
      obtain ⟨b2, c2, rfl, hby2, hbB2⟩ := own_row ho2 hl
      have R2 := R1.kept (fr_below hb []) (by simp)
      have D2 := D1.later hb
      have z1 := D2.dv.lt
      have z2 := D2.sec.lt
      have z3 := D2.map.lt
      have CW := rwrite_go R2 (by simp; omega) (fun im bo ro d => goes_on U hq h0 d) j hj hlo b2 0 c2 l hl hby2 (by omega) (by omega)
      rw [hl] at CW
      refine CW.mono ?_
      rintro e w2 ⟨rfl, hf2, hr2⟩
      exact ⟨rfl, hf2, bb, S, k + 1, _, _, true, _, _, _, _, ⟨T.dkept D2 hf2 (by simp), hr2, T.tie.put hj hl⟩, U.ran h0 (by have := U.k; omega), rfl, hbb⟩
/-- what a flush leaves, at the page -/
def FlushedR (B g sa mb h gi bb rb N : Nat) (low : Int) (q : Nat) (z : Int) (w1 : World) : Prop :=
  ∀ W, Below w1.heap.size w1 W → B ≤ bb → Calls Try.prog 19 #[.pointer (some ⟨h, 0, none⟩)] W fun e w2 => e = .returned (.int .i64 z) ∧ Fr W w2 [h, gi, bb] ∧ Pair w2 B g sa mb h gi rb N low (q + 1)
theorem two_flush (T : Two w g sa mb h gi bb rb S low k D P pw armed left rl nw) (U : Num q k pw armed left rl nw) (hq : q ≤ 1000) (B0 : Nat) :
    ∃ z, Calls Try.prog 18 #[.pointer (some ⟨g, 0, none⟩)] w fun e w1 => e = .returned (.int .i64 z) ∧ Fr w w1 [g, sa, mb] ∧ FlushedR B0 g sa mb h gi bb rb S.length low q z w1 := by
  obtain ⟨n1, n2⟩ := T.len1
  cases pw with
  | false =>
    refine ⟨91, (flush_no T.dv.dv 91 (awake_off n1) (by decide)).mono ?_⟩
    rintro e w1 ⟨rfl, rfl⟩
    refine ⟨rfl, Fr.refl _ _, fun W hb hbb => ?_⟩
    have T2 := T.below hb
    refine (rflush_dead T2.rv).mono ?_
    rintro e w2 ⟨rfl, rfl⟩
    exact ⟨rfl, Fr.refl _ _, bb, S, k, D, P, false, armed, left, rl, nw, T2, U.up, rfl, hbb⟩
  | true =>
    have hz := awake_on n1
    by_cases h0 : left = 0
    · subst h0
      refine ⟨91, (flush_dead T.dv.dv hz).mono ?_⟩
      rintro e w1 ⟨rfl, hg1, hd1⟩
      have D1 := T.dv.turn hg1 hd1
      have F1 : Fr w w1 [g, sa, mb] := fr_grown hg1 (by simp)
      have R1 := T.rv.kept F1 (by simp)
      refine ⟨rfl, F1, fun W hb hbb => ?_⟩
      have R2 := R1.kept (fr_below hb []) (by simp)
      obtain ⟨a1, a2⟩ := U.arm rfl
      have e1 : armed = true := by rw [a1]; rfl
      have e2 : rl = 0 := a2 (by omega)
      subst e1 e2
      refine (rflush_off R2).mono ?_
      rintro e w2 ⟨rfl, hf2, hr2⟩
      exact ⟨rfl, hf2.wide (by simp), bb, S, k, D, P, false, false, 0, 0, nw, ⟨T.dkept (D1.later hb) hf2 (by simp), hr2, T.tie⟩, ⟨Nat.le_succ_of_le U.k, U.n0, by have := U.n1; omega, by omega, by omega, fun h => by cases h⟩, rfl, hbb⟩
    · refine ⟨0, (flush_ok T.dv T.tie.ind hz n2 h0 U.l0 U.l1 U.n0 (by have := U.n1; omega)).mono ?_⟩
      rintro e w1 ⟨rfl, F1, S1, D1, hfl, hno, d1⟩
      have R1 := T.rv.kept F1 (by simp)
      obtain ⟨e1, t1⟩ := T.tie.flush hfl hno
      refine ⟨rfl, F1, fun W hb hbb => ?_⟩
      have R2 := R1.kept (fr_below hb []) (by simp)
      refine (rflush_go R2 (fun im bo ro d => goes_on U hq h0 d)).mono ?_
      rintro e w2 ⟨rfl, hf2, hr2⟩
      subst e1
      exact ⟨rfl, hf2, bb, _, k, _, _, true, _, _, _, _, ⟨T.dkept (d1.later hb) hf2 (by simp), hr2, by rw [flS_len]; exact t1⟩, U.ran h0 (by have := U.k; omega), flS_len _ _ _, hbb⟩
/-- a row of bytes, and a number -/
def AnsR (w : World) (l : List UInt8) (z : Int) (e : Ending) (w' : World) : Prop := Below w.heap.size w w' ∧ ∃ ao c, e = .returned (.tuple #[.slice ao l.length c, .int .i64 z]) ∧ Byt w' ao l ∧ (ao = none → c = 0)
theorem two_read (T : Two w g sa mb h gi bb rb S low k D P pw armed left rl nw) (i : Int) :
    ∃ z l, Calls Try.prog 20 #[.pointer (some ⟨g, 0, none⟩), .int .i64 i] w (AnsR w l z) ∧ ∀ W, Below w.heap.size w W → Calls Try.prog 21 #[.pointer (some ⟨h, 0, none⟩), .int .i64 i] W (AnsR W l z) := by
  obtain ⟨n1, n2⟩ := T.len1
  have no : ∀ (W : World) (z : Int) (e : Ending) (w' : World), (e = .returned (.tuple #[.slice none 0 0, .int .i64 z]) ∧ w' = W) → AnsR W [] z e w' := by
    rintro W z e w' ⟨rfl, rfl⟩
    exact ⟨Below.refl _ _, none, 0, rfl, byt_nil _ _, fun _ => rfl⟩
  have got : ∀ (W : World) (l : List UInt8) (e : Ending) (w' : World), l.length = 256 → GetsSec W l e w' → AnsR W l 0 e w' := by
    rintro W l e w' hl ⟨hb, b, rfl, _, hk⟩
    refine ⟨hb, some ⟨b, 0, none⟩, 256, by rw [hl], fun _ => ⟨b, 0, rfl, hk.lt, fun j hj => ?_⟩, fun h => by cases h⟩
    rw [Nat.zero_add, Blk.cell hk j]
    exact bs_get l j hj
  have got2 : ∀ (W : World) (l : List UInt8) (e : Ending) (w' : World), (Below W.heap.size W w' ∧ ∃ v, e = .returned (.tuple #[v, .int .i64 0]) ∧ Own w' W.heap.size v l) → AnsR W l 0 e w' := by
    rintro W l e w' ⟨hb, v, rfl, ho⟩
    obtain ⟨ao, c, rfl, _, _, h3, h4⟩ := own_byt ho
    exact ⟨hb, ao, c, rfl, h3, h4⟩
  cases pw with
  | false =>
    refine ⟨91, [], (read_no T.dv i 91 (found_off n1 i) (by decide)).mono (no w 91), fun W hb => ?_⟩
    obtain ⟨cap, _, _, d⟩ := (T.below hb).rv.dv
    exact (rread_dead d i).mono (no W 91)
  | true =>
    by_cases hi : i < 0 ∨ (S.length : Int) ≤ i
    · refine ⟨90, [], (read_no T.dv i 90 (found_out n1 hi) (by decide)).mono (no w 90), fun W hb => ?_⟩
      obtain ⟨cap, _, _, d⟩ := (T.below hb).rv.dv
      exact (rread_out d i hi).mono (no W 90)
    have hz := found_in n1 hi
    obtain ⟨j, rfl⟩ : ∃ j : Nat, i = (j : Int) := ⟨i.toNat, by omega⟩
    have hj : j < S.length := by omega
    have hP := T.tie.eq j hj
    cases hh : Maps.has D (.int .i64 (j : Int)) with
    | true =>
      obtain ⟨l, hl, ha, hm⟩ := mget_has T.tie.ind hh
      rw [hm] at hP
      exact ⟨0, l, (read_has T.dv j n2 hz hj l hl hh (ha _)).mono (fun e w' x => got w l e w' hl x), fun W hb => (rread_has (T.below hb).rv j hj l hP).mono (got2 W l)⟩
    | false =>
      rw [mget_no hh] at hP
      exact ⟨0, S[j], (read_raw T.dv j n2 hz hj S[j] (List.getElem?_eq_getElem hj) hh (atKey_of_not_has hh _)).mono (fun e w' x => got w _ e w' (T.dv.len _ (List.getElem_mem hj)) x), fun W hb => (rread_raw (T.below hb).rv j hj hP).mono (got2 W _)⟩
end Go.Proofs.Ytohmdcbfffgheaa.Dk
