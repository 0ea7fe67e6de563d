/-
  The document's own Unquote, plain: its scan of a quoted text, and that it is name.Unquote's answer. No program in it, no condition.
-/
import Derived.Test.YtplgiagjgmlbcaaDoorPg
import Derived.Test.YtplgiagjgmlbcaaDoorWe2
namespace Go.Proofs.YtplgiagjgmlbcaaDoor.Nm
open Go.RowKit Go.Lib

/-- the scan: the place, the bytes so far -/
def scanU (l : List UInt8) : Nat → Nat → List UInt8 → Option (List UInt8)
  | 0, _, out => some out
  | f + 1, i, out => if i + 1 < l.length then (if (l.getD i 0).toNat ≠ 92 then scanU l f (i + 1) (out ++ [l.getD i 0])
      else match escR (l.drop (i + 1)) with
        | none => none
        | some (b, n) => scanU l f (i + 1 + n) (out ++ b)) else some out
/-- the document's Unquote -/
def refU (l : List UInt8) : Option (List UInt8) :=
  if l.length < 2 ∨ l.getD 0 0 ≠ 34 ∨ l.getD (l.length - 1) 0 ≠ 34 then none
  else match scanU l l.length 1 [] with
    | none => none
    | some t => if quoteL t = l then some t else none

/-- digits of 16, read on -/
def accH : Nat → List UInt8 → Nat
  | x, [] => x
  | x, c :: r => accH (16 * x + (digR c).toNat) r
theorem accH_app : ∀ (a b : List UInt8) (x : Nat), accH x (a ++ b) = accH (accH x a) b
  | [], _, _ => rfl
  | _ :: a, b, _ => accH_app a b _
theorem digs_digR : ∀ d : Fin 16, digR (digs.getD d.val 0) = d.val := by decide +kernel
theorem accH_hexF : ∀ (f n : Nat), n < 16 ^ (f + 1) → accH 0 (hexF f n) = n
  | 0, n, h => by
    have h' : n < 16 := by simpa using h
    have hd := digs_digR ⟨n, h'⟩
    simp only at hd
    unfold hexF
    rw [Nat.mod_eq_of_lt h']
    simp only [accH, hd]
    omega
  | f + 1, n, h => by
    unfold hexF
    by_cases h' : n < 16
    · have hd := digs_digR ⟨n, h'⟩
      simp only at hd
      rw [if_pos h', Nat.mod_eq_of_lt h']
      simp only [accH, hd]
      omega
    · have hd := digs_digR ⟨n % 16, by omega⟩
      simp only at hd
      rw [if_neg h', accH_app, accH_hexF f (n / 16) (by rw [Nat.pow_succ] at h; omega)]
      simp only [accH, hd]
      omega
theorem hexF_digR : ∀ f n, ∀ c ∈ hexF f n, 0 ≤ digR c ∧ c.toNat ≠ 125
  | 0, n, c, h => by
    simp only [hexF, List.mem_cons, List.not_mem_nil, or_false] at h
    subst h
    have hd := digs_digR ⟨n % 16, by omega⟩
    have hs := digs_seen ⟨n % 16, by omega⟩
    simp only at hd hs
    omega
  | f + 1, n, c, h => by
    unfold hexF at h
    have hd := digs_digR ⟨n % 16, by omega⟩
    have hs := digs_seen ⟨n % 16, by omega⟩
    simp only at hd hs
    split at h
    · simp only [List.mem_cons, List.not_mem_nil, or_false] at h
      subst h
      omega
    · rcases List.mem_append.1 h with h | h
      · exact hexF_digR f (n / 16) c h
      · simp only [List.mem_cons, List.not_mem_nil, or_false] at h
        subst h
        omega
theorem escU_run (L : List UInt8) : ∀ (ds r : List UInt8) (f i x : Nat), L.drop i = ds ++ 125 :: r → ds.length + 1 ≤ f → 2 ≤ i → (ds = [] → 2 < i) → (∀ c ∈ ds, 0 ≤ digR c ∧ c.toNat ≠ 125) →
    escU L f i x = (encR (accH x ds)).map fun b => (b, i + ds.length + 1)
  | [], r, f, i, x, hd, hf, h2, hi, _ => by
    obtain ⟨f, rfl⟩ : ∃ g, f = g + 1 := ⟨f - 1, by simp at hf; omega⟩
    have hlen : i < L.length := by
      rcases Nat.lt_or_ge i L.length with h | h
      · exact h
      · rw [List.drop_eq_nil_of_le h] at hd; simp at hd
    have hg : L.getD i 0 = 125 := by
      have := congrArg (fun z => z.getD 0 0) hd
      simpa [List.getD_eq_getElem?_getD] using this
    rw [escU, if_pos hlen, hg, if_pos ⟨by decide, hi rfl⟩]
    rfl
  | c :: ds, r, f, i, x, hd, hf, h2, hi, hc => by
    obtain ⟨f, rfl⟩ : ∃ g, f = g + 1 := ⟨f - 1, by simp at hf; omega⟩
    have hlen : i < L.length := by
      rcases Nat.lt_or_ge i L.length with h | h
      · exact h
      · rw [List.drop_eq_nil_of_le h] at hd; simp at hd
    have hg : L.getD i 0 = c := by
      have := congrArg (fun z => z.getD 0 0) hd
      simpa [List.getD_eq_getElem?_getD] using this
    obtain ⟨c1, c2⟩ := hc c (by simp)
    have hd' : L.drop (i + 1) = ds ++ 125 :: r := by
      rw [← drop_drop', hd]
      rfl
    have ih := escU_run L ds r f (i + 1) (16 * x + (digR c).toNat) hd' (by simp at hf; omega) (by omega) (fun _ => by omega) (fun d hdm => hc d (by simp [hdm]))
    rw [escU, if_pos hlen, hg, if_neg (by rintro ⟨h, _⟩; exact c2 h), if_neg (by omega), ih]
    simp only [accH, List.length_cons]
    rw [show i + 1 + ds.length + 1 = i + (ds.length + 1) + 1 by omega]

set_option maxRecDepth 100000 in
theorem no_surr (l : List UInt8) : ¬ (55296 ≤ (decodeL l).1 ∧ (decodeL l).1 < 57344) := by
  have b0 := (l.getD 0 0).toNat_lt
  have b1 := (l.getD 1 0).toNat_lt
  rw [decodeL_N]
  by_cases k0 : (l.getD 0 0).toNat < 128
  · rw [dN1 _ _ _ _ _ k0]
    simp only
    omega
  by_cases k1 : (l.getD 0 0).toNat < 194
  · rw [dNbad _ _ _ _ _ (by omega) b1]
    simp only
    omega
  by_cases k2 : (l.getD 0 0).toNat < 224
  · rw [dN2 _ _ _ _ _ (by omega)]
    split
    · simp only; omega
    · simp only; omega
  by_cases k3 : (l.getD 0 0).toNat < 240
  · rw [dN3 _ _ _ _ _ (by omega)]
    split
    · simp only; omega
    · simp only; omega
  by_cases k4 : (l.getD 0 0).toNat < 245
  · rw [dN4 _ _ _ _ _ (by omega)]
    split
    · simp only; omega
    · simp only; omega
  rw [dNbad _ _ _ _ _ (by omega) b1]
  simp only
  omega
/-- what is quoted of one rune, read by the document -/
theorem esc_quoteOne (t r : List UInt8) (ht : t ≠ []) (hr : r ≠ []) :
    (∃ c, quoteOne t = [c] ∧ c.toNat ≠ 92 ∧ t.take (decodeL t).2 = [c]) ∨ (∃ e, quoteOne t = 92 :: e ∧ escR (e ++ r) = some (t.take (decodeL t).2, e.length)) := by
  have hrl : 0 < r.length := List.length_pos_iff.2 hr
  cases hs : strayL t with
  | true =>
    right
    have hd : decodeL t = (65533, 1) := by simpa [strayL] using hs
    have h8 := stray_high t hs
    have hlt := (t.getD 0 0).toNat_lt
    refine ⟨[120, digs.getD ((t.getD 0 0).toNat / 16) 0, digs.getD ((t.getD 0 0).toNat % 16) 0], by rw [quoteOne_stray t hs, two_digits _ h8 (by omega)]; rfl, ?_⟩
    have d1 := digs_digR ⟨(t.getD 0 0).toNat / 16, by omega⟩
    have d2 := digs_digR ⟨(t.getD 0 0).toNat % 16, by omega⟩
    simp only at d1 d2
    rw [hd, take1' t ht]
    unfold escR
    rw [if_neg (by simp), if_pos]
    · simp only [List.cons_append, List.nil_append, List.getD_cons_succ, List.getD_cons_zero, d1, d2, List.length_cons, List.length_nil]
      have : (16 * (((t.getD 0 0).toNat / 16 : Nat) : Int) + (((t.getD 0 0).toNat % 16 : Nat) : Int)).toNat.toUInt8 = t.getD 0 0 := ecast' (by omega)
      rw [this]
    · simp only [List.cons_append, List.nil_append, List.getD_cons_succ, List.getD_cons_zero, d1, d2, List.length_cons]
      refine ⟨by omega, by decide, by omega, by omega⟩
  | false =>
    have he := encode_decode t ht hs
    by_cases hm : (decodeL t).1 = 34 ∨ (decodeL t).1 = 92
    · right
      rw [quoteOne_mark t hs hm, ← he]
      rcases hm with h | h
      · rw [h, encode_ascii 34 (by omega)]
        exact ⟨_, rfl, by simp [escR]⟩
      · rw [h, encode_ascii 92 (by omega)]
        exact ⟨_, rfl, by simp [escR]⟩
    · by_cases hq : 32 ≤ (decodeL t).1 ∧ (decodeL t).1 ≤ 126
      · left
        rw [quoteOne_seen t hs hm hq, ← he, encode_ascii _ (by omega)]
        exact ⟨_, rfl, by simp; omega, rfl⟩
      · right
        have hrune := decodeL_rune t
        have hns := no_surr t
        refine ⟨117 :: 123 :: (hexF 5 (decodeL t).1 ++ [125]), by rw [quoteOne_hex t hs hm hq]; simp, ?_⟩
        rw [← he]
        have hl := hexF_len 5 (decodeL t).1
        obtain ⟨ds, hds⟩ : ∃ ds, ds = hexF 5 (decodeL t).1 := ⟨_, rfl⟩
        have hne : ds ≠ [] := by intro h0; rw [← hds, h0] at hl; simp at hl
        have hrun := escU_run (117 :: 123 :: (ds ++ [125] ++ r)) ds r 7 2 0 (by simp) (by rw [hds]; omega) (by omega) (fun h => absurd h hne) (by rw [hds]; exact hexF_digR 5 _)
        have hacc : accH 0 ds = (decodeL t).1 := by rw [hds]; exact accH_hexF 5 _ (by show _ < 16777216; omega)
        rw [hacc] at hrun
        have henc : encR (decodeL t).1 = some (encodeRune ((decodeL t).1 : Nat)) := by
          unfold encR
          rw [if_neg (by omega)]
        rw [henc] at hrun
        rw [← hds]
        have hdl : ds.length = (hexF 5 (decodeL t).1).length := by rw [hds]
        unfold escR
        simp only [List.cons_append, List.append_assoc, List.nil_append, List.getD_cons_zero, List.getD_cons_succ, List.length_cons, List.length_append, List.length_nil] at hrun ⊢
        rw [if_neg (by rintro ⟨_, h | h⟩ <;> revert h <;> decide), if_neg (by rintro ⟨_, h, _⟩; revert h; decide), if_neg (by rintro (h | h | h) <;> first | omega | exact h rfl), hrun]
        simp only [Option.map_some, Option.some.injEq, Prod.mk.injEq, true_and]
        omega
/-- the scan of what is quoted -/
theorem scan_quote : ∀ (g : Nat) (t : List UInt8) (l : List UInt8) (f i : Nat) (out : List UInt8), t.length ≤ g → l.drop i = quoteB g t ++ [34] → (quoteB g t).length ≤ f → scanU l f i out = some (out ++ t)
  | 0, t, l, f, i, out, hg, hd, hf => by
    obtain rfl : t = [] := List.eq_nil_of_length_eq_zero (by omega)
    rw [quoteB_nil, List.nil_append] at hd
    have hl : l.length = i + 1 := by
      have := congrArg List.length hd
      simp only [List.length_drop, List.length_singleton] at this
      omega
    cases f with
    | zero => simp [scanU]
    | succ f => rw [scanU, if_neg (by omega)]; simp
  | g + 1, t, l, f, i, out, hg, hd, hf => by
    by_cases ht : t = []
    · subst ht
      rw [quoteB_nil, List.nil_append] at hd
      have hl : l.length = i + 1 := by
        have := congrArg List.length hd
        simp only [List.length_drop, List.length_singleton] at this
        omega
      cases f with
      | zero => simp [scanU]
      | succ f => rw [scanU, if_neg (by omega)]; simp
    · rw [quoteB_cons g t ht] at hd hf
      have hw := decodeL_width t
      have hq := quoteOne_ge t ht
      rw [List.length_append] at hf
      obtain ⟨f, rfl⟩ : ∃ f', f = f' + 1 := ⟨f - 1, by omega⟩
      have hil : i + 1 < l.length := by
        have := congrArg List.length hd
        simp only [List.length_drop, List.length_append, List.length_singleton] at this
        omega
      rw [List.append_assoc] at hd
      have hsplit : t.take (decodeL t).2 ++ t.drop (decodeL t).2 = t := List.take_append_drop _ _
      rcases esc_quoteOne t (quoteB g (t.drop (decodeL t).2) ++ [34]) ht (by simp) with ⟨c, h1, h2, h3⟩ | ⟨e, h1, h2⟩
      · rw [h1] at hd hf
        have hg0 : l.getD i 0 = c := by
          have := congrArg (fun z => z.getD 0 0) hd
          simpa [List.getD_eq_getElem?_getD] using this
        have hd' : l.drop (i + 1) = quoteB g (t.drop (decodeL t).2) ++ [34] := by
          rw [← drop_drop', hd]
          rfl
        rw [scanU, if_pos hil, hg0, if_pos h2, scan_quote g (t.drop (decodeL t).2) l f (i + 1) (out ++ [c]) (by rw [List.length_drop]; omega) hd' (by simp at hf; omega), List.append_assoc, ← h3, hsplit]
      · rw [h1] at hd hf
        have hg0 : l.getD i 0 = 92 := by
          have := congrArg (fun z => z.getD 0 0) hd
          simpa [List.getD_eq_getElem?_getD] using this
        have hd' : l.drop (i + 1) = e ++ (quoteB g (t.drop (decodeL t).2) ++ [34]) := by
          rw [← drop_drop', hd]
          rfl
        have hd2 : l.drop (i + 1 + e.length) = quoteB g (t.drop (decodeL t).2) ++ [34] := by
          rw [← drop_drop', hd', List.drop_left]
        rw [scanU, if_pos hil, hg0, if_neg (by decide), hd', h2]
        simp only
        rw [scan_quote g (t.drop (decodeL t).2) l f (i + 1 + e.length) _ (by rw [List.length_drop]; omega) hd2 (by simp at hf; omega), List.append_assoc, hsplit]
theorem refU_quote (t : List UInt8) : refU (quoteL t) = some t := by
  have hlen : (quoteL t).length = (quoteB t.length t).length + 2 := by simp [quoteL]
  unfold refU
  rw [if_neg]
  · rw [scan_quote t.length t (quoteL t) (quoteL t).length 1 [] (Nat.le_refl _) (by simp [quoteL]) (by omega)]
    simp
  · rintro (h | h | h)
    · omega
    · simp [quoteL] at h
    · rw [hlen] at h
      apply h
      show (34 :: (quoteB t.length t ++ [34])).getD ((quoteB t.length t).length + 1) 0 = 34
      simp [List.getD]
theorem refU_back (l t : List UInt8) (h : refU l = some t) : quoteL t = l := by
  unfold refU at h
  split at h
  · simp at h
  · split at h
    · simp at h
    · split at h
      · rename_i hq
        cases h
        exact hq
      · simp at h
/-- THE DOCUMENT's UNQUOTE IS THE PROGRAM's -/
theorem refU_eq (l : List UInt8) : refU l = unqL l := by
  cases hu : unqL l with
  | some t => rw [← unqL_quote l t hu, refU_quote]
  | none =>
    cases hr : refU l with
    | none => rfl
    | some t =>
      have h := refU_back l t hr
      rw [← h, unq_quote] at hu
      cases hu
end Go.Proofs.YtplgiagjgmlbcaaDoor.Nm
