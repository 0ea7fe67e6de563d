/-
  The contract of name.Unquote: for every text shorter than 2^28 bytes it returns the text of the plain definition and true, or the empty text and false. Conditions: the library's tables and variables as their texts lay them.
-/
import Derived.Test.YtplgiagjgmlbcaaDoorWh
import Derived.Test.YtplgiagjgmlbcaaDoorWq
namespace Go.Proofs.YtplgiagjgmlbcaaDoor.Nm
open Go.RowKit Go.Lib

/-- what Unquote leaves -/
def UPost (o : Option (List UInt8)) (w : World) (e : Ending) (w' : World) : Prop :=
  Below w.heap.size w w' ∧ match o with
    | some t => e = .returned (.tuple #[.string ⟨t.toArray⟩, .bool true])
    | none => e = .returned (.tuple #[.string ⟨#[]⟩, .bool false])

theorem unq_short (s : ByteArray) (w : World) (h : s.size < 2) :
    Calls Tryd.prog 14 #[.string s] w fun e w' => e = .returned (.tuple #[.string ⟨#[]⟩, .bool false]) ∧ w = w' := by
  go_enter Tryd.func14, Tryd.ntmps14
  go_wp2_with fail
  go_ret2
  exact ⟨rfl, rfl⟩
theorem unq_first (s : ByteArray) (w : World) (h : ¬ s.size < 2) (h0 : 0 < s.size) (hb : (((s[0]'h0).toNat : Int) != 34) = true) :
    Calls Tryd.prog 14 #[.string s] w fun e w' => e = .returned (.tuple #[.string ⟨#[]⟩, .bool false]) ∧ w = w' := by
  go_enter Tryd.func14, Tryd.ntmps14
  go_wp2_with fail
  go_ret2
  exact ⟨rfl, rfl⟩
theorem unq_last (s : ByteArray) (w : World) (h : ¬ s.size < 2) (hs : s.size ≤ 268435456) (h0 : 0 < s.size) (h1 : s.size - 1 < s.size) (hb : (((s[0]'h0).toNat : Int) != 34) = false) (hl : (((s[s.size - 1]'h1).toNat : Int) != 34) = true) :
    Calls Tryd.prog 14 #[.string s] w fun e w' => e = .returned (.tuple #[.string ⟨#[]⟩, .bool false]) ∧ w = w' := by
  go_enter Tryd.func14, Tryd.ntmps14
  go_wp2_with fail
  go_ret2
  exact ⟨rfl, rfl⟩
/-- what Unquote makes of the inside's text -/
def unqEnd (l : List UInt8) : Option (List UInt8) → Option (List UInt8)
  | none => none
  | some t => if quoteL t = l then some t else none
/-- a round of Unquote's loop -/
def URel (s : ByteArray) (w : World) (o : Option (List UInt8)) (v : Value) (wr : World) : Prop :=
  ∃ (r : ByteArray) (acc : List UInt8) (f : Nat), v = .string r ∧ Lib.IsBuilderF 46 5 w.heap.size w.heap.size (Lib.byteCells acc) wr ∧ Below w.heap.size w wr ∧ Hid (o = (innerF f r.data.toList).map (acc ++ ·)) ∧ r.size < f ∧ r.size < s.size ∧ acc.length + 4 * r.size ≤ 4 * s.size
def strSize : Value → Nat
  | .string r => r.size
  | _ => 0

set_option maxHeartbeats 2000000 in
set_option maxRecDepth 100000 in
theorem unq_in (s : ByteArray) (w : World) (hg : Glob w) (h : ¬ s.size < 2) (hs : s.size ≤ 268435456) (h0 : 0 < s.size) (h1 : s.size - 1 < s.size) (hb : (((s[0]'h0).toNat : Int) != 34) = false) (hl : (((s[s.size - 1]'h1).toNat : Int) != 34) = false)
    (o : Option (List UInt8)) (ho : Hid (o = innerF s.size (s.extract 1 (s.size - 1)).data.toList)) :
    Calls Tryd.prog 14 #[.string s] w (UPost (unqEnd s.data.toList o) w) := by
  go_enter Tryd.func14, Tryd.ntmps14
  go_wp2_with fail
  clear hb hl
  have hI0 : Lib.IsBuilderF 46 5 w.heap.size w.heap.size (Lib.byteCells []) (w.alloc (.cells #[.pointer none, .slice none 0 0] 46)) := Lib.IsBuilderF.of (Lib.fresh_isBuilder 46 5 w)
  have hb0 : Below w.heap.size w (w.alloc (.cells #[.pointer none, .slice none 0 0] 46)) := (Below.refl _ w).alloc (Nat.le_refl _) _
  have hx : (s.extract 1 (s.size - 1)).size = s.size - 2 := by rw [size_eq, extract_data, List.length_take, List.length_drop, ← size_eq]; omega
  go_loopw [5] (fun v wr => URel s w o v wr) (fun v _ => strSize v)
  case atStart => exact ⟨_, [], s.size, rfl, hI0, hb0, by show o = _; rw [ho.out]; simp, by omega, by omega, by simp; omega⟩
  case round =>
    obtain ⟨r, acc, f, rfl, hI, hbw, hn, hrf, hrs, hal⟩ := hrel
    have hsz : w.heap.size ≤ wr.heap.size := hbw.size
    clear hI0 hb0 hx ho
    by_cases hr : r.size = 0
    · have he : r.toList.isEmpty = true := by rw [toList_data, List.isEmpty_iff]; exact List.eq_nil_of_length_eq_zero (by rw [← size_eq]; exact hr)
      have hO : o = some acc := by
        obtain ⟨f', rfl⟩ : ∃ f', f = f' + 1 := ⟨f - 1, by omega⟩
        have hd : r.data.toList = [] := by rw [toList_data, List.isEmpty_iff] at he; exact he
        rw [hn.out, hd]
        simp [innerF]
      have HO := Lib.hid hO
      clear hO hn
      have has : (⟨acc.toArray⟩ : ByteArray).size ≤ 4294967296 := by rw [size_list]; omega
      have HAS := Lib.hid has
      clear has hr
      have hst : s.toList = s.data.toList := toList_data s
      by_cases hq : quoteL acc = s.data.toList
      · have hq' : Hid (unqEnd s.data.toList o = some acc) := by show unqEnd s.data.toList o = some acc; rw [HO.out, unqEnd, if_pos hq]
        have heq : (quoteL acc == s.toList) = true := by rw [hst, hq]; simp
        have HQ := Lib.hid hq
        clear hq
        clear hst HQ
        go_wp2_with fail
        refine (Tryd.Builder_String_any_k w.heap.size w.heap.size acc _ hI hsz).mono ?_
        rintro e W1 ⟨rfl, _, b1, _⟩
        have hg1 := hg.below (hbw.trans b1)
        have hz1 := b1.size
        go_wp2_with fail
        refine (quote_any ⟨acc.toArray⟩ _ hg1 HAS.out).mono ?_
        rintro e W2 ⟨rfl, b2⟩
        go_wp2_with fail
        go_ret2
        rw [hq'.out]
        exact ⟨(hbw.trans b1).trans (b2.mono (Nat.le_trans hsz hz1)), rfl⟩
      · have hq' : Hid (unqEnd s.data.toList o = none) := by show unqEnd s.data.toList o = none; rw [HO.out, unqEnd, if_neg hq]
        have heq : (quoteL acc == s.toList) = false := by rw [hst]; simpa using hq
        have HQ := Lib.hid hq
        clear hq
        clear hst HQ
        go_wp2_with fail
        refine (Tryd.Builder_String_any_k w.heap.size w.heap.size acc _ hI hsz).mono ?_
        rintro e W1 ⟨rfl, _, b1, _⟩
        have hg1 := hg.below (hbw.trans b1)
        have hz1 := b1.size
        go_wp2_with fail
        refine (quote_any ⟨acc.toArray⟩ _ hg1 HAS.out).mono ?_
        rintro e W2 ⟨rfl, b2⟩
        go_wp2_with fail
        go_ret2
        rw [hq'.out]
        exact ⟨(hbw.trans b1).trans (b2.mono (Nat.le_trans hsz hz1)), rfl⟩
    · have he : r.toList.isEmpty = false := by
        rw [toList_data]
        cases hd : r.data.toList with
        | nil => rw [size_eq, hd] at hr; simp at hr
        | cons _ _ => rfl
      have hne : r.data.toList ≠ [] := by intro hd; rw [size_eq, hd] at hr; simp at hr
      have hF := first_any r wr (hg.below hbw) (by omega) (by omega)
      have HN := hn.out
      obtain ⟨f', rfl⟩ : ∃ f', f = f' + 1 := ⟨f - 1, by omega⟩
      rw [innerF_cons _ _ hne] at HN
      clear hn
      cases hfs : firstS r.data.toList with
      | none =>
        rw [hfs] at hF HN
        have HF := Lib.hid hF
        have HO : Hid (o = none) := HN
        clear hF HN hfs hne
        go_wp2_with fail
        refine HF.out.mono ?_
        rintro e w2 ⟨hb2, p, b, rfl⟩
        go_wp2_with fail
        go_ret2
        rw [HO.out]
        exact ⟨hbw.trans (hb2.mono hsz), rfl⟩
      | some pb =>
        obtain ⟨p, b⟩ := pb
        have hlen := firstS_len _ p b hne hfs
        rw [← size_eq] at hlen
        rw [hfs] at hF HN
        have HF := Lib.hid hF
        have HO : Hid (o = (innerF f' b).map ((acc ++ p) ++ ·)) := by
          show o = _
          rw [HN, Option.map_map]
          congr 1
          funext t
          simp
        have hbs : (⟨b.toArray⟩ : ByteArray).size = b.length := size_list b
        have hps : (⟨p.toArray⟩ : ByteArray).size = p.length := size_list p
        have HBS := Lib.hid hbs
        have HPS := Lib.hid hps
        clear hF HN hfs hne hbs hps
        obtain ⟨hp4, hbl⟩ := hlen
        have hbc : (Lib.byteCells acc).length ≤ 4 * s.size := by rw [Lib.byteCells_length]; omega
        go_wp2_with fail
        refine HF.out.mono ?_
        rintro e w2 ⟨hb2, he2⟩
        simp only at he2
        subst he2
        have hz2 := hb2.size
        go_wp2_with fail
        refine (Tryd.Builder_WriteString_k w.heap.size w.heap.size (Lib.byteCells acc) ⟨p.toArray⟩ _ (later hI hb2) (by rw [HPS.out]; omega) (by omega)).mono ?_
        rintro e W2 ⟨rfl, h3, b3, k3⟩
        go_wp2_with fail
        go_roundw
        case rel =>
          refine ⟨⟨b.toArray⟩, acc ++ p, f', rfl, ?_, (hbw.trans (hb2.mono hsz)).trans b3, HO, ?_, ?_, ?_⟩
          · rw [byteCells_append]; exact Or.inr h3
          · rw [HBS.out]; omega
          · rw [HBS.out]; omega
          · rw [HBS.out, List.length_append]; omega
        case measure => show (⟨b.toArray⟩ : ByteArray).size < r.size; rw [HBS.out]; exact hbl
theorem unqL_eq (l : List UInt8) : unqL l = if l.length < 2 ∨ l.getD 0 0 ≠ 34 ∨ l.getD (l.length - 1) 0 ≠ 34 then none else unqEnd l (innerF l.length ((l.drop 1).take (l.length - 2))) := by
  unfold unqL
  split
  · rfl
  · cases innerF l.length ((l.drop 1).take (l.length - 2)) <;> rfl
theorem getD_at (s : ByteArray) (i : Nat) (h : i < s.size) : s.data.toList.getD i 0 = s[i]'h := by
  have h1 := drop_getD s i h
  rw [getD_dropU] at h1
  simpa using h1
theorem byte_ne (c : UInt8) (n : Nat) (hn : n < 256) : c ≠ n.toUInt8 ↔ ((c.toNat : Int) != (n : Int)) = true := by
  rw [bne_iff_ne]
  constructor
  · intro h hc
    exact h (byte_eq (by omega)).symm
  · intro h hc
    subst hc
    exact h (by simp; omega)

/-- name.Unquote -/
theorem unquote_any (s : ByteArray) (w : World) (hg : Glob w) (hs : s.size ≤ 268435456) :
    Calls Tryd.prog 14 #[.string s] w (UPost (unqL s.data.toList) w) := by
  have hl : s.data.toList.length = s.size := (size_eq s).symm
  rw [unqL_eq, hl]
  by_cases h2 : s.size < 2
  · rw [if_pos (Or.inl h2)]
    exact (unq_short s w h2).mono fun e w' ⟨he, hw⟩ => by subst hw; exact ⟨Below.refl _ _, he⟩
  have h0 : 0 < s.size := by omega
  have h1 : s.size - 1 < s.size := by omega
  rw [getD_at s 0 h0, getD_at s (s.size - 1) h1]
  have k0 := byte_ne (s[0]'h0) 34 (by omega)
  have k1 := byte_ne (s[s.size - 1]'h1) 34 (by omega)
  by_cases hb : s[0]'h0 ≠ 34
  · rw [if_pos (Or.inr (Or.inl hb))]
    exact (unq_first s w h2 h0 (k0.1 hb)).mono fun e w' ⟨he, hw⟩ => by subst hw; exact ⟨Below.refl _ _, he⟩
  have hb' : (((s[0]'h0).toNat : Int) != 34) = false := by
    cases h : (((s[0]'h0).toNat : Int) != 34) with
    | false => rfl
    | true => exact absurd (k0.2 h) hb
  by_cases he : s[s.size - 1]'h1 ≠ 34
  · rw [if_pos (Or.inr (Or.inr he))]
    exact (unq_last s w h2 hs h0 h1 hb' (k1.1 he)).mono fun e w' ⟨he, hw⟩ => by subst hw; exact ⟨Below.refl _ _, he⟩
  have he' : (((s[s.size - 1]'h1).toNat : Int) != 34) = false := by
    cases h : (((s[s.size - 1]'h1).toNat : Int) != 34) with
    | false => rfl
    | true => exact absurd (k1.2 h) he
  rw [if_neg (fun h => h.elim h2 (fun h => h.elim hb he))]
  have hx : (s.extract 1 (s.size - 1)).data.toList = (s.data.toList.drop 1).take (s.size - 2) := by
    rw [extract_data]
    congr 1
  exact unq_in s w hg h2 hs h0 h1 hb' he' _ (by show _ = _; rw [hx])
end Go.Proofs.YtplgiagjgmlbcaaDoor.Nm
