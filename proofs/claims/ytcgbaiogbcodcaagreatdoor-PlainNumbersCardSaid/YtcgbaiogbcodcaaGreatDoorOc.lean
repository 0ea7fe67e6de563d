/-
  The contracts of obj's checks of a piece, a node, a listing, a page, a root. Conditions: each law's own.
-/
import Derived.Test.YtcgbaiogbcodcaaGreatDoorOb
namespace Go.Proofs.YtcgbaiogbcodcaaGreatDoor.Sh
open Go.RowKit Go.Lib Lb

/-- need, told case by case -/
theorem need_case {b : Bool} {w : World} {R : Ending → World → Prop} (h1 : b = true → R (.returned (.tuple #[])) w) (h2 : b = false → R (.panicked Wrong) w) : Calls Tryz.prog 91 #[.bool b] w R := by
  cases b with
  | true => exact (need_yes w).mono fun e w' ⟨he, hw⟩ => by rw [he, ← hw]; exact h1 rfl
  | false => exact (need_no w).mono fun e w' ⟨he, hw⟩ => by rw [he, ← hw]; exact h2 rfl
theorem key_empty (k : ByteArray) : k.toList.isEmpty = decide (k = noKey) := by
  rw [toList_data]
  by_cases h : k = noKey
  · subst h
    rfl
  · rw [decide_eq_false h]
    obtain ⟨⟨l⟩⟩ := k
    cases l with
    | nil => exact absurd rfl h
    | cons a r => rfl
set_option maxHeartbeats 1000000 in
set_option maxRecDepth 100000 in
theorem checkref_any (k : ByteArray) (a b n : Int) (w : World) (hk : k.size ≤ 9223372036854775807) :
    Calls Tryz.prog 105 #[.agg #[.string k, .int .i64 a, .int .i64 b, .int .i64 n]] w (Chk w (okRef ⟨k, a, b, n⟩)) := by
  have B0 := Lib.hid ((Below.refl w.heap.size w).alloc (Nat.le_refl _) (.cells #[.string k, .int .i64 a, .int .i64 b, .int .i64 n] 172))
  have K0 : Hid (Blk (w.alloc (.cells #[.string k, .int .i64 a, .int .i64 b, .int .i64 n] 172)) w.heap.size [.string k, .int .i64 a, .int .i64 b, .int .i64 n] 172) := Blk.new w [.string k, .int .i64 a, .int .i64 b, .int .i64 n] 172 _ rfl
  have he := key_empty k
  by_cases h0 : k = noKey
  · rw [decide_eq_true h0] at he
    have H0 := Lib.hid h0
    clear h0
    have no : ∀ p : Prop, okRef ⟨k, a, b, n⟩ → (within a 1 512 ∧ within b 0 32768 ∧ within n 1 32768 → p) → p := fun p h f => by
      rcases h with h | h
      · exact absurd (H0.out ▸ h.1) noKey_not
      · exact f ⟨h.2.1, h.2.2.1, h.2.2.2⟩
    have NO := Lib.hid no
    clear no
    go_enter Tryz.func105, Tryz.ntmps105
    go_wp2_with fail
    refine (withini_any n 1 32768 _).mono ?_
    rintro e w1 ⟨rfl, rfl⟩
    go_wp2_with fail
    refine need_case (fun h => ?_) (fun h => ?_)
    rotate_left
    · exact ⟨rfl, B0.out, .inr ⟨fun h0 => of_decide_eq_false h (NO.out _ h0 fun z => z.2.2), rfl⟩⟩
    have H1 := Lib.hid (of_decide_eq_true h)
    clear h
    go_wp2_with fail
    refine (withini_any a 1 512 _).mono ?_
    rintro e w1 ⟨rfl, rfl⟩
    go_wp2_with fail
    refine need_case (fun h => ?_) (fun h => ?_)
    rotate_left
    · exact ⟨rfl, B0.out, .inr ⟨fun h0 => of_decide_eq_false h (NO.out _ h0 fun z => z.1), rfl⟩⟩
    have H2 := Lib.hid (of_decide_eq_true h)
    clear h
    go_wp2_with fail
    refine (withini_any b 0 32768 _).mono ?_
    rintro e w1 ⟨rfl, rfl⟩
    go_wp2_with fail
    refine need_case (fun h => ?_) (fun h => ?_)
    rotate_left
    · exact ⟨rfl, B0.out, .inr ⟨fun h0 => of_decide_eq_false h (NO.out _ h0 fun z => z.2.1), rfl⟩⟩
    have H3 := Lib.hid (of_decide_eq_true h)
    clear h
    go_wp2_with fail
    exact bodyPost_ret (results_none rfl _ _ _) rfl ⟨B0.out, .inl ⟨.inr ⟨H0.out, H2.out, H3.out, H1.out⟩, rfl⟩⟩
  · rw [decide_eq_false h0] at he
    have no : ∀ p : Prop, okRef ⟨k, a, b, n⟩ → (keyOk k ∧ a = 0 ∧ b = 0 ∧ within n 1 2048 → p) → p := fun p h f => by
      rcases h with h | h
      · exact f h
      · exact absurd h.1 h0
    have NO := Lib.hid no
    have CK := Lib.hid (fun W => check_key k W hk)
    clear no h0
    go_enter Tryz.func105, Tryz.ntmps105
    go_wp2_with fail
    refine (withini_any n 1 2048 _).mono ?_
    rintro e w1 ⟨rfl, rfl⟩
    go_wp2_with fail
    refine need_case (fun h => ?_) (fun h => ?_)
    rotate_left
    · exact ⟨rfl, B0.out, .inr ⟨fun h0 => of_decide_eq_false h (NO.out _ h0 fun z => z.2.2.2), rfl⟩⟩
    have H1 := Lib.hid (of_decide_eq_true h)
    clear h
    go_wp2_with fail
    refine (CK.out _).mono ?_
    rintro e w1 ⟨rfl, hb1⟩
    have B1 := Lib.hid (below_chain B0.out hb1)
    have K1 := Lib.hid (K0.out.low hb1)
    have c1 := K1.out.cell 1
    have c2 := K1.out.cell 2
    simp only [List.getElem?_cons_zero, List.getElem?_cons_succ] at c1 c2
    clear hb1
    go_wp2_with fail
    refine need_case (fun h => ?_) (fun h => ?_)
    rotate_left
    · exact ⟨rfl, B1.out, .inr ⟨fun h0 => NO.out _ h0 fun z => (by have := z.1; unfold keyOk at this; rw [h] at this; cases this), rfl⟩⟩
    have H2 := Lib.hid h
    clear h
    by_cases ha : a = 0
    · subst ha
      by_cases hb : b = 0
      · subst hb
        go_wp2_with fail
        refine (need_yes _).mono ?_
        rintro e w2 ⟨rfl, rfl⟩
        go_wp2_with fail
        go_end0
        exact ⟨B1.out, .inl ⟨.inl ⟨H2.out, rfl, rfl, H1.out⟩, rfl⟩⟩
      · have t : ((b : Int) == 0) = false := by simpa using hb
        have HB := Lib.hid hb
        clear hb
        go_wp2_with fail
        refine (need_no _).mono ?_
        rintro e w2 ⟨rfl, rfl⟩
        exact ⟨rfl, B1.out, .inr ⟨fun h0 => NO.out _ h0 fun z => HB.out z.2.2.1, rfl⟩⟩
    · have t : ((a : Int) == 0) = false := by simpa using ha
      have HA := Lib.hid ha
      clear ha
      go_wp2_with fail
      refine (need_no _).mono ?_
      rintro e w2 ⟨rfl, rfl⟩
      exact ⟨rfl, B1.out, .inr ⟨fun h0 => NO.out _ h0 fun z => HA.out z.2.1, rfl⟩⟩
theorem has_byte (l : List UInt8) (c : UInt8) : decide (0 ≤ Lib.indexByte l c) = decide (c ∈ l) := by
  have hge := Lib.indexByte_ge l c
  by_cases h : 0 ≤ Lib.indexByte l c
  · obtain ⟨o, ho⟩ : ∃ o : Nat, Lib.indexByte l c = o := ⟨(Lib.indexByte l c).toNat, by omega⟩
    rw [decide_eq_true h, decide_eq_true (List.mem_of_getElem? (Lib.indexByte_some ho).1)]
  · have hn : Lib.indexByte l c = -1 := by omega
    rw [decide_eq_false h, decide_eq_false]
    intro hm
    obtain ⟨k, hk⟩ := List.getElem?_of_mem hm
    exact Lib.indexByte_none hn k hk
/-- a link's target, or none -/
def TargetOk (k : Int) (t : ByteArray) : Prop := if k = 3 then 1 ≤ t.size ∧ t.size ≤ 1000 ∧ 0 ∉ t.data.toList else t = noKey
set_option maxHeartbeats 1000000 in
set_option maxRecDepth 100000 in
theorem checktarget_any (k a b d : Int) (t : ByteArray) (va vr : Value) (w : World) (ht : t.size ≤ 9223372036854775807) :
    Calls Tryz.prog 94 #[.agg #[.int .i64 k, .int .i64 a, .int .i64 b, .int .i64 d, .string t, va, vr]] w (Chk w (TargetOk k t)) := by
  have B0 := Lib.hid ((Below.refl w.heap.size w).alloc (Nat.le_refl _) (.cells #[.int .i64 k, .int .i64 a, .int .i64 b, .int .i64 d, .string t, va, vr] 96))
  have K0 : Hid (Blk (w.alloc (.cells #[.int .i64 k, .int .i64 a, .int .i64 b, .int .i64 d, .string t, va, vr] 96)) w.heap.size [.int .i64 k, .int .i64 a, .int .i64 b, .int .i64 d, .string t, va, vr] 96) := Blk.new w [.int .i64 k, .int .i64 a, .int .i64 b, .int .i64 d, .string t, va, vr] 96 _ rfl
  by_cases h3 : k = 3
  · subst h3
    have e3 : TargetOk 3 t = (1 ≤ t.size ∧ t.size ≤ 1000 ∧ 0 ∉ t.data.toList) := if_pos rfl
    have E3 := Lib.hid e3
    have HB := Lib.hid (has_byte t.data.toList 0)
    clear e3
    go_enter Tryz.func94, Tryz.ntmps94
    go_wp2_with fail
    refine (withini_any (t.size : Int) 1 1000 _).mono ?_
    rintro e w1 ⟨rfl, rfl⟩
    go_wp2_with fail
    refine need_case (fun h => ?_) (fun h => ?_)
    rotate_left
    · exact ⟨rfl, B0.out, .inr ⟨fun h0 => of_decide_eq_false h (by rw [E3.out] at h0; unfold within; omega), rfl⟩⟩
    have H1 := Lib.hid (of_decide_eq_true h)
    clear h
    go_wp2_with fail
    refine (Tryz.strings_Contains_one t 0 _).mono ?_
    rintro e w1 ⟨rfl, rfl⟩
    rw [HB.out]
    clear HB
    cases hd : decide (0 ∈ t.data.toList) with
    | true =>
      have HD := Lib.hid (of_decide_eq_true hd)
      clear hd
      go_wp2_with fail
      refine (need_no _).mono ?_
      rintro e w2 ⟨rfl, rfl⟩
      exact ⟨rfl, B0.out, .inr ⟨fun h0 => by rw [E3.out] at h0; exact h0.2.2 HD.out, rfl⟩⟩
    | false =>
      have HD := Lib.hid (of_decide_eq_false hd)
      clear hd
      go_wp2_with fail
      refine (need_yes _).mono ?_
      rintro e w2 ⟨rfl, rfl⟩
      go_wp2_with fail
      go_end0
      exact ⟨B0.out, .inl ⟨by rw [E3.out]; have := H1.out; unfold within at this; exact ⟨by omega, by omega, HD.out⟩, rfl⟩⟩
  · have e3 : TargetOk k t = (t = noKey) := if_neg h3
    have E3 := Lib.hid e3
    clear e3
    have he := key_empty t
    have t3 : ((k : Int) != 3) = true := by simpa using h3
    clear h3
    by_cases h0 : t = noKey
    · rw [decide_eq_true h0] at he
      have H0 := Lib.hid h0
      clear h0
      go_enter Tryz.func94, Tryz.ntmps94
      go_wp2_with fail
      refine (need_yes _).mono ?_
      rintro e w2 ⟨rfl, rfl⟩
      go_wp2_with fail
      first | go_end0 | refine bodyPost_ret (results_none rfl _ _ _) rfl ?_
      exact ⟨B0.out, .inl ⟨by rw [E3.out]; exact H0.out, rfl⟩⟩
    · rw [decide_eq_false h0] at he
      have H0 := Lib.hid h0
      clear h0
      go_enter Tryz.func94, Tryz.ntmps94
      go_wp2_with fail
      refine (need_no _).mono ?_
      rintro e w2 ⟨rfl, rfl⟩
      exact ⟨rfl, B0.out, .inr ⟨fun h0 => by rw [E3.out] at h0; exact H0.out h0, rfl⟩⟩
/-- the cells at an address read as pieces of a content -/
def Rrw (w : World) (ao : Option Addr) (l : List RefP) : Prop :=
  l ≠ [] → ∃ b o, ao = some ⟨b, o, none⟩ ∧ b < w.heap.size ∧ ∀ j x, l[j]? = some x → w.cell? ⟨b, o + j * 4, none⟩ = some (.string x.key) ∧ w.cell? ⟨b, o + j * 4 + 1, none⟩ = some (.int .i64 x.lower) ∧ w.cell? ⟨b, o + j * 4 + 2, none⟩ = some (.int .i64 x.off) ∧ w.cell? ⟨b, o + j * 4 + 3, none⟩ = some (.int .i64 x.n) ∧ x.key.size ≤ 9223372036854775807
theorem Rrw.below {w w' : World} {ao : Option Addr} {l : List RefP} (h : Rrw w ao l) (hb : Below w.heap.size w w') : Rrw w' ao l := fun hne => by
  obtain ⟨b, o, h1, h2, h3⟩ := h hne
  refine ⟨b, o, h1, Nat.lt_of_lt_of_le h2 hb.size, fun j x hj => ?_⟩
  obtain ⟨c0, c1, c2, c3, c4⟩ := h3 j x hj
  exact ⟨(hb.cell (p := ⟨b, _, none⟩) h2).trans c0, (hb.cell (p := ⟨b, _, none⟩) h2).trans c1, (hb.cell (p := ⟨b, _, none⟩) h2).trans c2, (hb.cell (p := ⟨b, _, none⟩) h2).trans c3, c4⟩
theorem rrw_cell {w : World} {ao : Option Addr} {l : List RefP} (h : Rrw w ao l) (i : Nat) (hi : i < l.length) : ∃ b o x, ao = some ⟨b, o, none⟩ ∧ b < w.heap.size ∧ l[i]? = some x ∧ w.cell? ⟨b, o + i * 4, none⟩ = some (.string x.key) ∧ w.cell? ⟨b, o + i * 4 + 1, none⟩ = some (.int .i64 x.lower) ∧ w.cell? ⟨b, o + i * 4 + 2, none⟩ = some (.int .i64 x.off) ∧ w.cell? ⟨b, o + i * 4 + 3, none⟩ = some (.int .i64 x.n) ∧ x.key.size ≤ 9223372036854775807 := by
  obtain ⟨b, o, h1, h2, h3⟩ := h (by intro h0; rw [h0] at hi; simp at hi)
  obtain ⟨c0, c1, c2, c3, c4⟩ := h3 i l[i] (List.getElem?_eq_getElem hi)
  exact ⟨b, o, l[i], h1, h2, List.getElem?_eq_getElem hi, c0, c1, c2, c3, c4⟩
/-- how long pieces are together, as far as i -/
def sumTo (l : List RefP) (i : Nat) : Int := ((l.take i).map (·.n)).sum
theorem sumTo_more {l : List RefP} {i : Nat} {x : RefP} (h : l[i]? = some x) : sumTo l (i + 1) = sumTo l i + x.n := by
  unfold sumTo
  rw [List.take_add_one, h]
  simp
theorem sumTo_le {l : List RefP} {i : Nat} (h : AllTo okRef l i) : 0 ≤ sumTo l i ∧ sumTo l i ≤ 32768 * i := by
  induction i with
  | zero => simp [sumTo]
  | succ i ih =>
    have h' : AllTo okRef l i := fun x hx => h x (by
      rw [List.take_add_one]
      exact List.mem_append_left _ hx)
    obtain ⟨h1, h2⟩ := ih h'
    cases hx : l[i]? with
    | none =>
      unfold sumTo at h1 h2 ⊢
      rw [List.take_add_one, hx]
      simp only [Option.toList_none, List.append_nil]
      omega
    | some x =>
      rw [sumTo_more hx]
      have hk : okRef x := h x (by rw [List.take_add_one, hx]; simp)
      have : 1 ≤ x.n ∧ x.n ≤ 32768 := by
        rcases hk with ⟨_, _, _, h4⟩ | ⟨_, _, _, h4⟩ <;> unfold within at h4 <;> omega
      omega
/-- a node's pieces -/
def RefsOk (k d : Int) (l : List RefP) : Prop := l.length ≤ 128 ∧ (k = 3 → l = []) ∧ (∀ x ∈ l, okRef x) ∧ (l.map (·.n)).sum = d
set_option maxHeartbeats 2000000 in
set_option maxRecDepth 100000 in
theorem checkrefs_any (k a b d : Int) (t : ByteArray) (va : Value) (ao : Option Addr) (l : List RefP) (n c : Nat) (w : World) (h : Rrw w ao l) (hln : l.length = n) (hc : n ≤ c) (_ : c ≤ 9223372036854775807) :
    Calls Tryz.prog 96 #[.agg #[.int .i64 k, .int .i64 a, .int .i64 b, .int .i64 d, .string t, va, .slice ao n c]] w (Chk w (RefsOk k d l)) := by
  have H := Lib.hid h
  have HL := Lib.hid hln
  have B0 := Lib.hid ((Below.refl w.heap.size w).alloc (Nat.le_refl _) (.cells #[.int .i64 k, .int .i64 a, .int .i64 b, .int .i64 d, .string t, va, .slice ao n c] 96))
  have K0 : Hid (Blk (w.alloc (.cells #[.int .i64 k, .int .i64 a, .int .i64 b, .int .i64 d, .string t, va, .slice ao n c] 96)) w.heap.size [.int .i64 k, .int .i64 a, .int .i64 b, .int .i64 d, .string t, va, .slice ao n c] 96) := Blk.new w [.int .i64 k, .int .i64 a, .int .i64 b, .int .i64 d, .string t, va, .slice ao n c] 96 _ rfl
  clear h hln
  by_cases h128 : n ≤ 128
  · have t1 : decide ((n : Int) ≤ 128) = true := by simp; omega
    by_cases h3 : k = 3 ∧ n ≠ 0
    · have HF : Hid (¬ RefsOk k d l) := fun h0 => by have := h0.2.1 h3.1; have hl := HL.out; rw [this] at hl; exact h3.2 hl.symm
      have u1 : ((k : Int) != 3) = false := by simp [h3.1]
      have u2 : ((n : Int) == 0) = false := by have := h3.2; simp; omega
      have u3 : (n == 0) = false := by have := h3.2; simp; omega
      clear h3 h128
      go_enter Tryz.func96, Tryz.ntmps96
      go_wp2_with fail
      refine (need_yes _).mono ?_
      rintro e w1 ⟨rfl, rfl⟩
      go_wp2_with fail
      refine (need_no _).mono ?_
      rintro e w1 ⟨rfl, rfl⟩
      exact ⟨rfl, B0.out, .inr ⟨HF.out, rfl⟩⟩
    · have hcs : ((k != 3) = true) ∨ ((k != 3) = false ∧ ((n : Int) == 0) = true ∧ (n == 0) = true) := by
        by_cases h : k = 3
        · have : n = 0 := by
            by_cases h0 : n = 0
            · exact h0
            · exact absurd ⟨h, h0⟩ h3
          exact .inr ⟨by simp [h], by simp [this], by simp [this]⟩
        · exact .inl (by simpa using h)
      have HK : Hid (k = 3 → l = []) := fun h => by
        have hl := HL.out
        by_cases h0 : n = 0
        · exact List.eq_nil_of_length_eq_zero (by omega)
        · exact absurd ⟨h, h0⟩ h3
      have H128 := Lib.hid h128
      clear h3 h128
      rcases hcs with u1 | ⟨u1, u2, u3⟩
      all_goals
        go_enter Tryz.func96, Tryz.ntmps96
        go_wp2_with fail
        refine (need_yes _).mono ?_
        rintro e w1 ⟨rfl, rfl⟩
        go_wp2_with fail
        refine (need_yes _).mono ?_
        rintro e w1 ⟨rfl, rfl⟩
        go_wp2_with fail
        generalize w.alloc (.cells #[.int .i64 k, .int .i64 a, .int .i64 b, .int .i64 d, .string t, va, .slice ao n c] 96) = wa at *
        go_loopw [2, 23] (fun vs vi wr => ∃ (i : Nat) (z : Int), i ≤ n ∧ vi = .int .i64 i ∧ vs = .int .i64 z ∧ 0 ≤ z ∧ z ≤ 32768 * (i : Int) ∧ Hid (z = sumTo l i) ∧ Hid (Below w.heap.size w wr) ∧ Hid (Blk wr w.heap.size [.int .i64 k, .int .i64 a, .int .i64 b, .int .i64 d, .string t, va, .slice ao n c] 96) ∧ Hid (AllTo okRef l i)) (fun _ vi _ => n - (RowKit.intOf vi).toNat)
        case atStart => exact ⟨0, 0, by omega, rfl, rfl, by omega, by omega, rfl, B0, K0, allTo_zero _ _⟩
        case round =>
          obtain ⟨i, z, hi, rfl, rfl, z0, z1, hZ, hB, hK, hT⟩ := hrel
          have n128 := H128.out
          by_cases hin : i < n
          · obtain ⟨bb, o, x, rfl, hb, hx, x0, x1, x2, x3, x4⟩ := rrw_cell H.out i (by have := HL.out; omega)
            have HX := Lib.hid hx
            have d0 := (hB.out.cell (p := ⟨bb, o + i * 4, none⟩) hb).trans x0
            have d1 := (hB.out.cell (p := ⟨bb, o + i * 4 + 1, none⟩) hb).trans x1
            have d2 := (hB.out.cell (p := ⟨bb, o + i * 4 + 2, none⟩) hb).trans x2
            have d3 := (hB.out.cell (p := ⟨bb, o + i * 4 + 3, none⟩) hb).trans x3
            have q1 : (0 : Int) ≤ (i : Int) := by omega
            have q2 : (i : Int) < (n : Int) := by omega
            clear hx x0 x1 x2 x3 hb
            have CR := Lib.hid (fun W => checkref_any x.key x.lower x.off x.n W x4)
            have KX : Hid (Blk (wr.alloc (.cells #[.string x.key, .int .i64 x.lower, .int .i64 x.off, .int .i64 x.n] 172)) wr.heap.size [.string x.key, .int .i64 x.lower, .int .i64 x.off, .int .i64 x.n] 172) := Blk.new wr [.string x.key, .int .i64 x.lower, .int .i64 x.off, .int .i64 x.n] 172 _ rfl
            have hB1 := Lib.hid (hB.out.alloc hB.out.size (.cells #[.string x.key, .int .i64 x.lower, .int .i64 x.off, .int .i64 x.n] 172))
            have hK1 := Lib.hid (hK.out.alloc (.cells #[.string x.key, .int .i64 x.lower, .int .i64 x.off, .int .i64 x.n] 172))
            go_wp2_with fail
            generalize wr.alloc (.cells #[.string x.key, .int .i64 x.lower, .int .i64 x.off, .int .i64 x.n] 172) = ws at *
            refine (CR.out ws).mono ?_
            clear CR
            rintro e w2 ⟨hb2, ⟨hs, rfl⟩ | ⟨hs, rfl⟩⟩
            rotate_left
            · exact ⟨rfl, below_chain hB1.out hb2, .inr ⟨fun h0 => hs (h0.2.2.1 x (List.mem_of_getElem? HX.out)), rfl⟩⟩
            have hT2 : Hid (AllTo okRef l (i + 1)) := allTo_more hT.out HX.out hs
            have hB2 := Lib.hid (below_chain hB1.out hb2)
            have hK2 := Lib.hid (hK1.out.low hb2)
            have KX2 := Lib.hid (KX.out.low hb2)
            have y3 := KX2.out.cell 3
            simp only [List.getElem?_cons_zero, List.getElem?_cons_succ] at y3
            obtain ⟨s0, s1⟩ := sumTo_le hT2.out
            have hsm := sumTo_more HX.out
            rw [← hZ.out] at hsm
            have HSM := Lib.hid hsm
            have p1 : 0 ≤ z + x.n := by omega
            have p2 : z + x.n ≤ 32768 * ((i + 1 : Nat) : Int) := by omega
            have p3 : z + x.n ≤ 4194304 := by omega
            have p4 : IntKind.i64.wrap (z + x.n) = z + x.n := IntWalk.i64_in _ (by omega)
            clear hs hb2 s0 s1 hsm
            go_wp2_with fail
            go_roundw
            case rel => exact ⟨i + 1, z + x.n, by omega, by go_num, rfl, p1, p2, HSM.out.symm, hB2, hK2, hT2⟩
            case measure => simp [RowKit.intOf]; omega
          · obtain rfl : i = n := by omega
            have k3 := hK.out.cell 3
            simp only [List.getElem?_cons_zero, List.getElem?_cons_succ] at k3
            have HE : Hid ((l.map (·.n)).sum = z) := by
              show _ = _
              rw [hZ.out, sumTo, List.take_of_length_le (by rw [HL.out]; exact Nat.le_refl _)]
            by_cases hzd : z = d
            · subst hzd
              go_wp2_with fail
              refine (need_yes _).mono ?_
              rintro e w2 ⟨rfl, rfl⟩
              go_wp2_with fail
              go_end0
              exact ⟨hB.out, .inl ⟨⟨by rw [HL.out]; exact H128.out, HK.out, allTo_of hT.out HL.out, HE.out⟩, rfl⟩⟩
            · have t : ((z : Int) == d) = false := by simpa using hzd
              have HZD := Lib.hid hzd
              clear hzd
              go_wp2_with fail
              refine (need_no _).mono ?_
              rintro e w2 ⟨rfl, rfl⟩
              exact ⟨rfl, hB.out, .inr ⟨fun h0 => HZD.out (HE.out.symm.trans h0.2.2.2), rfl⟩⟩
  · have t1 : decide ((n : Int) ≤ 128) = false := by simp; omega
    have t2 : decide (n ≤ 128) = false := by simp; omega
    have HF : Hid (¬ RefsOk k d l) := fun h0 => by have := h0.1; have := HL.out; omega
    clear h128
    go_enter Tryz.func96, Tryz.ntmps96
    go_wp2_with fail
    refine (need_no _).mono ?_
    rintro e w1 ⟨rfl, rfl⟩
    exact ⟨rfl, B0.out, .inr ⟨HF.out, rfl⟩⟩
/-- the cells at an address read as attributes -/
def Arw (w : World) (ao : Option Addr) (l : List (ByteArray × List UInt8)) : Prop :=
  l ≠ [] → ∃ b o, ao = some ⟨b, o, none⟩ ∧ b < w.heap.size ∧ ∀ j x, l[j]? = some x → w.cell? ⟨b, o + j * 2, none⟩ = some (.string x.1) ∧ x.1.size ≤ 9223372036854775807 ∧
    ∃ ad m c, w.cell? ⟨b, o + j * 2 + 1, none⟩ = some (.slice ad m c) ∧ x.2.length = m ∧ m ≤ c ∧ c ≤ 9223372036854775807 ∧ Byt w ad x.2 ∧ (ad = none → c = 0)
theorem Arw.below {w w' : World} {ao : Option Addr} {l : List (ByteArray × List UInt8)} (h : Arw w ao l) (hb : Below w.heap.size w w') : Arw w' ao l := fun hne => by
  obtain ⟨b, o, h1, h2, h3⟩ := h hne
  refine ⟨b, o, h1, Nat.lt_of_lt_of_le h2 hb.size, fun j x hj => ?_⟩
  obtain ⟨c0, c1, ad, m, c, c2, c3, c4, c5, c6, c7⟩ := h3 j x hj
  exact ⟨(hb.cell (p := ⟨b, _, none⟩) h2).trans c0, c1, ad, m, c, (hb.cell (p := ⟨b, _, none⟩) h2).trans c2, c3, c4, c5, c6.below hb, c7⟩
theorem arw_cell {w : World} {ao : Option Addr} {l : List (ByteArray × List UInt8)} (h : Arw w ao l) (i : Nat) (hi : i < l.length) : ∃ b o x, ao = some ⟨b, o, none⟩ ∧ b < w.heap.size ∧ l[i]? = some x ∧ w.cell? ⟨b, o + i * 2, none⟩ = some (.string x.1) ∧ x.1.size ≤ 9223372036854775807 ∧
    ∃ ad m c, w.cell? ⟨b, o + i * 2 + 1, none⟩ = some (.slice ad m c) ∧ x.2.length = m ∧ m ≤ c ∧ c ≤ 9223372036854775807 ∧ Byt w ad x.2 ∧ (ad = none → c = 0) := by
  obtain ⟨b, o, h1, h2, h3⟩ := h (by intro h0; rw [h0] at hi; simp at hi)
  obtain ⟨c0, c1, c2⟩ := h3 i l[i] (List.getElem?_eq_getElem hi)
  exact ⟨b, o, l[i], h1, h2, List.getElem?_eq_getElem hi, c0, c1, c2⟩
/-- a row of texts of the call's own -/
def OwnT (w : World) (B : Nat) (v : Value) (l : List ByteArray) : Prop := w.ownsRow B 9 1 v l.length (sts l)
theorem infoT : (Tryz.prog.info? 9).map (fun i => (i.zero, i.size, i.bytes)) = some (some (.string ⟨#[]⟩), 1, 16) := by kernel_rfl
theorem srw_one9 (w : World) (x : ByteArray) : Srw (w.alloc (.cells #[.string x] 9)) (some ⟨w.heap.size, 0, none⟩) [x] := fun _ => by
  refine ⟨w.heap.size, 0, rfl, by simp, fun j hj => ?_⟩
  obtain rfl : j = 0 := by simpa using hj
  exact cell_new w #[.string x] 0 _ rfl rfl
/-- attributes that may be -/
def AttrsOk (l : List (ByteArray × List UInt8)) : Prop := l.length ≤ 8 ∧ (∀ a ∈ l, a.2.length ≤ 256) ∧ (∀ s ∈ l.map (·.1), nameOk s) ∧ SU ltB (l.map (·.1))
theorem names_more {l : List (ByteArray × List UInt8)} {i : Nat} {x : ByteArray × List UInt8} (h : l[i]? = some x) : (l.take i).map (·.1) ++ [x.1] = (l.take (i + 1)).map (·.1) := by
  rw [List.take_add_one, h]
  simp
set_option maxHeartbeats 2000000 in
set_option maxRecDepth 100000 in
theorem checkattrs_any (ao : Option Addr) (l : List (ByteArray × List UInt8)) (n c : Nat) (w : World) (h : Arw w ao l) (hln : l.length = n) (hc : n ≤ c) (_ : c ≤ 9223372036854775807) :
    Calls Tryz.prog 95 #[.slice ao n c] w (Chk w (AttrsOk l)) := by
  have H := Lib.hid h
  have HL := Lib.hid hln
  have B0 := Lib.hid (Below.refl w.heap.size w)
  clear h hln
  by_cases h8 : n ≤ 8
  · have t1 : decide ((n : Int) ≤ 8) = true := by simp; omega
    have t2 : decide (n ≤ 8) = true := by simp; omega
    have H8 := Lib.hid h8
    clear h8
    go_enter Tryz.func95, Tryz.ntmps95
    go_wp2_with fail
    refine (need_yes _).mono ?_
    rintro e w1 ⟨rfl, rfl⟩
    go_wp2_with fail
    go_loopw [2, 11] (fun v vi wr => ∃ (i : Nat) (P : List ByteArray), i ≤ n ∧ vi = .int .i64 i ∧ Hid (P = (l.take i).map (·.1)) ∧ P.length = i ∧ Hid (OwnT wr w.heap.size v P) ∧ Hid (Below w.heap.size w wr) ∧ Hid (AllTo (fun a => a.2.length ≤ 256) l i)) (fun _ vi _ => n - (RowKit.intOf vi).toNat)
    case atStart => exact ⟨0, [], by omega, rfl, rfl, rfl, World.ownsRow_nil _ _ _ _, B0, allTo_zero _ _⟩
    case round =>
      obtain ⟨i, P, hi, rfl, hP, hPl, hO, hB, hT⟩ := hrel
      have n8 := H8.out
      by_cases hin : i < n
      · obtain ⟨bb, o, x, rfl, hb, hx, x0, x1, ad, m, cc, x2, x3, x4, x5, x6, x7⟩ := arw_cell H.out i (by have := HL.out; omega)
        have HX := Lib.hid hx
        have d0 := (hB.out.cell (p := ⟨bb, o + i * 2, none⟩) hb).trans x0
        have d1 := (hB.out.cell (p := ⟨bb, o + i * 2 + 1, none⟩) hb).trans x2
        have q1 : (0 : Int) ≤ (i : Int) := by omega
        have q2 : (i : Int) < (n : Int) := by omega
        have HM := Lib.hid x3
        clear hx x0 x2 hb x6 x7 x3
        by_cases hm : m ≤ 256
        · have r1 : decide ((m : Int) ≤ 256) = true := by simp; omega
          have r2 : decide (m ≤ 256) = true := by simp; omega
          have HM2 := Lib.hid hm
          clear hm
          have hB1 := Lib.hid (hB.out.alloc hB.out.size (.cells #[.string x.1, .slice ad m cc] 105))
          have O1 : Hid (OwnT (wr.alloc (.cells #[.string x.1, .slice ad m cc] 105)) w.heap.size u2 P) := World.ownsRow.alloc hO.out _
          have K1 : Hid (Blk (wr.alloc (.cells #[.string x.1, .slice ad m cc] 105)) wr.heap.size [.string x.1, .slice ad m cc] 105) := Blk.new wr [.string x.1, .slice ad m cc] 105 _ rfl
          have k0 := K1.out.cell 0
          have k1 := K1.out.cell 1
          simp only [List.getElem?_cons_zero, List.getElem?_cons_succ] at k0 k1
          clear hO hB
          go_wp2_with fail
          refine (need_yes _).mono ?_
          rintro e w1 ⟨rfl, rfl⟩
          generalize wr.alloc (.cells #[.string x.1, .slice ad m cc] 105) = ws at *
          have hsz := hB1.out.size
          have p1 : (P.length + [x.1].length) * 16 ≤ 140737488355328 := by simp; omega
          go_wp2_with (at_builtin; refine wpl_apps (t := 34) (e := 9) rfl (.tmp 20) (.tmp 23) rfl Tryz.underlying34 infoT w.heap.size u2 P [x.1] rfl (World.ownsRow.alloc O1.out _) (some ⟨ws.heap.size, 0, none⟩) 1 rfl (srw_one9 ws x.1) (fun h => by cases h) p1 (by simp; omega) ?_; intro v' w' hown' hgrow)
          have hB2 : Hid (Below w.heap.size w w') := (hB1.out.alloc hsz _).grown hgrow (by simp; omega) (fun k hk => (O1.out.lt k hk).1)
          have O2 : Hid (OwnT w' w.heap.size v' (P ++ [x.1])) := hown'
          have hT2 : Hid (AllTo (fun a : ByteArray × List UInt8 => a.2.length ≤ 256) l (i + 1)) := allTo_more hT.out HX.out (by rw [HM.out]; exact HM2.out)
          have hP2 : Hid (P ++ [x.1] = (l.take (i + 1)).map (·.1)) := by show _ = _; rw [hP.out]; exact names_more HX.out
          have hl2 : (P ++ [x.1]).length = i + 1 := by simp [hPl]
          clear hown' hgrow k0 k1 p1
          go_wp2_with fail
          go_roundw
          case rel => exact ⟨i + 1, P ++ [x.1], by omega, by go_num, hP2, hl2, O2, hB2, hT2⟩
          case measure => simp [RowKit.intOf]; omega
        · have r1 : decide ((m : Int) ≤ 256) = false := by simp; omega
          have r2 : decide (m ≤ 256) = false := by simp; omega
          have HF : Hid (¬ AttrsOk l) := fun h0 => by have := h0.2.1 x (List.mem_of_getElem? HX.out); have := HM.out; omega
          clear hm
          have hB1 := Lib.hid (hB.out.alloc hB.out.size (.cells #[.string x.1, .slice ad m cc] 105))
          go_wp2_with fail
          refine (need_no _).mono ?_
          rintro e w1 ⟨rfl, rfl⟩
          exact ⟨rfl, hB1.out, .inr ⟨HF.out, rfl⟩⟩
      · obtain rfl : i = n := by omega
        obtain ⟨a5, c5, rfl, y1, y2, y3, _⟩ := own_srw hO.out
        have CN := Lib.hid (checknames_any a5 P i c5 wr y3 hPl (by omega) y2)
        have hP2 : P = l.map (·.1) := by rw [hP.out, List.take_of_length_le (by rw [HL.out]; exact Nat.le_refl _)]
        have HP := Lib.hid hP2
        have HT := Lib.hid (allTo_of hT.out HL.out)
        clear hP2 y3 hO hP
        rw [hPl]
        go_wp2_with fail
        refine CN.out.mono ?_
        clear CN
        rintro e w2 ⟨hb2, ⟨hs, rfl⟩ | ⟨hs, rfl⟩⟩
        · have HS := Lib.hid hs
          have hB2 : Hid (Below w.heap.size w w2) := below_chain hB.out hb2
          clear hs hb2
          go_wp2_with fail
          go_end0
          refine ⟨hB2.out, .inl ⟨⟨by rw [HL.out]; exact H8.out, HT.out, ?_, ?_⟩, rfl⟩⟩
          · rw [← HP.out]; exact HS.out.1
          · rw [← HP.out]; exact HS.out.2
        · exact ⟨rfl, below_chain hB.out hb2, .inr ⟨fun h0 => hs (by rw [HP.out]; exact ⟨h0.2.2.1, h0.2.2.2⟩), rfl⟩⟩
  · have t1 : decide ((n : Int) ≤ 8) = false := by simp; omega
    have t2 : decide (n ≤ 8) = false := by simp; omega
    have HF : Hid (¬ AttrsOk l) := fun h0 => by have := h0.1; have := HL.out; omega
    clear h8
    go_enter Tryz.func95, Tryz.ntmps95
    go_wp2_with fail
    refine (need_no _).mono ?_
    rintro e w1 ⟨rfl, rfl⟩
    exact ⟨rfl, B0.out, .inr ⟨HF.out, rfl⟩⟩
theorem okMeta_iff (k a b d : Int) (t : ByteArray) (la : List (ByteArray × List UInt8)) (lr : List RefP) :
    OkMeta ltB nameOk ⟨k, a, b, d, t, la, lr⟩ ↔ within k 1 3 ∧ within a 0 4095 ∧ within b 0 64 ∧ within d 0 32768 ∧ TargetOk k t ∧ AttrsOk la ∧ RefsOk k d lr := by
  constructor
  · intro h
    refine ⟨h.kind, h.mode, h.links, h.size, h.target, ⟨h.most, h.values, fun s hs => ?_, h.rising⟩, ⟨h.many, fun h3 => ?_, h.refs, h.sum⟩⟩
    · obtain ⟨x, hx, rfl⟩ := List.mem_map.1 hs
      exact h.names x hx
    · have h1 := sum_pos lr h.refs
      have h2 := h.sum
      have h4 := h.link h3
      simp only at h2 h4
      exact List.eq_nil_of_length_eq_zero (by omega)
  · rintro ⟨h1, h2, h3, h4, h5, ⟨h6, h7, h8, h9⟩, ⟨h10, h11, h12, h13⟩⟩
    exact ⟨h1, h2, h3, h4, h5, h6, h7, fun x hx => h8 _ (List.mem_map_of_mem hx), h9, h10, h12, h13, fun h => by
      have := h11 h
      simp only at h13 ⊢
      rw [this] at h13
      simpa using h13.symm⟩
set_option maxHeartbeats 2000000 in
set_option maxRecDepth 100000 in
theorem checkmeta_any (k a b d : Int) (t : ByteArray) (av rv : Option Addr) (an ac rn rc : Nat) (la : List (ByteArray × List UInt8)) (lr : List RefP) (w : World) (ht : t.size ≤ 9223372036854775807)
    (ha : Arw w av la) (hla : la.length = an) (hac : an ≤ ac) (hacc : ac ≤ 9223372036854775807) (hr : Rrw w rv lr) (hlr : lr.length = rn) (hrc : rn ≤ rc) (hrcc : rc ≤ 9223372036854775807) :
    Calls Tryz.prog 71 #[.agg #[.int .i64 k, .int .i64 a, .int .i64 b, .int .i64 d, .string t, .slice av an ac, .slice rv rn rc]] w (Chk w (OkMeta ltB nameOk ⟨k, a, b, d, t, la, lr⟩)) := by
  have B0 := Lib.hid ((Below.refl w.heap.size w).alloc (Nat.le_refl _) (.cells #[.int .i64 k, .int .i64 a, .int .i64 b, .int .i64 d, .string t, .slice av an ac, .slice rv rn rc] 96))
  have K0 : Hid (Blk (w.alloc (.cells #[.int .i64 k, .int .i64 a, .int .i64 b, .int .i64 d, .string t, .slice av an ac, .slice rv rn rc] 96)) w.heap.size [.int .i64 k, .int .i64 a, .int .i64 b, .int .i64 d, .string t, .slice av an ac, .slice rv rn rc] 96) := Blk.new w [.int .i64 k, .int .i64 a, .int .i64 b, .int .i64 d, .string t, .slice av an ac, .slice rv rn rc] 96 _ rfl
  have IFF := Lib.hid (okMeta_iff k a b d t la lr)
  have CT := Lib.hid (fun W => checktarget_any k a b d t (.slice av an ac) (.slice rv rn rc) W ht)
  have CA := Lib.hid (fun W (hb : Below w.heap.size w W) => checkattrs_any av la an ac W (ha.below hb) hla hac hacc)
  have CR := Lib.hid (fun W (hb : Below w.heap.size w W) => checkrefs_any k a b d t (.slice av an ac) rv lr rn rc W (hr.below hb) hlr hrc hrcc)
  clear ha hr hla hlr hac hacc hrc hrcc ht
  go_enter Tryz.func71, Tryz.ntmps71
  go_wp2_with fail
  generalize w.alloc (.cells #[.int .i64 k, .int .i64 a, .int .i64 b, .int .i64 d, .string t, .slice av an ac, .slice rv rn rc] 96) = wa at *
  have k0 := K0.out.cell 0
  have k1 := K0.out.cell 1
  have k2 := K0.out.cell 2
  have k3 := K0.out.cell 3
  have k4 := K0.out.cell 4
  have k5 := K0.out.cell 5
  have k6 := K0.out.cell 6
  simp only [List.getElem?_cons_zero, List.getElem?_cons_succ] at k0 k1 k2 k3 k4 k5 k6
  refine (withink_any k 1 3 _).mono ?_
  rintro e w1 ⟨rfl, rfl⟩
  go_wp2_with fail
  refine need_case (fun h => ?_) (fun h => ?_)
  rotate_left
  · exact ⟨rfl, B0.out, .inr ⟨fun h0 => of_decide_eq_false h ((fun z => z.1) (IFF.out.1 h0)), rfl⟩⟩
  have H1 := Lib.hid (of_decide_eq_true h)
  clear h
  go_wp2_with fail
  refine (withini_any a 0 4095 _).mono ?_
  rintro e w1 ⟨rfl, rfl⟩
  go_wp2_with fail
  refine need_case (fun h => ?_) (fun h => ?_)
  rotate_left
  · exact ⟨rfl, B0.out, .inr ⟨fun h0 => of_decide_eq_false h ((fun z => z.2.1) (IFF.out.1 h0)), rfl⟩⟩
  have H2 := Lib.hid (of_decide_eq_true h)
  clear h
  go_wp2_with fail
  refine (withini_any b 0 64 _).mono ?_
  rintro e w1 ⟨rfl, rfl⟩
  go_wp2_with fail
  refine need_case (fun h => ?_) (fun h => ?_)
  rotate_left
  · exact ⟨rfl, B0.out, .inr ⟨fun h0 => of_decide_eq_false h ((fun z => z.2.2.1) (IFF.out.1 h0)), rfl⟩⟩
  have H3 := Lib.hid (of_decide_eq_true h)
  clear h
  go_wp2_with fail
  refine (withini_any d 0 32768 _).mono ?_
  rintro e w1 ⟨rfl, rfl⟩
  go_wp2_with fail
  refine need_case (fun h => ?_) (fun h => ?_)
  rotate_left
  · exact ⟨rfl, B0.out, .inr ⟨fun h0 => of_decide_eq_false h ((fun z => z.2.2.2.1) (IFF.out.1 h0)), rfl⟩⟩
  have H4 := Lib.hid (of_decide_eq_true h)
  clear h
  go_wp2_with fail
  refine (CT.out _).mono ?_
  rintro e w2 ⟨hb2, ⟨hs, rfl⟩ | ⟨hs, rfl⟩⟩
  rotate_left
  · exact ⟨rfl, below_chain B0.out hb2, .inr ⟨fun h0 => hs ((fun z => z.2.2.2.2.1) (IFF.out.1 h0)), rfl⟩⟩
  have H5 := Lib.hid hs
  have B1 := Lib.hid (below_chain B0.out hb2)
  have K1 := Lib.hid (K0.out.low hb2)
  clear hs hb2
  clear k0 k1 k2 k3 k4 k5 k6
  have k0 := K1.out.cell 0
  have k1 := K1.out.cell 1
  have k2 := K1.out.cell 2
  have k3 := K1.out.cell 3
  have k4 := K1.out.cell 4
  have k5 := K1.out.cell 5
  have k6 := K1.out.cell 6
  simp only [List.getElem?_cons_zero, List.getElem?_cons_succ] at k0 k1 k2 k3 k4 k5 k6
  go_wp2_with fail
  refine (CA.out _ B1.out).mono ?_
  rintro e w2 ⟨hb2, ⟨hs, rfl⟩ | ⟨hs, rfl⟩⟩
  rotate_left
  · exact ⟨rfl, below_chain B1.out hb2, .inr ⟨fun h0 => hs ((fun z => z.2.2.2.2.2.1) (IFF.out.1 h0)), rfl⟩⟩
  have H6 := Lib.hid hs
  have B2 := Lib.hid (below_chain B1.out hb2)
  have K2 := Lib.hid (K1.out.low hb2)
  clear hs hb2
  clear k0 k1 k2 k3 k4 k5 k6
  have k0 := K2.out.cell 0
  have k1 := K2.out.cell 1
  have k2 := K2.out.cell 2
  have k3 := K2.out.cell 3
  have k4 := K2.out.cell 4
  have k5 := K2.out.cell 5
  have k6 := K2.out.cell 6
  simp only [List.getElem?_cons_zero, List.getElem?_cons_succ] at k0 k1 k2 k3 k4 k5 k6
  go_wp2_with fail
  refine (CR.out _ B2.out).mono ?_
  rintro e w2 ⟨hb2, ⟨hs, rfl⟩ | ⟨hs, rfl⟩⟩
  rotate_left
  · exact ⟨rfl, below_chain B2.out hb2, .inr ⟨fun h0 => hs ((fun z => z.2.2.2.2.2.2) (IFF.out.1 h0)), rfl⟩⟩
  have H7 := Lib.hid hs
  have B3 := Lib.hid (below_chain B2.out hb2)
  have K3 := Lib.hid (K2.out.low hb2)
  clear hs hb2
  clear k0 k1 k2 k3 k4 k5 k6
  have k0 := K3.out.cell 0
  have k1 := K3.out.cell 1
  have k2 := K3.out.cell 2
  have k3 := K3.out.cell 3
  have k4 := K3.out.cell 4
  have k5 := K3.out.cell 5
  have k6 := K3.out.cell 6
  simp only [List.getElem?_cons_zero, List.getElem?_cons_succ] at k0 k1 k2 k3 k4 k5 k6
  go_wp2_with fail
  go_end0
  exact ⟨B3.out, .inl ⟨IFF.out.2 ⟨H1.out, H2.out, H3.out, H4.out, H5.out, H6.out, H7.out⟩, rfl⟩⟩
theorem Zrw.below {w w' : World} {ao : Option Addr} {l : List Int} (h : Zrw w ao l) (hb : Below w.heap.size w w') : Zrw w' ao l := fun hne => by
  obtain ⟨b, o, h1, h2, h3⟩ := h hne
  exact ⟨b, o, h1, Nat.lt_of_lt_of_le h2 hb.size, fun j hj => (hb.cell (p := ⟨b, o + j, none⟩) h2).trans (h3 j hj)⟩
set_option maxHeartbeats 2000000 in
set_option maxRecDepth 100000 in
theorem checklisting_any (o : Bool) (sv zv : Option Addr) (sn sc zn zc : Nat) (ls : List ByteArray) (lz : List Int) (w : World) (hz : Zrw w zv lz) (hlz : lz.length = zn) (hzc : zn ≤ zc) (hzcc : zc ≤ 9223372036854775807)
    (h : Srw w sv ls) (hl : ls.length = sn) (hc : sn ≤ sc) (hcc : sc ≤ 9223372036854775807) :
    Calls Tryz.prog 73 #[.agg #[.bool o, .slice sv sn sc, .slice zv zn zc]] w (Chk w (OkList ltB nameOk ⟨o, ls, lz⟩)) := by
  have B0 := Lib.hid ((Below.refl w.heap.size w).alloc (Nat.le_refl _) (.cells #[.bool o, .slice sv sn sc, .slice zv zn zc] 99))
  have K0 : Hid (Blk (w.alloc (.cells #[.bool o, .slice sv sn sc, .slice zv zn zc] 99)) w.heap.size [.bool o, .slice sv sn sc, .slice zv zn zc] 99) := Blk.new w [.bool o, .slice sv sn sc, .slice zv zn zc] 99 _ rfl
  have IFF : Hid (OkList ltB nameOk ⟨o, ls, lz⟩ ↔ ls.length ≤ 256 ∧ lz.length = ls.length ∧ ((∀ s ∈ ls, nameOk s) ∧ SU ltB ls) ∧ ∀ x ∈ lz, within x (if o = true then 1 else 0) 1024) := Lib.hid ⟨fun h => ⟨h.most, h.same, ⟨h.names, h.rising⟩, fun x hx => by
      have h1 := h.nums x hx
      have h2 := h.opq
      cases o with
      | false => exact h1
      | true =>
        have h3 := h2 rfl
        unfold within at *
        have : x ≠ 0 := fun h0 => h3 (h0 ▸ hx)
        rw [if_pos rfl]
        omega⟩, fun h => ⟨h.1, h.2.2.1.1, h.2.2.1.2, h.2.1, fun x hx => by
      have := h.2.2.2 x hx
      unfold within at *
      split at this <;> omega, fun ho hx => by
      have := h.2.2.2 0 hx
      unfold within at this
      simp only at ho
      rw [ho, if_pos rfl] at this
      omega⟩⟩
  have HL := Lib.hid hl
  have HZ := Lib.hid hlz
  have CN := Lib.hid (fun W lo (hb : Below w.heap.size w W) => checknums_any zv lz zn zc lo W (hz.below hb) hlz hzc hzcc)
  have CS := Lib.hid (fun W (hb : Below w.heap.size w W) => checknames_any sv ls sn sc W (h.below hb) hl hc hcc)
  clear h hl hc hcc hz hlz hzc hzcc
  by_cases h256 : sn ≤ 256
  · have t1 : decide ((sn : Int) ≤ 256) = true := by simp; omega
    have t2 : decide (sn ≤ 256) = true := by simp; omega
    have H256 := Lib.hid h256
    clear h256
    by_cases hkz : zn = sn
    · have t3 : ((zn : Int) == (sn : Int)) = true := by simp [hkz]
      have t4 : (zn == sn) = true := by simp [hkz]
      have HKZ := Lib.hid hkz
      clear hkz
      go_enter Tryz.func73, Tryz.ntmps73
      go_wp2_with fail
      refine (need_yes _).mono ?_
      rintro e w1 ⟨rfl, rfl⟩
      generalize w.alloc (.cells #[.bool o, .slice sv sn sc, .slice zv zn zc] 99) = wa at *
      have k0 := K0.out.cell 0
      have k1 := K0.out.cell 1
      have k2 := K0.out.cell 2
      simp only [List.getElem?_cons_zero, List.getElem?_cons_succ] at k0 k1 k2
      go_wp2_with fail
      refine (CS.out _ B0.out).mono ?_
      rintro e w2 ⟨hb2, ⟨hs, rfl⟩ | ⟨hs, rfl⟩⟩
      rotate_left
      · exact ⟨rfl, below_chain B0.out hb2, .inr ⟨fun h0 => hs (IFF.out.1 h0).2.2.1, rfl⟩⟩
      have H5 := Lib.hid hs
      have B1 := Lib.hid (below_chain B0.out hb2)
      have K1 := Lib.hid (K0.out.low hb2)
      clear hs hb2 k0 k1 k2
      have k0 := K1.out.cell 0
      have k1 := K1.out.cell 1
      have k2 := K1.out.cell 2
      simp only [List.getElem?_cons_zero, List.getElem?_cons_succ] at k0 k1 k2
      cases o with
      | false =>
        go_wp2_with fail
        refine (CN.out _ 0 B1.out).mono ?_
        rintro e w2 ⟨hb2, ⟨hs, rfl⟩ | ⟨hs, rfl⟩⟩
        · have HS := Lib.hid hs
          have B2 := Lib.hid (below_chain B1.out hb2)
          clear hs hb2
          go_wp2_with fail
          go_end0
          exact ⟨B2.out, .inl ⟨IFF.out.2 ⟨by rw [HL.out]; exact H256.out, by rw [HL.out, HZ.out, HKZ.out], H5.out, HS.out⟩, rfl⟩⟩
        · exact ⟨rfl, below_chain B1.out hb2, .inr ⟨fun h0 => hs (IFF.out.1 h0).2.2.2, rfl⟩⟩
      | true =>
        go_wp2_with fail
        refine (CN.out _ 1 B1.out).mono ?_
        rintro e w2 ⟨hb2, ⟨hs, rfl⟩ | ⟨hs, rfl⟩⟩
        · have HS := Lib.hid hs
          have B2 := Lib.hid (below_chain B1.out hb2)
          clear hs hb2
          go_wp2_with fail
          go_end0
          exact ⟨B2.out, .inl ⟨IFF.out.2 ⟨by rw [HL.out]; exact H256.out, by rw [HL.out, HZ.out, HKZ.out], H5.out, HS.out⟩, rfl⟩⟩
        · exact ⟨rfl, below_chain B1.out hb2, .inr ⟨fun h0 => hs (IFF.out.1 h0).2.2.2, rfl⟩⟩
    · have t3 : ((zn : Int) == (sn : Int)) = false := by simp; omega
      have t4 : (zn == sn) = false := by simp; omega
      have HF : Hid (¬ OkList ltB nameOk ⟨o, ls, lz⟩) := fun h0 => by have := (IFF.out.1 h0).2.1; have := HL.out; have := HZ.out; omega
      clear hkz
      go_enter Tryz.func73, Tryz.ntmps73
      go_wp2_with fail
      refine (need_no _).mono ?_
      rintro e w1 ⟨rfl, rfl⟩
      exact ⟨rfl, B0.out, .inr ⟨HF.out, rfl⟩⟩
  · have t1 : decide ((sn : Int) ≤ 256) = false := by simp; omega
    have t2 : decide (sn ≤ 256) = false := by simp; omega
    have HF : Hid (¬ OkList ltB nameOk ⟨o, ls, lz⟩) := fun h0 => by have := (IFF.out.1 h0).1; have := HL.out; omega
    clear h256
    go_enter Tryz.func73, Tryz.ntmps73
    go_wp2_with fail
    refine (need_no _).mono ?_
    rintro e w1 ⟨rfl, rfl⟩
    exact ⟨rfl, B0.out, .inr ⟨HF.out, rfl⟩⟩
end Go.Proofs.YtcgbaiogbcodcaaGreatDoor.Sh
