/-
  Contracts of cmp.Compare at runes and at texts, and of name.Order: for every two texts it returns the order of the plain definition. Conditions: the library's tables as their texts lay them; a text is not longer than a string can be.
-/
import Derived.Test.YtplgiagjgmlbcaaDoorWa
import Derived.Test.YtplgiagjgmlbcaaDoorWg
import Derived.WalkLawsBesides
namespace Go.Proofs.YtplgiagjgmlbcaaDoor.Nm
open Go.RowKit Go.Lib

/-- cmp.Compare at texts -/
def bytesCmp (a b : List UInt8) : Int := if Op.bytesLess a b then -1 else if a = b then 0 else 1
/-- the order by runes; none: they are alike -/
def ordF : Nat → List UInt8 → List UInt8 → Option Int
  | 0, _, _ => none
  | f + 1, a, b => if a = [] then (if b = [] then none else some (-1)) else if b = [] then some 1
    else if (decodeL a).1 = (decodeL b).1 then ordF f (a.drop (decodeL a).2) (b.drop (decodeL b).2) else some (if (decodeL a).1 < (decodeL b).1 then -1 else 1)
/-- name.Order -/
def orderL (a b : List UInt8) : Int := (ordF (a.length + 1) a b).getD (bytesCmp a b)

theorem cmp_rune (x y : Int) (w : World) :
    Calls Tryd.prog 37 #[.int .i32 x, .int .i32 y] w fun e w' => e = .returned (.int .i64 (if x < y then -1 else if y < x then 1 else 0)) ∧ w = w' := by
  by_cases h : x < y
  · go_enter Tryd.func37, Tryd.ntmps37
    go_wp2
    all_goals go_ret
    all_goals exact ⟨rfl, rfl⟩
  · by_cases h' : y < x
    · go_enter Tryd.func37, Tryd.ntmps37
      go_wp2
      all_goals go_ret
      all_goals exact ⟨rfl, rfl⟩
    · go_enter Tryd.func37, Tryd.ntmps37
      go_wp2
      all_goals go_ret
      all_goals exact ⟨rfl, rfl⟩
theorem cmp_text (a b : ByteArray) (w : World) :
    Calls Tryd.prog 38 #[.string a, .string b] w fun e w' => e = .returned (.int .i64 (bytesCmp a.data.toList b.data.toList)) ∧ w = w' := by
  have ha : a.toList = a.data.toList := toList_data a
  have hb : b.toList = b.data.toList := toList_data b
  rw [← ha, ← hb]
  clear ha hb
  obtain ⟨z, hz⟩ : ∃ z, z = bytesCmp a.toList b.toList := ⟨_, rfl⟩
  rw [← hz]
  have HZ := Lib.hid hz
  clear hz
  cases hl : Op.bytesLess a.toList b.toList with
  | true =>
    have hz : z = -1 := by rw [HZ.out, bytesCmp, if_pos hl]
    subst hz
    go_enter Tryd.func38, Tryd.ntmps38
    go_wp2
    all_goals go_ret
    all_goals exact ⟨rfl, rfl⟩
  | false =>
    by_cases he : a.toList = b.toList
    · have hz : z = 0 := by rw [HZ.out, bytesCmp, hl, if_neg (by simp), if_pos he]
      subst hz
      have heb : (a.toList == b.toList) = true := by simpa using he
      have HE := Lib.hid he
      clear he
      go_enter Tryd.func38, Tryd.ntmps38
      go_wp2
      all_goals go_ret
      all_goals exact ⟨rfl, rfl⟩
    · have hz : z = 1 := by rw [HZ.out, bytesCmp, hl, if_neg (by simp), if_neg he]
      subst hz
      have heb : (a.toList == b.toList) = false := by simpa using he
      have HE := Lib.hid he
      clear he
      go_enter Tryd.func38, Tryd.ntmps38
      go_wp2
      all_goals go_ret
      all_goals exact ⟨rfl, rfl⟩

theorem decodeGo_eq (r : ByteArray) (h : r.size ≠ 0) : decodeGo r = decodeL r.data.toList := by
  rw [decodeGo, if_neg h]
  have := decodeL_drop r 0
  rw [List.drop_zero] at this
  exact this.symm

set_option maxHeartbeats 4000000 in
set_option maxRecDepth 100000 in
theorem order_any (a b : ByteArray) (w : World) (hg : Glob w) :
    Calls Tryd.prog 21 #[.string a, .string b] w fun e w' => e = .returned (.int .i64 (orderL a.data.toList b.data.toList)) ∧ Below w.heap.size w w' := by
  obtain ⟨z, hz⟩ : ∃ z, z = orderL a.data.toList b.data.toList := ⟨_, rfl⟩
  rw [← hz]
  have HZ := Lib.hid hz
  clear hz
  go_enter Tryd.func21, Tryd.ntmps21
  go_wp2_with fail
  go_loopw [5] (fun v wr => ∃ (r : ByteArray) (pos fuel : Nat), v = .string r ∧ r.size ≤ b.size ∧ wr.heap[w.heap.size]? = some (.stringIter a pos) ∧ Below w.heap.size w wr ∧ Hid (z = (ordF fuel (a.data.toList.drop pos) r.data.toList).getD (bytesCmp a.data.toList b.data.toList)) ∧ a.size + 1 ≤ pos + fuel ∧ pos ≤ a.size) (fun _ wr => a.size - wr.iterPos w.heap.size)
  case atStart =>
    refine ⟨b, 0, a.size + 1, rfl, Nat.le_refl _, ?_, (Below.refl _ w).alloc (Nat.le_refl _) _, by show z = _; rw [HZ.out, orderL, ← size_eq]; rfl, by omega, Nat.zero_le _⟩
    have := World.iter_heap w a 0
    simpa using this
  case round =>
    obtain ⟨r, pos, fuel, rfl, hrb, hit, hbw, hn, hfu, hpa⟩ := hrel
    have hsz : w.heap.size < wr.heap.size := (Array.getElem?_eq_some_iff.1 hit).1
    by_cases hp : pos < a.size
    · have hnx : ∀ ty, (Instr.next (.pointer (some ⟨w.heap.size, 0, none⟩)) true ty).run Tryd.prog wr = _ := fun ty => Lib.run_next_any_at wr w.heap.size a pos ty hit hp
      have hwd := width_pos' a pos
      have hwa : pos + (Utf8.decode a pos).2 ≤ a.size := by
        have := width_le _ (drop_ne a pos hp)
        rw [decodeL_drop, List.length_drop, ← size_eq] at this
        omega
      have hit2 := Lib.iterAt_heap wr w.heap.size a pos (pos + (Utf8.decode a pos).2) hit
      have hbw2 := Lib.below_iterAt hbw (k := w.heap.size) (by omega) a (pos + (Utf8.decode a pos).2)
      have hg2 := hg.below hbw2
      obtain ⟨f, rfl⟩ : ∃ f, fuel = f + 1 := ⟨fuel - 1, by omega⟩
      have HN := hn.out
      rw [ordF, if_neg (drop_ne a pos hp), decodeL_drop, drop_drop'] at HN
      clear hn
      by_cases hr : r.size = 0
      · have he : r.toList.isEmpty = true := by rw [toList_data, List.isEmpty_iff]; exact List.eq_nil_of_length_eq_zero (by rw [← size_eq]; exact hr)
        have hd : r.data.toList = [] := by rw [toList_data, List.isEmpty_iff] at he; exact he
        rw [hd, if_pos rfl] at HN
        have hz1 : z = 1 := HN
        clear HN hr hd
        subst hz1
        go_wp2_with fail
        go_ret
        exact ⟨rfl, hbw2⟩
      · have hne : r.data.toList ≠ [] := by intro hd; rw [size_eq, hd] at hr; simp at hr
        have he : r.toList.isEmpty = false := by
          rw [toList_data]
          cases hd : r.data.toList with
          | nil => exact absurd hd hne
          | cons _ _ => rfl
        have hw1 := width_le _ hne
        rw [← size_eq] at hw1
        have hdc := Tryd.utf8_DecodeRuneInString r
        rw [decodeGo_eq r hr] at hdc
        have HDC := Lib.hid hdc
        rw [if_neg hne] at HN
        obtain ⟨q, hq⟩ : ∃ q, q = decodeL r.data.toList := ⟨_, rfl⟩
        rw [← hq] at HN hw1 hdc
        have HDC := Lib.hid hdc
        have HNE := Lib.hid hne
        have HQ := Lib.hid hq
        clear hdc hr hne hq
        by_cases hc : (Utf8.decode a pos).1 = q.1
        · rw [if_pos hc] at HN
          have hcb : (((Utf8.decode a pos).1 : Int) != (q.1 : Int)) = false := by simp [hc]
          have HN' := Lib.hid HN
          clear HN hc
          go_wp2_with fail
          refine (HDC.out _ hg2.tabs).mono ?_
          rintro e w2 ⟨rfl, hb2⟩
          have hit3 : w2.heap[w.heap.size]? = some (.stringIter a (pos + (Utf8.decode a pos).2)) := (hb2.block _ (by rw [Lib.iterAt_size]; exact hsz)).trans hit2
          go_wp2_with fail
          go_roundw
          case rel =>
            refine ⟨r.extract q.2 r.size, _, f, rfl, ?_, hit3, hbw2.trans (hb2.mono (by rw [Lib.iterAt_size]; omega)), ?_, by omega, hwa⟩
            · rw [size_eq, extract_drop, List.length_drop, ← size_eq]; omega
            · show z = _
              rw [HN'.out, extract_drop]
          case measure =>
            simp only [World.iterPos, hit3, hit]
            omega
        · rw [if_neg hc] at HN
          have hcb : (((Utf8.decode a pos).1 : Int) != (q.1 : Int)) = true := by simp; omega
          have hz1 : z = (if ((Utf8.decode a pos).1 : Int) < (q.1 : Int) then -1 else if (q.1 : Int) < ((Utf8.decode a pos).1 : Int) then 1 else 0) := by
            rw [HN]
            simp only [Option.getD_some]
            by_cases hlt : (Utf8.decode a pos).1 < q.1
            · rw [if_pos hlt, if_pos (by omega)]
            · rw [if_neg hlt, if_neg (by omega), if_pos (by omega)]
          have HZ1 := Lib.hid hz1
          clear HN hc hz1
          go_wp2_with fail
          refine (HDC.out _ hg2.tabs).mono ?_
          rintro e w2 ⟨rfl, hb2⟩
          go_wp2_with fail
          refine (cmp_rune _ _ _).mono ?_
          rw [← HZ1.out]
          rintro e w3 ⟨rfl, rfl⟩
          go_wp2_with fail
          go_ret
          exact ⟨rfl, hbw2.trans (hb2.mono (by rw [Lib.iterAt_size]; omega))⟩
    · have hnx : ∀ ty, (Instr.next (.pointer (some ⟨w.heap.size, 0, none⟩)) true ty).run Tryd.prog wr = _ := fun ty => Lib.run_next_end_at wr w.heap.size a pos ty hit hp
      obtain ⟨f, rfl⟩ : ∃ f, fuel = f + 1 := ⟨fuel - 1, by omega⟩
      have HN := hn.out
      rw [drop_all a pos hp, ordF, if_pos rfl] at HN
      clear hn
      by_cases hr : r.size = 0
      · have he : r.toList.isEmpty = true := by rw [toList_data, List.isEmpty_iff]; exact List.eq_nil_of_length_eq_zero (by rw [← size_eq]; exact hr)
        have hd : r.data.toList = [] := by rw [toList_data, List.isEmpty_iff] at he; exact he
        rw [hd, if_pos rfl] at HN
        have HN' : Hid (z = bytesCmp a.data.toList b.data.toList) := HN
        clear HN hr hd
        go_wp2_with fail
        refine (cmp_text _ _ _).mono ?_
        rw [← HN'.out]
        rintro e w3 ⟨rfl, rfl⟩
        go_wp2_with fail
        go_ret
        exact ⟨rfl, hbw⟩
      · have hne : r.data.toList ≠ [] := by intro hd; rw [size_eq, hd] at hr; simp at hr
        have he : r.toList.isEmpty = false := by
          rw [toList_data]
          cases hd : r.data.toList with
          | nil => exact absurd hd hne
          | cons _ _ => rfl
        rw [if_neg hne] at HN
        have hz1 : z = -1 := HN
        clear HN hr hne
        subst hz1
        go_wp2_with fail
        go_ret
        exact ⟨rfl, hbw⟩
end Go.Proofs.YtplgiagjgmlbcaaDoor.Nm
