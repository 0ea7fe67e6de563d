/-
  Contracts of name.stray, name.Check, name.Count: what each returns for every text, the memory below the call's own untouched. No condition but a text's own greatest length.
-/
import Derived.Test.YtcgbaiogbcodcaaGreatDoorShelf
import Derived.Test.YtcgbaiogbcodcaaGreatDoorPr
import Derived.WalkKit
import Derived.BigCall
import Derived.Outline
import Derived.Lib.Hide
import Derived.Lib.OthersKept
namespace Go.Proofs.YtcgbaiogbcodcaaGreatDoor.Sh
open Go.RowKit Go.Lib Go.Proofs.YtcgbaiogbcodcaaGreatDoor.Nm

theorem stray_any (r : Int) (s : ByteArray) (w : World) :
    Calls Tryz.prog 67 #[.int .i32 r, .string s] w fun e w' => e = .returned (.bool (decide (r = 65533) && !Lib.hasPrefix s.data.toList [239, 191, 189])) ∧ w = w' := by
  by_cases h : r = 65533
  · subst h
    go_enter Tryz.func67, Tryz.ntmps67
    go_wp2_with (go_at_call 85; refine (Tryz.strings_HasPrefix _ _ _).mono ?_; rintro e w' ⟨rfl, rfl⟩)
    go_ret
    exact ⟨rfl, rfl⟩
  · have hb : ((r : Int) == 65533) = false := by simpa using h
    go_enter Tryz.func67, Tryz.ntmps67
    go_wp2_with (go_at_call 85; refine (Tryz.strings_HasPrefix _ _ _).mono ?_; rintro e w' ⟨rfl, rfl⟩)
    go_ret
    refine ⟨?_, rfl⟩
    simp [h]

/-- name.stray at what ranging found at pos. -/
theorem stray_at (s : ByteArray) (pos : Nat) (b : Bool) (hb : strayL (s.data.toList.drop pos) = b) (w : World) :
    Calls Tryz.prog 67 #[.int .i32 (Utf8.decode s pos).1, .string (s.extract pos s.size)] w fun e w' => e = .returned (.bool b) ∧ w = w' := by
  refine (stray_any _ _ w).mono fun e w' ⟨he, hw⟩ => ⟨?_, hw⟩
  rw [he, extract_drop, ← decodeL_drop, stray_eq, hb]

theorem width_pos' (s : ByteArray) (pos : Nat) : 1 ≤ (Utf8.decode s pos).2 := width_pos s pos


theorem check_nil (s : ByteArray) (w : World) (h : s.toList.isEmpty = true) :
    Calls Tryz.prog 47 #[.string s] w fun e w' => e = .returned (.int .i64 206) ∧ Below w.heap.size w w' := by
  go_enter Tryz.func47, Tryz.ntmps47
  go_wp2_with fail
  go_ret
  exact ⟨rfl, Below.refl _ _⟩
theorem check_long (s : ByteArray) (w : World) (he : s.toList.isEmpty = false) (h : 100 < s.size) :
    Calls Tryz.prog 47 #[.string s] w fun e w' => e = .returned (.int .i64 208) ∧ Below w.heap.size w w' := by
  go_enter Tryz.func47, Tryz.ntmps47
  go_wp2_with fail
  go_ret
  exact ⟨rfl, Below.refl _ _⟩
theorem check_dot (s : ByteArray) (w : World) (_he : s.toList.isEmpty = false) (h1 : ¬ 100 < s.size) (h : s.toList = [46] ∨ s.toList = [46, 46]) :
    Calls Tryz.prog 47 #[.string s] w fun e w' => e = .returned (.int .i64 206) ∧ Below w.heap.size w w' := by
  rcases h with h | h
  all_goals
    go_enter Tryz.func47, Tryz.ntmps47
    go_wp2_with fail
    all_goals go_ret
    all_goals exact ⟨rfl, Below.refl _ _⟩
set_option maxHeartbeats 2000000 in
set_option maxRecDepth 100000 in
theorem check_loop (s : ByteArray) (w : World) (he : s.toList.isEmpty = false) (h1 : ¬ 100 < s.size) (h2 : ¬ s.toList = [46]) (h3 : ¬ s.toList = [46, 46]) (bad : Bool) (hbad : Hid (badL s.size s.data.toList = bad)) :
    Calls Tryz.prog 47 #[.string s] w fun e w' => e = .returned (.int .i64 (if bad then 206 else 0)) ∧ Below w.heap.size w w' := by
  have h2' : (s.toList == [46]) = false := by simpa using h2
  have h3' : (s.toList == [46, 46]) = false := by simpa using h3
  go_enter Tryz.func47, Tryz.ntmps47
  go_wp2_with fail
  clear h2 h3 h2' h3'
  go_loopw [] (fun wr => ∃ (pos fuel : Nat), wr.heap[w.heap.size]? = some (.stringIter s pos) ∧ Below w.heap.size w wr ∧ Hid (badL fuel (s.data.toList.drop pos) = bad) ∧ s.size ≤ pos + fuel) (fun wr => s.size - wr.iterPos w.heap.size)
  case atStart =>
    refine ⟨0, s.size, ?_, (Below.refl _ w).alloc (Nat.le_refl _) _, hbad, by omega⟩
    have := World.iter_heap w s 0
    simpa using this
  case round =>
    obtain ⟨pos, fuel, hit, hbw, hn, hfu⟩ := hrel
    have hsz : w.heap.size < wr.heap.size := (Array.getElem?_eq_some_iff.1 hit).1
    by_cases hp : pos < s.size
    · have hnx : ∀ ty, (Instr.next (.pointer (some ⟨w.heap.size, 0, none⟩)) true ty).run Tryz.prog wr = _ := fun ty => Lib.run_next_any_at wr w.heap.size s pos ty hit hp
      have hwd := width_pos' s pos
      have hit2 := Lib.iterAt_heap wr w.heap.size s pos (pos + (Utf8.decode s pos).2) hit
      have hbw2 := Lib.below_iterAt hbw (k := w.heap.size) (by omega) s (pos + (Utf8.decode s pos).2)
      obtain ⟨f, rfl⟩ : ∃ f, fuel = f + 1 := ⟨fuel - 1, by omega⟩
      have HN := hn.out
      rw [badL, if_neg (drop_ne s pos hp), decodeL_drop, drop_drop'] at HN
      clear hn
      by_cases r47 : (Utf8.decode s pos).1 = 47
      · obtain rfl : bad = true := by rw [← HN, r47]; rfl
        clear HN
        have e47 : (((Utf8.decode s pos).1 : Int) == 47) = true := by simp [r47]
        clear r47
        go_wp2_with fail
        all_goals go_ret
        all_goals exact ⟨rfl, hbw2⟩
      · have e47 : (((Utf8.decode s pos).1 : Int) == 47) = false := by simp; omega
        by_cases r0 : (Utf8.decode s pos).1 = 0
        · obtain rfl : bad = true := by rw [← HN, r0]; rfl
          clear HN
          have e0 : (((Utf8.decode s pos).1 : Int) == 0) = true := by simp [r0]
          clear r47 r0
          go_wp2_with fail
          all_goals go_ret
          all_goals exact ⟨rfl, hbw2⟩
        · have e0 : (((Utf8.decode s pos).1 : Int) == 0) = false := by simp; omega
          have HM : Hid ((strayL (s.data.toList.drop pos) || badL f (s.data.toList.drop (pos + (Utf8.decode s pos).2))) = bad) := by rw [← HN, decide_eq_false r47, decide_eq_false r0]; rfl
          clear HN r47 r0
          cases hst : strayL (s.data.toList.drop pos) with
          | true =>
            obtain rfl : bad = true := by rw [← HM.out, hst]; rfl
            have HS := Lib.hid hst
            clear hst HM
            go_wp2_with (go_at_call 67; refine (stray_at s pos true HS.out _).mono ?_; rintro e w' ⟨rfl, rfl⟩)
            all_goals go_ret
            all_goals exact ⟨rfl, hbw2⟩
          | false =>
            have HQ : Hid (badL f (s.data.toList.drop (pos + (Utf8.decode s pos).2)) = bad) := by rw [← HM.out, hst]; rfl
            have HS := Lib.hid hst
            clear hst HM
            go_wp2_with (go_at_call 67; refine (stray_at s pos false HS.out _).mono ?_; rintro e w' ⟨rfl, rfl⟩)
            go_roundw
            case rel => exact ⟨pos + (Utf8.decode s pos).2, f, hit2, hbw2, HQ, by omega⟩
            case measure =>
              simp only [World.iterPos, hit2, hit]
              omega
    · have hnx : ∀ ty, (Instr.next (.pointer (some ⟨w.heap.size, 0, none⟩)) true ty).run Tryz.prog wr = _ := fun ty => Lib.run_next_end_at wr w.heap.size s pos ty hit hp
      obtain rfl : bad = false := by rw [← hn.out, drop_all s pos hp, badL_nil]
      go_wp2_with fail
      go_ret
      exact ⟨rfl, hbw⟩

theorem check_any (s : ByteArray) (w : World) :
    Calls Tryz.prog 47 #[.string s] w fun e w' => e = .returned (.int .i64 (checkL s.data.toList)) ∧ Below w.heap.size w w' := by
  unfold checkL
  have hl : s.data.toList.length = s.size := (size_eq s).symm
  have ht : s.toList = s.data.toList := toList_data s
  by_cases h0 : s.data.toList = []
  · rw [if_pos h0]
    exact check_nil s w (by rw [ht, h0]; rfl)
  · have he : s.toList.isEmpty = false := by rw [ht]; simpa using h0
    rw [if_neg h0, hl]
    by_cases h1 : 100 < s.size
    · rw [if_pos h1]
      exact check_long s w he h1
    · rw [if_neg h1]
      by_cases h2 : s.data.toList = [46] ∨ s.data.toList = [46, 46]
      · rw [if_pos h2]
        exact check_dot s w he h1 (by rw [ht]; exact h2)
      · rw [if_neg h2]
        exact check_loop s w he h1 (fun h => h2 (Or.inl (ht ▸ h))) (fun h => h2 (Or.inr (ht ▸ h))) _ rfl
end Go.Proofs.YtcgbaiogbcodcaaGreatDoor.Sh
