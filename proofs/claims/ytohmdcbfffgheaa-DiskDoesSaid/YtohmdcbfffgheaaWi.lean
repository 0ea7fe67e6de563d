/-
  The contract of disk's Image. Conditions: each law's own.
-/
import Derived.Test.YtohmdcbfffgheaaWh
namespace Go.Proofs.Ytohmdcbfffgheaa.Dk
open Go.RowKit Go.Lib Go.Maps
variable {w : World} {g sa mb : Nat} {S : List (List UInt8)} {low : Int} {k : Nat} {D : DataW Unit} {pw : Bool} {left nw : Int}
theorem take_flat (S : List (List UInt8)) (h : ∀ s ∈ S, s.length = 256) : ∀ j, j ≤ S.length → ((S.take j).flatten).length = j * 256 := fun j hj => by
  have h2 : ∀ (T : List (List UInt8)), (∀ s ∈ T, s.length = 256) → T.flatten.length = T.length * 256 := by
    intro T
    induction T with
    | nil => intro _; rfl
    | cons a T ih =>
      intro hT
      rw [List.flatten_cons, List.length_append, ih (fun s hs => hT s (List.mem_cons_of_mem _ hs)), hT a List.mem_cons_self, List.length_cons]
      omega
  rw [h2 _ (fun s hs => h s (List.mem_of_mem_take hs)), List.length_take, Nat.min_eq_left hj]
set_option maxRecDepth 100000 in
theorem image_nil (w : World) : Calls Try.prog 31 #[.pointer none] w fun e w' => e = .returned (.slice none 0 0) ∧ w' = w := by
  go_enter Try.func31, Try.ntmps31
  go_wp2_with fail
  refine (made_nil w).mono ?_
  rintro e w1 ⟨rfl, rfl⟩
  go_wp2_with fail
  go_ret
  exact ⟨rfl, rfl⟩
set_option maxHeartbeats 4000000 in
set_option maxRecDepth 100000 in
theorem image_any (h : DevS w g sa mb S low k D pw left nw) (h0 : S.length ≠ 0) (hn : S.length ≤ 4096) :
    Calls Try.prog 31 #[.pointer (some ⟨g, 0, none⟩)] w fun e w' => Below w.heap.size w w' ∧ ∃ v, e = .returned v ∧ Own w' w.heap.size v S.flatten := by
  have HM := Lib.hid (made_any h.dv)
  have t1 : decide (0 < S.length) = true := by simp; omega
  rw [t1] at HM
  have HH := Lib.hid h
  have HN := Lib.hid hn
  obtain ⟨c0, _, _, _, _, _⟩ := h.dv.cells
  obtain ⟨i5, j0, j1, j2, j3⟩ := info_parts info5
  have HB0 := Lib.hid (Below.refl w.heap.size w)
  have q1 : (S.length : Int) ≤ 4096 := by omega
  have q2 : (0 : Int) ≤ (S.length : Int) := by omega
  clear h hn h0 t1
  go_enter Try.func31, Try.ntmps31
  go_wp2_with fail
  refine HM.out.mono ?_
  rintro e w1 ⟨rfl, rfl⟩
  clear HM
  go_wp2_with (refine wpList_make_own w1 rfl _ _ 29 rfl w1.heap.size 5 i5 (.int .u8 0) 1 Try.underlying29 j0 j1 j2 .i64 .i64 _ (S.length * 256) rfl rfl (by omega) (by rw [j3]; omega) (by unfold maxLen; omega) (Nat.le_refl _) ?_; intro w2 how hg2; have c0' := hg2.cell c0 (by simp); have HB2 := Lib.hid ((Below.refl w1.heap.size w1).grown hg2 (Nat.le_refl _) (by simp)); have HO2 := Lib.hid how; clear how hg2 c0)
  go_loopw [3, 21] (fun va vi wr => ∃ j : Nat, j ≤ S.length ∧ vi = .int .i64 (j : Nat) ∧ Hid (Below w1.heap.size w1 wr) ∧ Hid (Own wr w1.heap.size va ((S.take j).flatten))) (fun _ vi _ => S.length - (RowKit.intOf vi).toNat)
  case atStart => exact ⟨0, by omega, rfl, HB2, HO2⟩
  case round =>
    obtain ⟨j, hj, rfl, hB, hO⟩ := hrel
    by_cases hjn : j < S.length
    · have hD := HH.out.kept (fr_below hB.out []) (by simp) (by simp) (by simp)
      obtain ⟨l, hl⟩ : ∃ l, l = S[j] := ⟨_, rfl⟩
      have hs : S[j]? = some l := by rw [hl, List.getElem?_eq_getElem hjn]
      have hlen : l.length = 256 := hD.len l (List.mem_of_getElem? hs)
      have HR := Lib.hid (hD.range hs)
      have HT : Hid ((S.take (j + 1)).flatten = (S.take j).flatten ++ l) := by
        show _ = _
        rw [List.take_succ_eq_append_getElem hjn, List.flatten_append, hl]
        simp
      have K1 := Lib.hid (secV_one l)
      have HIS : Hid ((Try.prog.info? 66).map (·.size) = some (bs l).toArray.size) := by show _ = _; rw [info66, List.size_toArray, bs_len, hlen]
      have HIL : Hid ((Try.prog.info? 66).map (·.size) = some (bs l).length) := by show _ = _; rw [info66, bs_len, hlen]
      have HO1 : Hid ((Array.replicate 256 (Value.int .u8 0)).size = (bs l).toArray.size) := by show _ = _; rw [Array.size_replicate, List.size_toArray, bs_len, hlen]
      have p1 : ((S.take j).flatten).length + 256 ≤ 140737488355328 := by
        have := HN.out
        rw [take_flat S HH.out.len j hj]
        omega
      have HLN : Hid (l.length = 256) := hlen
      have hsz := hB.out.size
      have HB3 := Lib.hid (hB.out.alloc hsz (.cells (bs l).toArray 66))
      have HO3 : Hid (Own (wr.alloc (.cells (bs l).toArray 66)) w1.heap.size u3 ((S.take j).flatten)) := World.ownsRow.alloc hO.out _
      have BY : Hid (Byt (wr.alloc (.cells (bs l).toArray 66)) (some ⟨wr.heap.size, 0, none⟩) l) := by
        intro _
        refine ⟨wr.heap.size, 0, rfl, by simp, fun i hi => ?_⟩
        have hb := Blk.new wr (bs l) 66 wr.heap.size rfl
        rw [hb.cell, Nat.zero_add]
        exact bs_get l i hi
      have pb : w1.heap.size ≤ (wr.alloc (.cells (bs l).toArray 66)).heap.size := by simp; omega
      have q3 : (0 : Int) ≤ (j : Int) := by omega
      have q4 : (j : Int) < (S.length : Int) := by omega
      clear hl hs hlen hD hsz
      go_wp2_with (first
        | (with_reducible refine wpList_load_mid rfl 66 (.tmp 23) rfl sa (j * 256) rfl (bs l) (.array 256 5) HR.out Try.underlying66 rfl HIL.out ?_)
        | ((with_reducible refine wpList_store_row rfl 66 (.tmp 5) (.tmp 24) rfl wr.heap.size (bs l).toArray rfl rfl 66 _ (heap_alloc_new wr _) HIS.out ?ho K1.out ?_); (case ho => exact HO1.out); rw [World.setRow_alloc_new])
        | (at_builtin; refine wpl_app_len (t := 29) (e := 5) rfl (.tmp 25) (.tmp 26) rfl Try.underlying29 info5 w1.heap.size u3 ((S.take j).flatten) l rfl HO3.out (some ⟨wr.heap.size, 0, none⟩) 256 256 rfl BY.out (fun h => by cases h) HLN p1 pb ?_; intro v' w' hown' hgrow; have HG := Lib.hid hgrow; have HW := Lib.hid hown'; clear hown' hgrow))
      go_roundw
      case rel => exact ⟨j + 1, by omega, by go_num, Lib.hid (HB3.out.grown HG.out HB3.out.size (fun q hq => (HO3.out.lt q hq).1)), by show Own _ _ _ _; rw [HT.out]; exact HW.out⟩
      case measure => simp [RowKit.intOf]; omega
    · obtain rfl : j = S.length := by omega
      rw [List.take_length] at hO
      go_wp2_with fail
      go_ret
      exact ⟨hB.out, _, rfl, hO.out⟩
end Go.Proofs.Ytohmdcbfffgheaa.Dk
