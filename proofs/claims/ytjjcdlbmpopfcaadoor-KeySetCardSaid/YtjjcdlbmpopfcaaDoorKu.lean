/-
  The contract of key's rising, by maps.Keys and slices.Sorted of the library: a row's texts, each once, rising. Conditions: a row of at most 300 texts.
-/
import Derived.Test.YtjjcdlbmpopfcaaDoorKt
import Derived.Test.YtjjcdlbmpopfcaaDoorIter
import Derived.Maps.OwnSet
import Derived.Sort.KeysCollected
import Derived.StringKeys
namespace Go.Proofs.YtjjcdlbmpopfcaaDoor.Sh
open Go.ChangeShapes Go.WideShapes Go.ChangeAt Go.RowKit Go.Lib Go.ChangeMaps Go.Maps Go.Sort

/-- the model's order of bytes is that of lists -/
theorem bl_lt : ∀ a b : List UInt8, Op.bytesLess a b = true ↔ a < b
  | [], [] => by simp [Op.bytesLess]
  | [], _ :: _ => by simp [bl_nil]
  | _ :: _, [] => by simp [bl_none]
  | x :: a, y :: b => by
    rw [bl_cons, bl_lt a b, List.cons_lt_cons_iff]
theorem make_map (n : Nat) (w : World) : (Instr.makeMap 67 (some (.int .i64 (n : Int)))).run Tryd.prog w = .ok (.map (some w.heap.size)) (w.alloc (.map #[] 0)) := by
  simp [Instr.makeMap]
  rfl
theorem law24 : Keyed Tryd.prog 24 := string_keyed Tryd.underlying24
/-- the keys that were met -/
def met (l : List ByteArray) (i : Nat) : DataW Unit := setOf (.agg []) ((l.take i).map fun s => Lit.string s.data.toList)
theorem met_zero (l : List ByteArray) : met l 0 = .map [] := by simp [met, setOf]
theorem met_succ (l : List ByteArray) (i : Nat) (x : ByteArray) (h : l[i]? = some x) : met l (i + 1) = (met l i).put (.string x.data.toList) (.agg []) := by
  unfold met
  rw [List.take_add_one, h, Option.toList_some, List.map_append, List.map_singleton, setOf_snoc]
theorem has_met (l : List ByteArray) (i : Nat) (x : List UInt8) : Maps.has (met l i) (.string x) = true ↔ ∃ s ∈ l.take i, s.data.toList = x := by
  unfold met
  rw [has_setOf _ _ _ (fun y hy => by obtain ⟨_, _, rfl⟩ := List.mem_map.1 hy; trivial), List.any_map, List.any_eq_true]
  constructor
  · rintro ⟨s, hs, h⟩
    exact ⟨s, hs, by simpa [Lit.sameKey] using h⟩
  · rintro ⟨s, hs, h⟩
    exact ⟨s, hs, by simpa [Lit.sameKey] using h⟩
def mk (x : List UInt8) : ByteArray := ⟨x.toArray⟩
theorem mk_list (x : List UInt8) : (mk x).toList = x := by rw [toList_data]; rfl
theorem mk_back (s : ByteArray) : mk s.data.toList = s := rfl
theorem su_nodup {l : List (List UInt8)} (h : SU ltL l) : l.Nodup := h.imp fun {a b} hab e => by rw [e, ltL, bl_irr] at hab; cases hab
/-- sorted by the library's order, each once: rising -/
theorem su_of_le {l : List (List UInt8)} (h : l.Pairwise fun a b => a ≤ b) (hn : l.Nodup) : SU ltL l := by
  refine (h.and hn).imp fun {a b} hab => ?_
  rcases bl_tot a b hab.2 with h1 | h1
  · exact h1
  · exact absurd ((bl_lt b a).1 h1) (by simpa using hab.1)
/-- what the library answers is the row, sorted, each once -/
theorem sorted_is (l : List ByteArray) (w : World) (b n : Nat) (R : Value → Option (DataW Unit × List MemPlace)) (hown : w.ownsMap Tryd.prog 24 R b n (met l l.length)) (ss : List (List UInt8)) (hp : ss.Perm (strKeys (met l l.length))) :
    (ss.mergeSort (fun x y => decide (x ≤ y))).map encStr = sts (sortU ltB l) := by
  obtain ⟨es, hD, hpw, _⟩ := hown.entries law24
  obtain ⟨es', hD', hko⟩ := hown.keysOf
  obtain rfl : es = es' := by rw [hD] at hD'; simpa using hD'
  have hq : ((sortU ltL (l.map fun s => s.data.toList))).Perm (strKeys (met l l.length)) := by
    have hm := fun x => has_met l l.length x
    rw [hD] at hm ⊢
    refine perm_strKeys hpw (fun p hp => by obtain ⟨v, hv⟩ := hko p hp; obtain ⟨x, _, hx, _⟩ := Maps.keyOf_str Tryd.underlying24 hv; exact ⟨x, hx⟩) (su_nodup (su_sortU ltL ords_L _)) fun x => ?_
    rw [mem_sortU, List.mem_map, hm x, List.take_length]
  have hss := hp.trans hq.symm
  have hnd : ss.Nodup := hss.nodup_iff.2 (su_nodup (su_sortU ltL ords_L _))
  have tr : ∀ a b c : List UInt8, decide (a ≤ b) = true → decide (b ≤ c) = true → decide (a ≤ c) = true := fun a b c h1 h2 => by simp only [decide_eq_true_eq] at *; exact List.le_trans h1 h2
  have to : ∀ a b : List UInt8, (decide (a ≤ b) || decide (b ≤ a)) = true := fun a b => by simp only [Bool.or_eq_true, decide_eq_true_eq]; exact List.le_total a b
  have hsu : SU ltL (ss.mergeSort fun x y => decide (x ≤ y)) := su_of_le ((List.pairwise_mergeSort tr to ss).imp fun h => by simpa using h) ((List.mergeSort_perm ss _).nodup_iff.2 hnd)
  have e : sortU ltB l = (ss.mergeSort fun x y => decide (x ≤ y)).map mk := by
    refine (sortU_is ltB ords_B l _ ?_ fun x => ?_).symm
    · refine List.pairwise_map.2 (hsu.imp fun {a b} hab => ?_)
      rw [ltB, mk_list, mk_list]
      exact hab
    · rw [List.mem_map]
      have hmem : ∀ y, y ∈ (ss.mergeSort fun x y => decide (x ≤ y)) ↔ y ∈ l.map fun s => s.data.toList := fun y => by
        rw [(List.mergeSort_perm ss _).mem_iff, hss.mem_iff, mem_sortU]
      constructor
      · rintro ⟨y, hy, rfl⟩
        obtain ⟨s, hs, rfl⟩ := List.mem_map.1 ((hmem y).1 hy)
        exact hs
      · intro hx
        exact ⟨x.data.toList, (hmem _).2 (List.mem_map.2 ⟨x, hx, rfl⟩), rfl⟩
  rw [e, sts, List.map_map]
  rfl

set_option maxHeartbeats 4000000 in
set_option maxRecDepth 100000 in
theorem rising_any (ao : Option Addr) (l : List ByteArray) (c : Nat) (w : World) (h : Srw w ao l) (hc : l.length ≤ c) (_ : c ≤ 9223372036854775807) (hsz : ∀ s ∈ l, s.size ≤ maxLen) (h300 : l.length ≤ 300) :
    Calls Tryd.prog 31 #[.slice ao l.length c] w fun e w' => Below w.heap.size w w' ∧ ∃ v, e = .returned v ∧ OwnS w' w.heap.size v (sortU ltB l) := by
  have H := Lib.hid h
  have HZ := Lib.hid hsz
  obtain ⟨n, hn⟩ : ∃ n, n = l.length := ⟨_, rfl⟩
  have HN := Lib.hid hn
  have hmm := fun W => make_map n W
  rw [← hn] at hc h300 ⊢
  clear h hsz hn
  go_enter Tryd.func31, Tryd.ntmps31
  go_wp2_with fail
  have B0 := Lib.hid ((Below.refl _ w).alloc (Nat.le_refl _) (.map #[] 0))
  have M0 := Lib.hid (World.ownsMap_made w Tryd.prog 24 (unitElem (H := Unit)))
  go_loopw [11] (fun vi wr => ∃ i : Nat, i ≤ n ∧ vi = .int .i64 i ∧ Hid (Below w.heap.size w wr) ∧ Hid (wr.ownsMap Tryd.prog 24 (unitElem (H := Unit)) w.heap.size i (met l i))) (fun vi _ => n - (RowKit.intOf vi).toNat)
  case atStart => exact ⟨0, by omega, rfl, B0.out, by show World.ownsMap _ _ _ _ _ _ _; rw [met_zero]; exact M0.out⟩
  case round =>
    obtain ⟨i, hi, rfl, hB, hM⟩ := hrel
    by_cases hin : i < n
    · obtain ⟨b, o, x, rfl, hb, gx, e1⟩ := srw_cell (H.out.below hB.out) i (by have := HN.out; omega)
      have GX := Lib.hid gx
      have hkey : keyOf Tryd.prog 24 (.string x) = some (.string x.data.toList) := WideMaps.keyOf_string_mk Tryd.underlying24 (HZ.out x (List.mem_of_getElem? gx))
      have q1 : (0 : Int) ≤ (i : Int) := by omega
      have q2 : (i : Int) < (n : Int) := by omega
      clear gx
      go_wp2_with (first
        | (at_mapUpdate; refine wpList_mapUpdate_own _ rfl _ _ _ 67 rfl 24 68 law24 Tryd.underlying67 (unitElem (H := Unit)) w.heap.size i _ rfl hM.out (by unfold maxLen; omega) _ _ _ rfl rfl hkey _ [] unitElem_mk ?_; intro w1 hown1 hgrow1)
        | go_in)
      go_wp2_with fail
      go_roundw
      case rel => exact ⟨i + 1, by omega, by go_num, hB.out.grown hgrow1 hB.out.size (fun j hj => by cases hj; exact Nat.le_refl _), by show World.ownsMap _ _ _ _ _ _ _; rw [met_succ l i x GX.out]; exact hown1⟩
      case measure => simp [RowKit.intOf]; omega
    · obtain rfl : i = n := by omega
      have hml : met l i = met l l.length := by rw [HN.out]
      have hown : wr.ownsMap Tryd.prog 24 (unitElem (H := Unit)) w.heap.size i (met l l.length) := by have := hM.out; rwa [hml] at this
      have hms : Maps.size (met l l.length) ≤ i := hown.size_le
      have C1 := Lib.hid ((callsIn_wide (n := 5)).1 (Tryd.maps_Keys_49 (some w.heap.size) wr))
      have C2 := Lib.hid ((callsIn_wide (n := 5)).1 (Tryd.slices_Sorted_keys_48_49 w.heap.size i (met l l.length) (unitElem (H := Unit)) wr hown (by unfold maxLen; omega) (by omega)))
      have HO := Lib.hid hown
      clear hown hms hml
      go_wp2_with fail
      refine C1.out.mono ?_
      rintro e w1 ⟨rfl, rfl⟩
      go_wp2_with fail
      refine C2.out.mono ?_
      rintro e w2 ⟨v, ss, rfl, hp, hrow, _, hb⟩
      have hs := sorted_is l wr _ _ _ HO.out ss hp
      have b1 := hB.out.alloc hB.out.size (.cells #[.map (some w.heap.size)] 67)
      have b2 : Below w.heap.size w w2 := b1.trans (hb.mono b1.size)
      have h1 : OwnS w2 w.heap.size v (sortU ltB l) := by
        rw [hs] at hrow
        have hl : ss.length = (sortU ltB l).length := by
          have := congrArg List.length hs
          simpa [sts, (List.mergeSort_perm ss _).length_eq] using this
        rw [hl] at hrow
        exact OwnS.low hrow b1.size
      clear hp hrow hb hs b1
      go_wp2_with fail
      go_ret
      exact ⟨b2, v, rfl, h1⟩
end Go.Proofs.YtjjcdlbmpopfcaaDoor.Sh
