/-
  The contracts of space's Take, Give, Free, Longest. Conditions: each law's own.
-/
import Derived.Test.YtojmohlefbkkdaaWc
namespace Go.Proofs.Ytojmohlefbkkdaa.Sp
open Go.RowKit Go.Lib Go.WideShapes Go.ChangeAt

/-- what Take answers -/
def TakeP (w : World) (l : List Bool) (n : Int) (e : Ending) (w' : World) : Prop :=
  Below w.heap.size w w' ∧ ∃ (p : Nat) (v : Value) (r : List Bool) (k : Int), e = .returned (.tuple #[.int .i64 p, v, .int .i64 k]) ∧ Own w' w.heap.size v r ∧
    ((k = 2 ∧ r = l ∧ (4096 < l.length ∨ n < 1)) ∨ (k = 100 ∧ r = l ∧ 1 ≤ n ∧ ∀ q, ¬ Fits l n.toNat q) ∨ (k = 0 ∧ 1 ≤ n ∧ l.length ≤ 4096 ∧ Fits l n.toNat p ∧ (∀ q, q < p → ¬ Fits l n.toNat q) ∧ r = fil l p n.toNat true))
set_option maxHeartbeats 1000000 in
set_option maxRecDepth 100000 in
theorem take_any (ao : Option Addr) (l : List Bool) (m c : Nat) (n : Int) (w : World) (h : Bol w ao l) (hn : ao = none → c = 0) (hl : l.length = m) (hl2 : m ≤ 140737488355328) (hc : m ≤ c) (hcc : c ≤ 9223372036854775807) (h1 : n ≤ 9223372036854775807) :
    Calls Try.prog 6 #[.slice ao m c, .int .i64 n] w (TakeP w l n) := by
  have CC := Lib.hid (clone_any ao l m c w h hn hl hl2)
  by_cases hbad : 4096 < m ∨ n < 1
  · have HB : Hid (4096 < l.length ∨ n < 1) := by show _ ∨ _; rw [hl]; exact hbad
    rcases hbad with hb | hb
    · have t1 : decide ((4096 : Int) < (m : Int)) = true := by simp; omega
      clear h hn hl hb
      go_enter Try.func6, Try.ntmps6
      go_wp2_with fail
      refine CC.out.mono ?_
      rintro e w1 ⟨hb1, v, rfl, hown⟩
      go_wp2_with fail
      go_ret3
      exact ⟨hb1, 0, v, l, 2, rfl, hown, .inl ⟨rfl, rfl, HB.out⟩⟩
    · by_cases t0 : 4096 < m
      · have t1 : decide ((4096 : Int) < (m : Int)) = true := by simp; omega
        clear h hn hl hb
        go_enter Try.func6, Try.ntmps6
        go_wp2_with fail
        refine CC.out.mono ?_
        rintro e w1 ⟨hb1, v, rfl, hown⟩
        go_wp2_with fail
        go_ret3
        exact ⟨hb1, 0, v, l, 2, rfl, hown, .inl ⟨rfl, rfl, HB.out⟩⟩
      · have t1 : decide ((4096 : Int) < (m : Int)) = false := by simp; omega
        have t2 : decide (n < 1) = true := by simpa using hb
        clear h hn hl
        go_enter Try.func6, Try.ntmps6
        go_wp2_with fail
        refine CC.out.mono ?_
        rintro e w1 ⟨hb1, v, rfl, hown⟩
        go_wp2_with fail
        go_ret3
        exact ⟨hb1, 0, v, l, 2, rfl, hown, .inl ⟨rfl, rfl, HB.out⟩⟩
  · obtain ⟨k, rfl⟩ : ∃ k : Nat, n = (k : Int) := ⟨n.toNat, by omega⟩
    have hk : 1 ≤ k := by omega
    have t1 : decide ((4096 : Int) < (m : Int)) = false := by simp; omega
    have t2 : decide ((k : Int) < 1) = false := by simp; omega
    have CP := Lib.hid (place_any ao l m c k w h hl hc hcc hk (by omega))
    have CF := Lib.hid (fun p (hp : p + k ≤ m) => filled_any ao l m c p k true w h hn hl hl2 hp hk)
    have HL := Lib.hid hl
    have hm : m ≤ 4096 := by omega
    clear h hn hl hbad
    go_enter Try.func6, Try.ntmps6
    go_wp2_with fail
    refine CP.out.mono ?_
    rintro e w1 ⟨rfl, p, ⟨rfl, hf, hmin⟩ | ⟨rfl, hf⟩⟩
    · have CF2 := Lib.hid (CF.out p (by have := hf.1; have := HL.out; omega))
      have HF := Lib.hid hf
      have HM := Lib.hid hmin
      clear hf hmin
      go_wp2_with fail
      refine CF2.out.mono ?_
      rintro e w1 ⟨hb1, v, rfl, hown⟩
      go_wp2_with fail
      go_ret3
      exact ⟨hb1, p, v, _, 0, rfl, hown, .inr (.inr ⟨rfl, by omega, by rw [HL.out]; exact hm, HF.out, HM.out, rfl⟩)⟩
    · have HF := Lib.hid hf
      clear hf
      go_wp2_with fail
      refine CC.out.mono ?_
      rintro e w1 ⟨hb1, v, rfl, hown⟩
      go_wp2_with fail
      go_ret3
      exact ⟨hb1, 0, v, l, 100, rfl, hown, .inr (.inl ⟨rfl, rfl, by omega, HF.out⟩)⟩

/-- n slots from p on, all taken -/
def Full (l : List Bool) (p n : Nat) : Prop := p + n ≤ l.length ∧ ∀ j, p ≤ j → j < p + n → l[j]? = some true
theorem full_seg (l : List Bool) (p n : Nat) (h : p + n ≤ l.length) : false ∈ (l.drop p).take n ↔ ¬ Full l p n := by
  rw [List.mem_iff_getElem?]
  constructor
  · rintro ⟨i, hi⟩ hf
    have hin : i < n := by
      have := (List.getElem?_eq_some_iff.1 hi).1
      rw [List.length_take] at this
      omega
    rw [List.getElem?_take_of_lt hin, List.getElem?_drop, hf.2 (p + i) (by omega) (by omega)] at hi
    cases hi
  · intro hf
    by_cases hx : ∃ i, i < n ∧ l[p + i]? = some false
    · obtain ⟨i, hi, h2⟩ := hx
      exact ⟨i, by rw [List.getElem?_take_of_lt hi, List.getElem?_drop, h2]⟩
    · exfalso
      apply hf
      refine ⟨h, fun j h1 h2 => ?_⟩
      have h3 : ¬ l[p + (j - p)]? = some false := fun h4 => hx ⟨j - p, by omega, h4⟩
      rw [show p + (j - p) = j by omega, List.getElem?_eq_getElem (by omega)] at h3
      rw [List.getElem?_eq_getElem (by omega)]
      cases h5 : l[j] with
      | true => rfl
      | false => rw [h5] at h3; exact absurd rfl h3
/-- what Give answers -/
def GiveP (w : World) (l : List Bool) (p n : Int) (e : Ending) (w' : World) : Prop :=
  Below w.heap.size w w' ∧ ∃ (v : Value) (r : List Bool) (k : Int), e = .returned (.tuple #[v, .int .i64 k]) ∧ Own w' w.heap.size v r ∧
    ((k = 2 ∧ r = l ∧ ¬ (l.length ≤ 4096 ∧ Within l.length p n ∧ Full l p.toNat n.toNat)) ∨ (k = 0 ∧ Within l.length p n ∧ Full l p.toNat n.toNat ∧ r = fil l p.toNat n.toNat false))
theorem bol_seg {w : World} {b o : Nat} {l : List Bool} (h : ∀ j y, l[j]? = some y → w.cell? ⟨b, o + j, none⟩ = some (.bool y)) (hb : b < w.heap.size) (p n : Nat) : Bol w (some ⟨b, o + p, none⟩) ((l.drop p).take n) := fun _ => by
  refine ⟨b, o + p, rfl, hb, fun j hj => ?_⟩
  rw [Nat.add_assoc]
  apply h
  rw [List.length_take, List.length_drop] at hj
  rw [List.getElem_take, List.getElem_drop, List.getElem?_eq_getElem]
set_option maxHeartbeats 1000000 in
set_option maxRecDepth 100000 in
theorem give_any (ao : Option Addr) (l : List Bool) (m c : Nat) (p n : Int) (w : World) (h : Bol w ao l) (hn : ao = none → c = 0) (hl : l.length = m) (hl2 : m ≤ 140737488355328) (hc : m ≤ c) (hcc : c ≤ 9223372036854775807) (h1 : n ≤ 9223372036854775807) :
    Calls Try.prog 7 #[.slice ao m c, .int .i64 p, .int .i64 n] w (GiveP w l p n) := by
  have CC := Lib.hid (clone_any ao l m c w h hn hl hl2)
  have CW := Lib.hid (within_any ao m c p n w (by omega) h1)
  by_cases h0 : 4096 < m
  · have t1 : decide ((4096 : Int) < (m : Int)) = true := by simp; omega
    have HB : Hid (¬ (l.length ≤ 4096 ∧ Within l.length p n ∧ Full l p.toNat n.toNat)) := fun hx => by have := hx.1; omega
    clear h hn hl h0
    go_enter Try.func7, Try.ntmps7
    go_wp2_with fail
    refine CC.out.mono ?_
    rintro e w1 ⟨hb1, v, rfl, hown⟩
    go_wp2_with fail
    go_ret2
    exact ⟨hb1, v, l, 2, rfl, hown, .inl ⟨rfl, rfl, HB.out⟩⟩
  · have t1 : decide ((4096 : Int) < (m : Int)) = false := by simp; omega
    by_cases hw : Within m p n
    · obtain ⟨q, rfl⟩ : ∃ q : Nat, p = (q : Int) := ⟨p.toNat, by have := hw.2.1; omega⟩
      obtain ⟨k, rfl⟩ : ∃ k : Nat, n = (k : Int) := ⟨n.toNat, by have := hw.1; omega⟩
      have hqk : q + k ≤ m := by have := hw.2.2; omega
      have hk : 1 ≤ k := by have := hw.1; omega
      obtain ⟨b, o, rfl, hb, hcell⟩ := bol_cell h q (by omega)
      have w2 : IntKind.i64.wrap ((q : Int) + k) = ((q + k : Nat) : Int) := by rw [IntWalk.i64_in _ (by omega)]; omega
      have hsl := slice_bt b o m c q k (q + k) rfl hqk hc hk
      have CI := Lib.hid (contains_any (some ⟨b, o + q, none⟩) ((l.drop q).take k) k (c - q) false w (bol_seg hcell hb q k) (by rw [List.length_take, List.length_drop]; omega) (by omega) (by omega))
      have CF := Lib.hid (filled_any (some ⟨b, o, none⟩) l m c q k false w h hn hl hl2 hqk hk)
      have HS := Lib.hid (full_seg l q k (by omega))
      have HW : Hid (Within l.length q k) := by rw [hl]; exact hw
      have e0 : decide (Within m (q : Int) (k : Int)) = true := by simpa using hw
      rw [e0] at CW
      clear h hn hl h0 hcell hw e0 hb
      go_enter Try.func7, Try.ntmps7
      go_wp2_with fail
      refine CW.out.mono ?_
      rintro e w1 ⟨rfl, rfl⟩
      go_wp2_with fail
      by_cases hf : Full l q k
      · have e1 : decide (false ∈ (l.drop q).take k) = false := by simpa using fun h0 => HS.out.1 h0 hf
        have HF := Lib.hid hf
        rw [e1] at CI
        clear e1 hf
        refine CI.out.mono ?_
        rintro e w1 ⟨rfl, rfl⟩
        go_wp2_with fail
        refine CF.out.mono ?_
        rintro e w1 ⟨hb1, v, rfl, hown⟩
        go_wp2_with fail
        go_ret2
        exact ⟨hb1, v, _, 0, rfl, hown, .inr ⟨rfl, HW.out, HF.out, rfl⟩⟩
      · have e1 : decide (false ∈ (l.drop q).take k) = true := decide_eq_true (HS.out.2 hf)
        have HB : Hid (¬ (l.length ≤ 4096 ∧ Within l.length q k ∧ Full l q k)) := fun hx => hf hx.2.2
        rw [e1] at CI
        clear e1 hf
        refine CI.out.mono ?_
        rintro e w1 ⟨rfl, rfl⟩
        go_wp2_with fail
        refine CC.out.mono ?_
        rintro e w1 ⟨hb1, v, rfl, hown⟩
        go_wp2_with fail
        go_ret2
        exact ⟨hb1, v, l, 2, rfl, hown, .inl ⟨rfl, rfl, HB.out⟩⟩
    · have HB : Hid (¬ (l.length ≤ 4096 ∧ Within l.length p n ∧ Full l p.toNat n.toNat)) := fun hx => hw (by have := hx.2.1; rw [hl] at this; exact this)
      have e0 : decide (Within m p n) = false := by simpa using hw
      rw [e0] at CW
      clear h hn hl h0 hw e0
      go_enter Try.func7, Try.ntmps7
      go_wp2_with fail
      refine CW.out.mono ?_
      rintro e w1 ⟨rfl, rfl⟩
      go_wp2_with fail
      refine CC.out.mono ?_
      rintro e w1 ⟨hb1, v, rfl, hown⟩
      go_wp2_with fail
      go_ret2
      exact ⟨hb1, v, l, 2, rfl, hown, .inl ⟨rfl, rfl, HB.out⟩⟩

set_option maxHeartbeats 1000000 in
set_option maxRecDepth 100000 in
theorem free_any (ao : Option Addr) (l : List Bool) (m c : Nat) (w : World) (h : Bol w ao l) (hl : l.length = m) (hc : m ≤ c) (_hcc : c ≤ 9223372036854775807) (h4 : m ≤ 4096) :
    Calls Try.prog 9 #[.slice ao m c] w fun e w' => e = .returned (.int .i64 (l.count false : Nat)) ∧ w' = w := by
  have H := Lib.hid h
  have HL := Lib.hid hl
  have t1 : decide ((4096 : Int) < (m : Int)) = false := by simp; omega
  clear h hl
  go_enter Try.func9, Try.ntmps9
  go_wp2_with fail
  go_loop [3, 11] (fun vf vi => ∃ i f : Nat, i ≤ m ∧ f ≤ i ∧ vi = .int .i64 i ∧ vf = .int .i64 f ∧ Hid ((l.take i).count false = f)) (fun _ vi => m - (RowKit.intOf vi).toNat)
  case atStart => exact ⟨0, 0, by omega, by omega, rfl, rfl, by show _ = _; simp⟩
  case round =>
    obtain ⟨i, f, hi, hfi, rfl, rfl, hT⟩ := hrel
    by_cases hin : i < m
    · obtain ⟨b, o, rfl, hb, hcell⟩ := bol_cell H.out i (by have := HL.out; omega)
      obtain ⟨y, hy⟩ : ∃ y, l[i]? = some y := ⟨_, List.getElem?_eq_getElem (by have := HL.out; omega)⟩
      have HY := Lib.hid hy
      have d1 := hcell i y hy
      have q1 : (0 : Int) ≤ (i : Int) := by omega
      have q2 : (i : Int) < (m : Int) := by omega
      have q3 : (0 : Int) ≤ (f : Int) := by omega
      have q4 : (f : Int) ≤ 4096 := by omega
      clear hy hcell hb
      cases y with
      | false =>
        have HM : Hid ((l.take (i + 1)).count false = f + 1) := by show _ = _; rw [List.take_add_one, HY.out, List.count_append, hT.out]; rfl
        go_wp2_with fail
        go_round
        case rel => exact ⟨i + 1, f + 1, by omega, by omega, by go_num, by go_num, HM⟩
        case measure => simp [RowKit.intOf]; omega
      | true =>
        have HM : Hid ((l.take (i + 1)).count false = f) := by show _ = _; rw [List.take_add_one, HY.out, List.count_append, hT.out]; rfl
        go_wp2_with fail
        go_round
        case rel => exact ⟨i + 1, f, by omega, by omega, by go_num, rfl, HM⟩
        case measure => simp [RowKit.intOf]; omega
    · obtain rfl : i = m := by omega
      have E : Hid (l.count false = f) := by
        have := hT.out
        rw [List.take_of_length_le (by rw [HL.out]; exact Nat.le_refl _)] at this
        exact this
      go_wp2_with fail
      go_ret
      exact ⟨ret_i64 (by rw [E.out]), rfl⟩

/-- the longest run of free slots so far, and the run that stands -/
def lng (l : List Bool) : Nat × Nat := l.foldl (fun s t => (max s.1 (if t then 0 else s.2 + 1), if t then 0 else s.2 + 1)) (0, 0)
theorem lng_app (l : List Bool) (t : Bool) : lng (l ++ [t]) = (max (lng l).1 (if t then 0 else (lng l).2 + 1), if t then 0 else (lng l).2 + 1) := by
  simp [lng, List.foldl_append]
set_option maxHeartbeats 1000000 in
set_option maxRecDepth 100000 in
theorem longest_any (ao : Option Addr) (l : List Bool) (m c : Nat) (w : World) (h : Bol w ao l) (hl : l.length = m) (hc : m ≤ c) (_hcc : c ≤ 9223372036854775807) (h4 : m ≤ 4096) :
    Calls Try.prog 12 #[.slice ao m c] w fun e w' => e = .returned (.int .i64 ((lng l).1 : Nat)) ∧ w' = w := by
  have H := Lib.hid h
  have HL := Lib.hid hl
  have t1 : decide ((4096 : Int) < (m : Int)) = false := by simp; omega
  clear h hl
  go_enter Try.func12, Try.ntmps12
  go_wp2_with fail
  go_loop [3, 4, 12] (fun vb vr vi => ∃ i f r : Nat, i ≤ m ∧ f ≤ i ∧ r ≤ i ∧ vi = .int .i64 i ∧ vb = .int .i64 f ∧ vr = .int .i64 r ∧ Hid (lng (l.take i) = (f, r))) (fun _ _ vi => m - (RowKit.intOf vi).toNat)
  case atStart => exact ⟨0, 0, 0, by omega, by omega, by omega, rfl, rfl, rfl, by show _ = _; simp [lng]⟩
  case round =>
    obtain ⟨i, f, r, hi, hfi, hri, rfl, rfl, rfl, hT⟩ := hrel
    by_cases hin : i < m
    · obtain ⟨b, o, rfl, hb, hcell⟩ := bol_cell H.out i (by have := HL.out; omega)
      obtain ⟨y, hy⟩ : ∃ y, l[i]? = some y := ⟨_, List.getElem?_eq_getElem (by have := HL.out; omega)⟩
      have HY := Lib.hid hy
      have d1 := hcell i y hy
      have q1 : (0 : Int) ≤ (i : Int) := by omega
      have q2 : (i : Int) < (m : Int) := by omega
      have q3 : (0 : Int) ≤ (r : Int) := by omega
      have q4 : (r : Int) ≤ 4096 := by omega
      clear hy hcell hb
      cases y with
      | false =>
        have HM : Hid (lng (l.take (i + 1)) = (max f (r + 1), r + 1)) := by show _ = _; rw [List.take_add_one, HY.out, Option.toList_some, lng_app, hT.out]; rfl
        go_wp2_with fail
        go_round
        case rel => exact ⟨i + 1, max f (r + 1), r + 1, by omega, by omega, by omega, by go_num, by first | exact val_i64 (by omega) | go_num, by go_num, HM⟩
        case measure => simp [RowKit.intOf]; omega
      | true =>
        have HM : Hid (lng (l.take (i + 1)) = (max f 0, 0)) := by show _ = _; rw [List.take_add_one, HY.out, Option.toList_some, lng_app, hT.out]; rfl
        go_wp2_with fail
        go_round
        case rel => exact ⟨i + 1, max f 0, 0, by omega, by omega, by omega, by go_num, by first | exact val_i64 (by omega) | go_num, rfl, HM⟩
        case measure => simp [RowKit.intOf]; omega
    · obtain rfl : i = m := by omega
      have E : Hid ((lng l).1 = f) := by
        have := hT.out
        rw [List.take_of_length_le (by rw [HL.out]; exact Nat.le_refl _)] at this
        show _ = _
        rw [this]
      go_wp2_with fail
      go_ret
      exact ⟨ret_i64 (by rw [E.out]), rfl⟩
end Go.Proofs.Ytojmohlefbkkdaa.Sp
