/-
  The contracts of obj's each and put, over rows of whatever fields. Conditions: each law's own.
-/
import Derived.Test.YtcgbaiogbcodcaaGreatDoorOd
namespace Go.Proofs.YtcgbaiogbcodcaaGreatDoor.Sh
open Go.RowKit Go.Lib Lb

/-- the cells at an address are these values, one a cell -/
def Vrw (w : World) (ao : Option Addr) (l : List Value) : Prop :=
  l ≠ [] → ∃ b o, ao = some ⟨b, o, none⟩ ∧ b < w.heap.size ∧ ∀ j y, l[j]? = some y → w.cell? ⟨b, o + j, none⟩ = some y
theorem Vrw.below {w w' : World} {ao : Option Addr} {l : List Value} (h : Vrw w ao l) (hb : Below w.heap.size w w') : Vrw w' ao l := fun hne => by
  obtain ⟨b, o, h1, h2, h3⟩ := h hne
  exact ⟨b, o, h1, Nat.lt_of_lt_of_le h2 hb.size, fun j y hj => (hb.cell (p := ⟨b, o + j, none⟩) h2).trans (h3 j y hj)⟩
theorem vrw_cell {w : World} {ao : Option Addr} {l : List Value} (h : Vrw w ao l) (i : Nat) (hi : i < l.length) : ∃ b o x, ao = some ⟨b, o, none⟩ ∧ b < w.heap.size ∧ l[i]? = some x ∧ w.cell? ⟨b, o + i, none⟩ = some x := by
  obtain ⟨b, o, h1, h2, h3⟩ := h (by intro h0; rw [h0] at hi; simp at hi)
  exact ⟨b, o, l[i], h1, h2, List.getElem?_eq_getElem hi, h3 i _ (List.getElem?_eq_getElem hi)⟩
theorem vrw_lit (w : World) (l : List Value) (t : TypeId) : Vrw (w.alloc (.cells l.toArray t)) (some ⟨w.heap.size, 0, none⟩) l := fun _ => by
  refine ⟨w.heap.size, 0, rfl, by simp, fun j y hj => ?_⟩
  rw [World.cell?_alloc_new, Nat.zero_add]
  simpa using hj
/-- a field's bytes, in whatever world behind -/
def Enc (w : World) (v : Value) (l : List UInt8) : Prop := ∀ W, Below w.heap.size w W → Calls Tryz.prog 107 #[v] W (Bys W l)
/-- fields' bytes, one behind the other -/
def Encs (w : World) (vs : List Value) (ls : List (List UInt8)) : Prop := vs.length = ls.length ∧ ∀ (i : Nat) (v : Value) (l : List UInt8), vs[i]? = some v → ls[i]? = some l → Enc w v l
theorem encs_nil (w : World) : Encs w [] [] := ⟨rfl, fun i v l h => by simp at h⟩
theorem encs_cons {w : World} {v : Value} {l : List UInt8} {vs : List Value} {ls : List (List UInt8)} (h : Enc w v l) (hs : Encs w vs ls) : Encs w (v :: vs) (l :: ls) := ⟨by simp [hs.1], fun i a b ha hb => by
  cases i with
  | zero =>
    simp only [List.getElem?_cons_zero, Option.some.injEq] at ha hb
    subst ha
    subst hb
    exact h
  | succ i => exact hs.2 i a b (by simpa using ha) (by simpa using hb)⟩
theorem Enc.below {w w' : World} {v : Value} {l : List UInt8} (h : Enc w v l) (hb : Below w.heap.size w w') : Enc w' v l := fun W hW => h W (hb.trans (hW.mono hb.size))
theorem Encs.below {w w' : World} {v : List Value} {l : List (List UInt8)} (h : Encs w v l) (hb : Below w.heap.size w w') : Encs w' v l := ⟨h.1, fun i a b ha hc => (h.2 i a b ha hc).below hb⟩
theorem flat_take (ls : List (List UInt8)) (i : Nat) (x : List UInt8) (h : ls[i]? = some x) : (ls.take (i + 1)).flatten = (ls.take i).flatten ++ x := by
  rw [List.take_add_one, h]
  simp
theorem flat_le (ls : List (List UInt8)) (i : Nat) : (ls.take i).flatten.length ≤ ls.flatten.length := by
  conv => rhs; rw [← List.take_append_drop i ls, List.flatten_append, List.length_append]
  omega
set_option maxHeartbeats 2000000 in
set_option maxRecDepth 100000 in
theorem eachany_any (ao : Option Addr) (vs : List Value) (ls : List (List UInt8)) (n c : Nat) (w : World) (h : Vrw w ao vs) (hln : vs.length = n) (hc : n ≤ c) (hcc : c ≤ 9223372036854775807) (he : Encs w vs ls) (h47 : ls.flatten.length ≤ 140737488355328) :
    Calls Tryz.prog 103 #[.slice ao n c] w (Bys w ls.flatten) := by
  have H := Lib.hid h
  have HL := Lib.hid hln
  have HE := Lib.hid he
  have H47 := Lib.hid h47
  have B0 := Lib.hid (Below.refl w.heap.size w)
  clear h hln he h47
  go_enter Tryz.func103, Tryz.ntmps103
  go_wp2_with fail
  go_loopw [3, 8] (fun v vi wr => ∃ (i : Nat) (P : List UInt8), i ≤ n ∧ vi = .int .i64 i ∧ Hid (P = (ls.take i).flatten) ∧ Hid (Own wr w.heap.size v P) ∧ Hid (Below w.heap.size w wr)) (fun _ vi _ => n - (RowKit.intOf vi).toNat)
  case atStart => exact ⟨0, [], by omega, rfl, rfl, World.ownsRow_nil _ _ _ _, B0⟩
  case round =>
    obtain ⟨i, P, hi, rfl, hP, hO, hB⟩ := hrel
    by_cases hin : i < n
    · obtain ⟨b, o, x, rfl, hb, hx, hcell⟩ := vrw_cell H.out i (by have := HL.out; omega)
      obtain ⟨y, hy⟩ : ∃ y, ls[i]? = some y := ⟨_, List.getElem?_eq_getElem (by have := HL.out; have := HE.out.1; omega)⟩
      have HY := Lib.hid hy
      have d1 : wr.cell? ⟨b, o + i, none⟩ = some x := (hB.out.cell (p := ⟨b, o + i, none⟩) hb).trans hcell
      have CE := Lib.hid (HE.out.2 i x y hx hy wr hB.out)
      have q1 : (0 : Int) ≤ (i : Int) := by omega
      have q2 : (i : Int) < (n : Int) := by omega
      clear hx hcell hb hy
      go_wp2_with fail
      refine CE.out.mono ?_
      clear CE
      rintro e w1 ⟨hb1, v1, rfl, ho1⟩
      obtain ⟨a5, c5, rfl, y1, y2, y3, y4⟩ := own_byt ho1
      have hB1 := Lib.hid (hB.out.trans (hb1.mono hB.out.size))
      have O1 : Hid (Own w1 w.heap.size u3 P) := Own.below hO.out hb1
      have p1 : P.length + y.length ≤ 140737488355328 := by
        have h1 := flat_le ls (i + 1)
        rw [flat_take ls i y HY.out, ← hP.out, List.length_append] at h1
        have := H47.out
        omega
      have hsz := hB1.out.size
      have Y3 := Lib.hid y3
      obtain ⟨m, hm⟩ : ∃ m, y.length = m := ⟨_, rfl⟩
      have HM := Lib.hid hm
      rw [hm] at p1 y1 ⊢
      clear hb1 ho1 hO hB y3 hm
      go_wp2_with (at_builtin; refine wpl_app_len (t := 33) (e := 5) rfl (.tmp 12) (.tmp 14) rfl Tryz.underlying33 info5 w.heap.size u3 P y rfl O1.out a5 m c5 rfl Y3.out y4 HM p1 hsz ?_; intro v' w' hown' hgrow)
      have hB2 : Hid (Below w.heap.size w w') := hB1.out.grown hgrow hsz (fun k hk => (O1.out.lt k hk).1)
      have O2 : Hid (Own w' w.heap.size v' (P ++ y)) := hown'
      have hP2 : Hid (P ++ y = (ls.take (i + 1)).flatten) := by show _ = _; rw [flat_take ls i y HY.out, hP.out]
      clear hown' hgrow
      go_wp2_with fail
      go_roundw
      case rel => exact ⟨i + 1, P ++ y, by omega, by go_num, hP2, O2, hB2⟩
      case measure => simp [RowKit.intOf]; omega
    · obtain rfl : i = n := by omega
      go_wp2_with fail
      go_ret
      refine ⟨hB.out, _, rfl, ?_⟩
      have hp := hP.out
      rw [List.take_of_length_le (by have := HL.out; have := HE.out.1; omega)] at hp
      rw [← hp]
      exact hO.out
set_option maxRecDepth 100000 in
theorem put_fields (ao : Option Addr) (vs : List Value) (ls : List (List UInt8)) (n c : Nat) (w : World) (h : Vrw w ao vs) (hln : vs.length = n) (hc : n ≤ c) (hcc : c ≤ 9223372036854775807) (he : Encs w vs ls) (h47 : ls.flatten.length ≤ 140737488355328) :
    Calls Tryz.prog 90 #[.slice ao n c] w (Bys w ls.flatten) := by
  have C := Lib.hid (eachany_any ao vs ls n c w h hln hc hcc he h47)
  clear h hln he h47
  go_enter Tryz.func90, Tryz.ntmps90
  go_wp2_with fail
  refine C.out.mono ?_
  clear C
  rintro e w1 ⟨hb, v, rfl, ho⟩
  have HB := Lib.hid hb
  have HO := Lib.hid ho
  clear hb ho
  go_wp2_with fail
  go_ret
  exact ⟨HB.out, _, rfl, HO.out⟩
theorem enc_int (w : World) (x : Int) (h0 : 0 ≤ x) (h1 : x < 9223372036854775808) : Enc w (.iface 3 (.int .i64 x)) (numL x) := fun W _ => bytesof_int x h0 h1 W
theorem enc_kind (w : World) (x : Int) (h0 : 0 ≤ x) (h1 : x < 9223372036854775808) : Enc w (.iface 25 (.int .i64 x)) (numL x) := fun W _ => bytesof_kind x h0 h1 W
theorem enc_bool (w : World) (b : Bool) : Enc w (.iface 4 (.bool b)) (flagL b) := fun W _ => bytesof_bool b W
theorem enc_string (w : World) (s : ByteArray) (hl : s.size ≤ 140737488355318) : Enc w (.iface 9 (.string s)) (textL s) := fun W _ => bytesof_string s W hl
theorem enc_bytes (w : World) (ao : Option Addr) (l : List UInt8) (m c : Nat) (h : Byt w ao l) (hn : ao = none → c = 0) (hlm : l.length = m) (hl : m ≤ 140737488355318) : Enc w (.iface 33 (.slice ao m c)) (dataL l) := fun W hb => bytesof_bytes ao l m c W (h.below hb) hn hlm hl
theorem enc_key (w : World) (k : ByteArray) (hk : keyOk k) : Enc w (.iface 170 (.string k)) (keyL k) := fun W _ => bytesof_key k W hk
set_option maxHeartbeats 1000000 in
set_option maxRecDepth 100000 in
theorem bytesof_attr (s : ByteArray) (ao : Option Addr) (l : List UInt8) (m c : Nat) (w : World) (hs : s.size ≤ 1000000) (h : Byt w ao l) (hn : ao = none → c = 0) (hlm : l.length = m) (hl : m ≤ 1000000) :
    Calls Tryz.prog 107 #[.iface 105 (.agg #[.string s, .slice ao m c])] w (Bys w (attrL (s, l))) := by
  have hW1 := (Below.refl w.heap.size w).alloc (Nat.le_refl _) (.cells #[.string s, .slice ao m c] 105)
  have HV := Lib.hid (vrw_lit (w.alloc (.cells #[.string s, .slice ao m c] 105)) [.iface 9 (.string s), .iface 33 (.slice ao m c)] 20)
  have es : (w.alloc (.cells #[.string s, .slice ao m c] 105)).heap.size = w.heap.size + 1 := by simp
  rw [es] at HV
  have hW2 := hW1.alloc hW1.size (.cells #[.iface 9 (.string s), .iface 33 (.slice ao m c)] 20)
  have hls : [textL s, dataL l].flatten = attrL (s, l) := by simp [attrL]
  have h47 : [textL s, dataL l].flatten.length ≤ 140737488355328 := by
    have h1 := putL_len s.data.toList.length
    have h2 := putL_len l.length
    have h3 : s.data.toList.length = s.size := Array.length_toList
    simp only [List.flatten_cons, List.flatten_nil, List.append_nil, List.length_append, textL, dataL]
    omega
  have he : Encs ((w.alloc (.cells #[.string s, .slice ao m c] 105)).alloc (.cells #[.iface 9 (.string s), .iface 33 (.slice ao m c)] 20)) [.iface 9 (.string s), .iface 33 (.slice ao m c)] [textL s, dataL l] := encs_cons (enc_string _ s (by omega)) (encs_cons (enc_bytes _ ao l m c (h.below hW2) hn hlm (by omega)) (encs_nil _))
  have CP := Lib.hid (put_fields _ _ _ 2 2 _ HV.out rfl (Nat.le_refl _) (by omega) he h47)
  rw [hls] at CP
  have HW := Lib.hid hW2
  clear es hW1 hW2 hls h47 he h HV hlm
  have a4 := no4 105 (by decide)
  have a3 := no3 105 (by decide)
  have a22 := no22 105 (by decide)
  have a9 := no9 105 (by decide)
  have a36 := no36 105 (by decide)
  have a47 := no47 105 (by decide)
  have a95 := is95
  go_enter Tryz.func107, Tryz.ntmps107
  go_wp2_with fail
  refine CP.out.mono ?_
  clear CP
  rintro e w1 ⟨hb, v, rfl, ho⟩
  have HB := Lib.hid (HW.out.trans (hb.mono HW.out.size))
  have HO := Lib.hid (Own.low ho HW.out.size)
  clear hb ho
  go_wp2_with fail
  go_ret
  exact ⟨HB.out, _, rfl, HO.out⟩
theorem numL_le (x : Int) (_ : x < 9223372036854775808) : (numL x).length ≤ 10 := by
  have := putL_len x.toNat
  rw [numL]
  omega
set_option maxHeartbeats 1000000 in
set_option maxRecDepth 100000 in
theorem bytesof_refk (k : ByteArray) (a b n : Int) (h : okRef ⟨k, a, b, n⟩) (h0 : k ≠ noKey) (w : World) :
    Calls Tryz.prog 107 #[.iface 172 (.agg #[.string k, .int .i64 a, .int .i64 b, .int .i64 n])] w (Bys w (refL ⟨k, a, b, n⟩)) := by
  have hW1 := (Below.refl w.heap.size w).alloc (Nat.le_refl _) (.cells #[.string k, .int .i64 a, .int .i64 b, .int .i64 n] 172)
  have HV := Lib.hid (vrw_lit (w.alloc (.cells #[.string k, .int .i64 a, .int .i64 b, .int .i64 n] 172)) [.iface 4 (.bool true), .iface 170 (.string k), .iface 3 (.int .i64 n)] 20)
  have es : (w.alloc (.cells #[.string k, .int .i64 a, .int .i64 b, .int .i64 n] 172)).heap.size = w.heap.size + 1 := by simp
  rw [es] at HV
  have hW2 := hW1.alloc hW1.size (.cells #[.iface 4 (.bool true), .iface 170 (.string k), .iface 3 (.int .i64 n)] 20)
  have h : keyOk k ∧ 1 ≤ n ∧ n ≤ 2048 := by
    rcases h with h | h
    · exact ⟨h.1, h.2.2.2⟩
    · exact absurd h.1 h0
  obtain ⟨_, hn1, hn2⟩ := id h
  have hls : [flagL true, keyL k, numL n].flatten = refL ⟨k, a, b, n⟩ := by
    have e : flagL true = [1] := num_1
    rw [refL, if_pos h0, e]
    simp
  have he0 := key_empty k
  rw [decide_eq_false h0] at he0
  have h47 : [flagL true, keyL k, numL n].flatten.length ≤ 140737488355328 := by
    have h1 := numL_le n (by omega)
    have h2 := (key_of k h.1).1
    have h3 : (flagL true).length = 1 := by decide
    simp only [List.flatten_cons, List.flatten_nil, List.append_nil, List.length_append]
    omega
  have he : Encs ((w.alloc (.cells #[.string k, .int .i64 a, .int .i64 b, .int .i64 n] 172)).alloc (.cells #[.iface 4 (.bool true), .iface 170 (.string k), .iface 3 (.int .i64 n)] 20)) [.iface 4 (.bool true), .iface 170 (.string k), .iface 3 (.int .i64 n)] [flagL true, keyL k, numL n] := encs_cons (enc_bool _ true) (encs_cons (enc_key _ k h.1) (encs_cons (enc_int _ n (by omega) (by omega)) (encs_nil _)))
  have CP := Lib.hid (put_fields _ _ _ 3 3 _ HV.out rfl (Nat.le_refl _) (by omega) he h47)
  rw [hls] at CP
  have HW := Lib.hid hW2
  clear es hW1 hW2 hls h47 he h HV
  have a4 := no4 172 (by decide)
  have a3 := no3 172 (by decide)
  have a22 := no22 172 (by decide)
  have a9 := no9 172 (by decide)
  have a36 := no36 172 (by decide)
  have a47 := no47 172 (by decide)
  have a95 := no95 172 (by decide)
  have a49 := is49
  go_enter Tryz.func107, Tryz.ntmps107
  go_wp2_with fail
  refine CP.out.mono ?_
  clear CP
  rintro e w1 ⟨hb, v, rfl, ho⟩
  have HB := Lib.hid (HW.out.trans (hb.mono HW.out.size))
  have HO := Lib.hid (Own.low ho HW.out.size)
  clear hb ho
  go_wp2_with fail
  go_ret
  exact ⟨HB.out, _, rfl, HO.out⟩
set_option maxHeartbeats 1000000 in
set_option maxRecDepth 100000 in
theorem bytesof_refn (a b n : Int) (h : okRef ⟨noKey, a, b, n⟩) (w : World) :
    Calls Tryz.prog 107 #[.iface 172 (.agg #[.string ⟨#[]⟩, .int .i64 a, .int .i64 b, .int .i64 n])] w (Bys w (refL ⟨⟨#[]⟩, a, b, n⟩)) := by
  have hW1 := (Below.refl w.heap.size w).alloc (Nat.le_refl _) (.cells #[.string ⟨#[]⟩, .int .i64 a, .int .i64 b, .int .i64 n] 172)
  have HV := Lib.hid (vrw_lit (w.alloc (.cells #[.string ⟨#[]⟩, .int .i64 a, .int .i64 b, .int .i64 n] 172)) [.iface 4 (.bool false), .iface 3 (.int .i64 a), .iface 3 (.int .i64 b), .iface 3 (.int .i64 n)] 20)
  have es : (w.alloc (.cells #[.string ⟨#[]⟩, .int .i64 a, .int .i64 b, .int .i64 n] 172)).heap.size = w.heap.size + 1 := by simp
  rw [es] at HV
  have hW2 := hW1.alloc hW1.size (.cells #[.iface 4 (.bool false), .iface 3 (.int .i64 a), .iface 3 (.int .i64 b), .iface 3 (.int .i64 n)] 20)
  have h : (1 ≤ a ∧ a ≤ 512) ∧ (0 ≤ b ∧ b ≤ 32768) ∧ 1 ≤ n ∧ n ≤ 32768 := by
    rcases h with h | h
    · exact absurd h.1 noKey_not
    · exact h.2
  obtain ⟨⟨_, _⟩, ⟨_, _⟩, _, _⟩ := id h
  have hls : [flagL false, numL a, numL b, numL n].flatten = refL ⟨⟨#[]⟩, a, b, n⟩ := by
    have e : flagL false = [0] := num_0
    have e2 : ¬ ((⟨#[]⟩ : ByteArray) ≠ noKey) := fun h => h rfl
    rw [refL, if_neg e2, e]
    simp
  have h47 : [flagL false, numL a, numL b, numL n].flatten.length ≤ 140737488355328 := by
    have h1 := numL_le n (by omega)
    have h2 := numL_le a (by omega)
    have h4 := numL_le b (by omega)
    have h3 : (flagL false).length = 1 := by decide
    simp only [List.flatten_cons, List.flatten_nil, List.append_nil, List.length_append]
    omega
  have he : Encs ((w.alloc (.cells #[.string ⟨#[]⟩, .int .i64 a, .int .i64 b, .int .i64 n] 172)).alloc (.cells #[.iface 4 (.bool false), .iface 3 (.int .i64 a), .iface 3 (.int .i64 b), .iface 3 (.int .i64 n)] 20)) [.iface 4 (.bool false), .iface 3 (.int .i64 a), .iface 3 (.int .i64 b), .iface 3 (.int .i64 n)] [flagL false, numL a, numL b, numL n] := encs_cons (enc_bool _ false) (encs_cons (enc_int _ a (by omega) (by omega)) (encs_cons (enc_int _ b (by omega) (by omega)) (encs_cons (enc_int _ n (by omega) (by omega)) (encs_nil _))))
  have CP := Lib.hid (put_fields _ _ _ 4 4 _ HV.out rfl (Nat.le_refl _) (by omega) he h47)
  rw [hls] at CP
  have HW := Lib.hid hW2
  clear es hW1 hW2 hls h47 he h HV
  have a4 := no4 172 (by decide)
  have a3 := no3 172 (by decide)
  have a22 := no22 172 (by decide)
  have a9 := no9 172 (by decide)
  have a36 := no36 172 (by decide)
  have a47 := no47 172 (by decide)
  have a95 := no95 172 (by decide)
  have a49 := is49
  go_enter Tryz.func107, Tryz.ntmps107
  go_wp2_with fail
  refine CP.out.mono ?_
  clear CP
  rintro e w1 ⟨hb, v, rfl, ho⟩
  have HB := Lib.hid (HW.out.trans (hb.mono HW.out.size))
  have HO := Lib.hid (Own.low ho HW.out.size)
  clear hb ho
  go_wp2_with fail
  go_ret
  exact ⟨HB.out, _, rfl, HO.out⟩
theorem bytesof_ref (x : RefP) (h : okRef x) (w : World) : Calls Tryz.prog 107 #[.iface 172 (.agg #[.string x.key, .int .i64 x.lower, .int .i64 x.off, .int .i64 x.n])] w (Bys w (refL x)) := by
  obtain ⟨k, a, b, n⟩ := x
  by_cases h0 : k = noKey
  · subst h0
    exact bytesof_refn a b n h w
  · exact bytesof_refk k a b n h h0 w
theorem flatMap_take {α : Type} (f : α → List UInt8) (l : List α) (i : Nat) (x : α) (h : l[i]? = some x) : (l.take (i + 1)).flatMap f = (l.take i).flatMap f ++ f x := by
  rw [List.take_add_one, h]
  simp
theorem flatMap_le {α : Type} (f : α → List UInt8) (l : List α) (i : Nat) : ((l.take i).flatMap f).length ≤ (l.flatMap f).length := by
  conv => rhs; rw [← List.take_append_drop i l, List.flatMap_append, List.length_append]
  omega
set_option maxHeartbeats 2000000 in
set_option maxRecDepth 100000 in
theorem each_int (ao : Option Addr) (l : List (Int)) (n c : Nat) (w : World) (h : Zrw w ao l) (hln : l.length = n) (hc : n ≤ c) (hcc : c ≤ 9223372036854775807) (he : ∀ x ∈ l, 0 ≤ x ∧ x < 9223372036854775808) (h47 : (l.flatMap numL).length ≤ 140737488355328) :
    Calls Tryz.prog 113 #[.slice ao n c] w (Bys w (l.flatMap numL)) := by
  have H := Lib.hid h
  have HL := Lib.hid hln
  have HE := Lib.hid he
  have H47 := Lib.hid h47
  have B0 := Lib.hid (Below.refl w.heap.size w)
  clear h hln he h47
  go_enter Tryz.func113, Tryz.ntmps113
  go_wp2_with fail
  go_loopw [3, 8] (fun v vi wr => ∃ (i : Nat) (P : List UInt8), i ≤ n ∧ vi = .int .i64 i ∧ Hid (P = (l.take i).flatMap numL) ∧ Hid (Own wr w.heap.size v P) ∧ Hid (Below w.heap.size w wr)) (fun _ vi _ => n - (RowKit.intOf vi).toNat)
  case atStart => exact ⟨0, [], by omega, rfl, rfl, World.ownsRow_nil _ _ _ _, B0⟩
  case round =>
    obtain ⟨i, P, hi, rfl, hP, hO, hB⟩ := hrel
    by_cases hin : i < n
    · obtain ⟨b, o, rfl, hb, hcell⟩ := zrw_cell H.out i (by have := HL.out; omega)
      obtain ⟨x, hx⟩ : ∃ x, l[i]? = some x := ⟨_, List.getElem?_eq_getElem (by have := HL.out; omega)⟩
      have HX := Lib.hid hx
      have d1 : wr.cell? ⟨b, o + i, none⟩ = some (.int .i64 x) := (hB.out.cell (p := ⟨b, o + i, none⟩) hb).trans (hcell i x hx)
      have q1 : (0 : Int) ≤ (i : Int) := by omega
      have q2 : (i : Int) < (n : Int) := by omega
      have CE := Lib.hid (bytesof_int x (HE.out x (List.mem_of_getElem? hx)).1 (HE.out x (List.mem_of_getElem? hx)).2 wr)
      clear hx hcell hb
      go_wp2_with fail
      refine CE.out.mono ?_
      clear CE
      rintro e w1 ⟨hb1, v1, rfl, ho1⟩
      obtain ⟨a5, c5, rfl, y1, y2, y3, y4⟩ := own_byt ho1
      have hB1 := Lib.hid (hB.out.trans (hb1.mono hB.out.size))
      have O1 : Hid (Own w1 w.heap.size u3 P) := Own.below hO.out hb1
      have p1 : P.length + (numL x).length ≤ 140737488355328 := by
        have h1 := flatMap_le numL l (i + 1)
        rw [flatMap_take numL l i x HX.out, ← hP.out, List.length_append] at h1
        have := H47.out
        omega
      have hsz := hB1.out.size
      have Y3 := Lib.hid y3
      obtain ⟨m, hm⟩ : ∃ m, (numL x).length = m := ⟨_, rfl⟩
      have HM := Lib.hid hm
      rw [hm] at p1 y1 ⊢
      clear hb1 ho1 y3 hm
      go_wp2_with (at_builtin; refine wpl_app_len (t := 33) (e := 5) rfl (.tmp 12) (.tmp 15) rfl Tryz.underlying33 info5 w.heap.size u3 P (numL x) rfl O1.out a5 m c5 rfl Y3.out y4 HM p1 hsz ?_; intro v' w' hown' hgrow)
      have hB2 : Hid (Below w.heap.size w w') := hB1.out.grown hgrow hsz (fun k hk => (O1.out.lt k hk).1)
      have O2 : Hid (Own w' w.heap.size v' (P ++ numL x)) := hown'
      have hP2 : Hid (P ++ numL x = (l.take (i + 1)).flatMap numL) := by show _ = _; rw [flatMap_take numL l i x HX.out, hP.out]
      clear hown' hgrow
      go_wp2_with fail
      go_roundw
      case rel => exact ⟨i + 1, P ++ numL x, by omega, by go_num, hP2, O2, hB2⟩
      case measure => simp [RowKit.intOf]; omega
    · obtain rfl : i = n := by omega
      go_wp2_with fail
      go_ret
      refine ⟨hB.out, _, rfl, ?_⟩
      have hp := hP.out
      rw [List.take_of_length_le (by have := HL.out; omega)] at hp
      rw [← hp]
      exact hO.out
set_option maxHeartbeats 2000000 in
set_option maxRecDepth 100000 in
theorem each_key (ao : Option Addr) (l : List (ByteArray)) (n c : Nat) (w : World) (h : Srw w ao l) (hln : l.length = n) (hc : n ≤ c) (hcc : c ≤ 9223372036854775807) (he : ∀ x ∈ l, keyOk x) (h47 : (l.flatMap keyL).length ≤ 140737488355328) :
    Calls Tryz.prog 114 #[.slice ao n c] w (Bys w (l.flatMap keyL)) := by
  have H := Lib.hid h
  have HL := Lib.hid hln
  have HE := Lib.hid he
  have H47 := Lib.hid h47
  have B0 := Lib.hid (Below.refl w.heap.size w)
  clear h hln he h47
  go_enter Tryz.func114, Tryz.ntmps114
  go_wp2_with fail
  go_loopw [3, 8] (fun v vi wr => ∃ (i : Nat) (P : List UInt8), i ≤ n ∧ vi = .int .i64 i ∧ Hid (P = (l.take i).flatMap keyL) ∧ Hid (Own wr w.heap.size v P) ∧ Hid (Below w.heap.size w wr)) (fun _ vi _ => n - (RowKit.intOf vi).toNat)
  case atStart => exact ⟨0, [], by omega, rfl, rfl, World.ownsRow_nil _ _ _ _, B0⟩
  case round =>
    obtain ⟨i, P, hi, rfl, hP, hO, hB⟩ := hrel
    by_cases hin : i < n
    · obtain ⟨b, o, x, rfl, hb, hx, hcell⟩ := srw_cell H.out i (by have := HL.out; omega)
      have HX := Lib.hid hx
      have d1 : wr.cell? ⟨b, o + i, none⟩ = some (.string x) := (hB.out.cell (p := ⟨b, o + i, none⟩) hb).trans hcell
      have q1 : (0 : Int) ≤ (i : Int) := by omega
      have q2 : (i : Int) < (n : Int) := by omega
      have CE := Lib.hid (bytesof_key x wr (HE.out x (List.mem_of_getElem? hx)))
      clear hx hcell hb
      go_wp2_with fail
      refine CE.out.mono ?_
      clear CE
      rintro e w1 ⟨hb1, v1, rfl, ho1⟩
      obtain ⟨a5, c5, rfl, y1, y2, y3, y4⟩ := own_byt ho1
      have hB1 := Lib.hid (hB.out.trans (hb1.mono hB.out.size))
      have O1 : Hid (Own w1 w.heap.size u3 P) := Own.below hO.out hb1
      have p1 : P.length + (keyL x).length ≤ 140737488355328 := by
        have h1 := flatMap_le keyL l (i + 1)
        rw [flatMap_take keyL l i x HX.out, ← hP.out, List.length_append] at h1
        have := H47.out
        omega
      have hsz := hB1.out.size
      have Y3 := Lib.hid y3
      obtain ⟨m, hm⟩ : ∃ m, (keyL x).length = m := ⟨_, rfl⟩
      have HM := Lib.hid hm
      rw [hm] at p1 y1 ⊢
      clear hb1 ho1 y3 hm
      go_wp2_with (at_builtin; refine wpl_app_len (t := 33) (e := 5) rfl (.tmp 12) (.tmp 15) rfl Tryz.underlying33 info5 w.heap.size u3 P (keyL x) rfl O1.out a5 m c5 rfl Y3.out y4 HM p1 hsz ?_; intro v' w' hown' hgrow)
      have hB2 : Hid (Below w.heap.size w w') := hB1.out.grown hgrow hsz (fun k hk => (O1.out.lt k hk).1)
      have O2 : Hid (Own w' w.heap.size v' (P ++ keyL x)) := hown'
      have hP2 : Hid (P ++ keyL x = (l.take (i + 1)).flatMap keyL) := by show _ = _; rw [flatMap_take keyL l i x HX.out, hP.out]
      clear hown' hgrow
      go_wp2_with fail
      go_roundw
      case rel => exact ⟨i + 1, P ++ keyL x, by omega, by go_num, hP2, O2, hB2⟩
      case measure => simp [RowKit.intOf]; omega
    · obtain rfl : i = n := by omega
      go_wp2_with fail
      go_ret
      refine ⟨hB.out, _, rfl, ?_⟩
      have hp := hP.out
      rw [List.take_of_length_le (by have := HL.out; omega)] at hp
      rw [← hp]
      exact hO.out
set_option maxHeartbeats 2000000 in
set_option maxRecDepth 100000 in
theorem each_string (ao : Option Addr) (l : List (ByteArray)) (n c : Nat) (w : World) (h : Srw w ao l) (hln : l.length = n) (hc : n ≤ c) (hcc : c ≤ 9223372036854775807) (he : ∀ x ∈ l, x.size ≤ 1000000) (h47 : (l.flatMap textL).length ≤ 140737488355328) :
    Calls Tryz.prog 124 #[.slice ao n c] w (Bys w (l.flatMap textL)) := by
  have H := Lib.hid h
  have HL := Lib.hid hln
  have HE := Lib.hid he
  have H47 := Lib.hid h47
  have B0 := Lib.hid (Below.refl w.heap.size w)
  clear h hln he h47
  go_enter Tryz.func124, Tryz.ntmps124
  go_wp2_with fail
  go_loopw [3, 8] (fun v vi wr => ∃ (i : Nat) (P : List UInt8), i ≤ n ∧ vi = .int .i64 i ∧ Hid (P = (l.take i).flatMap textL) ∧ Hid (Own wr w.heap.size v P) ∧ Hid (Below w.heap.size w wr)) (fun _ vi _ => n - (RowKit.intOf vi).toNat)
  case atStart => exact ⟨0, [], by omega, rfl, rfl, World.ownsRow_nil _ _ _ _, B0⟩
  case round =>
    obtain ⟨i, P, hi, rfl, hP, hO, hB⟩ := hrel
    by_cases hin : i < n
    · obtain ⟨b, o, x, rfl, hb, hx, hcell⟩ := srw_cell H.out i (by have := HL.out; omega)
      have HX := Lib.hid hx
      have d1 : wr.cell? ⟨b, o + i, none⟩ = some (.string x) := (hB.out.cell (p := ⟨b, o + i, none⟩) hb).trans hcell
      have q1 : (0 : Int) ≤ (i : Int) := by omega
      have q2 : (i : Int) < (n : Int) := by omega
      have CE := Lib.hid (bytesof_string x wr (by have := HE.out x (List.mem_of_getElem? hx); omega))
      clear hx hcell hb
      go_wp2_with fail
      refine CE.out.mono ?_
      clear CE
      rintro e w1 ⟨hb1, v1, rfl, ho1⟩
      obtain ⟨a5, c5, rfl, y1, y2, y3, y4⟩ := own_byt ho1
      have hB1 := Lib.hid (hB.out.trans (hb1.mono hB.out.size))
      have O1 : Hid (Own w1 w.heap.size u3 P) := Own.below hO.out hb1
      have p1 : P.length + (textL x).length ≤ 140737488355328 := by
        have h1 := flatMap_le textL l (i + 1)
        rw [flatMap_take textL l i x HX.out, ← hP.out, List.length_append] at h1
        have := H47.out
        omega
      have hsz := hB1.out.size
      have Y3 := Lib.hid y3
      obtain ⟨m, hm⟩ : ∃ m, (textL x).length = m := ⟨_, rfl⟩
      have HM := Lib.hid hm
      rw [hm] at p1 y1 ⊢
      clear hb1 ho1 y3 hm
      go_wp2_with (at_builtin; refine wpl_app_len (t := 33) (e := 5) rfl (.tmp 12) (.tmp 15) rfl Tryz.underlying33 info5 w.heap.size u3 P (textL x) rfl O1.out a5 m c5 rfl Y3.out y4 HM p1 hsz ?_; intro v' w' hown' hgrow)
      have hB2 : Hid (Below w.heap.size w w') := hB1.out.grown hgrow hsz (fun k hk => (O1.out.lt k hk).1)
      have O2 : Hid (Own w' w.heap.size v' (P ++ textL x)) := hown'
      have hP2 : Hid (P ++ textL x = (l.take (i + 1)).flatMap textL) := by show _ = _; rw [flatMap_take textL l i x HX.out, hP.out]
      clear hown' hgrow
      go_wp2_with fail
      go_roundw
      case rel => exact ⟨i + 1, P ++ textL x, by omega, by go_num, hP2, O2, hB2⟩
      case measure => simp [RowKit.intOf]; omega
    · obtain rfl : i = n := by omega
      go_wp2_with fail
      go_ret
      refine ⟨hB.out, _, rfl, ?_⟩
      have hp := hP.out
      rw [List.take_of_length_le (by have := HL.out; omega)] at hp
      rw [← hp]
      exact hO.out
set_option maxHeartbeats 2000000 in
set_option maxRecDepth 100000 in
theorem each_attr (ao : Option Addr) (l : List (ByteArray × List UInt8)) (n c : Nat) (w : World) (h : Arw w ao l) (hln : l.length = n) (hc : n ≤ c) (hcc : c ≤ 9223372036854775807) (he : ∀ x ∈ l, x.1.size ≤ 1000000 ∧ x.2.length ≤ 1000000) (h47 : (l.flatMap attrL).length ≤ 140737488355328) :
    Calls Tryz.prog 125 #[.slice ao n c] w (Bys w (l.flatMap attrL)) := by
  have H := Lib.hid h
  have HL := Lib.hid hln
  have HE := Lib.hid he
  have H47 := Lib.hid h47
  have B0 := Lib.hid (Below.refl w.heap.size w)
  clear h hln he h47
  go_enter Tryz.func125, Tryz.ntmps125
  go_wp2_with fail
  go_loopw [3, 8] (fun v vi wr => ∃ (i : Nat) (P : List UInt8), i ≤ n ∧ vi = .int .i64 i ∧ Hid (P = (l.take i).flatMap attrL) ∧ Hid (Own wr w.heap.size v P) ∧ Hid (Below w.heap.size w wr)) (fun _ vi _ => n - (RowKit.intOf vi).toNat)
  case atStart => exact ⟨0, [], by omega, rfl, rfl, World.ownsRow_nil _ _ _ _, B0⟩
  case round =>
    obtain ⟨i, P, hi, rfl, hP, hO, hB⟩ := hrel
    by_cases hin : i < n
    · obtain ⟨b, o, x, rfl, hb, hx, x0, x1, ad, m0, cc, x2, x3, x4, x5, x6, x7⟩ := arw_cell H.out i (by have := HL.out; omega)
      have HX := Lib.hid hx
      have d0 := (hB.out.cell (p := ⟨b, o + i * 2, none⟩) hb).trans x0
      have d1 := (hB.out.cell (p := ⟨b, o + i * 2 + 1, none⟩) hb).trans x2
      have X6 := Lib.hid (x6.below hB.out)
      have q1 : (0 : Int) ≤ (i : Int) := by omega
      have q2 : (i : Int) < (n : Int) := by omega
      have CE : Hid (Calls Tryz.prog 107 #[.iface 105 (.agg #[.string x.1, .slice ad m0 cc])] (wr.alloc (.cells #[.string x.1, .slice ad m0 cc] 105)) (Bys (wr.alloc (.cells #[.string x.1, .slice ad m0 cc] 105)) (attrL x))) := bytesof_attr x.1 ad x.2 m0 cc _ (HE.out x (List.mem_of_getElem? hx)).1 (X6.out.below ((Below.refl wr.heap.size wr).alloc (Nat.le_refl _) _)) x7 x3 (by rw [← x3]; exact (HE.out x (List.mem_of_getElem? hx)).2)
      have hB1 := Lib.hid (hB.out.alloc hB.out.size (.cells #[.string x.1, .slice ad m0 cc] 105))
      have hO1 : Hid (Own (wr.alloc (.cells #[.string x.1, .slice ad m0 cc] 105)) w.heap.size u3 P) := World.ownsRow.alloc hO.out _
      clear hx x0 x2 x3 x6 x7 hb
      go_wp2_with fail
      refine CE.out.mono ?_
      clear CE
      rintro e w1 ⟨hb1, v1, rfl, ho1⟩
      obtain ⟨a5, c5, rfl, y1, y2, y3, y4⟩ := own_byt ho1
      have hB1 := Lib.hid (hB1.out.trans (hb1.mono hB1.out.size))
      have O1 : Hid (Own w1 w.heap.size u3 P) := Own.below hO1.out hb1
      have p1 : P.length + (attrL x).length ≤ 140737488355328 := by
        have h1 := flatMap_le attrL l (i + 1)
        rw [flatMap_take attrL l i x HX.out, ← hP.out, List.length_append] at h1
        have := H47.out
        omega
      have hsz := hB1.out.size
      have Y3 := Lib.hid y3
      obtain ⟨m, hm⟩ : ∃ m, (attrL x).length = m := ⟨_, rfl⟩
      have HM := Lib.hid hm
      rw [hm] at p1 y1 ⊢
      clear hb1 ho1 y3 hm
      go_wp2_with (at_builtin; refine wpl_app_len (t := 33) (e := 5) rfl (.tmp 12) (.tmp 15) rfl Tryz.underlying33 info5 w.heap.size u3 P (attrL x) rfl O1.out a5 m c5 rfl Y3.out y4 HM p1 hsz ?_; intro v' w' hown' hgrow)
      have hB2 : Hid (Below w.heap.size w w') := hB1.out.grown hgrow hsz (fun k hk => (O1.out.lt k hk).1)
      have O2 : Hid (Own w' w.heap.size v' (P ++ attrL x)) := hown'
      have hP2 : Hid (P ++ attrL x = (l.take (i + 1)).flatMap attrL) := by show _ = _; rw [flatMap_take attrL l i x HX.out, hP.out]
      clear hown' hgrow
      go_wp2_with fail
      go_roundw
      case rel => exact ⟨i + 1, P ++ attrL x, by omega, by go_num, hP2, O2, hB2⟩
      case measure => simp [RowKit.intOf]; omega
    · obtain rfl : i = n := by omega
      go_wp2_with fail
      go_ret
      refine ⟨hB.out, _, rfl, ?_⟩
      have hp := hP.out
      rw [List.take_of_length_le (by have := HL.out; omega)] at hp
      rw [← hp]
      exact hO.out
set_option maxHeartbeats 2000000 in
set_option maxRecDepth 100000 in
theorem each_ref (ao : Option Addr) (l : List (RefP)) (n c : Nat) (w : World) (h : Rrw w ao l) (hln : l.length = n) (hc : n ≤ c) (hcc : c ≤ 9223372036854775807) (he : ∀ x ∈ l, okRef x) (h47 : (l.flatMap refL).length ≤ 140737488355328) :
    Calls Tryz.prog 126 #[.slice ao n c] w (Bys w (l.flatMap refL)) := by
  have H := Lib.hid h
  have HL := Lib.hid hln
  have HE := Lib.hid he
  have H47 := Lib.hid h47
  have B0 := Lib.hid (Below.refl w.heap.size w)
  clear h hln he h47
  go_enter Tryz.func126, Tryz.ntmps126
  go_wp2_with fail
  go_loopw [3, 8] (fun v vi wr => ∃ (i : Nat) (P : List UInt8), i ≤ n ∧ vi = .int .i64 i ∧ Hid (P = (l.take i).flatMap refL) ∧ Hid (Own wr w.heap.size v P) ∧ Hid (Below w.heap.size w wr)) (fun _ vi _ => n - (RowKit.intOf vi).toNat)
  case atStart => exact ⟨0, [], by omega, rfl, rfl, World.ownsRow_nil _ _ _ _, B0⟩
  case round =>
    obtain ⟨i, P, hi, rfl, hP, hO, hB⟩ := hrel
    by_cases hin : i < n
    · obtain ⟨b, o, x, rfl, hb, hx, x0, x1, x2, x3, x4⟩ := rrw_cell H.out i (by have := HL.out; omega)
      have HX := Lib.hid hx
      have d0 := (hB.out.cell (p := ⟨b, o + i * 4, none⟩) hb).trans x0
      have d1 := (hB.out.cell (p := ⟨b, o + i * 4 + 1, none⟩) hb).trans x1
      have d2 := (hB.out.cell (p := ⟨b, o + i * 4 + 2, none⟩) hb).trans x2
      have d3 := (hB.out.cell (p := ⟨b, o + i * 4 + 3, none⟩) hb).trans x3
      have q1 : (0 : Int) ≤ (i : Int) := by omega
      have q2 : (i : Int) < (n : Int) := by omega
      have CE : Hid (Calls Tryz.prog 107 #[.iface 172 (.agg #[.string x.key, .int .i64 x.lower, .int .i64 x.off, .int .i64 x.n])] (wr.alloc (.cells #[.string x.key, .int .i64 x.lower, .int .i64 x.off, .int .i64 x.n] 172)) (Bys (wr.alloc (.cells #[.string x.key, .int .i64 x.lower, .int .i64 x.off, .int .i64 x.n] 172)) (refL x))) := bytesof_ref x (HE.out x (List.mem_of_getElem? hx)) _
      have hB1 := Lib.hid (hB.out.alloc hB.out.size (.cells #[.string x.key, .int .i64 x.lower, .int .i64 x.off, .int .i64 x.n] 172))
      have hO1 : Hid (Own (wr.alloc (.cells #[.string x.key, .int .i64 x.lower, .int .i64 x.off, .int .i64 x.n] 172)) w.heap.size u3 P) := World.ownsRow.alloc hO.out _
      clear hx x0 x1 x2 x3 hb
      go_wp2_with fail
      refine CE.out.mono ?_
      clear CE
      rintro e w1 ⟨hb1, v1, rfl, ho1⟩
      obtain ⟨a5, c5, rfl, y1, y2, y3, y4⟩ := own_byt ho1
      have hB1 := Lib.hid (hB1.out.trans (hb1.mono hB1.out.size))
      have O1 : Hid (Own w1 w.heap.size u3 P) := Own.below hO1.out hb1
      have p1 : P.length + (refL x).length ≤ 140737488355328 := by
        have h1 := flatMap_le refL l (i + 1)
        rw [flatMap_take refL l i x HX.out, ← hP.out, List.length_append] at h1
        have := H47.out
        omega
      have hsz := hB1.out.size
      have Y3 := Lib.hid y3
      obtain ⟨m, hm⟩ : ∃ m, (refL x).length = m := ⟨_, rfl⟩
      have HM := Lib.hid hm
      rw [hm] at p1 y1 ⊢
      clear hb1 ho1 y3 hm
      go_wp2_with (at_builtin; refine wpl_app_len (t := 33) (e := 5) rfl (.tmp 12) (.tmp 15) rfl Tryz.underlying33 info5 w.heap.size u3 P (refL x) rfl O1.out a5 m c5 rfl Y3.out y4 HM p1 hsz ?_; intro v' w' hown' hgrow)
      have hB2 : Hid (Below w.heap.size w w') := hB1.out.grown hgrow hsz (fun k hk => (O1.out.lt k hk).1)
      have O2 : Hid (Own w' w.heap.size v' (P ++ refL x)) := hown'
      have hP2 : Hid (P ++ refL x = (l.take (i + 1)).flatMap refL) := by show _ = _; rw [flatMap_take refL l i x HX.out, hP.out]
      clear hown' hgrow
      go_wp2_with fail
      go_roundw
      case rel => exact ⟨i + 1, P ++ refL x, by omega, by go_num, hP2, O2, hB2⟩
      case measure => simp [RowKit.intOf]; omega
    · obtain rfl : i = n := by omega
      go_wp2_with fail
      go_ret
      refine ⟨hB.out, _, rfl, ?_⟩
      have hp := hP.out
      rw [List.take_of_length_le (by have := HL.out; omega)] at hp
      rw [← hp]
      exact hO.out
set_option maxHeartbeats 2000000 in
set_option maxRecDepth 100000 in
theorem row_int (ao : Option Addr) (l : List (Int)) (n c : Nat) (w : World) (h : Zrw w ao l) (hln : l.length = n) (hc : n ≤ c) (hcc : c ≤ 9223372036854775807) (he : ∀ x ∈ l, 0 ≤ x ∧ x < 9223372036854775808) (h47 : (l.flatMap numL).length ≤ 140737488355318) :
    Calls Tryz.prog 115 #[.slice ao n c] w (Bys w (manyL numL l)) := by
  have hW1 := (Below.refl w.heap.size w).alloc (Nat.le_refl _) (.cells #[.iface 3 (.int .i64 (n : Int))] 20)
  have hV := vrw_lit w [.iface 3 (.int .i64 (n : Int))] 20
  have hN := numL_le (n : Int) (by omega)
  have CP := Lib.hid (put_fields _ [.iface 3 (.int .i64 (n : Int))] [numL (n : Int)] 1 1 (w.alloc (.cells #[.iface 3 (.int .i64 (n : Int))] 20)) hV rfl (Nat.le_refl _) (by omega) (encs_cons (enc_int _ _ (by omega) (by omega)) (encs_nil _)) (by simp; omega))
  have e0 : [numL (n : Int)].flatten = numL (n : Int) := by simp
  rw [e0] at CP
  have CE := Lib.hid (fun W (hb : Below w.heap.size w W) => each_int ao l n c W (h.below hb) hln hc hcc he (by omega))
  have hm : manyL numL l = numL (n : Int) ++ l.flatMap numL := by rw [manyL, hln]
  rw [hm]
  have HW := Lib.hid hW1
  obtain ⟨q, hq⟩ : ∃ q, q = l.flatMap numL := ⟨_, rfl⟩
  obtain ⟨p, hp⟩ : ∃ p, p = numL (n : Int) := ⟨_, rfl⟩
  rw [← hq] at CE h47 ⊢
  rw [← hp] at CP hN ⊢
  clear hW1 hV e0 h hln he hm hq hp
  go_enter Tryz.func115, Tryz.ntmps115
  go_wp2_with fail
  refine CP.out.mono ?_
  clear CP
  rintro e w1 ⟨hb1, v1, rfl, ho1⟩
  have B1 := Lib.hid (HW.out.trans (hb1.mono HW.out.size))
  have O1 := Lib.hid (Own.low ho1 HW.out.size)
  clear hb1 ho1
  go_wp2_with fail
  refine (CE.out _ B1.out).mono ?_
  clear CE
  rintro e w2 ⟨hb2, v2, rfl, ho2⟩
  obtain ⟨a5, c5, rfl, y1, y2, y3, y4⟩ := own_byt ho2
  have B2 := Lib.hid (B1.out.trans (hb2.mono B1.out.size))
  have O2 := Lib.hid (Own.below O1.out hb2)
  have Y3 := Lib.hid y3
  obtain ⟨m, hm⟩ : ∃ m, q.length = m := ⟨_, rfl⟩
  have HM := Lib.hid hm
  have hsz := B2.out.size
  rw [hm] at h47 y1 ⊢
  have p1 : p.length + m ≤ 140737488355328 := by omega
  clear hb2 ho2 y3 hm B1 O1 HW
  go_wp2_with (at_builtin; refine wpl_app_len (t := 33) (e := 5) rfl (.tmp 7) (.tmp 9) rfl Tryz.underlying33 info5 w.heap.size v1 p q rfl O2.out a5 m c5 rfl Y3.out y4 HM p1 hsz ?_; intro v' w' hown' hgrow)
  have B3 : Hid (Below w.heap.size w w') := B2.out.grown hgrow hsz (fun k hk => (O2.out.lt k hk).1)
  have O3 : Hid (Own w' w.heap.size v' (p ++ q)) := hown'
  clear hown' hgrow
  go_wp2_with fail
  go_ret
  exact ⟨B3.out, _, rfl, O3.out⟩
set_option maxHeartbeats 2000000 in
set_option maxRecDepth 100000 in
theorem row_string (ao : Option Addr) (l : List (ByteArray)) (n c : Nat) (w : World) (h : Srw w ao l) (hln : l.length = n) (hc : n ≤ c) (hcc : c ≤ 9223372036854775807) (he : ∀ x ∈ l, x.size ≤ 1000000) (h47 : (l.flatMap textL).length ≤ 140737488355318) :
    Calls Tryz.prog 116 #[.slice ao n c] w (Bys w (manyL textL l)) := by
  have hW1 := (Below.refl w.heap.size w).alloc (Nat.le_refl _) (.cells #[.iface 3 (.int .i64 (n : Int))] 20)
  have hV := vrw_lit w [.iface 3 (.int .i64 (n : Int))] 20
  have hN := numL_le (n : Int) (by omega)
  have CP := Lib.hid (put_fields _ [.iface 3 (.int .i64 (n : Int))] [numL (n : Int)] 1 1 (w.alloc (.cells #[.iface 3 (.int .i64 (n : Int))] 20)) hV rfl (Nat.le_refl _) (by omega) (encs_cons (enc_int _ _ (by omega) (by omega)) (encs_nil _)) (by simp; omega))
  have e0 : [numL (n : Int)].flatten = numL (n : Int) := by simp
  rw [e0] at CP
  have CE := Lib.hid (fun W (hb : Below w.heap.size w W) => each_string ao l n c W (h.below hb) hln hc hcc he (by omega))
  have hm : manyL textL l = numL (n : Int) ++ l.flatMap textL := by rw [manyL, hln]
  rw [hm]
  have HW := Lib.hid hW1
  obtain ⟨q, hq⟩ : ∃ q, q = l.flatMap textL := ⟨_, rfl⟩
  obtain ⟨p, hp⟩ : ∃ p, p = numL (n : Int) := ⟨_, rfl⟩
  rw [← hq] at CE h47 ⊢
  rw [← hp] at CP hN ⊢
  clear hW1 hV e0 h hln he hm hq hp
  go_enter Tryz.func116, Tryz.ntmps116
  go_wp2_with fail
  refine CP.out.mono ?_
  clear CP
  rintro e w1 ⟨hb1, v1, rfl, ho1⟩
  have B1 := Lib.hid (HW.out.trans (hb1.mono HW.out.size))
  have O1 := Lib.hid (Own.low ho1 HW.out.size)
  clear hb1 ho1
  go_wp2_with fail
  refine (CE.out _ B1.out).mono ?_
  clear CE
  rintro e w2 ⟨hb2, v2, rfl, ho2⟩
  obtain ⟨a5, c5, rfl, y1, y2, y3, y4⟩ := own_byt ho2
  have B2 := Lib.hid (B1.out.trans (hb2.mono B1.out.size))
  have O2 := Lib.hid (Own.below O1.out hb2)
  have Y3 := Lib.hid y3
  obtain ⟨m, hm⟩ : ∃ m, q.length = m := ⟨_, rfl⟩
  have HM := Lib.hid hm
  have hsz := B2.out.size
  rw [hm] at h47 y1 ⊢
  have p1 : p.length + m ≤ 140737488355328 := by omega
  clear hb2 ho2 y3 hm B1 O1 HW
  go_wp2_with (at_builtin; refine wpl_app_len (t := 33) (e := 5) rfl (.tmp 7) (.tmp 9) rfl Tryz.underlying33 info5 w.heap.size v1 p q rfl O2.out a5 m c5 rfl Y3.out y4 HM p1 hsz ?_; intro v' w' hown' hgrow)
  have B3 : Hid (Below w.heap.size w w') := B2.out.grown hgrow hsz (fun k hk => (O2.out.lt k hk).1)
  have O3 : Hid (Own w' w.heap.size v' (p ++ q)) := hown'
  clear hown' hgrow
  go_wp2_with fail
  go_ret
  exact ⟨B3.out, _, rfl, O3.out⟩
set_option maxHeartbeats 2000000 in
set_option maxRecDepth 100000 in
theorem row_key (ao : Option Addr) (l : List (ByteArray)) (n c : Nat) (w : World) (h : Srw w ao l) (hln : l.length = n) (hc : n ≤ c) (hcc : c ≤ 9223372036854775807) (he : ∀ x ∈ l, keyOk x) (h47 : (l.flatMap keyL).length ≤ 140737488355318) :
    Calls Tryz.prog 117 #[.slice ao n c] w (Bys w (manyL keyL l)) := by
  have hW1 := (Below.refl w.heap.size w).alloc (Nat.le_refl _) (.cells #[.iface 3 (.int .i64 (n : Int))] 20)
  have hV := vrw_lit w [.iface 3 (.int .i64 (n : Int))] 20
  have hN := numL_le (n : Int) (by omega)
  have CP := Lib.hid (put_fields _ [.iface 3 (.int .i64 (n : Int))] [numL (n : Int)] 1 1 (w.alloc (.cells #[.iface 3 (.int .i64 (n : Int))] 20)) hV rfl (Nat.le_refl _) (by omega) (encs_cons (enc_int _ _ (by omega) (by omega)) (encs_nil _)) (by simp; omega))
  have e0 : [numL (n : Int)].flatten = numL (n : Int) := by simp
  rw [e0] at CP
  have CE := Lib.hid (fun W (hb : Below w.heap.size w W) => each_key ao l n c W (h.below hb) hln hc hcc he (by omega))
  have hm : manyL keyL l = numL (n : Int) ++ l.flatMap keyL := by rw [manyL, hln]
  rw [hm]
  have HW := Lib.hid hW1
  obtain ⟨q, hq⟩ : ∃ q, q = l.flatMap keyL := ⟨_, rfl⟩
  obtain ⟨p, hp⟩ : ∃ p, p = numL (n : Int) := ⟨_, rfl⟩
  rw [← hq] at CE h47 ⊢
  rw [← hp] at CP hN ⊢
  clear hW1 hV e0 h hln he hm hq hp
  go_enter Tryz.func117, Tryz.ntmps117
  go_wp2_with fail
  refine CP.out.mono ?_
  clear CP
  rintro e w1 ⟨hb1, v1, rfl, ho1⟩
  have B1 := Lib.hid (HW.out.trans (hb1.mono HW.out.size))
  have O1 := Lib.hid (Own.low ho1 HW.out.size)
  clear hb1 ho1
  go_wp2_with fail
  refine (CE.out _ B1.out).mono ?_
  clear CE
  rintro e w2 ⟨hb2, v2, rfl, ho2⟩
  obtain ⟨a5, c5, rfl, y1, y2, y3, y4⟩ := own_byt ho2
  have B2 := Lib.hid (B1.out.trans (hb2.mono B1.out.size))
  have O2 := Lib.hid (Own.below O1.out hb2)
  have Y3 := Lib.hid y3
  obtain ⟨m, hm⟩ : ∃ m, q.length = m := ⟨_, rfl⟩
  have HM := Lib.hid hm
  have hsz := B2.out.size
  rw [hm] at h47 y1 ⊢
  have p1 : p.length + m ≤ 140737488355328 := by omega
  clear hb2 ho2 y3 hm B1 O1 HW
  go_wp2_with (at_builtin; refine wpl_app_len (t := 33) (e := 5) rfl (.tmp 7) (.tmp 9) rfl Tryz.underlying33 info5 w.heap.size v1 p q rfl O2.out a5 m c5 rfl Y3.out y4 HM p1 hsz ?_; intro v' w' hown' hgrow)
  have B3 : Hid (Below w.heap.size w w') := B2.out.grown hgrow hsz (fun k hk => (O2.out.lt k hk).1)
  have O3 : Hid (Own w' w.heap.size v' (p ++ q)) := hown'
  clear hown' hgrow
  go_wp2_with fail
  go_ret
  exact ⟨B3.out, _, rfl, O3.out⟩
set_option maxHeartbeats 2000000 in
set_option maxRecDepth 100000 in
theorem row_attr (ao : Option Addr) (l : List (ByteArray × List UInt8)) (n c : Nat) (w : World) (h : Arw w ao l) (hln : l.length = n) (hc : n ≤ c) (hcc : c ≤ 9223372036854775807) (he : ∀ x ∈ l, x.1.size ≤ 1000000 ∧ x.2.length ≤ 1000000) (h47 : (l.flatMap attrL).length ≤ 140737488355318) :
    Calls Tryz.prog 118 #[.slice ao n c] w (Bys w (manyL attrL l)) := by
  have hW1 := (Below.refl w.heap.size w).alloc (Nat.le_refl _) (.cells #[.iface 3 (.int .i64 (n : Int))] 20)
  have hV := vrw_lit w [.iface 3 (.int .i64 (n : Int))] 20
  have hN := numL_le (n : Int) (by omega)
  have CP := Lib.hid (put_fields _ [.iface 3 (.int .i64 (n : Int))] [numL (n : Int)] 1 1 (w.alloc (.cells #[.iface 3 (.int .i64 (n : Int))] 20)) hV rfl (Nat.le_refl _) (by omega) (encs_cons (enc_int _ _ (by omega) (by omega)) (encs_nil _)) (by simp; omega))
  have e0 : [numL (n : Int)].flatten = numL (n : Int) := by simp
  rw [e0] at CP
  have CE := Lib.hid (fun W (hb : Below w.heap.size w W) => each_attr ao l n c W (h.below hb) hln hc hcc he (by omega))
  have hm : manyL attrL l = numL (n : Int) ++ l.flatMap attrL := by rw [manyL, hln]
  rw [hm]
  have HW := Lib.hid hW1
  obtain ⟨q, hq⟩ : ∃ q, q = l.flatMap attrL := ⟨_, rfl⟩
  obtain ⟨p, hp⟩ : ∃ p, p = numL (n : Int) := ⟨_, rfl⟩
  rw [← hq] at CE h47 ⊢
  rw [← hp] at CP hN ⊢
  clear hW1 hV e0 h hln he hm hq hp
  go_enter Tryz.func118, Tryz.ntmps118
  go_wp2_with fail
  refine CP.out.mono ?_
  clear CP
  rintro e w1 ⟨hb1, v1, rfl, ho1⟩
  have B1 := Lib.hid (HW.out.trans (hb1.mono HW.out.size))
  have O1 := Lib.hid (Own.low ho1 HW.out.size)
  clear hb1 ho1
  go_wp2_with fail
  refine (CE.out _ B1.out).mono ?_
  clear CE
  rintro e w2 ⟨hb2, v2, rfl, ho2⟩
  obtain ⟨a5, c5, rfl, y1, y2, y3, y4⟩ := own_byt ho2
  have B2 := Lib.hid (B1.out.trans (hb2.mono B1.out.size))
  have O2 := Lib.hid (Own.below O1.out hb2)
  have Y3 := Lib.hid y3
  obtain ⟨m, hm⟩ : ∃ m, q.length = m := ⟨_, rfl⟩
  have HM := Lib.hid hm
  have hsz := B2.out.size
  rw [hm] at h47 y1 ⊢
  have p1 : p.length + m ≤ 140737488355328 := by omega
  clear hb2 ho2 y3 hm B1 O1 HW
  go_wp2_with (at_builtin; refine wpl_app_len (t := 33) (e := 5) rfl (.tmp 7) (.tmp 9) rfl Tryz.underlying33 info5 w.heap.size v1 p q rfl O2.out a5 m c5 rfl Y3.out y4 HM p1 hsz ?_; intro v' w' hown' hgrow)
  have B3 : Hid (Below w.heap.size w w') := B2.out.grown hgrow hsz (fun k hk => (O2.out.lt k hk).1)
  have O3 : Hid (Own w' w.heap.size v' (p ++ q)) := hown'
  clear hown' hgrow
  go_wp2_with fail
  go_ret
  exact ⟨B3.out, _, rfl, O3.out⟩
set_option maxHeartbeats 2000000 in
set_option maxRecDepth 100000 in
theorem row_ref (ao : Option Addr) (l : List (RefP)) (n c : Nat) (w : World) (h : Rrw w ao l) (hln : l.length = n) (hc : n ≤ c) (hcc : c ≤ 9223372036854775807) (he : ∀ x ∈ l, okRef x) (h47 : (l.flatMap refL).length ≤ 140737488355318) :
    Calls Tryz.prog 119 #[.slice ao n c] w (Bys w (manyL refL l)) := by
  have hW1 := (Below.refl w.heap.size w).alloc (Nat.le_refl _) (.cells #[.iface 3 (.int .i64 (n : Int))] 20)
  have hV := vrw_lit w [.iface 3 (.int .i64 (n : Int))] 20
  have hN := numL_le (n : Int) (by omega)
  have CP := Lib.hid (put_fields _ [.iface 3 (.int .i64 (n : Int))] [numL (n : Int)] 1 1 (w.alloc (.cells #[.iface 3 (.int .i64 (n : Int))] 20)) hV rfl (Nat.le_refl _) (by omega) (encs_cons (enc_int _ _ (by omega) (by omega)) (encs_nil _)) (by simp; omega))
  have e0 : [numL (n : Int)].flatten = numL (n : Int) := by simp
  rw [e0] at CP
  have CE := Lib.hid (fun W (hb : Below w.heap.size w W) => each_ref ao l n c W (h.below hb) hln hc hcc he (by omega))
  have hm : manyL refL l = numL (n : Int) ++ l.flatMap refL := by rw [manyL, hln]
  rw [hm]
  have HW := Lib.hid hW1
  obtain ⟨q, hq⟩ : ∃ q, q = l.flatMap refL := ⟨_, rfl⟩
  obtain ⟨p, hp⟩ : ∃ p, p = numL (n : Int) := ⟨_, rfl⟩
  rw [← hq] at CE h47 ⊢
  rw [← hp] at CP hN ⊢
  clear hW1 hV e0 h hln he hm hq hp
  go_enter Tryz.func119, Tryz.ntmps119
  go_wp2_with fail
  refine CP.out.mono ?_
  clear CP
  rintro e w1 ⟨hb1, v1, rfl, ho1⟩
  have B1 := Lib.hid (HW.out.trans (hb1.mono HW.out.size))
  have O1 := Lib.hid (Own.low ho1 HW.out.size)
  clear hb1 ho1
  go_wp2_with fail
  refine (CE.out _ B1.out).mono ?_
  clear CE
  rintro e w2 ⟨hb2, v2, rfl, ho2⟩
  obtain ⟨a5, c5, rfl, y1, y2, y3, y4⟩ := own_byt ho2
  have B2 := Lib.hid (B1.out.trans (hb2.mono B1.out.size))
  have O2 := Lib.hid (Own.below O1.out hb2)
  have Y3 := Lib.hid y3
  obtain ⟨m, hm⟩ : ∃ m, q.length = m := ⟨_, rfl⟩
  have HM := Lib.hid hm
  have hsz := B2.out.size
  rw [hm] at h47 y1 ⊢
  have p1 : p.length + m ≤ 140737488355328 := by omega
  clear hb2 ho2 y3 hm B1 O1 HW
  go_wp2_with (at_builtin; refine wpl_app_len (t := 33) (e := 5) rfl (.tmp 7) (.tmp 9) rfl Tryz.underlying33 info5 w.heap.size v1 p q rfl O2.out a5 m c5 rfl Y3.out y4 HM p1 hsz ?_; intro v' w' hown' hgrow)
  have B3 : Hid (Below w.heap.size w w') := B2.out.grown hgrow hsz (fun k hk => (O2.out.lt k hk).1)
  have O3 : Hid (Own w' w.heap.size v' (p ++ q)) := hown'
  clear hown' hgrow
  go_wp2_with fail
  go_ret
  exact ⟨B3.out, _, rfl, O3.out⟩
set_option maxHeartbeats 1000000 in
set_option maxRecDepth 100000 in
theorem bytesof_nums (ao : Option Addr) (l : List (Int)) (n c : Nat) (w : World) (h : Zrw w ao l) (hln : l.length = n) (hc : n ≤ c) (hcc : c ≤ 9223372036854775807) (he : ∀ x ∈ l, 0 ≤ x ∧ x < 9223372036854775808) (h47 : (l.flatMap numL).length ≤ 140737488355318) :
    Calls Tryz.prog 107 #[.iface 130 (.slice ao n c)] w (Bys w (l.flatMap numL)) := by
  have CP := Lib.hid (each_int ao l n c w h hln hc hcc he (by omega))
  clear h hln he h47
  have a4 := no4 130 (by decide)
  have a3 := no3 130 (by decide)
  have a22 := no22 130 (by decide)
  have a9 := no9 130 (by decide)
  have a36 := no36 130 (by decide)
  have a47 := no47 130 (by decide)
  have a95 := no95 130 (by decide)
  have a49 := no49 130 (by decide)
  have a83 := is83
  go_enter Tryz.func107, Tryz.ntmps107
  go_wp2_with fail
  refine CP.out.mono ?_
  clear CP
  rintro e w1 ⟨hb, v, rfl, ho⟩
  have HB := Lib.hid hb
  have HO := Lib.hid ho
  clear hb ho
  go_wp2_with fail
  go_ret
  exact ⟨HB.out, _, rfl, HO.out⟩
set_option maxHeartbeats 1000000 in
set_option maxRecDepth 100000 in
theorem bytesof_keys (ao : Option Addr) (l : List (ByteArray)) (n c : Nat) (w : World) (h : Srw w ao l) (hln : l.length = n) (hc : n ≤ c) (hcc : c ≤ 9223372036854775807) (he : ∀ x ∈ l, keyOk x) (h47 : (l.flatMap keyL).length ≤ 140737488355318) :
    Calls Tryz.prog 107 #[.iface 182 (.slice ao n c)] w (Bys w (l.flatMap keyL)) := by
  have CP := Lib.hid (each_key ao l n c w h hln hc hcc he (by omega))
  clear h hln he h47
  have a4 := no4 182 (by decide)
  have a3 := no3 182 (by decide)
  have a22 := no22 182 (by decide)
  have a9 := no9 182 (by decide)
  have a36 := no36 182 (by decide)
  have a47 := no47 182 (by decide)
  have a95 := no95 182 (by decide)
  have a49 := no49 182 (by decide)
  have a83 := no83 182 (by decide)
  have a86 := is86
  go_enter Tryz.func107, Tryz.ntmps107
  go_wp2_with fail
  refine CP.out.mono ?_
  clear CP
  rintro e w1 ⟨hb, v, rfl, ho⟩
  have HB := Lib.hid hb
  have HO := Lib.hid ho
  clear hb ho
  go_wp2_with fail
  go_ret
  exact ⟨HB.out, _, rfl, HO.out⟩
set_option maxHeartbeats 1000000 in
set_option maxRecDepth 100000 in
theorem bytesof_ints (ao : Option Addr) (l : List (Int)) (n c : Nat) (w : World) (h : Zrw w ao l) (hln : l.length = n) (hc : n ≤ c) (hcc : c ≤ 9223372036854775807) (he : ∀ x ∈ l, 0 ≤ x ∧ x < 9223372036854775808) (h47 : (l.flatMap numL).length ≤ 140737488355318) :
    Calls Tryz.prog 107 #[.iface 35 (.slice ao n c)] w (Bys w (manyL numL l)) := by
  have CP := Lib.hid (row_int ao l n c w h hln hc hcc he h47)
  clear h hln he h47
  have a4 := no4 35 (by decide)
  have a3 := no3 35 (by decide)
  have a22 := no22 35 (by decide)
  have a9 := no9 35 (by decide)
  have a36 := no36 35 (by decide)
  have a47 := no47 35 (by decide)
  have a95 := no95 35 (by decide)
  have a49 := no49 35 (by decide)
  have a83 := no83 35 (by decide)
  have a86 := no86 35 (by decide)
  have a28 := is28
  go_enter Tryz.func107, Tryz.ntmps107
  go_wp2_with fail
  refine CP.out.mono ?_
  clear CP
  rintro e w1 ⟨hb, v, rfl, ho⟩
  have HB := Lib.hid hb
  have HO := Lib.hid ho
  clear hb ho
  go_wp2_with fail
  go_ret
  exact ⟨HB.out, _, rfl, HO.out⟩
set_option maxHeartbeats 1000000 in
set_option maxRecDepth 100000 in
theorem bytesof_strings (ao : Option Addr) (l : List (ByteArray)) (n c : Nat) (w : World) (h : Srw w ao l) (hln : l.length = n) (hc : n ≤ c) (hcc : c ≤ 9223372036854775807) (he : ∀ x ∈ l, x.size ≤ 1000000) (h47 : (l.flatMap textL).length ≤ 140737488355318) :
    Calls Tryz.prog 107 #[.iface 34 (.slice ao n c)] w (Bys w (manyL textL l)) := by
  have CP := Lib.hid (row_string ao l n c w h hln hc hcc he h47)
  clear h hln he h47
  have a4 := no4 34 (by decide)
  have a3 := no3 34 (by decide)
  have a22 := no22 34 (by decide)
  have a9 := no9 34 (by decide)
  have a36 := no36 34 (by decide)
  have a47 := no47 34 (by decide)
  have a95 := no95 34 (by decide)
  have a49 := no49 34 (by decide)
  have a83 := no83 34 (by decide)
  have a86 := no86 34 (by decide)
  have a28 := no28 34 (by decide)
  have a27 := is27
  go_enter Tryz.func107, Tryz.ntmps107
  go_wp2_with fail
  refine CP.out.mono ?_
  clear CP
  rintro e w1 ⟨hb, v, rfl, ho⟩
  have HB := Lib.hid hb
  have HO := Lib.hid ho
  clear hb ho
  go_wp2_with fail
  go_ret
  exact ⟨HB.out, _, rfl, HO.out⟩
set_option maxHeartbeats 1000000 in
set_option maxRecDepth 100000 in
theorem bytesof_keyrow (ao : Option Addr) (l : List (ByteArray)) (n c : Nat) (w : World) (h : Srw w ao l) (hln : l.length = n) (hc : n ≤ c) (hcc : c ≤ 9223372036854775807) (he : ∀ x ∈ l, keyOk x) (h47 : (l.flatMap keyL).length ≤ 140737488355318) :
    Calls Tryz.prog 107 #[.iface 181 (.slice ao n c)] w (Bys w (manyL keyL l)) := by
  have CP := Lib.hid (row_key ao l n c w h hln hc hcc he h47)
  clear h hln he h47
  have a4 := no4 181 (by decide)
  have a3 := no3 181 (by decide)
  have a22 := no22 181 (by decide)
  have a9 := no9 181 (by decide)
  have a36 := no36 181 (by decide)
  have a47 := no47 181 (by decide)
  have a95 := no95 181 (by decide)
  have a49 := no49 181 (by decide)
  have a83 := no83 181 (by decide)
  have a86 := no86 181 (by decide)
  have a28 := no28 181 (by decide)
  have a27 := no27 181 (by decide)
  have a31 := is31
  go_enter Tryz.func107, Tryz.ntmps107
  go_wp2_with fail
  refine CP.out.mono ?_
  clear CP
  rintro e w1 ⟨hb, v, rfl, ho⟩
  have HB := Lib.hid hb
  have HO := Lib.hid ho
  clear hb ho
  go_wp2_with fail
  go_ret
  exact ⟨HB.out, _, rfl, HO.out⟩
set_option maxHeartbeats 1000000 in
set_option maxRecDepth 100000 in
theorem bytesof_attrs (ao : Option Addr) (l : List (ByteArray × List UInt8)) (n c : Nat) (w : World) (h : Arw w ao l) (hln : l.length = n) (hc : n ≤ c) (hcc : c ≤ 9223372036854775807) (he : ∀ x ∈ l, x.1.size ≤ 1000000 ∧ x.2.length ≤ 1000000) (h47 : (l.flatMap attrL).length ≤ 140737488355318) :
    Calls Tryz.prog 107 #[.iface 36 (.slice ao n c)] w (Bys w (manyL attrL l)) := by
  have CP := Lib.hid (row_attr ao l n c w h hln hc hcc he h47)
  clear h hln he h47
  have a4 := no4 36 (by decide)
  have a3 := no3 36 (by decide)
  have a22 := no22 36 (by decide)
  have a9 := no9 36 (by decide)
  have a36 := no36 36 (by decide)
  have a47 := no47 36 (by decide)
  have a95 := no95 36 (by decide)
  have a49 := no49 36 (by decide)
  have a83 := no83 36 (by decide)
  have a86 := no86 36 (by decide)
  have a28 := no28 36 (by decide)
  have a27 := no27 36 (by decide)
  have a31 := no31 36 (by decide)
  have a23 := is23
  go_enter Tryz.func107, Tryz.ntmps107
  go_wp2_with fail
  refine CP.out.mono ?_
  clear CP
  rintro e w1 ⟨hb, v, rfl, ho⟩
  have HB := Lib.hid hb
  have HO := Lib.hid ho
  clear hb ho
  go_wp2_with fail
  go_ret
  exact ⟨HB.out, _, rfl, HO.out⟩
set_option maxHeartbeats 1000000 in
set_option maxRecDepth 100000 in
theorem bytesof_refs (ao : Option Addr) (l : List (RefP)) (n c : Nat) (w : World) (h : Rrw w ao l) (hln : l.length = n) (hc : n ≤ c) (hcc : c ≤ 9223372036854775807) (he : ∀ x ∈ l, okRef x) (h47 : (l.flatMap refL).length ≤ 140737488355318) :
    Calls Tryz.prog 107 #[.iface 94 (.slice ao n c)] w (Bys w (manyL refL l)) := by
  have CP := Lib.hid (row_ref ao l n c w h hln hc hcc he h47)
  clear h hln he h47
  have a4 := no4 94 (by decide)
  have a3 := no3 94 (by decide)
  have a22 := no22 94 (by decide)
  have a9 := no9 94 (by decide)
  have a36 := no36 94 (by decide)
  have a47 := no47 94 (by decide)
  have a95 := no95 94 (by decide)
  have a49 := no49 94 (by decide)
  have a83 := no83 94 (by decide)
  have a86 := no86 94 (by decide)
  have a28 := no28 94 (by decide)
  have a27 := no27 94 (by decide)
  have a31 := no31 94 (by decide)
  have a23 := no23 94 (by decide)
  have a24 := is24
  go_enter Tryz.func107, Tryz.ntmps107
  go_wp2_with fail
  refine CP.out.mono ?_
  clear CP
  rintro e w1 ⟨hb, v, rfl, ho⟩
  have HB := Lib.hid hb
  have HO := Lib.hid ho
  clear hb ho
  go_wp2_with fail
  go_ret
  exact ⟨HB.out, _, rfl, HO.out⟩
end Go.Proofs.YtcgbaiogbcodcaaGreatDoor.Sh
