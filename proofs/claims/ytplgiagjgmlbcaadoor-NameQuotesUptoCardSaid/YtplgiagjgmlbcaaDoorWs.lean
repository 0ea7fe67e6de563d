/-
  The contract of name.Split: for every text it returns the names of the plain definition in new memory, whether it must be a directory's, and the error. Conditions: the library's tables and variables as their texts lay them; a text is not longer than a string can be.
-/
import Derived.Test.YtplgiagjgmlbcaaDoorWa
import Derived.Test.YtplgiagjgmlbcaaDoorWg
import Derived.Test.YtplgiagjgmlbcaaDoorPd
import Derived.OwnWalk
import Derived.WalkMore
import Derived.WideShapes
import Derived.Deep.LoopGhost
namespace Go.Proofs.YtplgiagjgmlbcaaDoor.Nm
open Go.RowKit Go.Lib

theorem info9 : (Tryd.prog.info? 9).map (fun i => (i.zero, i.size, i.bytes)) = some (some (.string ⟨#[]⟩), 1, 16) := by kernel_rfl

/-- a row of texts in memory -/
def Strs (w : World) (v : Value) (l : List ByteArray) : Prop :=
  ∃ ao cap, v = .slice ao l.length cap ∧ (l ≠ [] → ∃ b off, ao = some ⟨b, off, none⟩ ∧ b < w.heap.size ∧ ∀ j (h : j < l.length), w.cell? ⟨b, off + j, none⟩ = some (.string l[j]))

theorem strs_nil (w : World) : Strs w (.slice none 0 0) [] := ⟨none, 0, rfl, fun h => absurd rfl h⟩
theorem strs_own {w : World} {B : Nat} {v : Value} {l : List ByteArray} (h : w.ownsRow B 9 1 v l.length (l.map Value.string)) : Strs w v l := by
  have hh := h
  obtain ⟨_, ⟨rfl, hl⟩ | ⟨g, cap, cur, rfl, _, hg, _, _⟩⟩ := h
  · have : l = [] := by simpa using hl
    subst this
    exact strs_nil w
  · refine ⟨_, cap, rfl, fun _ => ⟨g, 0, rfl, (Array.getElem?_eq_some_iff.1 hg).1, fun j hj => ?_⟩⟩
    have hc := hh.cells (g := g) rfl j (.string l[j]) (by simp [hj])
    rw [WideShapes.add_plain] at hc
    exact hc
theorem strs_below {w w' : World} {v : Value} {l : List ByteArray} (h : Strs w v l) (hb : Below w.heap.size w w') : Strs w' v l := by
  obtain ⟨ao, cap, hv, hc⟩ := h
  refine ⟨ao, cap, hv, fun hl => ?_⟩
  obtain ⟨b, off, ha, hlt, hcell⟩ := hc hl
  exact ⟨b, off, ha, Nat.lt_of_lt_of_le hlt hb.size, fun j hj => (hb.cell (p := ⟨b, off + j, none⟩) hlt).trans (hcell j hj)⟩

/-- what Split leaves -/
def SPost (o : List ByteArray × Bool × Int) (w : World) (e : Ending) (w' : World) : Prop :=
  Below w.heap.size w w' ∧ ∃ v, e = .returned (.tuple #[v, .bool o.2.1, .int .i64 o.2.2]) ∧ Strs w' v o.1

theorem split_empty (s : ByteArray) (w : World) (h : s.toList.isEmpty = true) :
    Calls Tryd.prog 16 #[.string s] w fun e w' => e = .returned (.tuple #[.slice none 0 0, .bool false, .int .i64 206]) ∧ w = w' := by
  go_enter Tryd.func16, Tryd.ntmps16
  go_wp2_with fail
  go_step3
  go_wp2_with fail
  (try rw [Exit.noGoto_ret])
  go_ret3
  exact ⟨rfl, rfl⟩
theorem split_long (s : ByteArray) (w : World) (h : s.toList.isEmpty = false) (h1 : 1000 < s.size) :
    Calls Tryd.prog 16 #[.string s] w fun e w' => e = .returned (.tuple #[.slice none 0 0, .bool false, .int .i64 208]) ∧ w = w' := by
  go_enter Tryd.func16, Tryd.ntmps16
  go_wp2_with fail
  go_step3
  go_wp2_with fail
  (try rw [Exit.noGoto_ret])
  go_ret3
  exact ⟨rfl, rfl⟩
theorem split_head (s : ByteArray) (w : World) (h : s.toList.isEmpty = false) (h1 : ¬ 1000 < s.size) (h0 : 0 < s.size) (hb : (((s[0]'h0).toNat : Int) != 47) = true) :
    Calls Tryd.prog 16 #[.string s] w fun e w' => e = .returned (.tuple #[.slice none 0 0, .bool false, .int .i64 206]) ∧ w = w' := by
  go_enter Tryd.func16, Tryd.ntmps16
  go_wp2_with fail
  go_step3
  go_wp2_with fail
  (try rw [Exit.noGoto_ret])
  go_ret3
  exact ⟨rfl, rfl⟩

def outS (ns : List ByteArray) (er : Int) (d : Bool) : List ByteArray × Bool × Int := if er = 0 then (ns, d, 0) else ([], false, er)
theorem row_cell (w : World) (ps : List ByteArray) (j : Nat) (h : j < ps.length) : (w.alloc (.cells (ps.map Value.string).toArray 9)).cell? ⟨w.heap.size, j, none⟩ = some (.string ps[j]) := by
  rw [World.cell?_alloc_new]
  simp [h]

theorem one_new (w : World) (n : ByteArray) : ∀ j u, [Value.string n][j]? = some u → (w.alloc (.cells #[.string n] 9)).cell? ((⟨w.heap.size, 0, none⟩ : Addr).add j) = some u := by
  intro j u hj
  match j, hj with
  | 0, hj => simp at hj; subst hj; simp [Addr.add]
theorem one_cell (n : ByteArray) : ∀ u ∈ [Value.string n], u.oneCell' = true := by
  intro u hu
  simp at hu
  subst hu
  rfl
/-- a round of Split's loop that takes a name -/
theorem took {W wr w1 w2 : World} {B : Nat} {acc : List ByteArray} {n : ByteArray} {v v' : Value} (hbr : Below W.heap.size W wr) (h0 : Below wr.heap.size wr w1)
    (hown : wr.ownsRow B 9 1 v acc.length (acc.map Value.string)) (hlo : W.heap.size ≤ B) (hown' : w2.ownsRow B 9 1 v' (acc.length + 1) (acc.map Value.string ++ [Value.string n])) (hg : (w1.alloc (.cells #[.string n] 9)).grownBy w2 v.ownBlock) :
    w2.ownsRow B 9 1 v' (acc ++ [n]).length ((acc ++ [n]).map Value.string) ∧ Below W.heap.size W w2 := by
  refine ⟨by simpa using hown', ?_⟩
  have h1 : Below W.heap.size W w1 := hbr.trans (h0.mono hbr.size)
  have h2 : Below W.heap.size W (w1.alloc (.cells #[.string n] 9)) := h1.alloc h1.size _
  exact h2.grown hg h2.size (fun k hk => Nat.le_trans hlo (hown.lt k hk).1)

set_option maxHeartbeats 4000000 in
set_option maxRecDepth 100000 in
theorem split_in (s : ByteArray) (w : World) (hg : Glob w) (h : s.toList.isEmpty = false) (h1 : ¬ 1000 < s.size) (h0 : 0 < s.size) (hb : (((s[0]'h0).toNat : Int) != 47) = false)
    (ps : List ByteArray) (hps : Hid (ps = splitB ⟨#[47]⟩ 0 (countB s ⟨#[47]⟩) s)) (hpl : Hid (ps.length = countB s ⟨#[47]⟩ + 1)) (hpn : ps.length ≤ 1001) (ns : List ByteArray) (er : Int) (hgo : Hid (goN [] ps = (ns, er)))
    (d1 d2 : Bool) (hd1 : Hid (hasSuffix s.data.toList [47] = d1)) (hd2 : Hid (hasSuffix s.data.toList [47, 46] = d2)) :
    Calls Tryd.prog 16 #[.string s] w (SPost (outS ns er (d1 || d2)) w) := by
  obtain ⟨m, hm⟩ := hg.mlen
  have c1 := Tryd.strings_Split s ⟨#[47]⟩ m w (by omega) hm (by decide)
  rw [← hps.out, ← hpl.out] at c1
  have C1 := Lib.hid c1
  have c2 := Tryd.strings_HasSuffix s ⟨#[47]⟩
  rw [show (⟨#[47]⟩ : ByteArray).data.toList = [47] from rfl, hd1.out] at c2
  have C2 := Lib.hid c2
  have c3 := Tryd.strings_HasSuffix s ⟨#[47, 46]⟩
  rw [show (⟨#[47, 46]⟩ : ByteArray).data.toList = [47, 46] from rfl, hd2.out] at c3
  have C3 := Lib.hid c3
  obtain ⟨i0, hi, hz0, hz1, hz2⟩ := info_parts info9
  clear c1 c2 c3 hm hps hpl hd1 hd2
  go_enter Tryd.func16, Tryd.ntmps16
  go_wp2_with fail
  go_step3
  go_wp2_with fail
  go_step3
  go_wp2_with fail
  refine C1.out.mono ?_
  rintro e W ⟨rfl, hw1⟩
  have hbW : Below w.heap.size w W := by rw [hw1]; exact (Below.refl _ w).alloc (Nat.le_refl _) _
  have hsW : W.heap.size = w.heap.size + 1 := by rw [hw1]; simp
  have hcW : ∀ j (h : j < ps.length), W.cell? ⟨w.heap.size, j, none⟩ = some (.string ps[j]) := fun j hj => by rw [hw1]; exact row_cell w ps j hj
  clear hw1 C1
  have HSW := Lib.hid hsW
  have HCW := Lib.hid hcW
  clear hsW hcW
  go_wp2_with fail
  go_loopw [5, 23] (fun v i wr => ∃ (k : Nat) (acc : List ByteArray), i = .int .i64 k ∧ k ≤ ps.length ∧ wr.ownsRow (w.heap.size + 1) 9 1 v acc.length (acc.map Value.string) ∧ Below W.heap.size W wr ∧ Hid (goN acc (ps.drop k) = (ns, er)) ∧ acc.length ≤ k) (fun _ i _ => ps.length - (RowKit.intOf i).toNat)
  case atStart => exact ⟨0, [], rfl, Nat.zero_le _, World.ownsRow_nil _ _ _ _, Below.refl _ _, hgo.out, Nat.le_refl _⟩
  case round =>
    obtain ⟨k, acc, rfl, hk, hown, hbr, hgk, hal⟩ := hrel
    by_cases hkn : k < ps.length
    · have hcell : wr.cell? ⟨w.heap.size, k, none⟩ = some (.string ps[k]) := (hbr.cell (p := ⟨w.heap.size, k, none⟩) (by have := HSW.out; show w.heap.size < _; omega)).trans (HCW.out k hkn)
      have hdr : ps.drop k = ps[k] :: ps.drop (k + 1) := List.drop_eq_getElem_cons hkn
      have hgn := hgk.out
      rw [hdr] at hgn
      obtain ⟨n, hn⟩ : ∃ n, n = ps[k] := ⟨_, rfl⟩
      rw [← hn] at hcell hgn
      clear hdr hn hgk
      have hnt : n.toList = n.data.toList := toList_data n
      by_cases h0 : n.data.toList = [] ∨ n.data.toList = [46]
      · rw [goN_skip _ _ _ h0] at hgn
        have HG := Lib.hid hgn
        rw [← hnt] at h0
        clear hgn hnt
        rcases h0 with h0 | h0
        · have e1 : n.toList.isEmpty = true := by rw [h0]; rfl
          clear h0
          go_wp2_with fail
          go_roundw
          case rel => exact ⟨k + 1, acc, by go_num, by omega, hown, hbr, HG.out, by omega⟩
          case measure => simp [RowKit.intOf]; omega
        · have e1 : n.toList.isEmpty = false := by rw [h0]; rfl
          have e2 : (n.toList == [46]) = true := by rw [h0]; rfl
          clear h0
          go_wp2_with fail
          go_roundw
          case rel => exact ⟨k + 1, acc, by go_num, by omega, hown, hbr, HG.out, by omega⟩
          case measure => simp [RowKit.intOf]; omega
      · have e1 : n.toList.isEmpty = false := by
          rw [hnt]
          cases hd : n.data.toList with
          | nil => exact absurd (Or.inl hd) h0
          | cons _ _ => rfl
        have e2 : (n.toList == [46]) = false := by rw [hnt]; simpa using fun h => h0 (Or.inr h)
        by_cases h2 : n.data.toList = [46, 46]
        · rw [goN_up _ _ _ h2] at hgn
          have HG := Lib.hid hgn
          have e3 : (n.toList == [46, 46]) = true := by rw [hnt, h2]; rfl
          clear hgn hnt h0 h2
          go_wp2_with (at_builtin; refine wpList_append_own _ rfl _ _ 31 rfl (w.heap.size + 1) 9 i0 (.string ⟨#[]⟩) 1 16 Tryd.underlying31 hi hz0 hz1 hz2 rfl (by decide) _ _ _ rfl (hown.alloc _) ⟨wr.heap.size, 0, none⟩ 1 1 [.string n] rfl rfl (one_new _ _) (one_cell _) (by unfold maxLen; omega) (by omega) (by have h3 := hbr.size; have h4 := HSW.out; simp; omega) ?_; intro v' w3 hown' hgrow _)
          have R := took hbr (Below.refl _ _) hown (by have := HSW.out; omega) hown' hgrow
          clear hown' hgrow hown
          go_wp2_with fail
          go_roundw
          case rel => exact ⟨k + 1, acc ++ [n], by go_num, by omega, R.1, R.2, HG.out, by simp; omega⟩
          case measure => simp [RowKit.intOf]; omega
        · have e3 : (n.toList == [46, 46]) = false := by rw [hnt]; simpa using h2
          by_cases hc : checkL n.data.toList = 0
          · rw [goN_name _ _ _ h0 h2 hc] at hgn
            have HG := Lib.hid hgn
            have hck := check_any n
            rw [hc] at hck
            have HCK := Lib.hid hck
            clear hgn hnt h0 h2 hc hck
            go_wp2_with fail
            refine (HCK.out _).mono ?_
            rintro e w2 ⟨rfl, hb2⟩
            have hown2 : w2.ownsRow (w.heap.size + 1) 9 1 u5 acc.length (acc.map Value.string) := hown.kept (row := none) ⟨hb2.os, hb2.tape, hb2.output, hb2.size, fun i hi _ => hb2.block i hi⟩ (Classical.em _)
            have hz2' := hb2.size
            go_wp2_with (at_builtin; refine wpList_append_own _ rfl _ _ 31 rfl (w.heap.size + 1) 9 i0 (.string ⟨#[]⟩) 1 16 Tryd.underlying31 hi hz0 hz1 hz2 rfl (by decide) _ _ _ rfl (hown2.alloc _) ⟨w2.heap.size, 0, none⟩ 1 1 [.string n] rfl rfl (one_new _ _) (one_cell _) (by unfold maxLen; omega) (by omega) (by have h3 := hbr.size; have h4 := HSW.out; simp; omega) ?_; intro v' w3 hown' hgrow _)
            have R := took hbr hb2 hown (by have := HSW.out; omega) hown' hgrow
            clear hown' hgrow hown hown2
            go_wp2_with fail
            go_roundw
            case rel => exact ⟨k + 1, acc ++ [n], by go_num, by omega, R.1, R.2, HG.out, by simp; omega⟩
            case measure => simp [RowKit.intOf]; omega
          · rw [goN_bad _ _ _ h0 h2 hc] at hgn
            have hck := check_any n
            obtain ⟨q, hq⟩ : ∃ q, q = checkL n.data.toList := ⟨_, rfl⟩
            rw [← hq] at hck hgn hc
            have HCK := Lib.hid hck
            have HO : Hid (outS ns er (d1 || d2) = ([], false, q)) := by
              show outS ns er (d1 || d2) = _
              cases hgn
              rw [outS, if_neg hc]
            have e4 : (q != 0) = true := by simpa using hc
            clear hgn hnt h0 h2 hc hck hq
            go_wp2_with fail
            refine (HCK.out _).mono ?_
            rintro e w2 ⟨rfl, hb2⟩
            go_wp2_with fail
            (try rw [Exit.noGoto_ret])
            go_ret3
            rw [HO.out]
            exact ⟨hbW.trans ((hbr.trans (hb2.mono hbr.size)).mono hbW.size), _, rfl, strs_nil _⟩
    · have hkk : k = ps.length := by omega
      subst hkk
      have hgn := hgk.out
      rw [List.drop_eq_nil_of_le (Nat.le_refl _), goN] at hgn
      have HO : Hid (outS ns er (d1 || d2) = (acc, d1 || d2, 0)) := by
        show outS ns er (d1 || d2) = _
        cases hgn
        rw [outS, if_pos rfl]
      clear hgn hgk
      cases d1 with
      | true =>
        go_wp2_with fail
        refine (C2.out _ (by omega)).mono ?_
        rintro e w' ⟨rfl, rfl⟩
        go_wp2_with fail
        (try rw [Exit.noGoto_ret])
        go_ret3
        rw [HO.out]
        exact ⟨hbW.trans (hbr.mono hbW.size), _, rfl, strs_own hown⟩
      | false =>
        go_wp2_with fail
        refine (C2.out _ (by omega)).mono ?_
        rintro e w' ⟨rfl, rfl⟩
        go_wp2_with fail
        refine (C3.out _ (by omega)).mono ?_
        rintro e w' ⟨rfl, rfl⟩
        go_wp2_with fail
        (try rw [Exit.noGoto_ret])
        go_ret3
        rw [HO.out]
        exact ⟨hbW.trans (hbr.mono hbW.size), _, by simp, strs_own hown⟩
end Go.Proofs.YtplgiagjgmlbcaaDoor.Nm
