/-
  The contracts of space's place, and of the document's own Same. Conditions: each law's own.
-/
import Derived.Test.YtojmohlefbkkdaaWb
import Derived.Deep.LoopGhost
namespace Go.Proofs.Ytojmohlefbkkdaa.Sp
open Go.RowKit Go.Lib Go.WideShapes Go.ChangeAt

set_option maxHeartbeats 1000000 in
set_option maxRecDepth 100000 in
theorem same_any (ao bo : Option Addr) (l k : List Bool) (n m c d : Nat) (w : World) (h1 : Bol w ao l) (h2 : Bol w bo k) (hl : l.length = n) (hk : k.length = m) (hc : n ≤ c) (hd : m ≤ d) (hcc : c ≤ 9223372036854775807) (_hdd : d ≤ 9223372036854775807) :
    Calls Try.prog 8 #[.slice ao n c, .slice bo m d] w fun e w' => e = .returned (.bool (decide (l = k))) ∧ Below w.heap.size w w' := by
  by_cases hnm : n = m
  · subst hnm
    have t0 : ((n : Int) == (n : Int)) = true := by simp
    have H1 := Lib.hid h1
    have H2 := Lib.hid h2
    have HL := Lib.hid hl
    have HK := Lib.hid hk
    have B0 := Lib.hid (Below.refl w.heap.size w)
    clear h1 h2 hl hk
    go_enter Try.func8, Try.ntmps8
    go_wp2_with fail
    go_loopw [5] (fun vi wr => ∃ i : Nat, i ≤ n ∧ vi = .int .i64 i ∧ Hid (Below w.heap.size w wr) ∧ Hid (l.take i = k.take i)) (fun vi _ => n - (RowKit.intOf vi).toNat)
    case atStart => exact ⟨0, by omega, rfl, B0, by show _ = _; simp⟩
    case round =>
      obtain ⟨i, hi, rfl, hB, hT⟩ := hrel
      by_cases hin : i < n
      · obtain ⟨b, o, rfl, hb, hcell⟩ := bol_cell H1.out i (by have := HL.out; omega)
        obtain ⟨b2, o2, rfl, hb2, hcell2⟩ := bol_cell H2.out i (by have := HK.out; omega)
        obtain ⟨x, hx⟩ : ∃ y, l[i]? = some y := ⟨_, List.getElem?_eq_getElem (by have := HL.out; omega)⟩
        obtain ⟨y, hy⟩ : ∃ y, k[i]? = some y := ⟨_, List.getElem?_eq_getElem (by have := HK.out; omega)⟩
        have HX := Lib.hid hx
        have HY := Lib.hid hy
        have d1 : wr.cell? ⟨b, o + i, none⟩ = some (.bool x) := (hB.out.cell (p := ⟨b, o + i, none⟩) hb).trans (hcell i x hx)
        have d2 : wr.cell? ⟨b2, o2 + i, none⟩ = some (.bool y) := (hB.out.cell (p := ⟨b2, o2 + i, none⟩) hb2).trans (hcell2 i y hy)
        have q1 : (0 : Int) ≤ (i : Int) := by omega
        have q2 : (i : Int) < (n : Int) := by omega
        clear hx hy hcell hcell2 hb hb2
        by_cases hxy : x = y
        · have t : (x == y) = true := by simpa using hxy
          have HM : Hid (l.take (i + 1) = k.take (i + 1)) := by
            show _ = _
            rw [List.take_add_one, HX.out, List.take_add_one, HY.out, hT.out, hxy]
          have hB2 := Lib.hid hB.out.drew
          clear hxy hB
          go_wp2_with fail
          go_region
          generalize wr.drew = wd at *
          go_wp2_with fail
          go_roundw
          case rel => exact ⟨i + 1, by omega, by go_num, hB2, HM⟩
          case measure => simp [RowKit.intOf]; omega
        · have t : (x == y) = false := by simpa using hxy
          have E : Hid (decide (l = k) = false) := by
            show _ = _
            simp only [decide_eq_false_iff_not]
            intro h0
            have h3 := HX.out
            rw [h0, HY.out] at h3
            injection h3 with h3
            exact hxy h3.symm
          have hB2 := Lib.hid hB.out.drew
          clear hxy hB
          go_wp2_with fail
          go_region
          generalize wr.drew = wd at *
          go_wp2_with fail
          go_ret
          exact ⟨ret_bool E.out.symm, hB2.out⟩
      · obtain rfl : i = n := by omega
        have E : Hid (decide (l = k) = true) := by
          show _ = _
          simp only [decide_eq_true_eq]
          have h := hT.out
          rw [List.take_of_length_le (by rw [HL.out]; exact Nat.le_refl _), List.take_of_length_le (by rw [HK.out]; exact Nat.le_refl _)] at h
          exact h
        go_wp2_with fail
        go_ret
        exact ⟨ret_bool E.out.symm, hB.out⟩
  · have t0 : ((n : Int) == (m : Int)) = false := by simp; omega
    have E : Hid (decide (l = k) = false) := by
      show _ = _
      simp only [decide_eq_false_iff_not]
      intro h0
      exact hnm (by rw [← hl, ← hk, h0])
    clear h1 h2 hl hk hnm
    go_enter Try.func8, Try.ntmps8
    go_wp2_with fail
    go_ret
    exact ⟨ret_bool E.out.symm, Below.refl _ _⟩

/-- n free slots stand from k on -/
def Fits (l : List Bool) (n k : Nat) : Prop := k + n ≤ l.length ∧ ∀ j, k ≤ j → j < k + n → l[j]? = some false
theorem slice_bt (b o T c p n q : Nat) (h : p + n = q) (hq : q ≤ T) (hT : T ≤ c) (hn : 1 ≤ n) (W : World) :
    (Instr.slice 22 (.slice (some ⟨b, o, none⟩) T c) (some (.int .i64 (p : Int))) (some (.int .i64 (q : Int))) none).run Try.prog W = .ok (.slice (some ⟨b, o + p, none⟩) n (c - p)) W := by
  have hs := run_slice_lh (P := Try.prog) W 22 (some ⟨b, o, none⟩) T c (by rw [Try.underlying22]; rfl) .i64 .i64 (p : Int) (q : Int) (by omega) (by omega) (by omega)
  rw [hs]
  have e1 : ((p : Int)).toNat = p := by omega
  have e2 : ((q : Int)).toNat = q := by omega
  have e3 : Try.prog.elem 22 = 4 := by kernel_rfl
  rw [e1, e2, e3]
  simp [Try.sizeOf4, sliced, Result.andThen, Addr.add, show ¬ c = p by omega, show q - p = n by omega]
set_option maxHeartbeats 1000000 in
set_option maxRecDepth 100000 in
theorem place_any (ao : Option Addr) (l : List Bool) (m c n : Nat) (w : World) (h : Bol w ao l) (hl : l.length = m) (hc : m ≤ c) (hcc : c ≤ 9223372036854775807) (hn : 1 ≤ n) (hn2 : n ≤ 9223372036854775807) :
    Calls Try.prog 14 #[.slice ao m c, .int .i64 n] w fun e w' => w' = w ∧ ∃ p : Nat, (e = .returned (.tuple #[.int .i64 p, .bool true]) ∧ Fits l n p ∧ ∀ k, k < p → ¬ Fits l n k) ∨ (e = .returned (.tuple #[.int .i64 0, .bool false]) ∧ ∀ k, ¬ Fits l n k) := by
  have H := Lib.hid h
  have HL := Lib.hid hl
  have w1 : IntKind.i64.wrap ((m : Int) - n) = (m : Int) - n := IntWalk.i64_in _ (by omega)
  clear h hl
  go_enter Try.func14, Try.ntmps14
  go_wp2_with fail
  go_step3
  go_wp2_with fail
  go_step3
  go_wp2_with fail
  go_loopg [6] (m + 1) (fun g vp wx => ∃ p : Nat, p + g = m + 1 ∧ vp = .int .i64 p ∧ Hid (∀ k, k < p → ¬ Fits l n k) ∧ w = wx)
  case atStart => exact ⟨0, by omega, rfl, by intro k hk; omega, rfl⟩
  case round =>
    obtain ⟨p, hp, rfl, hT, rfl⟩ := hrel
    by_cases hpm : p + n ≤ m
    · obtain ⟨g, rfl⟩ : ∃ g, gk = g + 1 := ⟨gk - 1, by omega⟩
      obtain ⟨b, o, rfl, hb, hcell⟩ := bol_cell H.out p (by have := HL.out; omega)
      have k0 : decide ((p : Int) ≤ (m : Int) - n) = true := by simp; omega
      have w2 : IntKind.i64.wrap ((p : Int) + n) = ((p + n : Nat) : Int) := by rw [IntWalk.i64_in _ (by omega)]; omega
      have hsl := slice_bt b o m c p n (p + n) rfl hpm hc hn w
      have CE := Lib.hid hcell
      clear hcell
      go_wp2_with fail
      go_loopg [6, 22] n (fun g2 vp vi wy => ∃ i : Nat, i + g2 = n ∧ vp = .int .i64 p ∧ vi = .int .i64 i ∧ Hid (∀ j, p ≤ j → j < p + i → l[j]? = some false) ∧ w = wy)
      case atStart => exact ⟨0, by omega, rfl, rfl, by intro j h1 h2; omega, rfl⟩
      case round =>
        obtain ⟨i, hi, rfl, rfl, hJ, rfl⟩ := hrel
        by_cases hin : i < n
        · obtain ⟨g2, rfl⟩ : ∃ g, gk = g + 1 := ⟨gk - 1, by omega⟩
          obtain ⟨y, hy⟩ : ∃ y, l[p + i]? = some y := ⟨_, List.getElem?_eq_getElem (by have := HL.out; omega)⟩
          have HY := Lib.hid hy
          have d1 := CE.out (p + i) y hy
          rw [← Nat.add_assoc] at d1
          have q1 : (0 : Int) ≤ (i : Int) := by omega
          have q2 : (i : Int) < (n : Int) := by omega
          clear hy
          cases y with
          | false =>
            have HJ2 : Hid (∀ j, p ≤ j → j < p + (i + 1) → l[j]? = some false) := by
              intro j h1 h2
              by_cases h3 : j = p + i
              · rw [h3]; exact HY.out
              · exact hJ.out j h1 (by omega)
            go_wp2_with fail
            go_roundg g2
            case measure => omega
            case rel => exact ⟨i + 1, by omega, rfl, by go_num, HJ2, rfl⟩
          | true =>
            have HT2 : Hid (∀ k, k < p + (i + 1) → ¬ Fits l n k) := by
              intro k hk hf
              rcases Nat.lt_or_ge k p with h1 | h1
              · exact hT.out k h1 hf
              · have := hf.2 (p + i) (by omega) (by omega)
                rw [HY.out] at this
                cases this
            have w3 : IntKind.i64.wrap ((i : Int) + 1) = ((i + 1 : Nat) : Int) := by rw [IntWalk.i64_in _ (by omega)]; omega
            have w4 : IntKind.i64.wrap ((p : Int) + ((i + 1 : Nat) : Int)) = ((p + (i + 1) : Nat) : Int) := by rw [IntWalk.i64_in _ (by omega)]; omega
            go_wp2_with fail
            go_roundg (g - i)
            case measure => omega
            case rel => exact ⟨p + (i + 1), by omega, by go_num, HT2, rfl⟩
        · obtain rfl : i = n := by omega
          have HF : Hid (Fits l i p) := by
            refine ⟨by have := HL.out; omega, fun j h1 h2 => hJ.out j h1 h2⟩
          go_wp2_with fail
          (try rw [Exit.noGoto_ret])
          go_ret2
          exact ⟨rfl, p, .inl ⟨rfl, HF.out, hT.out⟩⟩
    · have k0 : decide ((p : Int) ≤ (m : Int) - n) = false := by simp; omega
      have HF : Hid (∀ k, ¬ Fits l n k) := by
        intro k hk
        rcases Nat.lt_or_ge k p with h1 | h1
        · exact hT.out k h1 hk
        · have := hk.1
          have := HL.out
          omega
      go_wp2_with fail
      (try rw [Exit.noGoto_ret])
      go_ret2
      exact ⟨rfl, 0, .inr ⟨rfl, HF.out⟩⟩
end Go.Proofs.Ytojmohlefbkkdaa.Sp
