/-
  The contract of the document's own place. Conditions: each law's own.
-/
import Derived.Test.YtpcmminokhmkjaaDoorSo
namespace Go.Proofs.YtpcmminokhmkjaaDoor.St
open Go.Shelf Go.RowKit Go.Lib Go.Sort
attribute [local irreducible] Go.Region.wanted
set_option maxHeartbeats 8000000 in
set_option maxRecDepth 100000 in
theorem refplace_any (ao : Option Addr) (n cap : Nat) (l : List Ent) (k : ByteArray) (w : World) (h : Erw w ao l) (hn : l.length = n) (hn2 : n ≤ 1099511627776) :
    Calls Tryd.prog 40 #[.slice ao n cap, .string k] w fun e w' => e = .returned (.int .i64 (plc l k)) ∧ Gw w w' := by
  have HN := Lib.hid hn
  have HP : Hid (∀ i, i ≤ n → (∀ q, q < i → kl l[q]!.key k = true) → (i < n → kl l[i]!.key k = false) → plc l k = i) := fun i h1 h2 h3 => plc_of (by omega) h2 (by intro hh; exact h3 (by omega))
  have HC : Hid (∀ W, Gw w W → ∀ i, i < n → ∃ b o, ao = some ⟨b, o, none⟩ ∧ W.cell? ⟨b, o + i * 5, none⟩ = some (.string l[i]!.key)) := fun W hW i hi => by
    obtain ⟨b, o, e, hb, hc⟩ := h (by intro h0; rw [h0] at hn; simp at hn; omega)
    refine ⟨b, o, e, ?_⟩
    rw [hW.below.cell (p := ⟨b, o + i * 5, none⟩) hb]
    have := hc _ _ (cs_get l i (by omega) 0 (.string l[i]!.key) rfl)
    simpa using this
  have G0 : Hid (Gw w w) := Gw.refl w
  have L0 : Hid (∀ q, q < 0 → kl l[q]!.key k = true) := fun q hq => absurd hq (Nat.not_lt_zero _)
  clear hn h
  go_enter Tryd.func40, Tryd.ntmps40
  go_wp2_with fail
  go_loopg [5] n (fun kx s5 wr => ∃ (i : Nat), s5 = .int .i64 i ∧ i ≤ n ∧ n - i ≤ kx ∧ Hid (Gw w wr) ∧ Hid (∀ q, q < i → kl l[q]!.key k = true))
  case atStart => exact ⟨0, rfl, Nat.zero_le _, by omega, G0, L0⟩
  case round =>
    clear G0 L0
    obtain ⟨i, rfl, hin, hkx, G1, L1⟩ := hrel
    by_cases hlt : i < n
    · have hltz : (i : Int) < (n : Int) := by omega
      have hd1 : decide ((i : Int) < (n : Int)) = true := decide_eq_true hltz
      have hd2 : decide (i < n) = true := decide_eq_true hlt
      have pa1 : (0 : Int) ≤ (i : Int) := by omega
      obtain ⟨b, o, rfl, f0⟩ := HC.out wr G1.out i hlt
      cases hkl : kl l[i]!.key k with
      | true =>
        have hb0 : Op.bytesLess l[i]!.key.toList k.toList = true := hkl
        have L2 : Hid (∀ q, q < i + 1 → kl l[q]!.key k = true) := fun q hq => by
          rcases Nat.lt_or_eq_of_le (Nat.le_of_lt_succ hq) with c | rfl
          · exact L1.out q c
          · exact hkl
        generalize l[i]!.key = ek at f0 hb0
        clear hkl
        go_wp2_with fail
        go_roundg (n - (i + 1))
        case measure => omega
        case rel => exact ⟨i + 1, by go_num, by omega, Nat.le_refl _, G1, L2⟩
      | false =>
        have hb0 : Op.bytesLess l[i]!.key.toList k.toList = false := hkl
        have PL : Hid (plc l k = i) := HP.out i hin L1.out (fun _ => hkl)
        generalize l[i]!.key = ek at f0 hb0
        clear hkl
        go_wp2_with fail
        go_ret
        exact ⟨by rw [PL.out]; rfl, G1.out⟩
    · have hltz : ¬ (i : Int) < (n : Int) := by omega
      have hd1 : decide ((i : Int) < (n : Int)) = false := decide_eq_false hltz
      have hd2 : decide (i < n) = false := decide_eq_false hlt
      have PL : Hid (plc l k = i) := HP.out i hin L1.out (fun hh => absurd hh hlt)
      go_wp2_with fail
      go_ret
      exact ⟨by rw [PL.out]; rfl, G1.out⟩
end Go.Proofs.YtpcmminokhmkjaaDoor.St
