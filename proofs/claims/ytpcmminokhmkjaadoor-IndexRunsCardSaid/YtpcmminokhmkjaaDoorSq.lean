/-
  The contract of the document's own Same. Conditions: each law's own.
-/
import Derived.Test.YtpcmminokhmkjaaDoorSo
namespace Go.Proofs.YtpcmminokhmkjaaDoor.St
open Go.Shelf Go.RowKit Go.Lib Go.Sort
set_option maxRecDepth 100000 in
theorem same_len (a b : Option Addr) (n m c1 c2 : Nat) (h : n ≠ m) (w : World) : Calls Tryd.prog 9 #[.slice a n c1, .slice b m c2] w fun e w' => e = .returned (.bool false) ∧ w' = w := by
  have h1 : ((n : Int) != (m : Int)) = true := by simp; omega
  have h2 : ((n : Int) == (m : Int)) = false := by simp; omega
  have h3 : (n == m) = false := by simpa using h
  go_enter Tryd.func9, Tryd.ntmps9
  go_wp2
  go_ret
  exact ⟨rfl, rfl⟩
/-- an entry's cells, where it lies -/
def At5 (w : World) (ao : Option Addr) (i : Nat) (e : Ent) : Prop := ∃ b o, ao = some ⟨b, o, none⟩ ∧ ∀ N os, (grow (w.drewN N) os).cell? ⟨b, o + i * 5, none⟩ = some (.string e.key) ∧ (grow (w.drewN N) os).cell? ⟨b, o + i * 5 + 1, none⟩ = some (.int .i64 e.pack) ∧ (grow (w.drewN N) os).cell? ⟨b, o + i * 5 + 2, none⟩ = some (.int .i64 e.off) ∧ (grow (w.drewN N) os).cell? ⟨b, o + i * 5 + 3, none⟩ = some (.int .i64 e.size) ∧ (grow (w.drewN N) os).cell? ⟨b, o + i * 5 + 4, none⟩ = some (.int .i64 e.refs)
theorem at5_of {w W : World} {ao : Option Addr} {l : List Ent} (h : Erw w ao l) (hg : Gw w W) (i : Nat) (hi : i < l.length) : At5 W ao i l[i]! := by
  obtain ⟨b, o, e, hb, hc⟩ := h (by intro h0; rw [h0] at hi; simp at hi)
  refine ⟨b, o, e, fun N os => ?_⟩
  have hG : Gw w (grow (W.drewN N) os) := Gw.trans hg ⟨N, os, rfl⟩
  have key : ∀ c u, (encE l[i]!)[c]? = some u → (grow (W.drewN N) os).cell? ⟨b, o + (i * 5 + c), none⟩ = some u := fun c u hu => by
    rw [hG.below.cell (p := ⟨b, o + (i * 5 + c), none⟩) hb]
    exact hc _ _ (cs_get l i hi c u hu)
  exact ⟨key 0 _ rfl, key 1 _ rfl, key 2 _ rfl, key 3 _ rfl, key 4 _ rfl⟩
set_option maxHeartbeats 8000000 in
set_option maxRecDepth 100000 in
theorem same_any (a1 a2 : Option Addr) (n c1 c2 : Nat) (l m : List Ent) (w : World) (h : Erw w a1 l) (k : Erw w a2 m) (hl : l.length = n) (hm : m.length = n) (hn2 : n ≤ 1099511627776) :
    Calls Tryd.prog 9 #[.slice a1 n c1, .slice a2 n c2] w fun e w' => e = .returned (.bool (decide (l = m))) ∧ Gw w w' := by
  have HT : Hid ((∀ q, q < n → l[q]! = m[q]!) → decide (l = m) = true) := fun hh => decide_eq_true (List.ext_getElem (by omega) fun q h1 h2 => by
    have := hh q (by omega)
    rwa [getElem!_pos l q h1, getElem!_pos m q h2] at this)
  have HF : Hid (∀ q, q < n → l[q]! ≠ m[q]! → decide (l = m) = false) := fun q _ hne => decide_eq_false fun he => hne (by rw [he])
  have H1 : Hid (∀ W, Gw w W → ∀ i, i < n → At5 W a1 i l[i]!) := fun W hg i hi => at5_of h hg i (by omega)
  have H2 : Hid (∀ W, Gw w W → ∀ i, i < n → At5 W a2 i m[i]!) := fun W hg i hi => at5_of k hg i (by omega)
  have G0 : Hid (Gw w w) := Gw.refl w
  have L0 : Hid (∀ q, q < 0 → l[q]! = m[q]!) := fun q hq => absurd hq (Nat.not_lt_zero _)
  have mixed : Tryd.prog.follows Departure.mixedOrders = true := by kernel_rfl
  clear h k hl hm
  go_enter Tryd.func9, Tryd.ntmps9
  go_wp2_with fail
  go_loopg [5] n (fun kx s5 wr => ∃ (i : Nat), s5 = .int .i64 i ∧ i ≤ n ∧ n - i ≤ kx ∧ Hid (Gw w wr) ∧ Hid (∀ q, q < i → l[q]! = m[q]!))
  case atStart => exact ⟨0, rfl, Nat.zero_le _, by omega, G0, L0⟩
  case round =>
    clear G0 L0
    obtain ⟨i, rfl, hin, hkx, G1, L1⟩ := hrel
    by_cases hlt : i < n
    · have hltz : (i : Int) < (n : Int) := by omega
      have pa1 : (0 : Int) ≤ (i : Int) := by omega
      obtain ⟨b1, o1, rfl, f1⟩ := H1.out wr G1.out i hlt
      obtain ⟨b2, o2, rfl, f2⟩ := H2.out wr G1.out i hlt
      have KE0 := fun W => ne_ent l[i]! m[i]! W
      obtain ⟨B, hB⟩ : ∃ B, B = decide (l[i]! = m[i]!) := ⟨_, rfl⟩
      rw [← hB] at KE0
      have HB := Lib.hid hB
      clear hB
      obtain ⟨x, hx⟩ : ∃ x, x = l[i]! := ⟨_, rfl⟩
      obtain ⟨y, hy⟩ : ∃ y, y = m[i]! := ⟨_, rfl⟩
      rw [← hx] at f1 KE0
      rw [← hy] at f2 KE0
      clear hx hy
      obtain ⟨k1, p1, q1, r1, s1⟩ := x
      obtain ⟨k2, p2, q2, r2, s2⟩ := y
      simp only [encE] at KE0
      have x0 := fun N os => (f1 N os).1
      have x1 := fun N os => (f1 N os).2.1
      have x2 := fun N os => (f1 N os).2.2.1
      have x3 := fun N os => (f1 N os).2.2.2.1
      have x4 := fun N os => (f1 N os).2.2.2.2
      have y0 := fun N os => (f2 N os).1
      have y1 := fun N os => (f2 N os).2.1
      have y2 := fun N os => (f2 N os).2.2.1
      have y3 := fun N os => (f2 N os).2.2.2.1
      have y4 := fun N os => (f2 N os).2.2.2.2
      simp only at x0 x1 x2 x3 x4 y0 y1 y2 y3 y4
      clear f1 f2
      cases B with
      | true =>
        have L2 : Hid (∀ q, q < i + 1 → l[q]! = m[q]!) := fun q hq => by
          rcases Nat.lt_or_eq_of_le (Nat.le_of_lt_succ hq) with c | rfl
          · exact L1.out q c
          · exact of_decide_eq_true HB.out.symm
        go_wp2_with fail
        go_quiet_grown (fail)
        have G2 : Hid (Gw w (grow (wr.drewN nq) osq)) := Gw.trans G1.out ⟨_, _, rfl⟩
        clear x0 x1 x2 x3 x4 y0 y1 y2 y3 y4
        generalize grow (wr.drewN nq) osq = w2 at G2 ⊢
        go_wp2_with fail
        go_roundg (n - (i + 1))
        case measure => omega
        case rel => exact ⟨i + 1, by go_num, by omega, Nat.le_refl _, G2, L2⟩
      | false =>
        have DF : Hid (decide (l = m) = false) := HF.out i hlt (of_decide_eq_false HB.out.symm)
        go_wp2_with fail
        go_quiet_grown (fail)
        go_wp2_with fail
        go_ret
        exact ⟨by rw [DF.out]; rfl, Gw.trans G1.out ⟨_, _, rfl⟩⟩
    · have hltz : ¬ (i : Int) < (n : Int) := by omega
      have DT : Hid (decide (l = m) = true) := HT.out (by rw [show n = i by omega]; exact L1.out)
      go_wp2_with fail
      go_ret
      exact ⟨by rw [DT.out]; rfl, G1.out⟩
end Go.Proofs.YtpcmminokhmkjaaDoor.St
