/-
  The contract of super's Next. Conditions: at most a million packs.
-/
import Derived.Test.YtlpbkjonicjccaaDoorSg
namespace Go.Proofs.YtlpbkjonicjccaaDoor.Sh
open Go.RowKit Go.Lib

def nextL (s : SP) (r : ByteArray) (p : List Int) : Option SP := if okP s && okP ⟨s.g + 1, r, sortU ltI p⟩ then some ⟨s.g + 1, r, sortU ltI p⟩ else none
def nextE (o : Option SP) : Int := if o.isSome then 0 else 110
def AnsN (w : World) (o : Option SP) (e : Ending) (w' : World) : Prop := Below w.heap.size w w' ∧ ∃ v, e = .returned (.tuple #[v, .int .i64 (nextE o)]) ∧ SupF w' w.heap.size v (o.getD noSP)
theorem box_set {w W : World} {k : Nat} (h : Blk W k [.int .i64 0, .string ⟨#[]⟩, .slice none 0 0] 25) (g : Int) (r : ByteArray) (ao : Option Addr) (n c : Nat) :
    Bxs w (((W.setCell ⟨k, 0, none⟩ (.int .i64 g)).setCell ⟨k, 1, none⟩ (.string r)).setCell ⟨k, 2, none⟩ (.slice ao n c)) k g r ao n c := by
  have h3 := ((h.set 0 (.int .i64 g)).set 1 (.string r)).set 2 (.slice ao n c)
  exact ⟨h3.cell 0, h3.cell 1, h3.cell 2, h3.lt⟩
theorem far_new {W : World} {o : Obj} {a : Option Addr} (h : ∀ b q, a = some ⟨b, q, none⟩ → (W.alloc o).drew.heap.size ≤ b) : ∀ b q, a = some ⟨b, q, none⟩ → W.heap.size < b := fun b q e => by
  have h1 : (W.alloc o).heap.size ≤ b := h b q e
  rw [World.size_alloc] at h1
  omega
set_option maxHeartbeats 4000000 in
set_option maxRecDepth 100000 in
theorem next17 (s : SP) (v : Value) (r : ByteArray) (po : Option Addr) (p : List Int) (n c : Nat) (w : World) (h : SupV w v s) (hz : Zrw w po p) (hp : p.length = n) (hn : n ≤ 1000000) (hr : r.size ≤ 9223372036854775807) :
    Calls Tryd.prog 17 #[v, .string r, .slice po n c] w (AnsN w (nextL s r p)) := by
  obtain ⟨ao, cs, rfl, hsz, hsn, hsc, hsm, hsr⟩ := h
  obtain ⟨ns, hns⟩ : ∃ ns, ns = s.p.length := ⟨_, rfl⟩
  rw [← hns] at hsc ⊢
  have X0 := Bxs.blk (w := w) w s.g s.r ao ns cs
  have B1 := below_alloc' (Below.refl w.heap.size w) (Nat.le_refl _) (.cells #[.int .i64 s.g, .string s.r, .slice ao ns cs] 25)
  have K2 : Hid (Blk ((w.alloc (.cells #[.int .i64 s.g, .string s.r, .slice ao ns cs] 25)).alloc (.cells #[.int .i64 0, .string ⟨#[]⟩, .slice none 0 0] 25)) (w.heap.size + 1) [.int .i64 0, .string ⟨#[]⟩, .slice none 0 0] 25) := Blk.new _ _ _ _ (by simp)
  have B2 := Lib.hid (below_alloc' B1 (Nat.le_refl _) (.cells #[.int .i64 0, .string ⟨#[]⟩, .slice none 0 0] 25))
  have X2 := Lib.hid (X0.low (below_alloc' (Below.refl _ _) (Nat.le_refl _) (.cells #[.int .i64 0, .string ⟨#[]⟩, .slice none 0 0] 25)))
  have C19 := Lib.hid (okp_any s.g s.r ao s.p ns cs _ (hsz.below B2.out) hns.symm (by omega) hsr)
  have HZ := Lib.hid (fun (W : World) (hb : Below w.heap.size w W) => hz.below hb)
  have C27 := Lib.hid (fun (W : World) (hb : Below w.heap.size w W) => sorted27 po p n c hp hn W (hz.below hb))
  have x0 := X2.out.c0
  have x1 := X2.out.c1
  have x2 := X2.out.c2
  have HSL : (sortU ltI p).length ≤ 1000000 := Nat.le_trans (sortU_len ltI p) (by omega)
  clear X0 B1 hsz hns hz hp HZ
  have size2 := (Nat.lt_succ_self w.heap.size)
  have R0 : ∀ (w' : World) (cl : List Value) (o : Option SP) (t : SP) (er : Int), nextL s r p = o → o.getD noSP = t → nextE o = er → Below w.heap.size w w' → SupF w' w.heap.size (.agg cl.toArray) t → AnsN w (nextL s r p) (.returned (.tuple #[.agg cl.toArray, .int .i64 er])) w' := fun w' cl o t er h1 h2 h3 h4 h5 => ⟨h4, _, by rw [h1, h3], by rw [h1, h2]; exact h5⟩
  have HR0 := Lib.hid R0
  clear R0
  cases hok : okP s with
  | false =>
    have C19b := Lib.hid (C19.out.mono (R' := fun e w' => e = .returned (.bool false) ∧ Below _ _ w') fun e w' hh => ⟨by rw [hh.1]; exact congrArg (fun b => Ending.returned (.bool b)) hok, hh.2⟩)
    have HNX : Hid (nextL s r p = none) := by show _ = _; simp [nextL, hok]
    clear hok C19
    go_enter Tryd.func17, Tryd.ntmps17
    go_wp2_with fail
    refine C19b.out.mono ?_
    rintro e w3 ⟨rfl, b3⟩
    have K3 := Lib.hid (K2.out.low b3)
    have B3 := Lib.hid (below_chain B2.out b3)
    have t0 := K3.out.cell 0
    have t1 := K3.out.cell 1
    have t2 := K3.out.cell 2
    have tf := fun j => K3.out.frozen j
    simp only [List.getElem?_cons_zero, List.getElem?_cons_succ] at t0 t1 t2
    clear b3
    go_wp2_with fail
    exact bodyPost_ret (results_row_tmp rfl _ _ (w.heap.size + 1) 25 _ _ _ rfl rfl (((K3.out.set 0 (.int .i64 0)).set 1 (.string ⟨#[]⟩)).set 2 (.slice none 0 0)) Tryd.underlying25 rfl (size25 _ _ _)) rfl
      (HR0.out _ _ none noSP 110 HNX.out rfl rfl (((B3.out.setCell (p := ⟨w.heap.size + 1, 0, none⟩) (Nat.le_succ _) (.int .i64 0)).setCell (p := ⟨w.heap.size + 1, 1, none⟩) (Nat.le_succ _) (.string ⟨#[]⟩)).setCell (p := ⟨w.heap.size + 1, 2, none⟩) (Nat.le_succ _) (.slice none 0 0)) (supF_none _ _))
  | true =>
    have C19b := Lib.hid (C19.out.mono (R' := fun e w' => e = .returned (.bool true) ∧ Below _ _ w') fun e w' hh => ⟨by rw [hh.1]; exact congrArg (fun b => Ending.returned (.bool b)) hok, hh.2⟩)
    obtain ⟨_, _, _, _, hg1, hg2, _, _⟩ := okP_key hok
    have hwg : IntKind.i64.wrap (s.g + 1) = s.g + 1 := IntWalk.i64_in _ (by omega)
    have HNX : Hid (nextL s r p = if okP ⟨s.g + 1, r, sortU ltI p⟩ then some ⟨s.g + 1, r, sortU ltI p⟩ else none) := by show _ = _; simp [nextL, hok]
    clear hok C19
    go_enter Tryd.func17, Tryd.ntmps17
    go_wp2_with fail
    refine C19b.out.mono ?_
    rintro e w3 ⟨rfl, b3⟩
    have K3 := Lib.hid (K2.out.low b3)
    have B3 := Lib.hid (below_chain B2.out b3)
    have X3 := Lib.hid (X2.out.low b3)
    have BQ := Lib.hid (Below.refl w3.heap.size w3)
    have S0 : Hid (∀ W, Below w3.heap.size w3 W → W.cell? ⟨w.heap.size, 0, none⟩ = some (.int .i64 s.g)) := fun W hb => (X3.out.low hb).c0
    have D27 := Lib.hid (fun (W : World) (hb : Below w3.heap.size w3 W) => C27.out W (below_chain B3.out hb))
    clear b3 x0 x1 x2 C27
    go_wp2_with fail
    obtain ⟨L, hL⟩ : ∃ L, L = sortU ltI p := ⟨_, rfl⟩
    rw [← hL] at D27 HSL HNX
    clear hL
    go_cut [8] from 13 (fun s8 wx => ∃ k a c5, s8 = .pointer (some ⟨k, 0, none⟩) ∧ Hid (Bxs w wx k (s.g + 1) r a L.length c5 ∧ Zrw wx a L ∧ (a = none → c5 = 0) ∧ L.length ≤ c5 ∧ c5 ≤ 9223372036854775807 ∧ Below w3.heap.size w3 wx ∧ ∀ b o, a = some ⟨b, o, none⟩ → w3.heap.size ≤ b))
    case first =>
      go_region_held3 (fun W => W.cell? ⟨w.heap.size, 0, none⟩ = some (.int .i64 s.g))
        (first
          | (with_reducible refine S0.out _ ?_; (repeat' (first | (with_reducible exact BQ.out) | (with_reducible refine below_alloc' ?_ (Nat.le_refl _) _) | (with_reducible refine Below.drew ?_) | (with_reducible refine Below.setCell ?_ ?_ _) | (exact Nat.le_refl _) | (have := BQ.out.size; (first | omega | (simp; omega)))))))
        (first
          | (go_at_call 27; (with_reducible refine (D27.out _ (by (repeat' (first | (with_reducible exact BQ.out) | (with_reducible refine below_alloc' ?_ (Nat.le_refl _) _) | (with_reducible refine Below.drew ?_))))).mono ?_); rintro e w5 ⟨b5, a5, c5, rfl, hz5, hn5, hc5, hm5, hf5⟩
             have HF5 := Lib.hid hf5
             (first
               | ((with_reducible refine (fun (KA : Hid (Blk w5 _ [.int .i64 0, .string ⟨#[]⟩, .slice none 0 0] 25)) => ?_) (Lib.hid (Blk.low (Blk.drew (Blk.new _ [.int .i64 0, .string ⟨#[]⟩, .slice none 0 0] 25 _ rfl)) b5)))
                  have t0 := KA.out.cell 0
                  have t1 := KA.out.cell 1
                  have t2 := KA.out.cell 2
                  have tf := fun j => KA.out.frozen j
                  simp only [List.getElem?_cons_zero, List.getElem?_cons_succ] at t0 t1 t2)
               | skip)
             have HZ5 := Lib.hid hz5
             have HN5 := Lib.hid hn5
             have BQ : Hid (Below w3.heap.size w3 w5) := Lib.hid (below_chain (by (repeat' (first | (with_reducible exact BQ.out) | (with_reducible refine below_alloc' ?_ (Nat.le_refl _) _) | (with_reducible refine Below.drew ?_)))) b5)
             clear b5 hz5 hn5 hf5))
      all_goals
        go_wp2_with fail
        go_meet
        first
          | exact ⟨w5.heap.size, a5, c5, rfl, Lib.hid ⟨Bxs.blk (w := w) w5 _ _ _ _ _, HZ5.out.below (below_alloc' (Below.refl _ _) (Nat.le_refl _) _), HN5.out, hc5, hm5, below_alloc' BQ.out (Nat.le_refl _) _, fun b o e => HF5.out b o e⟩⟩
          | (have FF := far_new HF5.out
             exact ⟨w3.heap.size, a5, c5, rfl, Lib.hid ⟨box_set KA.out _ _ _ _ _, zrw_set (zrw_set (zrw_set HZ5.out _ _ FF) _ _ FF) _ _ FF, HN5.out, hc5, hm5,
               ((BQ.out.setCell (p := ⟨w3.heap.size, 0, none⟩) (Nat.le_refl _) _).setCell (p := ⟨w3.heap.size, 1, none⟩) (Nat.le_refl _) _).setCell (p := ⟨w3.heap.size, 2, none⟩) (Nat.le_refl _) _, fun b o e => Nat.le_of_lt (FF b o e)⟩⟩)
    case rest =>
      obtain ⟨k, a5, c5, rfl, HO⟩ := hcut
      obtain ⟨X5, Z5, hn5, hc5, hm5, b5, hf5⟩ := HO.out
      have HF5 : Hid (∀ b o, a5 = some ⟨b, o, none⟩ → w.heap.size + 1 < b) := fun b o e => Nat.lt_of_lt_of_le K3.out.lt (hf5 b o e)
      have K5 := Lib.hid (K3.out.low b5)
      have B5 := Lib.hid (below_chain B3.out b5)
      have C19c := Lib.hid (okp_any (s.g + 1) r a5 L L.length c5 _ Z5 rfl (by omega) hr)
      have x0 := X5.c0
      have x1 := X5.c1
      have x2 := X5.c2
      have HX5 := Lib.hid X5
      have HZ5 := Lib.hid Z5
      clear HO X5 Z5 b5 S0 D27 hf5
      cases hok2 : okP ⟨s.g + 1, r, L⟩ with
      | true =>
        have C19d := Lib.hid (C19c.out.mono (R' := fun e w' => e = .returned (.bool true) ∧ Below _ _ w') fun e w' hh => ⟨by rw [hh.1]; exact congrArg (fun b => Ending.returned (.bool b)) hok2, hh.2⟩)
        have HNX2 : Hid (nextL s r p = some ⟨s.g + 1, r, L⟩) := by show _ = _; rw [HNX.out, hok2]; rfl
        clear hok2 C19c
        go_wp2_with fail
        refine C19d.out.mono ?_
        rintro e w7 ⟨rfl, b7⟩
        have K7 := Lib.hid (K5.out.low b7)
        have B7 := Lib.hid (below_chain B5.out b7)
        have X7 := HX5.out.low b7
        have Z7 := Lib.hid (HZ5.out.below b7)
        have y0 := X7.c0
        have y1 := X7.c1
        have y2 := X7.c2
        have t0 := K7.out.cell 0
        have t1 := K7.out.cell 1
        have t2 := K7.out.cell 2
        have tf := fun j => K7.out.frozen j
        simp only [List.getElem?_cons_zero, List.getElem?_cons_succ] at t0 t1 t2
        clear b7 X7 x0 x1 x2
        go_wp2_with fail
        exact bodyPost_ret (results_row_tmp rfl _ _ (w.heap.size + 1) 25 _ _ _ rfl rfl (((K7.out.set 0 (.int .i64 (s.g + 1))).set 1 (.string r)).set 2 (.slice a5 L.length c5)) Tryd.underlying25 rfl (size25 _ _ _)) rfl
          (HR0.out _ _ (some ⟨s.g + 1, r, L⟩) (⟨s.g + 1, r, L⟩) 0 HNX2.out rfl rfl (((B7.out.setCell (p := ⟨w.heap.size + 1, 0, none⟩) (Nat.le_succ _) (.int .i64 (s.g + 1))).setCell (p := ⟨w.heap.size + 1, 1, none⟩) (Nat.le_succ _) (.string r)).setCell (p := ⟨w.heap.size + 1, 2, none⟩) (Nat.le_succ _) (.slice a5 L.length c5))
            ⟨a5, c5, rfl, zrw_set (zrw_set (zrw_set Z7.out _ _ HF5.out) _ _ HF5.out) _ _ HF5.out, hn5, hc5, hm5, hr, fun b o e => by have := HF5.out b o e; omega⟩)
      | false =>
        have C19d := Lib.hid (C19c.out.mono (R' := fun e w' => e = .returned (.bool false) ∧ Below _ _ w') fun e w' hh => ⟨by rw [hh.1]; exact congrArg (fun b => Ending.returned (.bool b)) hok2, hh.2⟩)
        have HNX2 : Hid (nextL s r p = none) := by show _ = _; rw [HNX.out, hok2]; rfl
        clear hok2 C19c
        go_wp2_with fail
        refine C19d.out.mono ?_
        rintro e w7 ⟨rfl, b7⟩
        have K7 := Lib.hid (K5.out.low b7)
        have B7 := Lib.hid (below_chain B5.out b7)
        have X7 := HX5.out.low b7
        have Z7 := Lib.hid (HZ5.out.below b7)
        have y0 := X7.c0
        have y1 := X7.c1
        have y2 := X7.c2
        have t0 := K7.out.cell 0
        have t1 := K7.out.cell 1
        have t2 := K7.out.cell 2
        have tf := fun j => K7.out.frozen j
        simp only [List.getElem?_cons_zero, List.getElem?_cons_succ] at t0 t1 t2
        clear b7 X7 x0 x1 x2
        go_wp2_with fail
        exact bodyPost_ret (results_row_tmp rfl _ _ (w.heap.size + 1) 25 _ _ _ rfl rfl (((K7.out.set 0 (.int .i64 0)).set 1 (.string ⟨#[]⟩)).set 2 (.slice none 0 0)) Tryd.underlying25 rfl (size25 _ _ _)) rfl
          (HR0.out _ _ (none) (noSP) 110 HNX2.out rfl rfl (((B7.out.setCell (p := ⟨w.heap.size + 1, 0, none⟩) (Nat.le_succ _) (.int .i64 0)).setCell (p := ⟨w.heap.size + 1, 1, none⟩) (Nat.le_succ _) (.string ⟨#[]⟩)).setCell (p := ⟨w.heap.size + 1, 2, none⟩) (Nat.le_succ _) (.slice none 0 0))
            (supF_none _ _))
end Go.Proofs.YtlpbkjonicjccaaDoor.Sh
