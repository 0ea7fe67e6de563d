/-
  What must come at any rate of index: heads. Conditions: none.
-/
import Derived.Test.YtpcmminokhmkjaaDoorTT
import Derived.Test.YtpcmminokhmkjaaDoorKz
namespace Go.Proofs.YtpcmminokhmkjaaDoor.St
open Go.Shelf Go.RowKit Go.Lib Go.Sort
/-- the key of nothing -/
def K0 : ByteArray := Sh.keyS 1 []
theorem k0_len : K0.size = 64 := by
  have h1 : (Sh.hexL (Sh.sumS (Sh.kb 1 :: []))).length = 64 := by rw [Sh.hexL_len, Sh.sumS_len]
  exact h1
theorem k0_ok : (Sh.keyBytes K0.data.toList).isSome = true := by
  have h1 : Sh.keyBytes K0.data.toList = some (Sh.sumS (Sh.kb 1 :: [])) := Sh.keyBytes_back _ (Sh.sumS_len _)
  rw [h1]
  rfl
theorem okE_k0 (a b c d : Int) (h1 : 0 ≤ a) (h2 : a < 62) (h3 : 0 ≤ b) (h4 : b < 16384) (h5 : 1 ≤ c) (h6 : c ≤ 16384) (h7 : 0 ≤ d) (h8 : d ≤ 2147483648) : okE ⟨K0, a, b, c, d⟩ = true := okE_yes _ _ _ _ _ k0_ok h1 h2 h3 h4 h5 h6 h7 h8
theorem chk_one (x : Ent) (h : okE x = true) : chk [x] = true := by
  unfold chk chkN
  simp [kP, h]
theorem plc_one (x : Ent) : plc [x] x.key = 0 := by simp [plc, kl_ir]
theorem plcE_one (x : Ent) : plcE [x] x.key = 1 := by unfold plcE; rw [plc_one]; simp
theorem hasK_one (x : Ent) : hasK [x] x.key = true := by unfold hasK; rw [plc_one]; simp
theorem kz_one (x : Ent) (h : x.key.size ≤ 9223372036854775807) : Kz [x] := fun i hi => by
  rw [show i = 0 by simp at hi; omega]
  exact h
theorem wth_one (x y : Ent) (h : x.key = y.key) : wth [x] y = [y] := by
  rw [wth_ins]
  simp [insE, h, kl_ir]
theorem mrg_two (x y : Ent) (h : x.key = y.key) : mrg [[x], [y]] = [x] := by
  show wth (wth [] y) x = [x]
  rw [show wth [] y = [y] from by rw [wth_ins]; rfl, wth_one y x h.symm]
theorem own_one {w : World} {B : Nat} {v : Value} {x : Ent} (h : OwnE w B v [x]) : ∃ g c, v = .slice (some ⟨g, 0, none⟩) 1 c ∧ 1 ≤ c ∧ c ≤ 9223372036854775807 ∧ Erw w (some ⟨g, 0, none⟩) [x] := by
  obtain ⟨ao, c, rfl, h1, h2, h3, _⟩ := own_erw h
  obtain ⟨_, ⟨_, h0⟩ | ⟨g, cap, cur, e, _⟩⟩ := h
  · simp at h0
  · injection e with e1 e2 e3
    subst e1 e3
    exact ⟨g, c, rfl, h1, h2, h3⟩
theorem erw_cells {W : World} {b o : Nat} {x : Ent} (h : Erw W (some ⟨b, o, none⟩) [x]) : b < W.heap.size ∧ ∀ j u, (encE x)[j]? = some u → W.cell? ⟨b, o + j, none⟩ = some u := by
  obtain ⟨b', o', e, hb, hc⟩ := h (by simp)
  injection e with e
  injection e with e1 e2
  subst e1 e2
  exact ⟨hb, fun j u hu => hc j u (by simpa [cs] using hu)⟩
set_option maxHeartbeats 1000000 in
set_option maxRecDepth 100000 in
theorem merge_heads (w1 : World) (k : ByteArray) (hk : k = K0) :
    Calls Tryd.prog 7 #[.slice (some ⟨w1.heap.size + 1 + 1 + 1 + 1, 0, none⟩) 2 2] (((((w1.alloc (.cells #[.string k, .int .i64 1, .int .i64 0, .int .i64 9, .int .i64 0] 31)).alloc (.cells #[.string k, .int .i64 2, .int .i64 0, .int .i64 9, .int .i64 1] 31)).alloc (.cells #[.string k, .int .i64 1, .int .i64 0, .int .i64 9, .int .i64 0] 31)).alloc (.cells #[.string k, .int .i64 2, .int .i64 0, .int .i64 9, .int .i64 1] 31)).alloc (.cells #[.slice (some ⟨w1.heap.size + 1 + 1, 0, none⟩) 1 1, .slice (some ⟨w1.heap.size + 1 + 1 + 1, 0, none⟩) 1 1] 22))
      fun e w' => Below w1.heap.size w1 w' ∧ Erw w' (some ⟨w1.heap.size, 0, none⟩) [⟨k, 1, 0, 9, 0⟩] ∧ Erw w' (some ⟨w1.heap.size + 1, 0, none⟩) [⟨k, 2, 0, 9, 1⟩] ∧ ∃ b o c, e = .returned (.tuple #[.slice (some ⟨b, o, none⟩) 1 c, .int .i64 0]) ∧ Erw w' (some ⟨b, o, none⟩) [⟨k, 1, 0, 9, 0⟩] ∧ 1 ≤ c ∧ c ≤ 9223372036854775807 := by
  subst hk
  obtain ⟨k, hk⟩ : ∃ k, k = K0 := ⟨_, rfl⟩
  have okA : okE ⟨K0, 1, 0, 9, 0⟩ = true := okE_k0 _ _ _ _ (by omega) (by omega) (by omega) (by omega) (by omega) (by omega) (by omega) (by omega)
  have okB : okE ⟨K0, 2, 0, 9, 1⟩ = true := okE_k0 _ _ _ _ (by omega) (by omega) (by omega) (by omega) (by omega) (by omega) (by omega) (by omega)
  have kz : K0.size ≤ 9223372036854775807 := by rw [k0_len]; omega
  rw [← hk] at okA okB kz ⊢
  have eA := erw_one w1 ⟨k, 1, 0, 9, 0⟩
  have eB := erw_one (w1.alloc (.cells #[.string k, .int .i64 1, .int .i64 0, .int .i64 9, .int .i64 0] 31)) ⟨k, 2, 0, 9, 1⟩
  have eA2 := erw_one ((w1.alloc (.cells #[.string k, .int .i64 1, .int .i64 0, .int .i64 9, .int .i64 0] 31)).alloc (.cells #[.string k, .int .i64 2, .int .i64 0, .int .i64 9, .int .i64 1] 31)) ⟨k, 1, 0, 9, 0⟩
  have eB2 := erw_one (((w1.alloc (.cells #[.string k, .int .i64 1, .int .i64 0, .int .i64 9, .int .i64 0] 31)).alloc (.cells #[.string k, .int .i64 2, .int .i64 0, .int .i64 9, .int .i64 1] 31)).alloc (.cells #[.string k, .int .i64 1, .int .i64 0, .int .i64 9, .int .i64 0] 31)) ⟨k, 2, 0, 9, 1⟩
  simp only [encE] at eA eB eA2 eB2
  obtain ⟨WM, hWM⟩ : ∃ WM, WM = (((((w1.alloc (.cells #[.string k, .int .i64 1, .int .i64 0, .int .i64 9, .int .i64 0] 31)).alloc (.cells #[.string k, .int .i64 2, .int .i64 0, .int .i64 9, .int .i64 1] 31)).alloc (.cells #[.string k, .int .i64 1, .int .i64 0, .int .i64 9, .int .i64 0] 31)).alloc (.cells #[.string k, .int .i64 2, .int .i64 0, .int .i64 9, .int .i64 1] 31)).alloc (.cells #[.slice (some ⟨w1.heap.size + 1 + 1, 0, none⟩) 1 1, .slice (some ⟨w1.heap.size + 1 + 1 + 1, 0, none⟩) 1 1] 22)) := ⟨_, rfl⟩
  have fA : Erw WM (some ⟨w1.heap.size, 0, none⟩) [⟨k, 1, 0, 9, 0⟩] := by rw [hWM]; exact erw_alloc (erw_alloc (erw_alloc (erw_alloc eA _) _) _) _
  have fB : Erw WM (some ⟨w1.heap.size + 1, 0, none⟩) [⟨k, 2, 0, 9, 1⟩] := by rw [hWM]; have := erw_alloc (erw_alloc (erw_alloc eB (.cells #[.string k, .int .i64 1, .int .i64 0, .int .i64 9, .int .i64 0] 31)) (.cells #[.string k, .int .i64 2, .int .i64 0, .int .i64 9, .int .i64 1] 31)) (.cells #[.slice (some ⟨w1.heap.size + 1 + 1, 0, none⟩) 1 1, .slice (some ⟨w1.heap.size + 1 + 1 + 1, 0, none⟩) 1 1] 22); rwa [World.size_alloc] at this
  have fA2 : Erw WM (some ⟨w1.heap.size + 1 + 1, 0, none⟩) [⟨k, 1, 0, 9, 0⟩] := by rw [hWM]; have := erw_alloc (erw_alloc eA2 (.cells #[.string k, .int .i64 2, .int .i64 0, .int .i64 9, .int .i64 1] 31)) (.cells #[.slice (some ⟨w1.heap.size + 1 + 1, 0, none⟩) 1 1, .slice (some ⟨w1.heap.size + 1 + 1 + 1, 0, none⟩) 1 1] 22); rwa [World.size_alloc, World.size_alloc] at this
  have fB2 : Erw WM (some ⟨w1.heap.size + 1 + 1 + 1, 0, none⟩) [⟨k, 2, 0, 9, 1⟩] := by rw [hWM]; have := erw_alloc eB2 (.cells #[.slice (some ⟨w1.heap.size + 1 + 1, 0, none⟩) 1 1, .slice (some ⟨w1.heap.size + 1 + 1 + 1, 0, none⟩) 1 1] 22); rwa [World.size_alloc, World.size_alloc, World.size_alloc] at this
  have hsz : WM.heap.size = w1.heap.size + 1 + 1 + 1 + 1 + 1 := by rw [hWM]; simp
  have hb : Below w1.heap.size w1 WM := by rw [hWM]; exact (((((Below.refl _ w1).alloc (Nat.le_refl _) _).alloc (by simp) _).alloc (by simp; omega) _).alloc (by simp; omega) _).alloc (by simp; omega) _
  have hcell := World.cell?_alloc_new ((((w1.alloc (.cells #[.string k, .int .i64 1, .int .i64 0, .int .i64 9, .int .i64 0] 31)).alloc (.cells #[.string k, .int .i64 2, .int .i64 0, .int .i64 9, .int .i64 1] 31)).alloc (.cells #[.string k, .int .i64 1, .int .i64 0, .int .i64 9, .int .i64 0] 31)).alloc (.cells #[.string k, .int .i64 2, .int .i64 0, .int .i64 9, .int .i64 1] 31)) #[Value.slice (some ⟨w1.heap.size + 1 + 1, 0, none⟩) 1 1, .slice (some ⟨w1.heap.size + 1 + 1 + 1, 0, none⟩) 1 1] 22
  rw [show ((((w1.alloc (.cells #[.string k, .int .i64 1, .int .i64 0, .int .i64 9, .int .i64 0] 31)).alloc (.cells #[.string k, .int .i64 2, .int .i64 0, .int .i64 9, .int .i64 1] 31)).alloc (.cells #[.string k, .int .i64 1, .int .i64 0, .int .i64 9, .int .i64 0] 31)).alloc (.cells #[.string k, .int .i64 2, .int .i64 0, .int .i64 9, .int .i64 1] 31)).heap.size = w1.heap.size + 1 + 1 + 1 + 1 by simp, ← hWM] at hcell
  rw [← hWM]
  clear hWM eA eB eA2 eB2
  refine (merge_ok (w1.heap.size + 1 + 1 + 1 + 1) 0 2 2 [[⟨k, 1, 0, 9, 0⟩], [⟨k, 2, 0, 9, 1⟩]] WM (rws2 WM _ _ _ _ _ 1 1 1 1 fA2 fB2 rfl rfl (fun h => by cases h) (fun h => by cases h) (hcell 0) (hcell 1)) rfl (by omega) (by omega) (by simp)
    (fun i hi q hq => ?_) (fun i hi => ?_)).mono ?_
  · rcases (show i = 0 ∨ i = 1 by simp at hi; omega) with rfl | rfl
    · rw [show q = 0 by simpa using hq]; exact kz
    · rw [show q = 0 by simpa using hq]; exact kz
  · rcases (show i = 0 ∨ i = 1 by simp at hi; omega) with rfl | rfl
    · exact chk_one _ okA
    · exact chk_one _ okB
  · rintro e w' ⟨hB, ao, r, c, rfl, hm, he, hn, h1, h2⟩
    have hr := mrg_is hm (by
      intro x hx
      rcases List.mem_cons.1 hx with rfl | hx
      · exact chk_one _ okA
      · rcases List.mem_cons.1 hx with rfl | hx
        · exact chk_one _ okB
        · cases hx)
    rw [mrg_two ⟨k, 1, 0, 9, 0⟩ ⟨k, 2, 0, 9, 1⟩ rfl] at hr
    subst hr
    obtain ⟨b, o, rfl, _⟩ := he (by simp)
    exact ⟨hb.trans (hB.mono (by omega)), fA.below hB, fB.below hB, b, o, c, rfl, he, h1, h2⟩
theorem get1 (b o c : Nat) (x : Ent) (W : World) (h : Erw W (some ⟨b, o, none⟩) [x]) (hz : x.key.size ≤ 9223372036854775807) (hok : okE x = true) :
    Calls Tryd.prog 8 #[.slice (some ⟨b, o, none⟩) 1 c, .string x.key] W fun e w' => Below W.heap.size W w' ∧ e = .returned (.tuple #[.agg (encE x).toArray, .bool true]) := by
  have := get_any (some ⟨b, o, none⟩) 1 c [x] x.key W h rfl (by omega) (kz_one x hz)
  rw [show getE [x] x.key = (x, true) from by rw [getE, if_pos ⟨chk_one x hok, hasK_one x⟩, plc_one]; rfl] at this
  exact this
theorem put1 (b o c : Nat) (x y : Ent) (W : World) (h : Erw W (some ⟨b, o, none⟩) [x]) (h1 : 1 ≤ c) (h2 : c ≤ 9223372036854775807) (hk : x.key = y.key) (hz : y.key.size ≤ 9223372036854775807) (hx : okE x = true) (hy : okE y = true) :
    Calls Tryd.prog 13 #[.slice (some ⟨b, o, none⟩) 1 c, .agg (encE y).toArray] W fun e w' => Below W.heap.size W w' ∧ ∃ v, e = .returned (.tuple #[v, .int .i64 0]) ∧ OwnE w' W.heap.size v [y] := by
  have := put_ok (some ⟨b, o, none⟩) 1 c [x] y W h rfl h1 h2 (fun h => by cases h) (by omega) hz hy (kz_one x (by rw [hk]; exact hz)) (chk_one x hx)
  rwa [wth_one x y hk] at this
theorem refer1 (b o c : Nat) (x : Ent) (r : Int) (W : World) (h : Erw W (some ⟨b, o, none⟩) [x]) (h1 : 1 ≤ c) (h2 : c ≤ 9223372036854775807) (hz : x.key.size ≤ 9223372036854775807) (hx : okE x = true) (hy : okE (refE x r) = true) (hw : IntKind.i64.wrap (x.refs + r) = x.refs + r) :
    Calls Tryd.prog 14 #[.slice (some ⟨b, o, none⟩) 1 c, .string x.key, .int .i64 r] W fun e w' => Below W.heap.size W w' ∧ ∃ v, e = .returned (.tuple #[v, .int .i64 0]) ∧ OwnE w' W.heap.size v [refE x r] := by
  have e0 : ([x] : List Ent)[plc [x] x.key]! = x := by rw [plc_one]; rfl
  have := refer_ok (some ⟨b, o, none⟩) 1 c [x] x.key r W h rfl h1 h2 (fun h => by cases h) (by omega) (kz_one x hz) (chk_one x hx) (hasK_one x) (by rw [e0]; exact hy) (by rw [e0]; exact hw)
  rw [e0, plc_one, plcE_one] at this
  simpa using this
theorem del1 (b o c : Nat) (x : Ent) (W : World) (h : Erw W (some ⟨b, o, none⟩) [x]) (h1 : 1 ≤ c) (h2 : c ≤ 9223372036854775807) (hz : x.key.size ≤ 9223372036854775807) (hx : okE x = true) :
    Calls Tryd.prog 15 #[.slice (some ⟨b, o, none⟩) 1 c, .string x.key] W fun e w' => Below W.heap.size W w' ∧ ∃ ao c', e = .returned (.tuple #[.slice ao 0 c', .int .i64 0]) := by
  refine (del_ok (some ⟨b, o, none⟩) 1 c [x] x.key W h rfl h1 h2 (fun h => by cases h) (by omega) (kz_one x hz) (chk_one x hx) (hasK_one x)).mono ?_
  rintro e w' ⟨hb, v, rfl, ho⟩
  rw [plc_one] at ho
  obtain ⟨ao, c', rfl, _⟩ := own_erw (l := []) ho
  exact ⟨hb, ao, c', rfl⟩
theorem del0 (ao : Option Addr) (c : Nat) (k : ByteArray) (W : World) :
    Calls Tryd.prog 15 #[.slice ao 0 c, .string k] W fun e w' => Below W.heap.size W w' ∧ e = .returned (.tuple #[.slice none 0 0, .int .i64 140]) :=
  del_none ao 0 c [] k W (erw_nil _ _) rfl (by omega) (fun i hi => absurd hi (Nat.not_lt_zero _)) rfl (by simp [hasK])
set_option maxHeartbeats 8000000 in
set_option maxRecDepth 100000 in
theorem heads_any (w : World) : Calls Tryd.prog 6 #[] w fun e w' => e = .returned (.bool true) ∧ Below w.heap.size w w' := by
  have C12 := Lib.hid (Sh.refof_any 1 none [] 0 0 w (fun h => absurd rfl h) (fun _ => rfl) rfl (by omega))
  have KL : K0.size ≤ 9223372036854775807 := by rw [k0_len]; omega
  have HKL := Lib.hid KL
  clear KL
  obtain ⟨k, hk⟩ : ∃ k, k = K0 := ⟨_, rfl⟩
  have HK := Lib.hid hk
  have e12 : Sh.keyS 1 [] = k := hk.symm
  rw [e12] at C12
  have HKZ : Hid (k.size ≤ 9223372036854775807) := by show _ ≤ _; rw [hk]; exact HKL.out
  have OKA : Hid (okE ⟨k, 1, 0, 9, 0⟩ = true) := by show _ = _; rw [hk]; exact okE_k0 _ _ _ _ (by omega) (by omega) (by omega) (by omega) (by omega) (by omega) (by omega) (by omega)
  have OKB : Hid (okE ⟨k, 2, 0, 9, 1⟩ = true) := by show _ = _; rw [hk]; exact okE_k0 _ _ _ _ (by omega) (by omega) (by omega) (by omega) (by omega) (by omega) (by omega) (by omega)
  have OKN : Hid (okE (refE ⟨k, 2, 0, 9, 1⟩ 2) = true) := by show okE ⟨k, 2, 0, 9, 1 + 2⟩ = _; rw [hk]; exact okE_k0 _ _ _ _ (by omega) (by omega) (by omega) (by omega) (by omega) (by omega) (by omega) (by omega)
  have CKN : Hid (chk [⟨k, 2, 0, 9, 3⟩] = true) := chk_one _ OKN.out
  clear e12 hk
  go_enter Tryd.func6, Tryd.ntmps6
  go_wp2_with (first
    | (go_at_call 12; refine C12.out.mono ?_; rintro e w1 ⟨rfl, b1⟩
       have B1 := Lib.hid b1
       have C7 := Lib.hid (merge_heads w1 k HK.out)
       clear b1 C12)
    | (go_at_call 7; refine C7.out.mono ?_; rintro e w2 ⟨b2, eA, eB, b, o, c, rfl, eL, hc1, hc2⟩
       have B2 : Hid (Below w.heap.size w w2) := Sh.below_chain B1.out b2
       have EA := Lib.hid eA
       have EB := Lib.hid eB
       have EL := Lib.hid eL
       have cB := (erw_cells eB).2
       have b0 := cB 0 _ rfl
       have b1 := cB 1 _ rfl
       have b2' := cB 2 _ rfl
       have b3 := cB 3 _ rfl
       have b4 := cB 4 _ rfl
       have C13 := Lib.hid (put1 b o c ⟨k, 1, 0, 9, 0⟩ ⟨k, 2, 0, 9, 1⟩ w2 eL hc1 hc2 rfl HKZ.out OKA.out OKB.out)
       clear b2 hc1 hc2 C7 B1 cB
       generalize w1.heap.size = n1 at *)
    | (go_at_call 13; refine C13.out.mono ?_; rintro e w3 ⟨b3x, v3, rfl, hown⟩
       have B3 : Hid (Below w.heap.size w w3) := Sh.below_chain B2.out b3x
       obtain ⟨g3, c3, rfl, hc31, hc32, eM⟩ := own_one hown
       have EA3 := Lib.hid (EA.out.below b3x)
       have EB3 := Lib.hid (EB.out.below b3x)
       have EL3 := Lib.hid (EL.out.below b3x)
       have EM3 := Lib.hid eM
       have C8' := get1 g3 0 c3 ⟨k, 2, 0, 9, 1⟩ w3 eM HKZ.out OKB.out
       simp only [encE] at C8'
       have C8 := Lib.hid C8'
       clear C8'
       clear b3x hown eM C13 EA EB EL b0 b1 b2' b3 b4 eA eB eL)
    | (go_at_call 8; refine C8.out.mono ?_; rintro e w4 ⟨b4x, rfl⟩
       have B4 : Hid (Below w.heap.size w w4) := Sh.below_chain B3.out b4x
       have EA4 := Lib.hid (erw_alloc (EA3.out.below b4x) (.cells #[.string k, .int .i64 2, .int .i64 0, .int .i64 9, .int .i64 1] 31))
       have EB4 := Lib.hid (erw_alloc (EB3.out.below b4x) (.cells #[.string k, .int .i64 2, .int .i64 0, .int .i64 9, .int .i64 1] 31))
       have EL4 := Lib.hid (erw_alloc (EL3.out.below b4x) (.cells #[.string k, .int .i64 2, .int .i64 0, .int .i64 9, .int .i64 1] 31))
       have EM4 := Lib.hid (erw_alloc (EM3.out.below b4x) (.cells #[.string k, .int .i64 2, .int .i64 0, .int .i64 9, .int .i64 1] 31))
       have EX4' := erw_one w4 ⟨k, 2, 0, 9, 1⟩
       simp only [encE] at EX4'
       have EX4 := Lib.hid EX4'
       clear EX4'
       have B5 : Hid (Below w.heap.size w (w4.alloc (.cells #[.string k, .int .i64 2, .int .i64 0, .int .i64 9, .int .i64 1] 31))) := B4.out.alloc B4.out.size _
       have C14 := Lib.hid (refer1 g3 0 c3 ⟨k, 2, 0, 9, 1⟩ 2 _ EM4.out hc31 hc32 HKZ.out OKB.out OKN.out (by show IntKind.i64.wrap (1 + 2) = 1 + 2; decide))
       clear b4x C8 EA3 EB3 EL3 EM3 B3)
    | (go_at_call 14; refine C14.out.mono ?_; rintro e w6 ⟨b6x, v6, rfl, hown⟩
       have B6 : Hid (Below w.heap.size w w6) := Sh.below_chain B5.out b6x
       obtain ⟨g6, c6, rfl, hc61, hc62, eN⟩ := own_one hown
       have EA6 := Lib.hid (EA4.out.below b6x)
       have EB6 := Lib.hid (EB4.out.below b6x)
       have EL6 := Lib.hid (EL4.out.below b6x)
       have EX6 := Lib.hid (EX4.out.below b6x)
       have EN6 := Lib.hid eN
       have C15 := Lib.hid (del1 g6 0 c6 (refE ⟨k, 2, 0, 9, 1⟩ 2) w6 eN hc61 hc62 HKZ.out OKN.out)
       clear b6x hown eN C14 EA4 EB4 EL4 EM4 EX4 B5
       generalize w4.heap.size = n4 at *)
    | (go_at_call 15; refine C15.out.mono ?_; rintro e w7 ⟨b7x, ao7, c7, rfl⟩
       have B7 : Hid (Below w.heap.size w w7) := Sh.below_chain B6.out b7x
       have EA7 := Lib.hid (EA6.out.below b7x)
       have EB7 := Lib.hid (EB6.out.below b7x)
       have EL7 := Lib.hid (EL6.out.below b7x)
       have EX7 := Lib.hid (EX6.out.below b7x)
       have EN7 := Lib.hid (EN6.out.below b7x)
       have C15b := Lib.hid (del0 ao7 c7 k w7)
       clear b7x C15 EA6 EB6 EL6 EX6 EN6)
    | (go_at_call 15; refine C15b.out.mono ?_; rintro e w8 ⟨b8x, rfl⟩
       have B8 : Hid (Below w.heap.size w w8) := Sh.below_chain B7.out b8x
       have EA8 := Lib.hid (EA7.out.below b8x)
       have EB8 := Lib.hid (EB7.out.below b8x)
       have EL8 := Lib.hid (EL7.out.below b8x)
       have EX8 := Lib.hid (EX7.out.below b8x)
       have EN8 := Lib.hid (EN7.out.below b8x)
       have C13b := Lib.hid (put_nil e0 w8 (by decide) (by decide))
       clear b8x C15b EA7 EB7 EL7 EX7 EN7)
    | (go_at_call 13; refine C13b.out.mono ?_; rintro e w9 ⟨b9x, rfl⟩
       have B9 : Hid (Below w.heap.size w w9) := Sh.below_chain B8.out b9x
       have cA := (erw_cells (EA8.out.below b9x)).2
       have cB := (erw_cells (EB8.out.below b9x)).2
       have cL := (erw_cells (EL8.out.below b9x)).2
       have cX := (erw_cells (EX8.out.below b9x)).2
       have cN := (erw_cells (EN8.out.below b9x)).2
       have EN9 := Lib.hid (EN8.out.below b9x)
       have A0 := cA 0 _ rfl
       have A1 := cA 1 _ rfl
       have A2 := cA 2 _ rfl
       have A3 := cA 3 _ rfl
       have A4 := cA 4 _ rfl
       have D0 := cB 0 _ rfl
       have D1 := cB 1 _ rfl
       have D2 := cB 2 _ rfl
       have D3 := cB 3 _ rfl
       have D4 := cB 4 _ rfl
       have E0 := cL 0 _ rfl
       have E1 := cL 1 _ rfl
       have E2 := cL 2 _ rfl
       have E3 := cL 3 _ rfl
       have E4 := cL 4 _ rfl
       have F0 := cX 0 _ rfl
       have F1 := cX 1 _ rfl
       have F2 := cX 2 _ rfl
       have F3 := cX 3 _ rfl
       have F4 := cX 4 _ rfl
       have H4 := cN 4 _ rfl
       simp only [Nat.add_zero, Nat.zero_add] at A0 D0 E0 F0 H4 A1 A2 A3 A4 D1 D2 D3 D4 F1 F2 F3 F4
       have KA := fun W => eq_ent ⟨k, 1, 0, 9, 0⟩ ⟨k, 1, 0, 9, 0⟩ W
       have KB := fun W => eq_ent ⟨k, 2, 0, 9, 1⟩ ⟨k, 2, 0, 9, 1⟩ W
       simp only [decide_true] at KA KB
       have C17 : Hid (∀ W, Below w9.heap.size w9 W → Calls Tryd.prog 17 #[.slice (some ⟨g6, 0, none⟩) 1 c6, .int .i64 3] W fun e w' => Below W.heap.size W w' ∧ ∃ g, e = .returned (.slice (some ⟨g, 0, none⟩) 3 3) ∧ W.heap.size ≤ g ∧ w'.heap[g]? = some (.cells #[.int .i64 0, .int .i64 0, .int .i64 9] 3 (0, 0))) := fun W hW => bytes_one g6 0 c6 k W (EN9.out.below hW) HKZ.out CKN.out
       have C5 : Hid (∀ W, Below w9.heap.size w9 W → Calls Tryd.prog 5 #[.slice (some ⟨g6, 0, none⟩) 1 c6] W fun e w' => e = .returned (.bool true) ∧ Gw W w') := fun W hW => by
         have := check_any (some ⟨g6, 0, none⟩) 1 c6 [⟨k, 2, 0, 9, 3⟩] W (EN9.out.below hW) rfl (by omega) (kz_one ⟨k, 2, 0, 9, 3⟩ HKZ.out)
         rwa [CKN.out] at this
       have LTS : Hid (n1 < w9.heap.size ∧ n1 + 1 < w9.heap.size ∧ b < w9.heap.size ∧ n4 < w9.heap.size ∧ g6 < w9.heap.size) := ⟨(erw_cells (EA8.out.below b9x)).1, (erw_cells (EB8.out.below b9x)).1, (erw_cells (EL8.out.below b9x)).1, (erw_cells (EX8.out.below b9x)).1, (erw_cells (EN8.out.below b9x)).1⟩
       clear b9x C13b EA8 EB8 EL8 EX8 EN8 cA cB cL cX cN))
  simp only [encE] at KA KB
  change w9.cell? ⟨g6, 4, none⟩ = some (.int .i64 3) at H4
  have SS : Hid (∀ w' : World, Below w9.heap.size w9 w' → (w'.cell? ⟨n1, 0, none⟩ = some (.string k) ∧ w'.cell? ⟨n1, 1, none⟩ = some (.int .i64 1) ∧ w'.cell? ⟨n1, 2, none⟩ = some (.int .i64 0) ∧ w'.cell? ⟨n1, 3, none⟩ = some (.int .i64 9) ∧ w'.cell? ⟨n1, 4, none⟩ = some (.int .i64 0) ∧ w'.cell? ⟨n1 + 1, 0, none⟩ = some (.string k) ∧ w'.cell? ⟨n1 + 1, 1, none⟩ = some (.int .i64 2) ∧ w'.cell? ⟨n1 + 1, 2, none⟩ = some (.int .i64 0) ∧ w'.cell? ⟨n1 + 1, 3, none⟩ = some (.int .i64 9) ∧ w'.cell? ⟨n1 + 1, 4, none⟩ = some (.int .i64 1) ∧ w'.cell? ⟨b, o, none⟩ = some (.string k) ∧ w'.cell? ⟨b, o + 1, none⟩ = some (.int .i64 1) ∧ w'.cell? ⟨b, o + 2, none⟩ = some (.int .i64 0) ∧ w'.cell? ⟨b, o + 3, none⟩ = some (.int .i64 9) ∧ w'.cell? ⟨b, o + 4, none⟩ = some (.int .i64 0) ∧ w'.cell? ⟨n4, 0, none⟩ = some (.string k) ∧ w'.cell? ⟨n4, 1, none⟩ = some (.int .i64 2) ∧ w'.cell? ⟨n4, 2, none⟩ = some (.int .i64 0) ∧ w'.cell? ⟨n4, 3, none⟩ = some (.int .i64 9) ∧ w'.cell? ⟨n4, 4, none⟩ = some (.int .i64 1) ∧ w'.cell? ⟨g6, 4, none⟩ = some (.int .i64 3))) := fun w' hW => ⟨(hW.cell (p := ⟨n1, 0, none⟩) LTS.out.1).trans A0, (hW.cell (p := ⟨n1, 1, none⟩) LTS.out.1).trans A1, (hW.cell (p := ⟨n1, 2, none⟩) LTS.out.1).trans A2, (hW.cell (p := ⟨n1, 3, none⟩) LTS.out.1).trans A3, (hW.cell (p := ⟨n1, 4, none⟩) LTS.out.1).trans A4, (hW.cell (p := ⟨n1 + 1, 0, none⟩) LTS.out.2.1).trans D0, (hW.cell (p := ⟨n1 + 1, 1, none⟩) LTS.out.2.1).trans D1, (hW.cell (p := ⟨n1 + 1, 2, none⟩) LTS.out.2.1).trans D2, (hW.cell (p := ⟨n1 + 1, 3, none⟩) LTS.out.2.1).trans D3, (hW.cell (p := ⟨n1 + 1, 4, none⟩) LTS.out.2.1).trans D4, (hW.cell (p := ⟨b, o, none⟩) LTS.out.2.2.1).trans E0, (hW.cell (p := ⟨b, o + 1, none⟩) LTS.out.2.2.1).trans E1, (hW.cell (p := ⟨b, o + 2, none⟩) LTS.out.2.2.1).trans E2, (hW.cell (p := ⟨b, o + 3, none⟩) LTS.out.2.2.1).trans E3, (hW.cell (p := ⟨b, o + 4, none⟩) LTS.out.2.2.1).trans E4, (hW.cell (p := ⟨n4, 0, none⟩) LTS.out.2.2.2.1).trans F0, (hW.cell (p := ⟨n4, 1, none⟩) LTS.out.2.2.2.1).trans F1, (hW.cell (p := ⟨n4, 2, none⟩) LTS.out.2.2.2.1).trans F2, (hW.cell (p := ⟨n4, 3, none⟩) LTS.out.2.2.2.1).trans F3, (hW.cell (p := ⟨n4, 4, none⟩) LTS.out.2.2.2.1).trans F4, (hW.cell (p := ⟨g6, 4, none⟩) LTS.out.2.2.2.2).trans H4⟩
  have BD : Hid (Below w9.heap.size w9 w9.drew) := (Below.refl _ _).drew
  have BA : Hid (Below w9.heap.size w9 (w9.alloc (.cells #[.int .i64 0, .int .i64 0, .int .i64 9] 3)).drew) := ((Below.refl _ w9).alloc (Nat.le_refl _) _).drew
  have GA : Hid ((w9.alloc (.cells #[.int .i64 0, .int .i64 0, .int .i64 9] 3)).drew.heap[w9.heap.size]? = some (.cells #[.int .i64 0, .int .i64 0, .int .i64 9] 3 (0, 0))) := heap_alloc_new w9 _
  have LA : Hid (w9.heap.size < (w9.alloc (.cells #[.int .i64 0, .int .i64 0, .int .i64 9] 3)).drew.heap.size) := by show _ < _; simp
  dsimp only [List.append]
  go_region_held3 (fun w' => w'.cell? ⟨n1, 0, none⟩ = some (.string k) ∧ w'.cell? ⟨n1, 1, none⟩ = some (.int .i64 1) ∧ w'.cell? ⟨n1, 2, none⟩ = some (.int .i64 0) ∧ w'.cell? ⟨n1, 3, none⟩ = some (.int .i64 9) ∧ w'.cell? ⟨n1, 4, none⟩ = some (.int .i64 0) ∧ w'.cell? ⟨n1 + 1, 0, none⟩ = some (.string k) ∧ w'.cell? ⟨n1 + 1, 1, none⟩ = some (.int .i64 2) ∧ w'.cell? ⟨n1 + 1, 2, none⟩ = some (.int .i64 0) ∧ w'.cell? ⟨n1 + 1, 3, none⟩ = some (.int .i64 9) ∧ w'.cell? ⟨n1 + 1, 4, none⟩ = some (.int .i64 1) ∧ w'.cell? ⟨b, o, none⟩ = some (.string k) ∧ w'.cell? ⟨b, o + 1, none⟩ = some (.int .i64 1) ∧ w'.cell? ⟨b, o + 2, none⟩ = some (.int .i64 0) ∧ w'.cell? ⟨b, o + 3, none⟩ = some (.int .i64 9) ∧ w'.cell? ⟨b, o + 4, none⟩ = some (.int .i64 0) ∧ w'.cell? ⟨n4, 0, none⟩ = some (.string k) ∧ w'.cell? ⟨n4, 1, none⟩ = some (.int .i64 2) ∧ w'.cell? ⟨n4, 2, none⟩ = some (.int .i64 0) ∧ w'.cell? ⟨n4, 3, none⟩ = some (.int .i64 9) ∧ w'.cell? ⟨n4, 4, none⟩ = some (.int .i64 1) ∧ w'.cell? ⟨g6, 4, none⟩ = some (.int .i64 3))
    (first | go_keep | exact SS.out _ BD.out | exact SS.out _ X1.out | exact SS.out _ X2.out | exact SS.out _ X3.out | exact SS.out _ X4.out)
    ((first
      | (go_at_call 17; refine (C17.out _ BD.out).mono ?_; rintro e x1 ⟨y1, q, rfl, hq, gq⟩
         have X1 : Hid (Below w9.heap.size w9 x1) := Sh.below_chain BD.out y1
         have Q1 := Lib.hid gq
         have X2 : Hid (Below w9.heap.size w9 (x1.alloc (.cells #[.int .i64 0, .int .i64 0, .int .i64 9] 3))) := X1.out.alloc X1.out.size _
         have C16 := Lib.hid (ints_three q x1.heap.size 3 3 0 0 9 (x1.alloc (.cells #[.int .i64 0, .int .i64 0, .int .i64 9] 3)) (by rw [Below.heap_alloc _ _ _ (Array.getElem?_eq_some_iff.1 gq).1]; exact gq) (heap_alloc_new x1 _))
         clear y1 hq gq)
      | (go_at_call 17; refine (C17.out _ BA.out).mono ?_; rintro e x1 ⟨y1, q, rfl, hq, gq⟩
         have X1 : Hid (Below w9.heap.size w9 x1) := Sh.below_chain BA.out y1
         have X2 := X1
         have C16 := Lib.hid (ints_three q w9.heap.size 3 3 0 0 9 x1 gq ((y1.block _ LA.out).trans GA.out))
         clear y1 hq gq)
      | (go_at_call 16; refine C16.out.mono ?_; rintro e x3 ⟨rfl, y3⟩
         have X3 : Hid (Below w9.heap.size w9 x3) := Sh.below_chain X2.out y3
         clear y3 C16)
      | (go_at_call 5; refine (C5.out _ X3.out).mono ?_; rintro e x4 ⟨rfl, y4⟩
         have X4 : Hid (Below w9.heap.size w9 x4) := Sh.below_chain X3.out y4.below
         clear y4)))
  all_goals
    have BF : Hid (Below w.heap.size w x4) := Sh.below_chain B9.out X4.out
    go_wp2_with fail
    go_ret
    exact ⟨rfl, BF.out⟩
end Go.Proofs.YtpcmminokhmkjaaDoor.St
