/-
  The contract of the document's own with. Conditions: each law's own.
-/
import Derived.Test.YtpcmminokhmkjaaDoorSw
namespace Go.Proofs.YtpcmminokhmkjaaDoor.St
open Go.Shelf Go.RowKit Go.Lib Go.Sort Go.WideShapes

theorem own_grown_ne {W : World} {G b : Nat} {v : Value} {l : List Ent} (h : OwnE W G v l) (hb : b < G) : some b ≠ v.ownBlock := fun e => by
  have := (h.lt b e.symm).1
  omega
theorem keep5 {W W' : World} {ob : Option Nat} {b : Nat} {u0 u1 u2 u3 u4 : Value} (hg : W.grownBy W' ob) (hne : some b ≠ ob)
    (h : W.cell? ⟨b, 0, none⟩ = some u0 ∧ W.cell? ⟨b, 1, none⟩ = some u1 ∧ W.cell? ⟨b, 2, none⟩ = some u2 ∧ W.cell? ⟨b, 3, none⟩ = some u3 ∧ W.cell? ⟨b, 4, none⟩ = some u4) :
    W'.cell? ⟨b, 0, none⟩ = some u0 ∧ W'.cell? ⟨b, 1, none⟩ = some u1 ∧ W'.cell? ⟨b, 2, none⟩ = some u2 ∧ W'.cell? ⟨b, 3, none⟩ = some u3 ∧ W'.cell? ⟨b, 4, none⟩ = some u4 :=
  ⟨hg.cell h.1 hne, hg.cell h.2.1 hne, hg.cell h.2.2.1 hne, hg.cell h.2.2.2.1 hne, hg.cell h.2.2.2.2 hne⟩
set_option maxHeartbeats 40000000 in
set_option maxRecDepth 100000 in
theorem refwith_any (ao : Option Addr) (n cap : Nat) (l : List Ent) (x : Ent) (w : World) (h : Erw w ao l) (hn : l.length = n) (hcap : n ≤ cap) (_ : cap ≤ 9223372036854775807) (hnone : ao = none → cap = 0) (hn2 : n ≤ 500000000000) :
    Calls Tryd.prog 27 #[.slice ao n cap, .agg (encE x).toArray] w fun e w' => Below w.heap.size w w' ∧ ∃ v, e = .returned v ∧ OwnE w' w.heap.size v (wth l x) := by
  have mixed : Tryd.prog.follows Departure.mixedOrders = true := by kernel_rfl
  have HL := Lib.hid h
  have HN := Lib.hid hn
  have HPL : Hid (∀ W, Erw W ao l → Calls Tryd.prog 40 #[.slice ao n cap, .string x.key] W fun e w' => e = .returned (.int .i64 (plc l x.key)) ∧ Gw W w') := fun W hW => refplace_any ao n cap l x.key W hW hn (by omega)
  have HPN : Hid (plc l x.key ≤ n) := by show _ ≤ _; rw [← hn]; exact plc_le _ _
  have HW : Hid (∀ k, k = plcE l x.key → l.take (plc l x.key) ++ [x] ++ l.drop k = wth l x) := fun k hk => by rw [hk]; rfl
  have HY : Hid (∀ p, p = plc l x.key → p < n → l[p]!.key = x.key → plcE l x.key = p + 1) := fun p hp h1 h2 => by rw [plcE, if_pos ⟨by omega, by rw [← hp]; exact h2⟩, hp]
  have HZ : Hid (∀ p, p = plc l x.key → (p < n → ¬ l[p]!.key = x.key) → plcE l x.key = p) := fun p hp h1 => by
    rw [plcE, if_neg, hp]
    rintro ⟨h2, h3⟩
    exact h1 (by omega) (by rw [hp]; exact h3)
  have HC : Hid (∀ W, Below w.heap.size w W → ∀ i, i < n → ∃ b o, ao = some ⟨b, o, none⟩ ∧ W.cell? ⟨b, o + i * 5, none⟩ = some (.string l[i]!.key) ∧ b < w.heap.size) := fun W hW i hi => by
    obtain ⟨b, o, e, hb, hc⟩ := h (by intro h0; rw [h0] at hn; simp at hn; omega)
    refine ⟨b, o, e, ?_, hb⟩
    rw [hW.cell (p := ⟨b, o + i * 5, none⟩) hb]
    have := hc _ _ (cs_get l i (by omega) 0 (.string l[i]!.key) rfl)
    simpa using this
  obtain ⟨P, hP⟩ : ∃ P, P = plc l x.key := ⟨_, rfl⟩
  rw [← hP] at HPL HPN HW
  have HP := Lib.hid hP
  clear hP h hn
  obtain ⟨W1, hW1⟩ : ∃ W1, W1 = w.alloc (.cells (encE x).toArray 31) := ⟨_, rfl⟩
  have B1 : Hid (Below w.heap.size w W1) := by rw [hW1]; exact (Below.refl _ _).alloc (Nat.le_refl _) _
  have lt1 : w.heap.size < W1.heap.size := by rw [hW1]; simp
  have CL : Hid (∀ j u, (encE x)[j]? = some u → W1.cell? ⟨w.heap.size, j, none⟩ = some u) := fun j u hj => by
    rw [hW1, World.cell?_alloc_new]
    simpa using hj
  obtain ⟨key, p1, p2, p3, p4⟩ := x
  simp only at HPL HY HZ
  simp only [encE] at hW1 CL ⊢
  have CPL := Lib.hid (HPL.out W1 (HL.out.below (B1.out)))
  have y0 : W1.cell? ⟨w.heap.size, 0, none⟩ = some (.string key) := CL.out 0 _ rfl
  go_enter Tryd.func27, Tryd.ntmps27
  go_wp2_with fail
  rw [← hW1]
  clear hW1
  refine CPL.out.mono ?_
  rintro e w2 ⟨rfl, g2⟩
  have B2 : Hid (Below w.heap.size w w2) := Sh.below_chain B1.out g2.below
  have CX : Hid (∀ W, Below w2.heap.size w2 W → ∀ j u, (encE ⟨key, p1, p2, p3, p4⟩)[j]? = some u → W.cell? ⟨w.heap.size, j, none⟩ = some u) := fun W hW j u hj => by
    rw [hW.cell (p := ⟨w.heap.size, j, none⟩) (Nat.lt_of_lt_of_le lt1 g2.below.size), g2.below.cell (p := ⟨w.heap.size, j, none⟩) lt1]
    exact CL.out j u hj
  have LT2 : Hid (w.heap.size < w2.heap.size) := Nat.lt_of_lt_of_le lt1 g2.below.size
  have HL2 : Hid (∀ W, Below w.heap.size w W → Erw W ao l) := fun W hW => HL.out.below hW
  clear CPL HPL g2 lt1 CL y0 B1
  have q1 : (0 : Int) ≤ (P : Int) := by omega
  obtain ⟨k, hk, hkn, hw2⟩ : ∃ k, k = plcE l key ∧ k ≤ n ∧ True := ⟨_, rfl, by have := plcE_le l key; rw [HN.out] at this; exact this, trivial⟩
  have HK := Lib.hid hk
  clear hk hw2
  by_cases hPn : P < n
  · have hd : decide ((P : Int) < (n : Int)) = true := decide_eq_true (by omega)
    have hd2 : decide (P < n) = true := decide_eq_true hPn
    have q2 : (P : Int) < (n : Int) := by omega
    obtain ⟨b, o, rfl, f0, hbw⟩ := HC.out w2 B2.out P hPn
    have f0' : ∀ N os, (Lz.loo w2 N os).cell? ⟨b, o + P * 5, none⟩ = some (.string l[P]!.key) := fun N os => Lz.cell_loo (Nat.lt_of_lt_of_le hbw B2.out.size) f0 N os
    have y0 : ∀ N os, (Lz.loo w2 N os).cell? ⟨w.heap.size, 0, none⟩ = some (.string key) := fun N os => CX.out _ (Lz.loo_below _ _ _) 0 _ rfl
    have hY := HY.out P HP.out hPn
    have hZ := HZ.out P HP.out
    have hbq := ba_beq l[P]!.key key
    obtain ⟨pk, hpk⟩ : ∃ pk, pk = l[P]!.key := ⟨_, rfl⟩
    rw [← hpk] at f0' hY hZ hbq
    clear hpk f0 HC
    cases hkk : decide (pk = key) with
    | true =>
      rw [hkk] at hbq
      have hkP : Hid (k = P + 1) := by show _ = _; rw [HK.out]; exact hY (of_decide_eq_true hkk)
      clear hkk hY hZ
      go_wp2_with fail
      refine Lz.wp_region_quiet_loo mixed (by kernel_rfl) ?_
      repeat (quiet_step (fail))
      refine wpQuiet_nil ?_
      intro _ hw'
      obtain ⟨⟨nq, osq⟩, hw''⟩ := hw'
      subst hw''
      go_wp2_with fail
      have ek : (P : Int) + 1 = (k : Int) := by have := hkP.out; omega
      rw [ek]
      clear ek
      have B3 : Hid (Below w.heap.size w (Lz.loo w2 nq osq)) := Sh.below_chain B2.out (Lz.loo_below _ _ _)
      have CX3 : Hid (∀ W, Below (Lz.loo w2 nq osq).heap.size (Lz.loo w2 nq osq) W → ∀ j u, (encE ⟨key, p1, p2, p3, p4⟩)[j]? = some u → W.cell? ⟨w.heap.size, j, none⟩ = some u) := fun W hW j u hj => CX.out W (Sh.below_chain (Lz.loo_below _ _ _) hW) j u hj
      have LT3 : Hid (w.heap.size < (Lz.loo w2 nq osq).heap.size) := Nat.lt_of_lt_of_le LT2.out (Lz.loo_size _ _ _)
      generalize Lz.loo w2 nq osq = wx at B3 CX3 LT3 ⊢
      have z0 : wx.cell? ⟨w.heap.size, 0, none⟩ = some (.string key) := CX3.out wx (Below.refl _ _) 0 _ rfl
      have z1 : wx.cell? ⟨w.heap.size, 1, none⟩ = some (.int .i64 p1) := CX3.out wx (Below.refl _ _) 1 _ rfl
      have z2 : wx.cell? ⟨w.heap.size, 2, none⟩ = some (.int .i64 p2) := CX3.out wx (Below.refl _ _) 2 _ rfl
      have z3 : wx.cell? ⟨w.heap.size, 3, none⟩ = some (.int .i64 p3) := CX3.out wx (Below.refl _ _) 3 _ rfl
      have z4 : wx.cell? ⟨w.heap.size, 4, none⟩ = some (.int .i64 p4) := CX3.out wx (Below.refl _ _) 4 _ rfl
      have hPn3 : P ≤ n := HPN.out
      have s1 := fun W => slice_toE (some ⟨b, o, none⟩) n cap P (by omega) W
      obtain ⟨af, s2, sf, nf⟩ := slice_fromE (some ⟨b, o, none⟩) n cap k l (by omega) HN.out.symm hnone hcap
      obtain ⟨G, hG⟩ : ∃ G, G = wx.heap.size := ⟨_, rfl⟩
      have HS2 : Hid (Erw wx (some ⟨b, o, none⟩) l) := HL2.out wx B3.out
      have hbG : w.heap.size < G := by have := LT3.out; omega
      have hGw : w.heap.size ≤ G := Nat.le_of_lt hbG
      have LA : Hid (OwnE (wx.alloc (.cells #[] 31)).drew G (.slice (some ⟨wx.heap.size, 0, none⟩) 0 0) []) := ownE_lit wx [] G (by omega) (by simp)
      have BA : Hid (Below G wx (wx.alloc (.cells #[] 31)).drew) := ((Below.refl _ wx).alloc (by omega) _).drew
      have SA : Hid (Erw (wx.alloc (.cells #[] 31)).drew (some ⟨b, o, none⟩) (l.take P)) := erw_alloc (HS2.out.take P (by rw [HN.out]; exact HPN.out)) _
      have LT : Hid ((l.take P).length = P) := by show _ = _; rw [List.length_take, HN.out]; exact Nat.min_eq_left HPN.out
      have LD : Hid ((l.drop k).length = n - k) := by show _ = _; rw [List.length_drop, HN.out]
      have pa : ([] : List Ent).length + P ≤ 1099511627776 := by simp; omega
      have pb : G ≤ (wx.alloc (.cells #[] 31)).drew.heap.size := by simp; omega
      have LB : Hid (OwnE ((wx.alloc (.cells #[] 31)).alloc (.cells #[.string key, .int .i64 p1, .int .i64 p2, .int .i64 p3, .int .i64 p4] 31)).drew G (.slice (some ⟨wx.heap.size, 0, none⟩) 0 0) []) := World.ownsRow.alloc (ownE_lit wx [] G (by omega) (by simp)) _
      have BB : Hid (Below G wx ((wx.alloc (.cells #[] 31)).alloc (.cells #[.string key, .int .i64 p1, .int .i64 p2, .int .i64 p3, .int .i64 p4] 31)).drew) := (((Below.refl _ wx).alloc (by omega) _).alloc (by simp; omega) _).drew
      have SB : Hid (Erw ((wx.alloc (.cells #[] 31)).alloc (.cells #[.string key, .int .i64 p1, .int .i64 p2, .int .i64 p3, .int .i64 p4] 31)).drew (some ⟨b, o, none⟩) (l.take P)) := erw_alloc (erw_alloc (HS2.out.take P (by rw [HN.out]; exact HPN.out)) _) _
      have XB : Hid (Erw ((wx.alloc (.cells #[] 31)).alloc (.cells #[.string key, .int .i64 p1, .int .i64 p2, .int .i64 p3, .int .i64 p4] 31)).drew (some ⟨wx.heap.size + 1, 0, none⟩) [⟨key, p1, p2, p3, p4⟩]) := by have := erw_one (wx.alloc (.cells #[] 31)) ⟨key, p1, p2, p3, p4⟩; rwa [show (wx.alloc (Obj.cells #[] 31)).heap.size = wx.heap.size + 1 by simp] at this
      have LC : Hid (OwnE ((wx.alloc (.cells #[.string key, .int .i64 p1, .int .i64 p2, .int .i64 p3, .int .i64 p4] 31)).alloc (.cells #[] 31)).drew G (.slice (some ⟨wx.heap.size + 1, 0, none⟩) 0 0) []) := by have := ownE_lit (wx.alloc (.cells #[.string key, .int .i64 p1, .int .i64 p2, .int .i64 p3, .int .i64 p4] 31)) [] G (by simp; omega) (by simp); rwa [show (wx.alloc (Obj.cells #[.string key, .int .i64 p1, .int .i64 p2, .int .i64 p3, .int .i64 p4] 31)).heap.size = wx.heap.size + 1 by simp] at this
      have BC : Hid (Below G wx ((wx.alloc (.cells #[.string key, .int .i64 p1, .int .i64 p2, .int .i64 p3, .int .i64 p4] 31)).alloc (.cells #[] 31)).drew) := (((Below.refl _ wx).alloc (by omega) _).alloc (by simp; omega) _).drew
      have SC : Hid (Erw ((wx.alloc (.cells #[.string key, .int .i64 p1, .int .i64 p2, .int .i64 p3, .int .i64 p4] 31)).alloc (.cells #[] 31)).drew (some ⟨b, o, none⟩) (l.take P)) := erw_alloc (erw_alloc (HS2.out.take P (by rw [HN.out]; exact HPN.out)) _) _
      have XC : Hid (Erw ((wx.alloc (.cells #[.string key, .int .i64 p1, .int .i64 p2, .int .i64 p3, .int .i64 p4] 31)).alloc (.cells #[] 31)).drew (some ⟨wx.heap.size, 0, none⟩) [⟨key, p1, p2, p3, p4⟩]) := erw_alloc (erw_one wx ⟨key, p1, p2, p3, p4⟩) _
      have pb2 : G ≤ ((wx.alloc (.cells #[] 31)).alloc (.cells #[.string key, .int .i64 p1, .int .i64 p2, .int .i64 p3, .int .i64 p4] 31)).drew.heap.size := by simp; omega
      have pb3 : G ≤ ((wx.alloc (.cells #[.string key, .int .i64 p1, .int .i64 p2, .int .i64 p3, .int .i64 p4] 31)).alloc (.cells #[] 31)).drew.heap.size := by simp; omega
      have nxb : some (wx.heap.size + 1) ≠ (Value.slice (some ⟨wx.heap.size, 0, none⟩) 0 0).ownBlock := by simp [Value.ownBlock]
      have nxc : some wx.heap.size ≠ (Value.slice (some ⟨wx.heap.size + 1, 0, none⟩) 0 0).ownBlock := by simp [Value.ownBlock]
      have NXB := Lib.hid nxb
      have NXC := Lib.hid nxc
      clear nxb nxc
      have pc : (l.take P).length + 1 ≤ 1099511627776 := by rw [LT.out]; omega
      have pd : (l.take P ++ [(⟨key, p1, p2, p3, p4⟩ : Ent)]).length + (n - k) ≤ 1099511627776 := by rw [List.length_append, List.length_singleton, LT.out]; omega
      have hGx : G ≤ wx.heap.size := by omega
      have SF := Lib.hid (fun W (hW : Below G wx W) => sf W (HS2.out.below (by rw [← hG]; exact hW)))
      have HG := Lib.hid hG
      have HFIN : Hid (∀ W v, OwnE W G v (l.take P ++ [(⟨key, p1, p2, p3, p4⟩ : Ent)] ++ l.drop k) → OwnE W w.heap.size v (wth l ⟨key, p1, p2, p3, p4⟩)) := fun W v hh => by
        rw [HW.out k (HK.out)] at hh
        exact hh.low hGw
      clear hG sf
      go_region_held3 (fun w' => w'.cell? ⟨w.heap.size, 0, none⟩ = some (.string key) ∧ w'.cell? ⟨w.heap.size, 1, none⟩ = some (.int .i64 p1) ∧ w'.cell? ⟨w.heap.size, 2, none⟩ = some (.int .i64 p2) ∧ w'.cell? ⟨w.heap.size, 3, none⟩ = some (.int .i64 p3) ∧ w'.cell? ⟨w.heap.size, 4, none⟩ = some (.int .i64 p4))
        (first | go_keep | exact keep5 hgrow1 (own_grown_ne LA.out hbG) (by assumption) | exact keep5 hgrow1 (own_grown_ne LC.out hbG) (by assumption) | exact keep5 hgrow2 (own_grown_ne hown1 hbG) (by assumption) | exact keep5 hgrow3 (own_grown_ne hown2 hbG) (by assumption))
        ((first
          | (refine step_appE rfl (.tmp 28) (.tmp 31) rfl G (.slice (some ⟨wx.heap.size, 0, none⟩) 0 0) [] (l.take P) (by simp [Act.eval]) LA.out (some ⟨b, o, none⟩) P cap (by simp [Act.eval]) SA.out hnone LT pa pb ?_; intro v1 w1 hown1 hgrow1; rw [List.nil_append] at hown1; have B1 := ownE_grow LA.out BA.out pb hgrow1; have g1 := Nat.le_trans hGx B1.size)
          | (refine step_appE rfl (.tmp 32) (.tmp 34) rfl G v1 (l.take P) [⟨key, p1, p2, p3, p4⟩] (by simp [Act.eval]) (World.ownsRow.alloc hown1 _) (some ⟨w1.heap.size, 0, none⟩) 1 1 (by simp [Act.eval]) (erw_one w1 ⟨key, p1, p2, p3, p4⟩) (fun h => by cases h) rfl pc (by simp; omega) ?_; intro v2 w2 hown2 hgrow2; have B2 := ownE_grow (World.ownsRow.alloc hown1 (.cells #[.string key, .int .i64 p1, .int .i64 p2, .int .i64 p3, .int .i64 p4] 31)) (B1.alloc g1 (.cells #[.string key, .int .i64 p1, .int .i64 p2, .int .i64 p3, .int .i64 p4] 31)) (Nat.le_trans g1 (by simp)) hgrow2; have g2 := Nat.le_trans hGx B2.size)
          | (refine step_appE rfl (.tmp 28) (.tmp 31) rfl G (.slice (some ⟨wx.heap.size, 0, none⟩) 0 0) [] (l.take P) (by simp [Act.eval]) LB.out (some ⟨b, o, none⟩) P cap (by simp [Act.eval]) SB.out hnone LT pa pb2 ?_; intro v1 w1 hown1 hgrow1; rw [List.nil_append] at hown1; have B1 := ownE_grow LB.out BB.out pb2 hgrow1; have g1 := Nat.le_trans hGx B1.size; have X1 := Lib.hid (erw_kept XB.out hgrow1 NXB.out))
          | (refine step_appE rfl (.tmp 28) (.tmp 31) rfl G (.slice (some ⟨wx.heap.size + 1, 0, none⟩) 0 0) [] (l.take P) (by simp [Act.eval]) LC.out (some ⟨b, o, none⟩) P cap (by simp [Act.eval]) SC.out hnone LT pa pb3 ?_; intro v1 w1 hown1 hgrow1; rw [List.nil_append] at hown1; have B1 := ownE_grow LC.out BC.out pb3 hgrow1; have g1 := Nat.le_trans hGx B1.size; have X1 := Lib.hid (erw_kept XC.out hgrow1 NXC.out))
          | (refine step_appE rfl (.tmp 32) (.tmp 34) rfl G v1 (l.take P) [⟨key, p1, p2, p3, p4⟩] (by simp [Act.eval]) hown1 (some ⟨wx.heap.size + 1, 0, none⟩) 1 1 (by simp [Act.eval]) X1.out (fun h => by cases h) rfl pc g1 ?_; intro v2 w2 hown2 hgrow2; have B2 := ownE_grow hown1 B1 g1 hgrow2; have g2 := Nat.le_trans hGx B2.size)
          | (refine step_appE rfl (.tmp 32) (.tmp 34) rfl G v1 (l.take P) [⟨key, p1, p2, p3, p4⟩] (by simp [Act.eval]) hown1 (some ⟨wx.heap.size, 0, none⟩) 1 1 (by simp [Act.eval]) X1.out (fun h => by cases h) rfl pc g1 ?_; intro v2 w2 hown2 hgrow2; have B2 := ownE_grow hown1 B1 g1 hgrow2; have g2 := Nat.le_trans hGx B2.size)
          | (refine step_appE rfl (.tmp 35) (.tmp 38) rfl G v2 (l.take P ++ [⟨key, p1, p2, p3, p4⟩]) (l.drop k) (by simp [Act.eval]) hown2 af (n - k) (cap - k) (by simp [Act.eval]) (SF.out w2 B2) nf LD pd g2 ?_; intro v3 w3 hown3 hgrow3; have B3' := ownE_grow hown2 B2 g2 hgrow3)))
      all_goals
        have hfin : Hid (OwnE w3 w.heap.size v3 (wth l ⟨key, p1, p2, p3, p4⟩)) := HFIN.out _ _ hown3
        have hbf : Hid (Below w.heap.size w w3) := B3.out.trans (B3'.mono hGw)
        clear hown1 hgrow1 hown2 hgrow2 hown3 hgrow3
        go_wp2_with fail
        go_ret
        exact ⟨hbf.out, _, rfl, hfin.out⟩
    | false =>
      rw [hkk] at hbq
      have hkP : Hid (k = P) := by show _ = _; rw [HK.out]; exact hZ (fun _ => of_decide_eq_false hkk)
      clear hkk hY hZ
      go_wp2_with fail
      refine Lz.wp_region_quiet_loo mixed (by kernel_rfl) ?_
      repeat (quiet_step (fail))
      refine wpQuiet_nil ?_
      intro _ hw'
      obtain ⟨⟨nq, osq⟩, hw''⟩ := hw'
      subst hw''
      go_wp2_with fail
      have B3 : Hid (Below w.heap.size w (Lz.loo w2 nq osq)) := Sh.below_chain B2.out (Lz.loo_below _ _ _)
      have CX3 : Hid (∀ W, Below (Lz.loo w2 nq osq).heap.size (Lz.loo w2 nq osq) W → ∀ j u, (encE ⟨key, p1, p2, p3, p4⟩)[j]? = some u → W.cell? ⟨w.heap.size, j, none⟩ = some u) := fun W hW j u hj => CX.out W (Sh.below_chain (Lz.loo_below _ _ _) hW) j u hj
      have LT3 : Hid (w.heap.size < (Lz.loo w2 nq osq).heap.size) := Nat.lt_of_lt_of_le LT2.out (Lz.loo_size _ _ _)
      generalize Lz.loo w2 nq osq = wx at B3 CX3 LT3 ⊢
      have z0 : wx.cell? ⟨w.heap.size, 0, none⟩ = some (.string key) := CX3.out wx (Below.refl _ _) 0 _ rfl
      have z1 : wx.cell? ⟨w.heap.size, 1, none⟩ = some (.int .i64 p1) := CX3.out wx (Below.refl _ _) 1 _ rfl
      have z2 : wx.cell? ⟨w.heap.size, 2, none⟩ = some (.int .i64 p2) := CX3.out wx (Below.refl _ _) 2 _ rfl
      have z3 : wx.cell? ⟨w.heap.size, 3, none⟩ = some (.int .i64 p3) := CX3.out wx (Below.refl _ _) 3 _ rfl
      have z4 : wx.cell? ⟨w.heap.size, 4, none⟩ = some (.int .i64 p4) := CX3.out wx (Below.refl _ _) 4 _ rfl
      have hPn3 : P ≤ n := HPN.out
      have s1 := fun W => slice_toE (some ⟨b, o, none⟩) n cap P (by omega) W
      obtain ⟨af, s2, sf, nf⟩ := slice_fromE (some ⟨b, o, none⟩) n cap P l (by omega) HN.out.symm hnone hcap
      obtain ⟨G, hG⟩ : ∃ G, G = wx.heap.size := ⟨_, rfl⟩
      have HS2 : Hid (Erw wx (some ⟨b, o, none⟩) l) := HL2.out wx B3.out
      have hbG : w.heap.size < G := by have := LT3.out; omega
      have hGw : w.heap.size ≤ G := Nat.le_of_lt hbG
      have LA : Hid (OwnE (wx.alloc (.cells #[] 31)).drew G (.slice (some ⟨wx.heap.size, 0, none⟩) 0 0) []) := ownE_lit wx [] G (by omega) (by simp)
      have BA : Hid (Below G wx (wx.alloc (.cells #[] 31)).drew) := ((Below.refl _ wx).alloc (by omega) _).drew
      have SA : Hid (Erw (wx.alloc (.cells #[] 31)).drew (some ⟨b, o, none⟩) (l.take P)) := erw_alloc (HS2.out.take P (by rw [HN.out]; exact HPN.out)) _
      have LT : Hid ((l.take P).length = P) := by show _ = _; rw [List.length_take, HN.out]; exact Nat.min_eq_left HPN.out
      have LD : Hid ((l.drop P).length = n - P) := by show _ = _; rw [List.length_drop, HN.out]
      have pa : ([] : List Ent).length + P ≤ 1099511627776 := by simp; omega
      have pb : G ≤ (wx.alloc (.cells #[] 31)).drew.heap.size := by simp; omega
      have LB : Hid (OwnE ((wx.alloc (.cells #[] 31)).alloc (.cells #[.string key, .int .i64 p1, .int .i64 p2, .int .i64 p3, .int .i64 p4] 31)).drew G (.slice (some ⟨wx.heap.size, 0, none⟩) 0 0) []) := World.ownsRow.alloc (ownE_lit wx [] G (by omega) (by simp)) _
      have BB : Hid (Below G wx ((wx.alloc (.cells #[] 31)).alloc (.cells #[.string key, .int .i64 p1, .int .i64 p2, .int .i64 p3, .int .i64 p4] 31)).drew) := (((Below.refl _ wx).alloc (by omega) _).alloc (by simp; omega) _).drew
      have SB : Hid (Erw ((wx.alloc (.cells #[] 31)).alloc (.cells #[.string key, .int .i64 p1, .int .i64 p2, .int .i64 p3, .int .i64 p4] 31)).drew (some ⟨b, o, none⟩) (l.take P)) := erw_alloc (erw_alloc (HS2.out.take P (by rw [HN.out]; exact HPN.out)) _) _
      have XB : Hid (Erw ((wx.alloc (.cells #[] 31)).alloc (.cells #[.string key, .int .i64 p1, .int .i64 p2, .int .i64 p3, .int .i64 p4] 31)).drew (some ⟨wx.heap.size + 1, 0, none⟩) [⟨key, p1, p2, p3, p4⟩]) := by have := erw_one (wx.alloc (.cells #[] 31)) ⟨key, p1, p2, p3, p4⟩; rwa [show (wx.alloc (Obj.cells #[] 31)).heap.size = wx.heap.size + 1 by simp] at this
      have LC : Hid (OwnE ((wx.alloc (.cells #[.string key, .int .i64 p1, .int .i64 p2, .int .i64 p3, .int .i64 p4] 31)).alloc (.cells #[] 31)).drew G (.slice (some ⟨wx.heap.size + 1, 0, none⟩) 0 0) []) := by have := ownE_lit (wx.alloc (.cells #[.string key, .int .i64 p1, .int .i64 p2, .int .i64 p3, .int .i64 p4] 31)) [] G (by simp; omega) (by simp); rwa [show (wx.alloc (Obj.cells #[.string key, .int .i64 p1, .int .i64 p2, .int .i64 p3, .int .i64 p4] 31)).heap.size = wx.heap.size + 1 by simp] at this
      have BC : Hid (Below G wx ((wx.alloc (.cells #[.string key, .int .i64 p1, .int .i64 p2, .int .i64 p3, .int .i64 p4] 31)).alloc (.cells #[] 31)).drew) := (((Below.refl _ wx).alloc (by omega) _).alloc (by simp; omega) _).drew
      have SC : Hid (Erw ((wx.alloc (.cells #[.string key, .int .i64 p1, .int .i64 p2, .int .i64 p3, .int .i64 p4] 31)).alloc (.cells #[] 31)).drew (some ⟨b, o, none⟩) (l.take P)) := erw_alloc (erw_alloc (HS2.out.take P (by rw [HN.out]; exact HPN.out)) _) _
      have XC : Hid (Erw ((wx.alloc (.cells #[.string key, .int .i64 p1, .int .i64 p2, .int .i64 p3, .int .i64 p4] 31)).alloc (.cells #[] 31)).drew (some ⟨wx.heap.size, 0, none⟩) [⟨key, p1, p2, p3, p4⟩]) := erw_alloc (erw_one wx ⟨key, p1, p2, p3, p4⟩) _
      have pb2 : G ≤ ((wx.alloc (.cells #[] 31)).alloc (.cells #[.string key, .int .i64 p1, .int .i64 p2, .int .i64 p3, .int .i64 p4] 31)).drew.heap.size := by simp; omega
      have pb3 : G ≤ ((wx.alloc (.cells #[.string key, .int .i64 p1, .int .i64 p2, .int .i64 p3, .int .i64 p4] 31)).alloc (.cells #[] 31)).drew.heap.size := by simp; omega
      have nxb : some (wx.heap.size + 1) ≠ (Value.slice (some ⟨wx.heap.size, 0, none⟩) 0 0).ownBlock := by simp [Value.ownBlock]
      have nxc : some wx.heap.size ≠ (Value.slice (some ⟨wx.heap.size + 1, 0, none⟩) 0 0).ownBlock := by simp [Value.ownBlock]
      have NXB := Lib.hid nxb
      have NXC := Lib.hid nxc
      clear nxb nxc
      have pc : (l.take P).length + 1 ≤ 1099511627776 := by rw [LT.out]; omega
      have pd : (l.take P ++ [(⟨key, p1, p2, p3, p4⟩ : Ent)]).length + (n - P) ≤ 1099511627776 := by rw [List.length_append, List.length_singleton, LT.out]; omega
      have hGx : G ≤ wx.heap.size := by omega
      have SF := Lib.hid (fun W (hW : Below G wx W) => sf W (HS2.out.below (by rw [← hG]; exact hW)))
      have HG := Lib.hid hG
      have HFIN : Hid (∀ W v, OwnE W G v (l.take P ++ [(⟨key, p1, p2, p3, p4⟩ : Ent)] ++ l.drop P) → OwnE W w.heap.size v (wth l ⟨key, p1, p2, p3, p4⟩)) := fun W v hh => by
        rw [HW.out P (by rw [← hkP.out]; exact HK.out)] at hh
        exact hh.low hGw
      clear hG sf
      go_region_held3 (fun w' => w'.cell? ⟨w.heap.size, 0, none⟩ = some (.string key) ∧ w'.cell? ⟨w.heap.size, 1, none⟩ = some (.int .i64 p1) ∧ w'.cell? ⟨w.heap.size, 2, none⟩ = some (.int .i64 p2) ∧ w'.cell? ⟨w.heap.size, 3, none⟩ = some (.int .i64 p3) ∧ w'.cell? ⟨w.heap.size, 4, none⟩ = some (.int .i64 p4))
        (first | go_keep | exact keep5 hgrow1 (own_grown_ne LA.out hbG) (by assumption) | exact keep5 hgrow1 (own_grown_ne LC.out hbG) (by assumption) | exact keep5 hgrow2 (own_grown_ne hown1 hbG) (by assumption) | exact keep5 hgrow3 (own_grown_ne hown2 hbG) (by assumption))
        ((first
          | (refine step_appE rfl (.tmp 28) (.tmp 31) rfl G (.slice (some ⟨wx.heap.size, 0, none⟩) 0 0) [] (l.take P) (by simp [Act.eval]) LA.out (some ⟨b, o, none⟩) P cap (by simp [Act.eval]) SA.out hnone LT pa pb ?_; intro v1 w1 hown1 hgrow1; rw [List.nil_append] at hown1; have B1 := ownE_grow LA.out BA.out pb hgrow1; have g1 := Nat.le_trans hGx B1.size)
          | (refine step_appE rfl (.tmp 32) (.tmp 34) rfl G v1 (l.take P) [⟨key, p1, p2, p3, p4⟩] (by simp [Act.eval]) (World.ownsRow.alloc hown1 _) (some ⟨w1.heap.size, 0, none⟩) 1 1 (by simp [Act.eval]) (erw_one w1 ⟨key, p1, p2, p3, p4⟩) (fun h => by cases h) rfl pc (by simp; omega) ?_; intro v2 w2 hown2 hgrow2; have B2 := ownE_grow (World.ownsRow.alloc hown1 (.cells #[.string key, .int .i64 p1, .int .i64 p2, .int .i64 p3, .int .i64 p4] 31)) (B1.alloc g1 (.cells #[.string key, .int .i64 p1, .int .i64 p2, .int .i64 p3, .int .i64 p4] 31)) (Nat.le_trans g1 (by simp)) hgrow2; have g2 := Nat.le_trans hGx B2.size)
          | (refine step_appE rfl (.tmp 28) (.tmp 31) rfl G (.slice (some ⟨wx.heap.size, 0, none⟩) 0 0) [] (l.take P) (by simp [Act.eval]) LB.out (some ⟨b, o, none⟩) P cap (by simp [Act.eval]) SB.out hnone LT pa pb2 ?_; intro v1 w1 hown1 hgrow1; rw [List.nil_append] at hown1; have B1 := ownE_grow LB.out BB.out pb2 hgrow1; have g1 := Nat.le_trans hGx B1.size; have X1 := Lib.hid (erw_kept XB.out hgrow1 NXB.out))
          | (refine step_appE rfl (.tmp 28) (.tmp 31) rfl G (.slice (some ⟨wx.heap.size + 1, 0, none⟩) 0 0) [] (l.take P) (by simp [Act.eval]) LC.out (some ⟨b, o, none⟩) P cap (by simp [Act.eval]) SC.out hnone LT pa pb3 ?_; intro v1 w1 hown1 hgrow1; rw [List.nil_append] at hown1; have B1 := ownE_grow LC.out BC.out pb3 hgrow1; have g1 := Nat.le_trans hGx B1.size; have X1 := Lib.hid (erw_kept XC.out hgrow1 NXC.out))
          | (refine step_appE rfl (.tmp 32) (.tmp 34) rfl G v1 (l.take P) [⟨key, p1, p2, p3, p4⟩] (by simp [Act.eval]) hown1 (some ⟨wx.heap.size + 1, 0, none⟩) 1 1 (by simp [Act.eval]) X1.out (fun h => by cases h) rfl pc g1 ?_; intro v2 w2 hown2 hgrow2; have B2 := ownE_grow hown1 B1 g1 hgrow2; have g2 := Nat.le_trans hGx B2.size)
          | (refine step_appE rfl (.tmp 32) (.tmp 34) rfl G v1 (l.take P) [⟨key, p1, p2, p3, p4⟩] (by simp [Act.eval]) hown1 (some ⟨wx.heap.size, 0, none⟩) 1 1 (by simp [Act.eval]) X1.out (fun h => by cases h) rfl pc g1 ?_; intro v2 w2 hown2 hgrow2; have B2 := ownE_grow hown1 B1 g1 hgrow2; have g2 := Nat.le_trans hGx B2.size)
          | (refine step_appE rfl (.tmp 35) (.tmp 38) rfl G v2 (l.take P ++ [⟨key, p1, p2, p3, p4⟩]) (l.drop P) (by simp [Act.eval]) hown2 af (n - P) (cap - P) (by simp [Act.eval]) (SF.out w2 B2) nf LD pd g2 ?_; intro v3 w3 hown3 hgrow3; have B3' := ownE_grow hown2 B2 g2 hgrow3)))
      all_goals
        have hfin : Hid (OwnE w3 w.heap.size v3 (wth l ⟨key, p1, p2, p3, p4⟩)) := HFIN.out _ _ hown3
        have hbf : Hid (Below w.heap.size w w3) := B3.out.trans (B3'.mono hGw)
        clear hown1 hgrow1 hown2 hgrow2 hown3 hgrow3
        go_wp2_with fail
        go_ret
        exact ⟨hbf.out, _, rfl, hfin.out⟩
  · have hd : decide ((P : Int) < (n : Int)) = false := decide_eq_false (by omega)
    have hd2 : decide (P < n) = false := decide_eq_false hPn
    have hkP : Hid (k = P) := by show _ = _; rw [HK.out]; exact HZ.out P HP.out (fun hh => absurd hh hPn)
    go_wp2_with fail
    refine Lz.wp_region_quiet_loo mixed (by kernel_rfl) ?_
    repeat (quiet_step (fail))
    refine wpQuiet_nil ?_
    intro _ hw'
    obtain ⟨⟨nq, osq⟩, hw''⟩ := hw'
    subst hw''
    go_wp2_with fail
    have B3 : Hid (Below w.heap.size w (Lz.loo w2 nq osq)) := Sh.below_chain B2.out (Lz.loo_below _ _ _)
    have CX3 : Hid (∀ W, Below (Lz.loo w2 nq osq).heap.size (Lz.loo w2 nq osq) W → ∀ j u, (encE ⟨key, p1, p2, p3, p4⟩)[j]? = some u → W.cell? ⟨w.heap.size, j, none⟩ = some u) := fun W hW j u hj => CX.out W (Sh.below_chain (Lz.loo_below _ _ _) hW) j u hj
    have LT3 : Hid (w.heap.size < (Lz.loo w2 nq osq).heap.size) := Nat.lt_of_lt_of_le LT2.out (Lz.loo_size _ _ _)
    generalize Lz.loo w2 nq osq = wx at B3 CX3 LT3 ⊢
    have z0 : wx.cell? ⟨w.heap.size, 0, none⟩ = some (.string key) := CX3.out wx (Below.refl _ _) 0 _ rfl
    have z1 : wx.cell? ⟨w.heap.size, 1, none⟩ = some (.int .i64 p1) := CX3.out wx (Below.refl _ _) 1 _ rfl
    have z2 : wx.cell? ⟨w.heap.size, 2, none⟩ = some (.int .i64 p2) := CX3.out wx (Below.refl _ _) 2 _ rfl
    have z3 : wx.cell? ⟨w.heap.size, 3, none⟩ = some (.int .i64 p3) := CX3.out wx (Below.refl _ _) 3 _ rfl
    have z4 : wx.cell? ⟨w.heap.size, 4, none⟩ = some (.int .i64 p4) := CX3.out wx (Below.refl _ _) 4 _ rfl
    have hPn3 : P ≤ n := HPN.out
    have s1 := fun W => slice_toE ao n cap P (by omega) W
    obtain ⟨af, s2, sf, nf⟩ := slice_fromE ao n cap P l (by omega) HN.out.symm hnone hcap
    obtain ⟨G, hG⟩ : ∃ G, G = wx.heap.size := ⟨_, rfl⟩
    have HS2 : Hid (Erw wx ao l) := HL2.out wx B3.out
    have hbG : w.heap.size < G := by have := LT3.out; omega
    have hGw : w.heap.size ≤ G := Nat.le_of_lt hbG
    have LA : Hid (OwnE (wx.alloc (.cells #[] 31)).drew G (.slice (some ⟨wx.heap.size, 0, none⟩) 0 0) []) := ownE_lit wx [] G (by omega) (by simp)
    have BA : Hid (Below G wx (wx.alloc (.cells #[] 31)).drew) := ((Below.refl _ wx).alloc (by omega) _).drew
    have SA : Hid (Erw (wx.alloc (.cells #[] 31)).drew ao (l.take P)) := erw_alloc (HS2.out.take P (by rw [HN.out]; exact HPN.out)) _
    have LT : Hid ((l.take P).length = P) := by show _ = _; rw [List.length_take, HN.out]; exact Nat.min_eq_left HPN.out
    have LD : Hid ((l.drop P).length = n - P) := by show _ = _; rw [List.length_drop, HN.out]
    have pa : ([] : List Ent).length + P ≤ 1099511627776 := by simp; omega
    have pb : G ≤ (wx.alloc (.cells #[] 31)).drew.heap.size := by simp; omega
    have LB : Hid (OwnE ((wx.alloc (.cells #[] 31)).alloc (.cells #[.string key, .int .i64 p1, .int .i64 p2, .int .i64 p3, .int .i64 p4] 31)).drew G (.slice (some ⟨wx.heap.size, 0, none⟩) 0 0) []) := World.ownsRow.alloc (ownE_lit wx [] G (by omega) (by simp)) _
    have BB : Hid (Below G wx ((wx.alloc (.cells #[] 31)).alloc (.cells #[.string key, .int .i64 p1, .int .i64 p2, .int .i64 p3, .int .i64 p4] 31)).drew) := (((Below.refl _ wx).alloc (by omega) _).alloc (by simp; omega) _).drew
    have SB : Hid (Erw ((wx.alloc (.cells #[] 31)).alloc (.cells #[.string key, .int .i64 p1, .int .i64 p2, .int .i64 p3, .int .i64 p4] 31)).drew ao (l.take P)) := erw_alloc (erw_alloc (HS2.out.take P (by rw [HN.out]; exact HPN.out)) _) _
    have XB : Hid (Erw ((wx.alloc (.cells #[] 31)).alloc (.cells #[.string key, .int .i64 p1, .int .i64 p2, .int .i64 p3, .int .i64 p4] 31)).drew (some ⟨wx.heap.size + 1, 0, none⟩) [⟨key, p1, p2, p3, p4⟩]) := by have := erw_one (wx.alloc (.cells #[] 31)) ⟨key, p1, p2, p3, p4⟩; rwa [show (wx.alloc (Obj.cells #[] 31)).heap.size = wx.heap.size + 1 by simp] at this
    have LC : Hid (OwnE ((wx.alloc (.cells #[.string key, .int .i64 p1, .int .i64 p2, .int .i64 p3, .int .i64 p4] 31)).alloc (.cells #[] 31)).drew G (.slice (some ⟨wx.heap.size + 1, 0, none⟩) 0 0) []) := by have := ownE_lit (wx.alloc (.cells #[.string key, .int .i64 p1, .int .i64 p2, .int .i64 p3, .int .i64 p4] 31)) [] G (by simp; omega) (by simp); rwa [show (wx.alloc (Obj.cells #[.string key, .int .i64 p1, .int .i64 p2, .int .i64 p3, .int .i64 p4] 31)).heap.size = wx.heap.size + 1 by simp] at this
    have BC : Hid (Below G wx ((wx.alloc (.cells #[.string key, .int .i64 p1, .int .i64 p2, .int .i64 p3, .int .i64 p4] 31)).alloc (.cells #[] 31)).drew) := (((Below.refl _ wx).alloc (by omega) _).alloc (by simp; omega) _).drew
    have SC : Hid (Erw ((wx.alloc (.cells #[.string key, .int .i64 p1, .int .i64 p2, .int .i64 p3, .int .i64 p4] 31)).alloc (.cells #[] 31)).drew ao (l.take P)) := erw_alloc (erw_alloc (HS2.out.take P (by rw [HN.out]; exact HPN.out)) _) _
    have XC : Hid (Erw ((wx.alloc (.cells #[.string key, .int .i64 p1, .int .i64 p2, .int .i64 p3, .int .i64 p4] 31)).alloc (.cells #[] 31)).drew (some ⟨wx.heap.size, 0, none⟩) [⟨key, p1, p2, p3, p4⟩]) := erw_alloc (erw_one wx ⟨key, p1, p2, p3, p4⟩) _
    have pb2 : G ≤ ((wx.alloc (.cells #[] 31)).alloc (.cells #[.string key, .int .i64 p1, .int .i64 p2, .int .i64 p3, .int .i64 p4] 31)).drew.heap.size := by simp; omega
    have pb3 : G ≤ ((wx.alloc (.cells #[.string key, .int .i64 p1, .int .i64 p2, .int .i64 p3, .int .i64 p4] 31)).alloc (.cells #[] 31)).drew.heap.size := by simp; omega
    have nxb : some (wx.heap.size + 1) ≠ (Value.slice (some ⟨wx.heap.size, 0, none⟩) 0 0).ownBlock := by simp [Value.ownBlock]
    have nxc : some wx.heap.size ≠ (Value.slice (some ⟨wx.heap.size + 1, 0, none⟩) 0 0).ownBlock := by simp [Value.ownBlock]
    have NXB := Lib.hid nxb
    have NXC := Lib.hid nxc
    clear nxb nxc
    have pc : (l.take P).length + 1 ≤ 1099511627776 := by rw [LT.out]; omega
    have pd : (l.take P ++ [(⟨key, p1, p2, p3, p4⟩ : Ent)]).length + (n - P) ≤ 1099511627776 := by rw [List.length_append, List.length_singleton, LT.out]; omega
    have hGx : G ≤ wx.heap.size := by omega
    have SF := Lib.hid (fun W (hW : Below G wx W) => sf W (HS2.out.below (by rw [← hG]; exact hW)))
    have HG := Lib.hid hG
    have HFIN : Hid (∀ W v, OwnE W G v (l.take P ++ [(⟨key, p1, p2, p3, p4⟩ : Ent)] ++ l.drop P) → OwnE W w.heap.size v (wth l ⟨key, p1, p2, p3, p4⟩)) := fun W v hh => by
      rw [HW.out P (by rw [← hkP.out]; exact HK.out)] at hh
      exact hh.low hGw
    clear hG sf
    go_region_held3 (fun w' => w'.cell? ⟨w.heap.size, 0, none⟩ = some (.string key) ∧ w'.cell? ⟨w.heap.size, 1, none⟩ = some (.int .i64 p1) ∧ w'.cell? ⟨w.heap.size, 2, none⟩ = some (.int .i64 p2) ∧ w'.cell? ⟨w.heap.size, 3, none⟩ = some (.int .i64 p3) ∧ w'.cell? ⟨w.heap.size, 4, none⟩ = some (.int .i64 p4))
      (first | go_keep | exact keep5 hgrow1 (own_grown_ne LA.out hbG) (by assumption) | exact keep5 hgrow1 (own_grown_ne LC.out hbG) (by assumption) | exact keep5 hgrow2 (own_grown_ne hown1 hbG) (by assumption) | exact keep5 hgrow3 (own_grown_ne hown2 hbG) (by assumption))
      ((first
        | (refine step_appE rfl (.tmp 28) (.tmp 31) rfl G (.slice (some ⟨wx.heap.size, 0, none⟩) 0 0) [] (l.take P) (by simp [Act.eval]) LA.out ao P cap (by simp [Act.eval]) SA.out hnone LT pa pb ?_; intro v1 w1 hown1 hgrow1; rw [List.nil_append] at hown1; have B1 := ownE_grow LA.out BA.out pb hgrow1; have g1 := Nat.le_trans hGx B1.size)
        | (refine step_appE rfl (.tmp 32) (.tmp 34) rfl G v1 (l.take P) [⟨key, p1, p2, p3, p4⟩] (by simp [Act.eval]) (World.ownsRow.alloc hown1 _) (some ⟨w1.heap.size, 0, none⟩) 1 1 (by simp [Act.eval]) (erw_one w1 ⟨key, p1, p2, p3, p4⟩) (fun h => by cases h) rfl pc (by simp; omega) ?_; intro v2 w2 hown2 hgrow2; have B2 := ownE_grow (World.ownsRow.alloc hown1 (.cells #[.string key, .int .i64 p1, .int .i64 p2, .int .i64 p3, .int .i64 p4] 31)) (B1.alloc g1 (.cells #[.string key, .int .i64 p1, .int .i64 p2, .int .i64 p3, .int .i64 p4] 31)) (Nat.le_trans g1 (by simp)) hgrow2; have g2 := Nat.le_trans hGx B2.size)
        | (refine step_appE rfl (.tmp 28) (.tmp 31) rfl G (.slice (some ⟨wx.heap.size, 0, none⟩) 0 0) [] (l.take P) (by simp [Act.eval]) LB.out ao P cap (by simp [Act.eval]) SB.out hnone LT pa pb2 ?_; intro v1 w1 hown1 hgrow1; rw [List.nil_append] at hown1; have B1 := ownE_grow LB.out BB.out pb2 hgrow1; have g1 := Nat.le_trans hGx B1.size; have X1 := Lib.hid (erw_kept XB.out hgrow1 NXB.out))
        | (refine step_appE rfl (.tmp 28) (.tmp 31) rfl G (.slice (some ⟨wx.heap.size + 1, 0, none⟩) 0 0) [] (l.take P) (by simp [Act.eval]) LC.out ao P cap (by simp [Act.eval]) SC.out hnone LT pa pb3 ?_; intro v1 w1 hown1 hgrow1; rw [List.nil_append] at hown1; have B1 := ownE_grow LC.out BC.out pb3 hgrow1; have g1 := Nat.le_trans hGx B1.size; have X1 := Lib.hid (erw_kept XC.out hgrow1 NXC.out))
        | (refine step_appE rfl (.tmp 32) (.tmp 34) rfl G v1 (l.take P) [⟨key, p1, p2, p3, p4⟩] (by simp [Act.eval]) hown1 (some ⟨wx.heap.size + 1, 0, none⟩) 1 1 (by simp [Act.eval]) X1.out (fun h => by cases h) rfl pc g1 ?_; intro v2 w2 hown2 hgrow2; have B2 := ownE_grow hown1 B1 g1 hgrow2; have g2 := Nat.le_trans hGx B2.size)
        | (refine step_appE rfl (.tmp 32) (.tmp 34) rfl G v1 (l.take P) [⟨key, p1, p2, p3, p4⟩] (by simp [Act.eval]) hown1 (some ⟨wx.heap.size, 0, none⟩) 1 1 (by simp [Act.eval]) X1.out (fun h => by cases h) rfl pc g1 ?_; intro v2 w2 hown2 hgrow2; have B2 := ownE_grow hown1 B1 g1 hgrow2; have g2 := Nat.le_trans hGx B2.size)
        | (refine step_appE rfl (.tmp 35) (.tmp 38) rfl G v2 (l.take P ++ [⟨key, p1, p2, p3, p4⟩]) (l.drop P) (by simp [Act.eval]) hown2 af (n - P) (cap - P) (by simp [Act.eval]) (SF.out w2 B2) nf LD pd g2 ?_; intro v3 w3 hown3 hgrow3; have B3' := ownE_grow hown2 B2 g2 hgrow3)))
    all_goals
      have hfin : Hid (OwnE w3 w.heap.size v3 (wth l ⟨key, p1, p2, p3, p4⟩)) := HFIN.out _ _ hown3
      have hbf : Hid (Below w.heap.size w w3) := B3.out.trans (B3'.mono hGw)
      clear hown1 hgrow1 hown2 hgrow2 hown3 hgrow3
      go_wp2_with fail
      go_ret
      exact ⟨hbf.out, _, rfl, hfin.out⟩
end Go.Proofs.YtpcmminokhmkjaaDoor.St
