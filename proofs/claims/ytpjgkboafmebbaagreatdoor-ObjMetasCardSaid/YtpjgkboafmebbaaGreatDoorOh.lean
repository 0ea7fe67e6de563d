/-
  The contracts of obj's reader: number, counted, key. Conditions: each law's own.
-/
import Derived.Test.YtpjgkboafmebbaaGreatDoorOg
namespace Go.Proofs.YtpjgkboafmebbaaGreatDoor.Sh
open Go.RowKit Go.Lib Lb

/-- obj's reader, as memory holds it: what is left -/
structure Rp (w : World) (g : Nat) (l : List UInt8) (ao : Option Addr) (m c : Nat) : Prop where
  blk : Blk w g [.slice ao m c] 127
  byt : Byt w ao l
  hn : ao = none → c = 0
  len : l.length = m
  cap : m ≤ c
  max : c ≤ 9223372036854775807
  most : m ≤ 140737488355328
  far : ∀ a, ao = some a → a.block < g
  err : ErrT w
  one : 1 < g
def Rdr (w : World) (g : Nat) (l : List UInt8) : Prop := ∃ ao m c, Rp w g l ao m c
theorem Rp.grown {w w' : World} {g : Nat} {l : List UInt8} {ao : Option Addr} {m c : Nat} (h : Rp w g l ao m c) (hb : Below w.heap.size w w') : Rp w' g l ao m c :=
  { blk := h.blk.low hb, byt := h.byt.below hb, hn := h.hn, len := h.len, cap := h.cap, max := h.max, most := h.most, far := h.far, err := h.err.below hb, one := h.one }
theorem Rdr.grown {w w' : World} {g : Nat} {l : List UInt8} (h : Rdr w g l) (hb : Below w.heap.size w w') : Rdr w' g l := by
  obtain ⟨ao, m, c, h⟩ := h
  exact ⟨ao, m, c, h.grown hb⟩
theorem ErrT.row {w w' : World} {k : Option Nat} (h : ErrT w) (hg : w.grownBy w' k) (hk : ∀ b, k = some b → 1 < b) : ErrT w' := hg.cell h (fun e => by have := hk 1 e.symm; omega)
theorem Rp.row {w w' : World} {g : Nat} {l : List UInt8} {ao : Option Addr} {m c : Nat} {k : Option Nat} (h : Rp w g l ao m c) (hg : w.grownBy w' k) (hk : ∀ b, k = some b → g < b) : Rp w' g l ao m c :=
  { blk := blk_row h.blk hg (fun e => by have := hk g e.symm; omega)
    byt := fun hne => by
      obtain ⟨b, o, h1, h2, h3⟩ := h.byt hne
      have hb : b < g := h.far _ h1
      exact ⟨b, o, h1, Nat.lt_of_lt_of_le h2 hg.size, fun j hj => hg.cell (h3 j hj) (fun e => by have := hk b e.symm; omega)⟩
    hn := h.hn, len := h.len, cap := h.cap, max := h.max, most := h.most, far := h.far, err := h.err.row hg (fun b hb => by have := hk b hb; have := h.one; omega), one := h.one }
theorem Rdr.row {w w' : World} {g : Nat} {l : List UInt8} {k : Option Nat} (h : Rdr w g l) (hg : w.grownBy w' k) (hk : ∀ b, k = some b → g < b) : Rdr w' g l := by
  obtain ⟨ao, m, c, h⟩ := h
  exact ⟨ao, m, c, h.row hg hk⟩
/-- what is left, set -/
theorem Rp.rest {w : World} {g : Nat} {l l' : List UInt8} {ao ao' : Option Addr} {m c m' c' : Nat} (h : Rp w g l ao m c) (hb : Byt w ao' l') (hn : ao' = none → c' = 0) (hl : l'.length = m') (hc : m' ≤ c') (hm : c' ≤ 9223372036854775807) (h47 : m' ≤ 140737488355328) (hf : ∀ a, ao' = some a → a.block < g) :
    Rp (w.setCell ⟨g, 0, none⟩ (.slice ao' m' c')) g l' ao' m' c' :=
  { blk := by have := h.blk.set 0 (.slice ao' m' c'); simpa using this
    byt := byt_grown hb (grownBy_setCell w g 0 _) hf
    hn := hn, len := hl, cap := hc, max := hm, most := h47, far := hf
    err := h.err.row (grownBy_setCell w g 0 _) (fun b e => by injection e with e; have := h.one; omega)
    one := h.one }
/-- what a reader's call leaves: a value and what is left, or what is wrong goes up -/
def AnsP {α : Type} (w : World) (g : Nat) (V : World → α → Value → Prop) (o : Option (α × List UInt8)) (e : Ending) (w' : World) : Prop :=
  w.grownBy w' (some g) ∧ ((o = none ∧ e = .panicked Wrong) ∨ ∃ x r v, o = some (x, r) ∧ e = .returned v ∧ V w' x v ∧ Rdr w' g r)
def VInt (_ : World) (x : Int) (v : Value) : Prop := v = .int .i64 x
def VStr (_ : World) (s : ByteArray) (v : Value) : Prop := v = .string s
def VOwn (B : Nat) (w : World) (l : List UInt8) (v : Value) : Prop := Own w B v l
set_option maxHeartbeats 2000000 in
set_option maxRecDepth 100000 in
theorem number_rd (g : Nat) (l : List UInt8) (w : World) (h : Rdr w g l) :
    Calls Tryz.prog 114 #[.pointer (some ⟨g, 0, none⟩)] w (AnsP w g VInt (pNum 32768 l)) := by
  obtain ⟨ao, m, c, h⟩ := h
  have RD := Lib.hid h
  have c0 := h.blk.cell 0
  simp only [List.getElem?_cons_zero] at c0
  have cg := get_any ao l c w h.err h.byt (by rw [h.len]; exact h.cap) h.max
  rw [h.len] at cg
  have hpn : pNum 32768 l = if (getL l).2.2 = 0 ∧ (getL l).1 ≤ 32768 then some (((getL l).1 : Int), l.drop (getL l).2.1) else none := rfl
  have hag := fun x n => getL_again l x n
  obtain ⟨x, n, q, hg⟩ : ∃ x n q, getL l = (x, n, q) := ⟨_, _, _, rfl⟩
  rw [hg] at cg hpn hag
  simp only at cg hpn
  have CG := Lib.hid cg
  have HP := Lib.hid hpn
  by_cases hq : q = 0
  · subst hq
    by_cases hx : x ≤ 32768
    · obtain ⟨g1, g2, g3, _⟩ := hag x n rfl
      obtain ⟨af, s1, s2, s3, s4⟩ := slice_rest ao m c n l (by rw [← h.len]; exact g2) h.len.symm h.hn h.cap
      have S2 := Lib.hid s2
      have S3 := Lib.hid s3
      have S4 := Lib.hid (s4 g h.far)
      have G2 : n ≤ m := by rw [← h.len]; exact g2
      have HO : Hid (pNum 32768 l = some ((x : Int), l.drop n)) := by show _ = _; rw [HP.out, if_pos ⟨rfl, hx⟩]
      have t1 : decide ((x : Int) ≤ 32768) = true := by simp; omega
      have t2 : decide (x ≤ 32768) = true := by simp; omega
      have w4 : IntKind.i64.wrap (x : Int) = (x : Int) := IntWalk.i64_in _ (by omega)
      clear cg hpn hag hg g1 g2 g3 s2 s3 s4 h HP
      go_enter Tryz.func114, Tryz.ntmps114
      go_wp2_with fail
      refine CG.out.mono ?_
      clear CG
      rintro e w1 ⟨rfl, hb⟩
      have R1 := Lib.hid (RD.out.grown hb)
      have G1 := Lib.hid (grown_below hb (some g))
      have d0 := R1.out.blk.cell 0
      have f0 := R1.out.blk.frozen 0
      simp only [List.getElem?_cons_zero] at d0
      clear hb c0 RD
      go_wp2_with fail
      refine (need_yes _).mono ?_
      rintro e w2 ⟨rfl, rfl⟩
      have RN := Lib.hid (R1.out.rest (ao' := af) (l' := l.drop n) (m' := m - n) (c' := c - n) (S2.out w1 R1.out.byt) S3.out (by rw [List.length_drop, R1.out.len]) (by have := R1.out.cap; omega) (by have := R1.out.max; omega) (by have := R1.out.most; omega) S4.out)
      have GN := Lib.hid (grownBy_trans G1.out (grownBy_setCell w1 g 0 (.slice af (m - n) (c - n))))
      go_wp2_with fail
      go_ret
      exact ⟨GN.out, .inr ⟨_, _, _, HO.out, rfl, rfl, af, m - n, c - n, RN.out⟩⟩
    · have HO : Hid (pNum 32768 l = none) := by show _ = _; rw [HP.out, if_neg (fun h => hx h.2)]
      have t1 : decide ((x : Int) ≤ 32768) = false := by simp; omega
      have t2 : decide (x ≤ 32768) = false := by simp; omega
      clear cg hpn hag hg h HP hx
      go_enter Tryz.func114, Tryz.ntmps114
      go_wp2_with fail
      refine CG.out.mono ?_
      clear CG
      rintro e w1 ⟨rfl, hb⟩
      have G1 := Lib.hid (grown_below hb (some g))
      clear hb c0 RD
      go_wp2_with fail
      refine (need_no _).mono ?_
      rintro e w2 ⟨rfl, rfl⟩
      exact ⟨rfl, G1.out, .inl ⟨HO.out, rfl⟩⟩
  · have HO : Hid (pNum 32768 l = none) := by show _ = _; rw [HP.out, if_neg (fun h => hq h.1)]
    have t0 : ((q : Int) == 0) = false := by simp; omega
    have t3 : (q == 0) = false := by simp; omega
    clear cg hpn hag hg h HP hq
    go_enter Tryz.func114, Tryz.ntmps114
    go_wp2_with fail
    refine CG.out.mono ?_
    clear CG
    rintro e w1 ⟨rfl, hb⟩
    have G1 := Lib.hid (grown_below hb (some g))
    clear hb c0 RD
    go_wp2_with fail
    refine (need_no _).mono ?_
    rintro e w2 ⟨rfl, rfl⟩
    exact ⟨rfl, G1.out, .inl ⟨HO.out, rfl⟩⟩
theorem take_data (l : List UInt8) (most : Nat) : ((takeR l (most : Int)).2.2 = 0 ∧ (takeR l (most : Int)).2.1 ≤ l.length ∧ pData most l = some ((takeR l (most : Int)).1, l.drop (takeR l (most : Int)).2.1)) ∨ ((takeR l (most : Int)).2.2 ≠ 0 ∧ pData most l = none) := by
  have hag := fun x n => getL_again l x n
  unfold takeR pData pNum
  obtain ⟨x, n, q, hg⟩ : ∃ x n q, getL l = (x, n, q) := ⟨_, _, _, rfl⟩
  rw [hg] at hag ⊢
  simp only
  by_cases hq : q = 0
  · subst hq
    obtain ⟨_, g2, _, _⟩ := hag x n rfl
    have m1 : ¬ ((most : Int) < 0) := by omega
    by_cases hx : x ≤ most
    · have m2 : ¬ (most < x) := by omega
      by_cases h3 : l.length < n + x
      · have h4 : ¬ x ≤ l.length - n := by omega
        simp [m1, m2, h3, h4, hx]
      · have h4 : x ≤ l.length - n := by omega
        simp [m1, m2, h3, h4, hx, List.drop_drop]
        omega
    · have m2 : most < x := by omega
      simp [m1, m2, hx]
  · simp [hq]
set_option maxHeartbeats 2000000 in
set_option maxRecDepth 100000 in
theorem counted_rd (g : Nat) (l : List UInt8) (w : World) (h : Rdr w g l) :
    Calls Tryz.prog 128 #[.pointer (some ⟨g, 0, none⟩)] w (AnsP w g (VOwn w.heap.size) (pData 1000 l)) := by
  obtain ⟨ao, m, c, h⟩ := h
  have RD := Lib.hid h
  have c0 := h.blk.cell 0
  simp only [List.getElem?_cons_zero] at c0
  have cg := take_any ao l c 1000 w h.err h.byt (by rw [h.len]; exact h.cap) h.max (by rw [h.len]; exact h.most) (by decide) (by decide)
  rw [h.len] at cg
  have ht := take_data l 1000
  rw [show ((1000 : Nat) : Int) = 1000 from rfl] at ht
  obtain ⟨r, k, q, hr⟩ : ∃ r k q, takeR l 1000 = (r, k, q) := ⟨_, _, _, rfl⟩
  rw [hr] at cg ht
  simp only at ht
  have CG := Lib.hid cg
  have GLT := Lib.hid h.blk.lt
  clear cg hr
  rcases ht with ⟨rfl, hk, hp⟩ | ⟨hq, hp⟩
  · obtain ⟨af, s1, s2, s3, s4⟩ := slice_rest ao m c k l (by rw [← h.len]; exact hk) h.len.symm h.hn h.cap
    have S2 := Lib.hid s2
    have S3 := Lib.hid s3
    have S4 := Lib.hid (s4 g h.far)
    have G2 : k ≤ m := by rw [← h.len]; exact hk
    have HO := Lib.hid hp
    clear s2 s3 s4 hk hp h
    go_enter Tryz.func128, Tryz.ntmps128
    go_wp2_with fail
    refine CG.out.mono ?_
    clear CG
    rintro e w1 ⟨hb, v, rfl, ho⟩
    have R1 := Lib.hid (RD.out.grown hb)
    have G1 := Lib.hid (grown_below hb (some g))
    have O1 : Hid (Own w1 w.heap.size v r) := Lib.hid ho
    have d0 := R1.out.blk.cell 0
    have f0 := R1.out.blk.frozen 0
    simp only [List.getElem?_cons_zero] at d0
    clear hb c0 RD ho
    go_wp2_with fail
    refine (need_yes _).mono ?_
    rintro e w2 ⟨rfl, rfl⟩
    have RN := Lib.hid (R1.out.rest (ao' := af) (l' := l.drop k) (m' := m - k) (c' := c - k) (S2.out w1 R1.out.byt) S3.out (by rw [List.length_drop, R1.out.len]) (by have := R1.out.cap; omega) (by have := R1.out.max; omega) (by have := R1.out.most; omega) S4.out)
    have GN := Lib.hid (grownBy_trans G1.out (grownBy_setCell w1 g 0 (.slice af (m - k) (c - k))))
    have ON : Hid (Own (w1.setCell ⟨g, 0, none⟩ (.slice af (m - k) (c - k))) w.heap.size v r) := ownsRow_setCell_below O1.out (a := ⟨g, 0, none⟩) GLT.out _
    go_wp2_with fail
    go_ret
    exact ⟨GN.out, .inr ⟨_, _, _, HO.out, rfl, ON.out, af, m - k, c - k, RN.out⟩⟩
  · have t0 : ((q : Int) == 0) = false := by simp; omega
    have t3 : (q == 0) = false := by simp; omega
    have HO := Lib.hid hp
    clear hq hp h
    go_enter Tryz.func128, Tryz.ntmps128
    go_wp2_with fail
    refine CG.out.mono ?_
    clear CG
    rintro e w1 ⟨hb, v, rfl, ho⟩
    have G1 := Lib.hid (grown_below hb (some g))
    clear hb c0 RD ho
    go_wp2_with fail
    refine (need_no _).mono ?_
    rintro e w2 ⟨rfl, rfl⟩
    exact ⟨rfl, G1.out, .inl ⟨HO.out, rfl⟩⟩
set_option maxHeartbeats 2000000 in
set_option maxRecDepth 100000 in
theorem key_rd (g : Nat) (l : List UInt8) (w : World) (h : Rdr w g l) :
    Calls Tryz.prog 129 #[.pointer (some ⟨g, 0, none⟩)] w (AnsP w g VStr (pKey l)) := by
  obtain ⟨ao, m, c, h⟩ := h
  have RD := Lib.hid h
  have c0 := h.blk.cell 0
  simp only [List.getElem?_cons_zero] at c0
  have hlen := h.len
  by_cases h32 : 32 ≤ m
  · have t1 : decide ((32 : Int) ≤ (m : Int)) = true := by simp; omega
    have t2 : decide (32 ≤ m) = true := by simp; omega
    have hc32 : 32 ≤ c := by have := h.cap; omega
    obtain ⟨af, s1, s2, s3, s4⟩ := slice_rest ao m c 32 l h32 hlen.symm h.hn h.cap
    have st := slice_to ao m c 32 hc32
    have S2 := Lib.hid s2
    have S3 := Lib.hid s3
    have S4 := Lib.hid (s4 g h.far)
    have CF := Lib.hid (from_any ao (l.take 32) 32 c w (h.byt.take 32) (by rw [List.length_take]; omega) hc32)
    have e1 : fromE (l.take 32) = 0 := by rw [fromE, if_pos (by rw [List.length_take]; omega)]
    rw [e1] at CF
    have HO : Hid (pKey l = some (fromS (l.take 32), l.drop 32)) := by
      show _ = _
      rw [pKey, if_pos (by omega), fromS, if_pos (by rw [List.length_take]; omega)]
    obtain ⟨k, hk⟩ : ∃ k, k = fromS (l.take 32) := ⟨_, rfl⟩
    rw [← hk] at CF HO
    have s1' : ∀ W, (Instr.slice 36 (.slice ao m c) (some (.int .i64 32)) none none).run Tryz.prog W = .ok (.slice af (m - 32) (c - 32)) W := s1
    have st' : ∀ W, (Instr.slice 36 (.slice ao m c) none (some (.int .i64 32)) none).run Tryz.prog W = .ok (.slice ao 32 c) W := st
    clear s2 s3 s4 e1 hk hlen h s1 st
    go_enter Tryz.func129, Tryz.ntmps129
    go_wp2_with fail
    refine (need_yes _).mono ?_
    rintro e w2 ⟨rfl, rfl⟩
    go_wp2_with fail
    refine CF.out.mono ?_
    clear CF
    rintro e w1 ⟨rfl, hb⟩
    have R1 := Lib.hid (RD.out.grown hb)
    have G1 := Lib.hid (grown_below hb (some g))
    have d0 := R1.out.blk.cell 0
    have f0 := R1.out.blk.frozen 0
    simp only [List.getElem?_cons_zero] at d0
    clear hb c0 RD
    go_wp2_with fail
    refine (need_yes _).mono ?_
    rintro e w2 ⟨rfl, rfl⟩
    have RN := Lib.hid (R1.out.rest (ao' := af) (l' := l.drop 32) (m' := m - 32) (c' := c - 32) (S2.out w1 R1.out.byt) S3.out (by rw [List.length_drop, R1.out.len]) (by have := R1.out.cap; omega) (by have := R1.out.max; omega) (by have := R1.out.most; omega) S4.out)
    have GN := Lib.hid (grownBy_trans G1.out (grownBy_setCell w1 g 0 (.slice af (m - 32) (c - 32))))
    go_wp2_with fail
    go_ret
    exact ⟨GN.out, .inr ⟨_, _, _, HO.out, rfl, rfl, af, m - 32, c - 32, RN.out⟩⟩
  · have t1 : decide ((32 : Int) ≤ (m : Int)) = false := by simp; omega
    have t2 : decide (32 ≤ m) = false := by simp; omega
    have HO : Hid (pKey l = none) := by show _ = _; rw [pKey, if_neg (by omega)]
    clear h32 hlen h
    go_enter Tryz.func129, Tryz.ntmps129
    go_wp2_with fail
    refine (need_no _).mono ?_
    rintro e w2 ⟨rfl, rfl⟩
    exact ⟨rfl, World.grownBy.refl _ _, .inl ⟨HO.out, rfl⟩⟩
end Go.Proofs.YtpjgkboafmebbaaGreatDoor.Sh
