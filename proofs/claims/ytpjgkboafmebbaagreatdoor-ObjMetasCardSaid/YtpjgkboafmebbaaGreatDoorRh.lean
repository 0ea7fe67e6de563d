/-
  The contract of the document's own GetRoot. Conditions: each law's own.
-/
import Derived.Test.YtpjgkboafmebbaaGreatDoorRg
import Derived.Laws.ResultCell
namespace Go.Proofs.YtpjgkboafmebbaaGreatDoor.Sh
open Go.RowKit Go.Lib Lb

/-- a result that lies in a block, and one beside it -/
theorem results_row_tmp {P : Program} {fn : Func} {p u : Tmp} {ty : TypeId} (h : fn.results = #[.cell p ty, .tmp u]) (tmps : Array Value) (w : World) (g : Nat) (t : TypeId) (cs : List Value) (d : TypeDesc) (y : Value)
    (hp : tmps.getD p undef = .pointer (some ⟨g, 0, none⟩)) (hy : tmps.getD u undef = y) (hg : Blk w g cs t)
    (hu : P.underlying ty = some d) (hd : (match d with | .struct _ | .array _ _ => true | _ => false) = true) (hi : (P.info? ty).map (·.size) = some cs.toArray.size) :
    (results fn tmps).run P w = .ok (.tuple #[.agg cs.toArray, y]) w := by
  rw [results_cell_tmp h, hp, hy]
  simp [asAddr, Result.andThen, run_loadVar_row w g t ty cs.toArray (0, 0) d hg hu hd hi]
theorem row_snoc {α : Type} (p : List UInt8 → Option (α × List UInt8)) (i : Nat) (l : List UInt8) : pRow p (i + 1) l = match pRow p i l with | none => none | some (xs, r) => match p r with | none => none | some (x, s) => some (xs ++ [x], s) := by
  induction i generalizing l with
  | zero =>
    show (match p l with | none => none | some (x, r) => some (([x] : List α), r)) = (match p l with | none => none | some (x, s) => some (([] : List α) ++ [x], s))
    rfl
  | succ i ih =>
    rw [pRow]
    conv => rhs; rw [pRow]
    cases h1 : p l with
    | none => rfl
    | some u =>
      obtain ⟨x, r⟩ := u
      simp only [ih r]
      cases h2 : pRow p i r with
      | none => rfl
      | some v =>
        obtain ⟨xs, s⟩ := v
        simp only
        cases h3 : p s with
        | none => rfl
        | some z => rfl
theorem row_none {α : Type} (p : List UInt8 → Option (α × List UInt8)) (l : List UInt8) (i j : Nat) (h : pRow p i l = none) (hj : i ≤ j) : pRow p j l = none := by
  induction j with
  | zero => obtain rfl : i = 0 := by omega
            exact h
  | succ j ih =>
    rcases Nat.lt_or_ge j i with h1 | h1
    · obtain rfl : i = j + 1 := by omega
      exact h
    · rw [row_snoc, ih h1]
/-- how many, as a reader tells -/
theorem num_step (most : Nat) (l : List UInt8) (b : Bool) : ∃ k : Nat, (stepR (pNum most) 0 l b).1 = (k : Int) ∧ k ≤ most := by
  unfold stepR pNum
  cases b with
  | true => exact ⟨0, rfl, by omega⟩
  | false =>
    by_cases h : (getL l).2.2 = 0 ∧ (getL l).1 ≤ most
    · exact ⟨(getL l).1, by simp [h], h.2⟩
    · exact ⟨0, by simp [if_neg h], by omega⟩
theorem step_ok {α : Type} {p : List UInt8 → Option (α × List UInt8)} {z : α} {l : List UInt8} {b : Bool} (h : (stepR p z l b).2.2 = false) : b = false ∧ p l = some ((stepR p z l b).1, (stepR p z l b).2.1) := by
  unfold stepR at h ⊢
  cases b with
  | true => cases h
  | false =>
    refine ⟨rfl, ?_⟩
    cases h1 : p l with
    | none => rw [h1] at h; cases h
    | some u => rfl
theorem step_bad {α : Type} {p : List UInt8 → Option (α × List UInt8)} {z : α} {l : List UInt8} (h : (stepR p z l false).2.2 = true) : p l = none := by
  unfold stepR at h
  cases h1 : p l with
  | none => rfl
  | some u => rw [h1] at h; cases h
/-- a root's head, read -/
theorem root_head (l l1 l2 : List UInt8) (x : Int) (n : Nat) (d1 d2 : Bool) (h1 : stepR (pNum 1025) 0 l false = (x, l1, d1)) (h2 : stepR (pNum 64) 0 l1 d1 = ((n : Int), l2, d2)) :
    (d2 = true → pRoot l = none) ∧ (d2 = false → pRoot l = match pRow pKey n l2 with | none => none | some (P, r) => some (⟨x, P⟩, r)) := by
  unfold pRoot pMap pSeq pMany pMap pSeq
  constructor
  · intro hd
    cases d1 with
    | true =>
      rw [step_bad (p := pNum 1025) (z := 0) (l := l) (by rw [h1])]
      rfl
    | false =>
      have k1 := (step_ok (p := pNum 1025) (z := 0) (l := l) (b := false) (by rw [h1])).2
      have k2 := step_bad (p := pNum 64) (z := 0) (l := l1) (by rw [h2]; exact hd)
      rw [k1, h1]
      simp only [k2]
      rfl
  · intro hd
    obtain ⟨k0, k2⟩ := step_ok (p := pNum 64) (z := 0) (l := l1) (b := d1) (by rw [h2]; exact hd)
    have k1 := (step_ok (p := pNum 1025) (z := 0) (l := l) (b := false) (by rw [h1]; exact k0)).2
    rw [h2] at k2
    rw [k1, h1]
    simp only [k2, Int.toNat_natCast]
    cases pRow pKey n l2 with
    | none => rfl
    | some u => rfl
/-- a reader that was made of bytes -/
theorem rd_new (w : World) (ao : Option Addr) (l : List UInt8) (m c : Nat) (g : Nat) (hg : g = w.heap.size) (hb : Byt w ao l) (hn : ao = none → c = 0) (hl : l.length = m) (hc : m ≤ c) (hm : c ≤ 9223372036854775807) (h47 : m ≤ 140737488355328) (hf : ∀ a, ao = some a → a.block < g) :
    Rd (w.alloc (.cells #[.slice ao m c, .bool false] 99)) g l false ao m c :=
  { blk := Blk.new w [.slice ao m c, .bool false] 99 g hg
    byt := hb.below ((Below.refl _ w).alloc (Nat.le_refl _) _)
    hn := hn, len := hl, cap := hc, max := hm, most := h47, far := hf }
/-- what a reader's call leaves alone -/
theorem AnsR.kept {w w' : World} {g : Nat} {v : Value} {l : List UInt8} {bad : Bool} {e : Ending} (h : AnsR w g v l bad e w') {k : Nat} {cs : List Value} {t : TypeId} (hk : Blk w k cs t) (hne : k ≠ g) : Blk w' k cs t := blk_grown hk h.2.1 hne
theorem AnsR.below {w w' : World} {g B : Nat} {v : Value} {l : List UInt8} {bad : Bool} {e : Ending} (h : AnsR w g v l bad e w') {w0 : World} (hb : Below B w0 w) (hB : B ≤ w.heap.size) (hg : B ≤ g) : Below B w0 w' := hb.grown h.2.1 hB (fun k hk => by injection hk with hk; omega)
/-- what the reader of a root gives -/
def GetsRoot (w : World) (l : List UInt8) (e : Ending) (w' : World) : Prop :=
  Below w.heap.size w w' ∧ ((getRoot l = none ∧ e = .returned (.tuple #[.agg #[.int .i64 0, .slice none 0 0], .int .i64 80])) ∨
    ∃ x v, getRoot l = some x ∧ e = .returned (.tuple #[.agg #[.int .i64 x.next, v], .int .i64 0]) ∧ OwnS w' w.heap.size v x.pages)
theorem size35 : (Tryz.prog.info? 35).map (·.size) = some 2 := by kernel_rfl
theorem below_set {w w' : World} {B g i : Nat} (h : Below B w w') (hB : B ≤ w'.heap.size) (hg : B ≤ g) (v : Value) : Below B w (w'.setCell ⟨g, i, none⟩ v) := h.grown (grownBy_setCell w' g i v) hB (fun k hk => by injection hk with hk; omega)
theorem set_two {w : World} {g : Nat} {a b : Value} {t : TypeId} (h : Blk w g [a, b] t) (u v : Value) : Blk ((w.setCell ⟨g, 0, none⟩ u).setCell ⟨g, 1, none⟩ v) g [u, v] t := by
  have h1 := h.set 0 u
  have h2 := h1.set 1 v
  simpa using h2
theorem srw_one (w : World) (x : ByteArray) : Srw (w.alloc (.cells #[.string x] 47)) (some ⟨w.heap.size, 0, none⟩) [x] := fun _ => by
  refine ⟨w.heap.size, 0, rfl, by simp, fun j hj => ?_⟩
  obtain rfl : j = 0 := by simpa using hj
  exact cell_new w #[.string x] 0 _ rfl rfl
theorem blk_row {w w' : World} {g : Nat} {k : Option Nat} {cs : List Value} {t : TypeId} (h : Blk w g cs t) (hg : w.grownBy w' k) (hne : some g ≠ k) : Blk w' g cs t := (hg.block g h.lt hne).trans h
theorem Rd.row {w w' : World} {g : Nat} {l : List UInt8} {bad : Bool} {ao : Option Addr} {m c : Nat} {k : Option Nat} (h : Rd w g l bad ao m c) (hg : w.grownBy w' k) (hk : ∀ b, k = some b → g < b) : Rd w' g l bad ao m c :=
  { blk := blk_row h.blk hg (fun e => by have := hk g e.symm; omega)
    byt := fun hne => by
      obtain ⟨b, o, h1, h2, h3⟩ := h.byt hne
      have hb : b < g := h.far _ h1
      exact ⟨b, o, h1, Nat.lt_of_lt_of_le h2 hg.size, fun j hj => hg.cell (h3 j hj) (fun e => by have := hk b e.symm; omega)⟩
    hn := h.hn, len := h.len, cap := h.cap, max := h.max, most := h.most, far := h.far }
theorem root_step {l l2 lr l3 : List UInt8} {x : Int} {n i : Nat} {d2 d3 : Bool} {P : List ByteArray} {k : ByteArray} (HH : (d2 = true → pRoot l = none) ∧ (d2 = false → pRoot l = match pRow pKey n l2 with | none => none | some (P, r) => some (⟨x, P⟩, r)))
    (HN : d2 = false ∧ pRow pKey i l2 = some (P, lr)) (HK : (k, l3, d3) = stepR pKey ⟨#[]⟩ lr false) (hin : i < n) : if d3 = true then pRoot l = none else d2 = false ∧ pRow pKey (i + 1) l2 = some (P ++ [k], l3) := by
  cases d3 with
  | true =>
    rw [if_pos rfl, HH.2 HN.1, row_none pKey l2 (i + 1) n (by rw [row_snoc, HN.2]; simp only; rw [step_bad (p := pKey) (z := ⟨#[]⟩) (l := lr) (by rw [← HK])]) hin]
  | false =>
    rw [if_neg (by decide)]
    have h := (step_ok (p := pKey) (z := ⟨#[]⟩) (l := lr) (b := false) (by rw [← HK])).2
    rw [← HK] at h
    exact ⟨HN.1, by rw [row_snoc, HN.2]; simp only; rw [h]⟩
theorem owns_below {w w' : World} {B : Nat} {v : Value} {l : List ByteArray} (h : OwnS w B v l) (hb : Below w.heap.size w w') : OwnS w' B v l := by
  obtain ⟨h1, h2 | ⟨g, cap, cur, e1, e2, e3, e4⟩⟩ := h
  · exact ⟨h1, Or.inl h2⟩
  · exact ⟨h1, Or.inr ⟨g, cap, cur, e1, e2, (hb.block g (Array.getElem?_eq_some_iff.1 e3).1).trans e3, e4⟩⟩
theorem key_size (k : ByteArray) (h : keyOk k) : k.size = 64 := by
  by_cases h64 : k.size = 64
  · exact h64
  · exfalso
    unfold keyOk at h
    rw [keyBytes, if_neg (by rw [Array.length_toList]; exact h64)] at h
    cases h
theorem owns_kept {w w' : World} {B g : Nat} {v : Value} {l : List ByteArray} (h : OwnS w B v l) (hg : w.grownBy w' (some g)) (hb : g < B) : OwnS w' B v l := by
  obtain ⟨h1, h2 | ⟨k, cap, cur, e1, e2, e3, e4⟩⟩ := h
  · exact ⟨h1, Or.inl h2⟩
  · exact ⟨h1, Or.inr ⟨k, cap, cur, e1, e2, (hg.block k (Array.getElem?_eq_some_iff.1 e3).1 (fun e => by injection e with e; omega)).trans e3, e4⟩⟩
theorem owns_ne {W : World} {G b : Nat} {v : Value} {l : List ByteArray} (h : OwnS W G v l) (hb : b < G) : some b ≠ v.ownBlock := fun e => by
  have := (h.lt b e.symm).1
  omega
set_option maxHeartbeats 2000000 in
set_option maxRecDepth 100000 in
theorem getroot_any (ao : Option Addr) (l : List UInt8) (m c : Nat) (w : World) (hb : Byt w ao l) (hn : ao = none → c = 0) (hl : l.length = m) (hc : m ≤ c) (hm : c ≤ 9223372036854775807) (h47 : m ≤ 140737488355328) (hf : ∀ a, ao = some a → a.block < w.heap.size) :
    Calls Tryz.prog 29 #[.slice ao m c] w (GetsRoot w l) := by
  obtain ⟨wa, hwa⟩ : ∃ wa, wa = w.alloc (.cells #[.int .i64 0, .slice none 0 0] 35) := ⟨_, rfl⟩
  have sa : wa.heap.size = w.heap.size + 1 := by rw [hwa]; simp
  have B1 : Below w.heap.size w wa := by rw [hwa]; exact (Below.refl _ w).alloc (Nat.le_refl _) _
  have KA : Blk wa w.heap.size [.int .i64 0, .slice none 0 0] 35 := by rw [hwa]; exact Blk.new w [.int .i64 0, .slice none 0 0] 35 _ rfl
  obtain ⟨wb, hwb⟩ : ∃ wb, wb = wa.alloc (.cells #[.slice ao m c, .bool false] 99) := ⟨_, rfl⟩
  have sb : wb.heap.size = w.heap.size + 2 := by rw [hwb]; simp [sa]
  have RB := Lib.hid (rd_new wa ao l m c (w.heap.size + 1) sa.symm (hb.below B1) hn hl hc hm h47 (fun a ha => by have := hf a ha; omega))
  rw [← hwb] at RB
  have B2 : Hid (Below w.heap.size w wb) := by show Below _ _ _; rw [hwb]; exact B1.alloc (by omega) _
  have KB : Hid (Blk wb w.heap.size [.int .i64 0, .slice none 0 0] 35) := by show Blk _ _ _ _; rw [hwb]; exact KA.alloc _
  have C1 := Lib.hid (rnum_any (w.heap.size + 1) l false ao m c 1025 wb RB.out (by decide))
  clear KA B1 hb hn hl hc hm h47 hf
  go_enter Tryz.func29, Tryz.ntmps29
  go_wp2_with fail
  rw [← hwa, ← hwb]
  refine C1.out.mono ?_
  rintro e w1 ⟨rfl, h1, ao1, m1, c1, R1⟩
  have AN : AnsR wb (w.heap.size + 1) (.int .i64 (stepR (pNum 1025) 0 l false).1) (stepR (pNum 1025) 0 l false).2.1 (stepR (pNum 1025) 0 l false).2.2 (.returned (.int .i64 (stepR (pNum 1025) 0 l false).1)) w1 := ⟨rfl, h1, ao1, m1, c1, R1⟩
  have B3 := Lib.hid (AN.below B2.out (by omega) (by omega))
  have K3 := Lib.hid (AN.kept KB.out (by omega))
  have R3 := Lib.hid R1
  have S3 : Hid (w.heap.size + 2 ≤ w1.heap.size) := by show _ ≤ _; have := h1.size; omega
  clear AN h1 R1 C1 KB B2 RB hwb hwa sb sa
  obtain ⟨⟨x, l1, d1⟩, hs1⟩ : ∃ z : Int × List UInt8 × Bool, z = stepR (pNum 1025) 0 l false := ⟨_, rfl⟩
  rw [← hs1] at R3 ⊢
  have H1 := Lib.hid hs1
  clear hs1
  simp only at R3 ⊢
  obtain ⟨w2, hw2⟩ : ∃ w2, w2 = w1.alloc (.cells #[.int .i64 x, .slice none 0 0] 35) := ⟨_, rfl⟩
  have s2 : w2.heap.size = w1.heap.size + 1 := by rw [hw2]; simp
  have Q2 : Below w1.heap.size w1 w2 := by rw [hw2]; exact (Below.refl _ w1).alloc (Nat.le_refl _) _
  have B4 := Lib.hid (B3.out.trans (Q2.mono B3.out.size))
  have K4 := Lib.hid (K3.out.low Q2)
  have R4 := Lib.hid (R3.out.grown Q2)
  have X4 : Hid (Blk w2 w1.heap.size [.int .i64 x, .slice none 0 0] 35) := by show Blk _ _ _ _; rw [hw2]; exact Blk.new w1 [.int .i64 x, .slice none 0 0] 35 _ rfl
  have C2 := Lib.hid (rnum_any (w.heap.size + 1) l1 d1 ao1 m1 c1 64 w2 R4.out (by decide))
  obtain ⟨⟨n', l2, d2⟩, hs2⟩ : ∃ z : Int × List UInt8 × Bool, z = stepR (pNum 64) 0 l1 d1 := ⟨_, rfl⟩
  obtain ⟨n, hn1, hn2⟩ := num_step 64 l1 d1
  rw [← hs2] at C2 hn1
  simp only at C2 hn1
  subst hn1
  have H2 := Lib.hid hs2
  have HH := Lib.hid (root_head l l1 l2 x n d1 d2 H1.out.symm hs2.symm)
  obtain ⟨gX, hgX⟩ : ∃ gX, gX = w1.heap.size := ⟨_, rfl⟩
  rw [← hgX] at X4 S3 s2
  have S2 : Hid (gX < w2.heap.size) := by show _ < _; omega
  clear hs2 Q2 K3 R3 B3
  go_wp2_with fail
  rw [← hw2, ← hgX]
  refine C2.out.mono ?_
  rintro e w3 ⟨rfl, h1, ao2, m2, c2, R5⟩
  have AN : AnsR w2 (w.heap.size + 1) (.int .i64 (n : Int)) l2 d2 (.returned (.int .i64 (n : Int))) w3 := ⟨rfl, h1, ao2, m2, c2, R5⟩
  have G0 := S3.out
  have B5 := Lib.hid (AN.below B4.out B4.out.size (Nat.le_succ _))
  have K5 := Lib.hid (AN.kept K4.out (by omega))
  have X5 := Lib.hid (AN.kept X4.out (by omega))
  have R6 := Lib.hid R5
  clear AN h1 R5 C2 K4 R4 B4 X4 hw2 s2 hgX H1 H2 S2
  go_wp2_with fail
  go_loopw [7] (fun vi wr => ∃ (i : Nat) (lr : List UInt8) (bad : Bool) (P : List ByteArray) (v : Value) (ar : Option Addr) (mr cr : Nat), i ≤ n ∧ vi = .int .i64 i ∧ Hid (Below w.heap.size w wr) ∧ Hid (Blk wr w.heap.size [.int .i64 0, .slice none 0 0] 35) ∧ Hid (Blk wr gX [.int .i64 x, v] 35) ∧ Hid (Rd wr (w.heap.size + 1) lr bad ar mr cr) ∧ Hid (OwnS wr (gX + 1) v P) ∧ Hid (P.length = i) ∧ Hid (if bad = true then pRoot l = none else d2 = false ∧ pRow pKey i l2 = some (P, lr))) (fun vi _ => n - (RowKit.intOf vi).toNat)
  case atStart =>
    refine ⟨0, l2, d2, [], .slice none 0 0, ao2, m2, c2, by omega, rfl, B5.out, K5.out, X5.out, R6.out, World.ownsRow_nil _ _ _ _, rfl, ?_⟩
    show ite _ _ _
    cases hd : d2 with
    | true => rw [if_pos rfl]; exact HH.out.1 hd
    | false => rw [if_neg (by decide)]; exact ⟨rfl, rfl⟩
  case round =>
    obtain ⟨i, lr, bad, P, v, ar, mr, cr, hi, rfl, hB, hK, hX, hR, hO, hP, hI⟩ := hrel
    have c0 := hR.out.blk.cell 0
    have c1 := hR.out.blk.cell 1
    have x0 := hX.out.cell 0
    have x1 := hX.out.cell 1
    have y0 := hK.out.cell 0
    have y1 := hK.out.cell 1
    have f0 := hK.out.frozen 0
    have f1 := hK.out.frozen 1
    simp only [List.getElem?_cons_zero, List.getElem?_cons_succ] at c0 c1 x0 x1 y0 y1
    cases bad with
    | true =>
      have HN := Lib.hid hI.out
      rw [if_pos rfl] at HN
      by_cases hin : i < n
      · have q2 : (i : Int) < (n : Int) := by omega
        clear hI hO hP hR
        go_wp2_with fail
        exact bodyPost_ret (results_row_tmp rfl _ _ w.heap.size 35 _ _ _ rfl rfl (set_two hK.out _ _) Tryz.underlying35 rfl size35) rfl ⟨below_set (below_set hB.out hB.out.size (Nat.le_refl _) _) (by simp; exact hB.out.size) (Nat.le_refl _) _, .inl ⟨by rw [getRoot, whole, HN.out], rfl⟩⟩
      · obtain rfl : i = n := by omega
        clear hI hO hP hR
        go_wp2_with fail
        exact bodyPost_ret (results_row_tmp rfl _ _ w.heap.size 35 _ _ _ rfl rfl (set_two hK.out _ _) Tryz.underlying35 rfl size35) rfl ⟨below_set (below_set hB.out hB.out.size (Nat.le_refl _) _) (by simp; exact hB.out.size) (Nat.le_refl _) _, .inl ⟨by rw [getRoot, whole, HN.out], rfl⟩⟩
    | false =>
      have HN := Lib.hid hI.out
      rw [if_neg (by decide)] at HN
      by_cases hin : i < n
      · have q2 : (i : Int) < (n : Int) := by omega
        have CK := Lib.hid (rkey_any (w.heap.size + 1) lr false ar mr cr wr.drew (hR.out.grown (Below.refl _ wr).drew))
        obtain ⟨⟨k, l3, d3⟩, hs3⟩ : ∃ z : ByteArray × List UInt8 × Bool, z = stepR pKey ⟨#[]⟩ lr false := ⟨_, rfl⟩
        rw [← hs3] at CK
        simp only at CK
        have HK := Lib.hid hs3
        have p1 : (P.length + [k].length) * 16 ≤ 140737488355328 := by rw [hP.out]; simp; omega
        have GL := hX.out.lt
        clear hs3 hI
        go_wp2_with fail
        have fx := hX.out.frozen 1
        have z1 : wr.drew.cell? ⟨gX, 1, none⟩ = some v := x1
        go_region_law (first
          | (go_simp
             go_at_call 48; (with_reducible refine CK.out.mono ?_); rintro e w4 ⟨rfl, h1, ao3, m3, c3, R7⟩
             have X7 := Lib.hid (blk_grown (w := wr.drew) hX.out h1 (by omega))
             have X9 := Lib.hid (X7.out.alloc (.cells #[.string k] 47))
             have O7 := Lib.hid (World.ownsRow.alloc (owns_kept (w := wr.drew) hO.out h1 (by omega)) (.cells #[.string k] 47))
             have p2 : gX + 1 ≤ (w4.alloc (.cells #[.string k] 47)).heap.size := by have : wr.heap.size ≤ w4.heap.size := h1.size; simp; omega
             have z2 := X7.out.cell 1
             have z3 := X9.out.cell 1
             simp only [List.getElem?_cons_zero, List.getElem?_cons_succ] at z2 z3)
          | (refine step_apps (t := 31) (e := 47) rfl (.tmp 29) (.tmp 32) rfl Tryz.underlying31 infoS (gX + 1) v P [k] (by simp [Act.eval]) O7.out ⟨w4.heap.size, 0, none⟩ 1 (by simp [Act.eval]) (srw_one w4 k) p1 p2 ?_; intro v5 w5 o5 g5
             obtain ⟨ao5, c5, rfl, _, _, _, _⟩ := own_srw o5
             have X8 := Lib.hid (blk_row X9.out g5 (owns_ne O7.out (Nat.lt_succ_self _)))
             have e1 := X8.out.cell 1
             have e2 := X8.out.frozen 1
             simp only [List.getElem?_cons_zero, List.getElem?_cons_succ] at e1))
        all_goals
          have hL : (P ++ [k]).length = P.length + 1 := by simp
          have o6 : OwnS w5 (gX + 1) (.slice ao5 (P.length + 1) c5) (P ++ [k]) := by rw [← hL]; exact o5
          have far5 : ∀ b, v.ownBlock = some b → gX < b := fun b hb => (O7.out.lt b hb).1
          have RZ := Lib.hid (((R7.grown ((Below.refl _ w4).alloc (Nat.le_refl _) (.cells #[.string k] 47))).row g5 (fun b hb => by have := far5 b hb; omega)).row (grownBy_setCell w5 gX 1 (.slice ao5 (P.length + 1) c5)) (fun b hb => by injection hb with hb; omega))
          have KZ := Lib.hid ((blk_row ((blk_grown (w := wr.drew) hK.out h1 (by omega)).alloc (.cells #[.string k] 47)) g5 (owns_ne O7.out (by omega))).other (a := ⟨gX, 1, none⟩) (.slice ao5 (P.length + 1) c5) (by show w.heap.size ≠ gX; omega))
          have XZ : Hid (Blk (w5.setCell ⟨gX, 1, none⟩ (.slice ao5 (P.length + 1) c5)) gX [.int .i64 x, .slice ao5 (P.length + 1) c5] 35) := by show Blk _ _ _ _; have := X8.out.set 1 (.slice ao5 (P.length + 1) c5); simpa using this
          have OZ : Hid (OwnS (w5.setCell ⟨gX, 1, none⟩ (.slice ao5 (P.length + 1) c5)) (gX + 1) (.slice ao5 (P.length + 1) c5) (P ++ [k])) := ownsRow_setCell_below o6 (a := ⟨gX, 1, none⟩) (Nat.lt_succ_self _) _
          have BZ : Hid (Below w.heap.size w (w5.setCell ⟨gX, 1, none⟩ (.slice ao5 (P.length + 1) c5))) := by
            have q1 : Below w.heap.size w w4 := (hB.out.drew).grown h1 hB.out.size (fun b hb => by injection hb with hb; omega)
            have q2 := (q1.alloc q1.size (.cells #[.string k] 47)).grown g5 (q1.alloc q1.size (.cells #[.string k] 47)).size (fun b hb => by have := far5 b hb; omega)
            exact q2.setCell (p := ⟨gX, 1, none⟩) (by show w.heap.size ≤ gX; omega) _
          have IZ := Lib.hid (root_step HH.out HN.out HK.out hin)
          have LZ : Hid ((P ++ [k]).length = i + 1) := by show _ = _; rw [hL, hP.out]
          clear o5 o6 g5 R7 h1 far5 O7 X8 X9 X7 e1 e2 z1 z2 z3 hL p1 p2
          go_wp2_with fail
          go_roundw
          case rel => exact ⟨i + 1, l3, d3, P ++ [k], _, ao3, m3, c3, by omega, by go_num, BZ, KZ, XZ, RZ, OZ, LZ, IZ⟩
          case measure => simp [RowKit.intOf]; omega
      · obtain rfl : i = n := by omega
        have HR : Hid (pRoot l = some (⟨x, P⟩, lr)) := by show _ = _; rw [HH.out.2 HN.out.1, HN.out.2]
        obtain ⟨ap, cp, rfl, hp1, hp2, hp3, _⟩ := own_srw hO.out
        have hsz : ∀ s ∈ P, s.size ≤ 9223372036854775807 := fun s hs => by
          have hk := ((law_row law_key i l2 P lr).1 HN.out.2).1.2 s hs
          have := key_size s hk
          omega
        by_cases hm : 0 < mr
        · have t0 : decide (0 < mr) = true := by simpa using hm
          have t1 : decide ((0 : Int) < (mr : Int)) = true := by simp; omega
          have hne : lr ≠ [] := fun h => by have := hR.out.len; rw [h] at this; simp at this; omega
          have HE : Hid (getRoot l = none) := by
            show _ = _
            rw [getRoot, whole, HR.out]
            simp only
            rw [if_neg (fun h => hne h.1)]
          clear hI hm
          go_wp2_with fail
          exact bodyPost_ret (results_row_tmp rfl _ _ w.heap.size 35 _ _ _ rfl rfl (set_two hK.out _ _) Tryz.underlying35 rfl size35) rfl ⟨below_set (below_set hB.out hB.out.size (Nat.le_refl _) _) (by simp; exact hB.out.size) (Nat.le_refl _) _, .inl ⟨HE.out, rfl⟩⟩
        · have hm0 : mr = 0 := by omega
          subst hm0
          have hnil : lr = [] := List.eq_nil_of_length_eq_zero hR.out.len
          have RO := Lib.hid (rootok_any x ap P P.length cp wr hp3 rfl hp1 hp2 hsz)
          clear hI hm hsz hp3
          go_wp2_with fail
          refine RO.out.mono ?_
          rintro e w4 ⟨⟨b, rfl, hbb⟩, hb4⟩
          have K7 := Lib.hid (hK.out.low hb4)
          have X7 := Lib.hid (hX.out.low hb4)
          have B7 := Lib.hid (below_chain hB.out hb4)
          have O7 := Lib.hid (owns_below hO.out hb4)
          have HBB := Lib.hid hbb
          have gx := X7.out.lt
          clear c0 c1 x0 x1 y0 y1 f0 f1 hbb hb4
          have y0 := K7.out.cell 0
          have y1 := K7.out.cell 1
          have f0 := K7.out.frozen 0
          have f1 := K7.out.frozen 1
          have x0 := X7.out.cell 0
          have x1 := X7.out.cell 1
          simp only [List.getElem?_cons_zero, List.getElem?_cons_succ] at x0 x1 y0 y1
          cases b with
          | false =>
            have HE : Hid (getRoot l = none) := by
              show _ = _
              rw [getRoot, whole, HR.out]
              simp only
              rw [if_neg (fun h => by have := HBB.out.2 h.2; cases this)]
            go_wp2_with fail
            exact bodyPost_ret (results_row_tmp rfl _ _ w.heap.size 35 _ _ _ rfl rfl (set_two K7.out _ _) Tryz.underlying35 rfl size35) rfl ⟨below_set (below_set B7.out B7.out.size (Nat.le_refl _) _) (by simp; exact B7.out.size) (Nat.le_refl _) _, .inl ⟨HE.out, rfl⟩⟩
          | true =>
            have HE : Hid (getRoot l = some ⟨x, P⟩) := by
              show _ = _
              rw [getRoot, whole, HR.out]
              simp only
              rw [if_pos ⟨hnil, HBB.out.1 rfl⟩]
            go_wp2_with fail
            exact bodyPost_ret (results_row_tmp rfl _ _ w.heap.size 35 _ _ _ rfl rfl (set_two K7.out _ _) Tryz.underlying35 rfl size35) rfl ⟨below_set (below_set B7.out B7.out.size (Nat.le_refl _) _) (by simp; exact B7.out.size) (Nat.le_refl _) _, .inr ⟨⟨x, P⟩, _, HE.out, rfl, OwnS.low (ownsRow_setCell_below (ownsRow_setCell_below O7.out (a := ⟨w.heap.size, 0, none⟩) (by show w.heap.size < gX + 1; omega) _) (a := ⟨w.heap.size, 1, none⟩) (by show w.heap.size < gX + 1; omega) _) (by omega)⟩⟩
end Go.Proofs.YtpjgkboafmebbaaGreatDoor.Sh
