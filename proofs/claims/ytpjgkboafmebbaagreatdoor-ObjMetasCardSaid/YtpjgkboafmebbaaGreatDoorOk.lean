/-
  The contracts of obj's root, page, listing, meta: an object's fields, read. Conditions: each law's own.
-/
import Derived.Test.YtpjgkboafmebbaaGreatDoorOj
namespace Go.Proofs.YtpjgkboafmebbaaGreatDoor.Sh
open Go.RowKit Go.Lib Lb

theorem ownG_kept {α : Type} {e : TypeId} {size B g : Nat} {cells : α → List Value} {w w' : World} {l : List α} {v : Value} (h : OwnG e size cells B w l v) (hg : w.grownBy w' (some g)) (hb : g < B) : OwnG e size cells B w' l v := row_kept h hg hb
theorem ownG_slice {α : Type} {e : TypeId} {size B : Nat} {cells : α → List Value} {w : World} {l : List α} {v : Value} (h : OwnG e size cells B w l v) : ∃ ao c, v = .slice ao l.length c := by
  obtain ⟨_, ⟨rfl, h2⟩ | ⟨g, c, cur, rfl, _⟩⟩ := h
  · exact ⟨none, 0, by rw [h2]⟩
  · exact ⟨_, _, rfl⟩
theorem ownA_slice {B : Nat} {w : World} {l : List (ByteArray × List UInt8)} {v : Value} (h : OwnA B w l v) : ∃ ao c, v = .slice ao l.length c := by
  obtain ⟨us, _, ⟨_, ⟨rfl, h2⟩ | ⟨g, c, cur, rfl, _⟩⟩, _⟩ := h
  · exact ⟨none, 0, by rw [h2]⟩
  · exact ⟨_, _, rfl⟩
theorem ownG_set {α : Type} {e : TypeId} {size B b i : Nat} {cells : α → List Value} {w : World} {l : List α} {v : Value} (h : OwnG e size cells B w l v) (hb : b < B) (x : Value) : OwnG e size cells B (w.setCell ⟨b, i, none⟩ x) l v := row_kept h (grownBy_setCell w b i x) hb
theorem row_len {α : Type} {p : List UInt8 → Option (α × List UInt8)} : ∀ {n : Nat} {l r : List UInt8} {xs : List α}, pRow p n l = some (xs, r) → xs.length = n
  | 0, l, r, xs, h => by
    rw [pRow] at h
    simp only [Option.some.injEq, Prod.mk.injEq] at h
    rw [← h.1]
    rfl
  | n + 1, l, r, xs, h => by
    rw [pRow] at h
    cases h1 : p l with
    | none => rw [h1] at h; cases h
    | some u =>
      obtain ⟨x, s⟩ := u
      rw [h1] at h
      simp only at h
      cases h2 : pRow p n s with
      | none => rw [h2] at h; cases h
      | some v =>
        obtain ⟨ys, t⟩ := v
        rw [h2] at h
        simp only [Option.some.injEq, Prod.mk.injEq] at h
        rw [← h.1, List.length_cons, row_len h2]
theorem many_len {α : Type} {p : List UInt8 → Option (α × List UInt8)} {m : Nat} {l r : List UInt8} {xs : List α} (h : pMany m p l = some (xs, r)) : xs.length ≤ m := by
  cases h1 : pNum m l with
  | none => rw [many_none h1] at h; cases h
  | some u =>
    obtain ⟨n, s⟩ := u
    rw [many_some h1] at h
    have h2 := row_len h
    have h3 := num_some h1
    omega
/-- a root, as the program reads it -/
def pRootP : List UInt8 → Option (RootP × List UInt8) := pMap (fun z : Int × List ByteArray => (⟨z.1, z.2⟩ : RootP)) (pSeq (pNum 32768) fun _ => pMany 32768 pKey)
def VRoot (B : Nat) (w : World) (x : RootP) (v : Value) : Prop := ∃ u, v = .agg #[.int .i64 x.next, u] ∧ OwnG 47 1 cellsS B w x.pages u
/-- a page -/
def pPageP : List UInt8 → Option (PageP × List UInt8) := pMap (fun z : List Int × List ByteArray => (⟨z.1, z.2⟩ : PageP)) (pSeq (pMany 32768 (pNum 32768)) fun a => pRow pKey a.length)
def VPage (B : Nat) (w : World) (x : PageP) (v : Value) : Prop := ∃ u t, v = .agg #[u, t] ∧ OwnG 3 1 cellsI B w x.nums u ∧ OwnG 47 1 cellsS B w x.keys t
/-- a listing -/
def pListP : List UInt8 → Option (ListP × List UInt8) := pMap (fun z : Bool × List ByteArray × List Int => (⟨z.1, z.2.1, z.2.2⟩ : ListP)) (pSeq pFlag fun _ => pSeq (pMany 32768 (pText 1000)) fun a => pRow (pNum 32768) a.length)
def VList (B : Nat) (w : World) (x : ListP) (v : Value) : Prop := ∃ u t, v = .agg #[.bool x.opq, u, t] ∧ OwnG 9 1 cellsS B w x.names u ∧ OwnG 3 1 cellsI B w x.nums t
/-- a node -/
def pMetaP : List UInt8 → Option (MetaP × List UInt8) :=
  pMap (fun z : Int × Int × Int × Int × ByteArray × List (ByteArray × List UInt8) × List RefP => (⟨z.1, z.2.1, z.2.2.1, z.2.2.2.1, z.2.2.2.2.1, z.2.2.2.2.2.1, z.2.2.2.2.2.2⟩ : MetaP))
    (pSeq (pNum 32768) fun _ => pSeq (pNum 32768) fun _ => pSeq (pNum 32768) fun _ => pSeq (pNum 32768) fun _ => pSeq (pText 1000) fun _ => pSeq (pMany 32768 pAttP) fun _ => pMany 32768 pRefP)
def VMeta (B : Nat) (w : World) (x : MetaP) (v : Value) : Prop := ∃ u t, v = .agg #[.int .i64 x.kind, .int .i64 x.mode, .int .i64 x.links, .int .i64 x.size, .string x.target, u, t] ∧ OwnA B w x.attrs u ∧ OwnG 49 4 cellsR B w x.refs t
theorem set_three {w : World} {g : Nat} {a b c : Value} {t : TypeId} (h : Blk w g [a, b, c] t) (a' b' c' : Value) : Blk (((w.setCell ⟨g, 0, none⟩ a').setCell ⟨g, 1, none⟩ b').setCell ⟨g, 2, none⟩ c') g [a', b', c'] t := by
  have h3 := ((h.set 0 a').set 1 b').set 2 c'
  simpa using h3
theorem set_seven {w : World} {g : Nat} {a b c d x y z : Value} {t : TypeId} (h : Blk w g [a, b, c, d, x, y, z] t) (a' b' c' d' x' y' z' : Value) : Blk (((((((w.setCell ⟨g, 0, none⟩ a').setCell ⟨g, 1, none⟩ b').setCell ⟨g, 2, none⟩ c').setCell ⟨g, 3, none⟩ d').setCell ⟨g, 4, none⟩ x').setCell ⟨g, 5, none⟩ y').setCell ⟨g, 6, none⟩ z') g [a', b', c', d', x', y', z'] t := by
  have h3 := ((((((h.set 0 a').set 1 b').set 2 c').set 3 d').set 4 x').set 5 y').set 6 z'
  simpa using h3
set_option maxHeartbeats 2000000 in
set_option maxRecDepth 100000 in
theorem fields_root (g : Nat) (l : List UInt8) (w : World) (h : Rdr w g l) :
    Calls Tryz.prog 58 #[.pointer (some ⟨g, 0, none⟩)] w (AnsP w g (VRoot w.heap.size) (pRootP l)) := by
  obtain ⟨w0, hwa⟩ : ∃ wa, wa = w.alloc (.cells #[.int .i64 0, .slice none 0 0] 35) := ⟨_, rfl⟩
  have ba : Below w.heap.size w w0 := by rw [hwa]; exact (Below.refl _ w).alloc (Nat.le_refl _) _
  have sa : w0.heap.size = w.heap.size + 1 := by rw [hwa]; simp
  have K0 : Hid (Blk w0 w.heap.size [.int .i64 0, .slice none 0 0] 35) := by show Blk _ _ _ _; rw [hwa]; exact Blk.new w [.int .i64 0, .slice none 0 0] 35 _ rfl
  have gl : g < w.heap.size := by
    obtain ⟨ao, m, c, hr⟩ := h
    exact hr.blk.lt
  have G0 := Lib.hid (grown_below ba (some g))
  have HA := Lib.hid hwa
  have R0 := Lib.hid (h.grown ba)
  have S0 : w.heap.size + 1 ≤ w0.heap.size := by omega
  clear h ba sa hwa
  go_enter Tryz.func58, Tryz.ntmps58
  have C := Lib.hid (read_int g l w0 R0.out)
  go_wp2_with fail
  rw [← HA.out]
  clear HA
  refine C.out.mono ?_
  clear C
  rintro e w1 ⟨hg, ⟨ho, rfl⟩ | ⟨x1, r1, v, ho, rfl, hv, hr⟩⟩
  · exact ⟨rfl, gb_then G0.out hg (fun j hj => .inr hj), .inl ⟨by simp only [pRootP, pMap, pSeq, ho, Option.map_none], rfl⟩⟩
  have hv' : v = .int .i64 x1 := hv
  subst hv'
  have G1 := Lib.hid (gb_then G0.out hg (fun j hj => .inr hj))
  have K1 := Lib.hid (blk_grown K0.out hg (by omega))
  have R1 := Lib.hid hr
  have H1 := Lib.hid ho
  have S1 : w.heap.size + 1 ≤ w1.heap.size := by have := hg.size; omega
  clear hv hg hr ho K0 G0 R0
  have C := Lib.hid (readrow_key g r1 w1 R1.out)
  go_wp2_with fail
  refine C.out.mono ?_
  clear C
  rintro e w2 ⟨hg, ⟨ho, rfl⟩ | ⟨x2, r2, v, ho, rfl, hv, hr⟩⟩
  · exact ⟨rfl, gb_then G1.out hg (fun j hj => .inr hj), .inl ⟨by simp only [pRootP, pMap, pSeq, H1.out, ho, Option.map_none], rfl⟩⟩
  obtain ⟨a2, c2, rfl⟩ := ownG_slice hv
  have O2 := Lib.hid (OwnG.low hv S1)
  have G2 := Lib.hid (gb_then G1.out hg (fun j hj => .inr hj))
  have K2 := Lib.hid (blk_grown K1.out hg (by omega))
  have R2 := Lib.hid hr
  have H2 := Lib.hid ho
  have S2 : w.heap.size + 1 ≤ w2.heap.size := by have := hg.size; omega
  clear hv hg hr ho K1 G1 R1
  have k0 := K2.out.cell 0
  have f0 := K2.out.frozen 0
  have k1 := K2.out.cell 1
  have f1 := K2.out.frozen 1
  simp only [List.getElem?_cons_zero, List.getElem?_cons_succ] at k0 k1
  have HP : Hid (pRootP l = some (⟨x1, x2⟩, r2)) := by show _ = _; simp only [pRootP, pMap, pSeq, H1.out, H2.out, Option.map_some]
  clear H1 H2
  go_wp2_with fail
  have KZ := set_two K2.out (.int .i64 x1) (.slice a2 x2.length c2)
  have GZ := gb_set (gb_set (G2.out) (b := w.heap.size) (i := 0) (Nat.le_refl _) (.int .i64 x1)) (b := w.heap.size) (i := 1) (Nat.le_refl _) (.slice a2 x2.length c2)
  have RZ := ((R2.out).row (grownBy_setCell _ w.heap.size 0 (.int .i64 x1)) (fun j hj => by injection hj with hj; omega)).row (grownBy_setCell _ w.heap.size 1 (.slice a2 x2.length c2)) (fun j hj => by injection hj with hj; omega)
  have Z2 := ownG_kept (ownG_kept (O2.out) (grownBy_setCell _ w.heap.size 0 (.int .i64 x1)) (Nat.lt_succ_self _)) (grownBy_setCell _ w.heap.size 1 (.slice a2 x2.length c2)) (Nat.lt_succ_self _)
  exact bodyPost_ret (results_cell_row rfl _ _ w.heap.size 35 _ (0, 0) _ rfl KZ Tryz.underlying35 rfl size35') rfl ⟨GZ, .inr ⟨_, _, _, HP.out, rfl, ⟨_, rfl, OwnG.low Z2 (Nat.le_succ _)⟩, RZ⟩⟩
set_option maxHeartbeats 2000000 in
set_option maxRecDepth 100000 in
theorem fields_page (g : Nat) (l : List UInt8) (w : World) (h : Rdr w g l) :
    Calls Tryz.prog 55 #[.pointer (some ⟨g, 0, none⟩)] w (AnsP w g (VPage w.heap.size) (pPageP l)) := by
  obtain ⟨w0, hwa⟩ : ∃ wa, wa = w.alloc (.cells #[.slice none 0 0, .slice none 0 0] 33) := ⟨_, rfl⟩
  have ba : Below w.heap.size w w0 := by rw [hwa]; exact (Below.refl _ w).alloc (Nat.le_refl _) _
  have sa : w0.heap.size = w.heap.size + 1 := by rw [hwa]; simp
  have K0 : Hid (Blk w0 w.heap.size [.slice none 0 0, .slice none 0 0] 33) := by show Blk _ _ _ _; rw [hwa]; exact Blk.new w [.slice none 0 0, .slice none 0 0] 33 _ rfl
  have gl : g < w.heap.size := by
    obtain ⟨ao, m, c, hr⟩ := h
    exact hr.blk.lt
  have G0 := Lib.hid (grown_below ba (some g))
  have HA := Lib.hid hwa
  have R0 := Lib.hid (h.grown ba)
  have S0 : w.heap.size + 1 ≤ w0.heap.size := by omega
  clear h ba sa hwa
  go_enter Tryz.func55, Tryz.ntmps55
  have C := Lib.hid (readrow_int g l w0 R0.out)
  go_wp2_with fail
  rw [← HA.out]
  clear HA
  refine C.out.mono ?_
  clear C
  rintro e w1 ⟨hg, ⟨ho, rfl⟩ | ⟨x1, r1, v, ho, rfl, hv, hr⟩⟩
  · exact ⟨rfl, gb_then G0.out hg (fun j hj => .inr hj), .inl ⟨by simp only [pPageP, pMap, pSeq, ho, Option.map_none], rfl⟩⟩
  obtain ⟨a1, c1, rfl⟩ := ownG_slice hv
  have O1 := Lib.hid (OwnG.low hv S0)
  have G1 := Lib.hid (gb_then G0.out hg (fun j hj => .inr hj))
  have K1 := Lib.hid (blk_grown K0.out hg (by omega))
  have R1 := Lib.hid hr
  have H1 := Lib.hid ho
  have S1 : w.heap.size + 1 ≤ w1.heap.size := by have := hg.size; omega
  clear hv hg hr ho K0 G0 R0
  have C := Lib.hid (readeach_key g r1 x1.length (many_len H1.out) w1 R1.out)
  go_wp2_with fail
  refine C.out.mono ?_
  clear C
  rintro e w2 ⟨hg, ⟨ho, rfl⟩ | ⟨x2, r2, v, ho, rfl, hv, hr⟩⟩
  · exact ⟨rfl, gb_then G1.out hg (fun j hj => .inr hj), .inl ⟨by simp only [pPageP, pMap, pSeq, H1.out, ho, Option.map_none], rfl⟩⟩
  obtain ⟨a2, c2, rfl⟩ := ownG_slice hv
  have O2 := Lib.hid (OwnG.low hv S1)
  have O1 := Lib.hid (ownG_kept O1.out hg (by omega))
  have G2 := Lib.hid (gb_then G1.out hg (fun j hj => .inr hj))
  have K2 := Lib.hid (blk_grown K1.out hg (by omega))
  have R2 := Lib.hid hr
  have H2 := Lib.hid ho
  have S2 : w.heap.size + 1 ≤ w2.heap.size := by have := hg.size; omega
  clear hv hg hr ho K1 G1 R1
  have k0 := K2.out.cell 0
  have f0 := K2.out.frozen 0
  have k1 := K2.out.cell 1
  have f1 := K2.out.frozen 1
  simp only [List.getElem?_cons_zero, List.getElem?_cons_succ] at k0 k1
  have HP : Hid (pPageP l = some (⟨x1, x2⟩, r2)) := by show _ = _; simp only [pPageP, pMap, pSeq, H1.out, H2.out, Option.map_some]
  clear H1 H2
  go_wp2_with fail
  have KZ := set_two K2.out (.slice a1 x1.length c1) (.slice a2 x2.length c2)
  have GZ := gb_set (gb_set (G2.out) (b := w.heap.size) (i := 0) (Nat.le_refl _) (.slice a1 x1.length c1)) (b := w.heap.size) (i := 1) (Nat.le_refl _) (.slice a2 x2.length c2)
  have RZ := ((R2.out).row (grownBy_setCell _ w.heap.size 0 (.slice a1 x1.length c1)) (fun j hj => by injection hj with hj; omega)).row (grownBy_setCell _ w.heap.size 1 (.slice a2 x2.length c2)) (fun j hj => by injection hj with hj; omega)
  have Z1 := ownG_kept (ownG_kept (O1.out) (grownBy_setCell _ w.heap.size 0 (.slice a1 x1.length c1)) (Nat.lt_succ_self _)) (grownBy_setCell _ w.heap.size 1 (.slice a2 x2.length c2)) (Nat.lt_succ_self _)
  have Z2 := ownG_kept (ownG_kept (O2.out) (grownBy_setCell _ w.heap.size 0 (.slice a1 x1.length c1)) (Nat.lt_succ_self _)) (grownBy_setCell _ w.heap.size 1 (.slice a2 x2.length c2)) (Nat.lt_succ_self _)
  exact bodyPost_ret (results_cell_row rfl _ _ w.heap.size 33 _ (0, 0) _ rfl KZ Tryz.underlying33 rfl size33') rfl ⟨GZ, .inr ⟨_, _, _, HP.out, rfl, ⟨_, _, rfl, OwnG.low Z1 (Nat.le_succ _), OwnG.low Z2 (Nat.le_succ _)⟩, RZ⟩⟩
set_option maxHeartbeats 2000000 in
set_option maxRecDepth 100000 in
theorem fields_listing (g : Nat) (l : List UInt8) (w : World) (h : Rdr w g l) :
    Calls Tryz.prog 51 #[.pointer (some ⟨g, 0, none⟩)] w (AnsP w g (VList w.heap.size) (pListP l)) := by
  obtain ⟨w0, hwa⟩ : ∃ wa, wa = w.alloc (.cells #[.bool false, .slice none 0 0, .slice none 0 0] 30) := ⟨_, rfl⟩
  have ba : Below w.heap.size w w0 := by rw [hwa]; exact (Below.refl _ w).alloc (Nat.le_refl _) _
  have sa : w0.heap.size = w.heap.size + 1 := by rw [hwa]; simp
  have K0 : Hid (Blk w0 w.heap.size [.bool false, .slice none 0 0, .slice none 0 0] 30) := by show Blk _ _ _ _; rw [hwa]; exact Blk.new w [.bool false, .slice none 0 0, .slice none 0 0] 30 _ rfl
  have gl : g < w.heap.size := by
    obtain ⟨ao, m, c, hr⟩ := h
    exact hr.blk.lt
  have G0 := Lib.hid (grown_below ba (some g))
  have HA := Lib.hid hwa
  have R0 := Lib.hid (h.grown ba)
  have S0 : w.heap.size + 1 ≤ w0.heap.size := by omega
  clear h ba sa hwa
  go_enter Tryz.func51, Tryz.ntmps51
  have C := Lib.hid (read_bool g l w0 R0.out)
  go_wp2_with fail
  rw [← HA.out]
  clear HA
  refine C.out.mono ?_
  clear C
  rintro e w1 ⟨hg, ⟨ho, rfl⟩ | ⟨x1, r1, v, ho, rfl, hv, hr⟩⟩
  · exact ⟨rfl, gb_then G0.out hg (fun j hj => .inr hj), .inl ⟨by simp only [pListP, pMap, pSeq, ho, Option.map_none], rfl⟩⟩
  have hv' : v = .bool x1 := hv
  subst hv'
  have G1 := Lib.hid (gb_then G0.out hg (fun j hj => .inr hj))
  have K1 := Lib.hid (blk_grown K0.out hg (by omega))
  have R1 := Lib.hid hr
  have H1 := Lib.hid ho
  have S1 : w.heap.size + 1 ≤ w1.heap.size := by have := hg.size; omega
  clear hv hg hr ho K0 G0 R0
  have C := Lib.hid (readrow_string g r1 w1 R1.out)
  go_wp2_with fail
  refine C.out.mono ?_
  clear C
  rintro e w2 ⟨hg, ⟨ho, rfl⟩ | ⟨x2, r2, v, ho, rfl, hv, hr⟩⟩
  · exact ⟨rfl, gb_then G1.out hg (fun j hj => .inr hj), .inl ⟨by simp only [pListP, pMap, pSeq, H1.out, ho, Option.map_none], rfl⟩⟩
  obtain ⟨a2, c2, rfl⟩ := ownG_slice hv
  have O2 := Lib.hid (OwnG.low hv S1)
  have G2 := Lib.hid (gb_then G1.out hg (fun j hj => .inr hj))
  have K2 := Lib.hid (blk_grown K1.out hg (by omega))
  have R2 := Lib.hid hr
  have H2 := Lib.hid ho
  have S2 : w.heap.size + 1 ≤ w2.heap.size := by have := hg.size; omega
  clear hv hg hr ho K1 G1 R1
  have C := Lib.hid (readeach_int g r2 x2.length (many_len H2.out) w2 R2.out)
  go_wp2_with fail
  refine C.out.mono ?_
  clear C
  rintro e w3 ⟨hg, ⟨ho, rfl⟩ | ⟨x3, r3, v, ho, rfl, hv, hr⟩⟩
  · exact ⟨rfl, gb_then G2.out hg (fun j hj => .inr hj), .inl ⟨by simp only [pListP, pMap, pSeq, H1.out, H2.out, ho, Option.map_none], rfl⟩⟩
  obtain ⟨a3, c3, rfl⟩ := ownG_slice hv
  have O3 := Lib.hid (OwnG.low hv S2)
  have O2 := Lib.hid (ownG_kept O2.out hg (by omega))
  have G3 := Lib.hid (gb_then G2.out hg (fun j hj => .inr hj))
  have K3 := Lib.hid (blk_grown K2.out hg (by omega))
  have R3 := Lib.hid hr
  have H3 := Lib.hid ho
  have S3 : w.heap.size + 1 ≤ w3.heap.size := by have := hg.size; omega
  clear hv hg hr ho K2 G2 R2
  have k0 := K3.out.cell 0
  have f0 := K3.out.frozen 0
  have k1 := K3.out.cell 1
  have f1 := K3.out.frozen 1
  have k2 := K3.out.cell 2
  have f2 := K3.out.frozen 2
  simp only [List.getElem?_cons_zero, List.getElem?_cons_succ] at k0 k1 k2
  have HP : Hid (pListP l = some (⟨x1, x2, x3⟩, r3)) := by show _ = _; simp only [pListP, pMap, pSeq, H1.out, H2.out, H3.out, Option.map_some]
  clear H1 H2 H3
  go_wp2_with fail
  have KZ := set_three K3.out (.bool x1) (.slice a2 x2.length c2) (.slice a3 x3.length c3)
  have GZ := gb_set (gb_set (gb_set (G3.out) (b := w.heap.size) (i := 0) (Nat.le_refl _) (.bool x1)) (b := w.heap.size) (i := 1) (Nat.le_refl _) (.slice a2 x2.length c2)) (b := w.heap.size) (i := 2) (Nat.le_refl _) (.slice a3 x3.length c3)
  have RZ := (((R3.out).row (grownBy_setCell _ w.heap.size 0 (.bool x1)) (fun j hj => by injection hj with hj; omega)).row (grownBy_setCell _ w.heap.size 1 (.slice a2 x2.length c2)) (fun j hj => by injection hj with hj; omega)).row (grownBy_setCell _ w.heap.size 2 (.slice a3 x3.length c3)) (fun j hj => by injection hj with hj; omega)
  have Z2 := ownG_kept (ownG_kept (ownG_kept (O2.out) (grownBy_setCell _ w.heap.size 0 (.bool x1)) (Nat.lt_succ_self _)) (grownBy_setCell _ w.heap.size 1 (.slice a2 x2.length c2)) (Nat.lt_succ_self _)) (grownBy_setCell _ w.heap.size 2 (.slice a3 x3.length c3)) (Nat.lt_succ_self _)
  have Z3 := ownG_kept (ownG_kept (ownG_kept (O3.out) (grownBy_setCell _ w.heap.size 0 (.bool x1)) (Nat.lt_succ_self _)) (grownBy_setCell _ w.heap.size 1 (.slice a2 x2.length c2)) (Nat.lt_succ_self _)) (grownBy_setCell _ w.heap.size 2 (.slice a3 x3.length c3)) (Nat.lt_succ_self _)
  exact bodyPost_ret (results_cell_row rfl _ _ w.heap.size 30 _ (0, 0) _ rfl KZ Tryz.underlying30 rfl size30') rfl ⟨GZ, .inr ⟨_, _, _, HP.out, rfl, ⟨_, _, rfl, OwnG.low Z2 (Nat.le_succ _), OwnG.low Z3 (Nat.le_succ _)⟩, RZ⟩⟩
set_option maxHeartbeats 2000000 in
set_option maxRecDepth 100000 in
theorem fields_meta (g : Nat) (l : List UInt8) (w : World) (h : Rdr w g l) :
    Calls Tryz.prog 41 #[.pointer (some ⟨g, 0, none⟩)] w (AnsP w g (VMeta w.heap.size) (pMetaP l)) := by
  obtain ⟨w0, hwa⟩ : ∃ wa, wa = w.alloc (.cells #[.int .i64 0, .int .i64 0, .int .i64 0, .int .i64 0, .string ⟨#[]⟩, .slice none 0 0, .slice none 0 0] 26) := ⟨_, rfl⟩
  have ba : Below w.heap.size w w0 := by rw [hwa]; exact (Below.refl _ w).alloc (Nat.le_refl _) _
  have sa : w0.heap.size = w.heap.size + 1 := by rw [hwa]; simp
  have K0 : Hid (Blk w0 w.heap.size [.int .i64 0, .int .i64 0, .int .i64 0, .int .i64 0, .string ⟨#[]⟩, .slice none 0 0, .slice none 0 0] 26) := by show Blk _ _ _ _; rw [hwa]; exact Blk.new w [.int .i64 0, .int .i64 0, .int .i64 0, .int .i64 0, .string ⟨#[]⟩, .slice none 0 0, .slice none 0 0] 26 _ rfl
  have gl : g < w.heap.size := by
    obtain ⟨ao, m, c, hr⟩ := h
    exact hr.blk.lt
  have G0 := Lib.hid (grown_below ba (some g))
  have HA := Lib.hid hwa
  have R0 := Lib.hid (h.grown ba)
  have S0 : w.heap.size + 1 ≤ w0.heap.size := by omega
  clear h ba sa hwa
  go_enter Tryz.func41, Tryz.ntmps41
  have C := Lib.hid (read_kind g l w0 R0.out)
  go_wp2_with fail
  rw [← HA.out]
  clear HA
  refine C.out.mono ?_
  clear C
  rintro e w1 ⟨hg, ⟨ho, rfl⟩ | ⟨x1, r1, v, ho, rfl, hv, hr⟩⟩
  · exact ⟨rfl, gb_then G0.out hg (fun j hj => .inr hj), .inl ⟨by simp only [pMetaP, pMap, pSeq, ho, Option.map_none], rfl⟩⟩
  have hv' : v = .int .i64 x1 := hv
  subst hv'
  have G1 := Lib.hid (gb_then G0.out hg (fun j hj => .inr hj))
  have K1 := Lib.hid (blk_grown K0.out hg (by omega))
  have R1 := Lib.hid hr
  have H1 := Lib.hid ho
  have S1 : w.heap.size + 1 ≤ w1.heap.size := by have := hg.size; omega
  clear hv hg hr ho K0 G0 R0
  have C := Lib.hid (read_int g r1 w1 R1.out)
  go_wp2_with fail
  refine C.out.mono ?_
  clear C
  rintro e w2 ⟨hg, ⟨ho, rfl⟩ | ⟨x2, r2, v, ho, rfl, hv, hr⟩⟩
  · exact ⟨rfl, gb_then G1.out hg (fun j hj => .inr hj), .inl ⟨by simp only [pMetaP, pMap, pSeq, H1.out, ho, Option.map_none], rfl⟩⟩
  have hv' : v = .int .i64 x2 := hv
  subst hv'
  have G2 := Lib.hid (gb_then G1.out hg (fun j hj => .inr hj))
  have K2 := Lib.hid (blk_grown K1.out hg (by omega))
  have R2 := Lib.hid hr
  have H2 := Lib.hid ho
  have S2 : w.heap.size + 1 ≤ w2.heap.size := by have := hg.size; omega
  clear hv hg hr ho K1 G1 R1
  have C := Lib.hid (read_int g r2 w2 R2.out)
  go_wp2_with fail
  refine C.out.mono ?_
  clear C
  rintro e w3 ⟨hg, ⟨ho, rfl⟩ | ⟨x3, r3, v, ho, rfl, hv, hr⟩⟩
  · exact ⟨rfl, gb_then G2.out hg (fun j hj => .inr hj), .inl ⟨by simp only [pMetaP, pMap, pSeq, H1.out, H2.out, ho, Option.map_none], rfl⟩⟩
  have hv' : v = .int .i64 x3 := hv
  subst hv'
  have G3 := Lib.hid (gb_then G2.out hg (fun j hj => .inr hj))
  have K3 := Lib.hid (blk_grown K2.out hg (by omega))
  have R3 := Lib.hid hr
  have H3 := Lib.hid ho
  have S3 : w.heap.size + 1 ≤ w3.heap.size := by have := hg.size; omega
  clear hv hg hr ho K2 G2 R2
  have C := Lib.hid (read_int g r3 w3 R3.out)
  go_wp2_with fail
  refine C.out.mono ?_
  clear C
  rintro e w4 ⟨hg, ⟨ho, rfl⟩ | ⟨x4, r4, v, ho, rfl, hv, hr⟩⟩
  · exact ⟨rfl, gb_then G3.out hg (fun j hj => .inr hj), .inl ⟨by simp only [pMetaP, pMap, pSeq, H1.out, H2.out, H3.out, ho, Option.map_none], rfl⟩⟩
  have hv' : v = .int .i64 x4 := hv
  subst hv'
  have G4 := Lib.hid (gb_then G3.out hg (fun j hj => .inr hj))
  have K4 := Lib.hid (blk_grown K3.out hg (by omega))
  have R4 := Lib.hid hr
  have H4 := Lib.hid ho
  have S4 : w.heap.size + 1 ≤ w4.heap.size := by have := hg.size; omega
  clear hv hg hr ho K3 G3 R3
  have C := Lib.hid (read_string g r4 w4 R4.out)
  go_wp2_with fail
  refine C.out.mono ?_
  clear C
  rintro e w5 ⟨hg, ⟨ho, rfl⟩ | ⟨x5, r5, v, ho, rfl, hv, hr⟩⟩
  · exact ⟨rfl, gb_then G4.out hg (fun j hj => .inr hj), .inl ⟨by simp only [pMetaP, pMap, pSeq, H1.out, H2.out, H3.out, H4.out, ho, Option.map_none], rfl⟩⟩
  have hv' : v = .string x5 := hv
  subst hv'
  have G5 := Lib.hid (gb_then G4.out hg (fun j hj => .inr hj))
  have K5 := Lib.hid (blk_grown K4.out hg (by omega))
  have R5 := Lib.hid hr
  have H5 := Lib.hid ho
  have S5 : w.heap.size + 1 ≤ w5.heap.size := by have := hg.size; omega
  clear hv hg hr ho K4 G4 R4
  have C := Lib.hid (readrow_attr g r5 w5 R5.out)
  go_wp2_with fail
  refine C.out.mono ?_
  clear C
  rintro e w6 ⟨hg, ⟨ho, rfl⟩ | ⟨x6, r6, v, ho, rfl, hv, hr⟩⟩
  · exact ⟨rfl, gb_then G5.out hg (fun j hj => .inr hj), .inl ⟨by simp only [pMetaP, pMap, pSeq, H1.out, H2.out, H3.out, H4.out, H5.out, ho, Option.map_none], rfl⟩⟩
  obtain ⟨a6, c6, rfl⟩ := ownA_slice hv
  have O6 := Lib.hid (OwnA.low hv S5)
  have G6 := Lib.hid (gb_then G5.out hg (fun j hj => .inr hj))
  have K6 := Lib.hid (blk_grown K5.out hg (by omega))
  have R6 := Lib.hid hr
  have H6 := Lib.hid ho
  have S6 : w.heap.size + 1 ≤ w6.heap.size := by have := hg.size; omega
  clear hv hg hr ho K5 G5 R5
  have C := Lib.hid (readrow_ref g r6 w6 R6.out)
  go_wp2_with fail
  refine C.out.mono ?_
  clear C
  rintro e w7 ⟨hg, ⟨ho, rfl⟩ | ⟨x7, r7, v, ho, rfl, hv, hr⟩⟩
  · exact ⟨rfl, gb_then G6.out hg (fun j hj => .inr hj), .inl ⟨by simp only [pMetaP, pMap, pSeq, H1.out, H2.out, H3.out, H4.out, H5.out, H6.out, ho, Option.map_none], rfl⟩⟩
  obtain ⟨a7, c7, rfl⟩ := ownG_slice hv
  have O7 := Lib.hid (OwnG.low hv S6)
  have O6 := Lib.hid (OwnA.kept O6.out hg (by omega))
  have G7 := Lib.hid (gb_then G6.out hg (fun j hj => .inr hj))
  have K7 := Lib.hid (blk_grown K6.out hg (by omega))
  have R7 := Lib.hid hr
  have H7 := Lib.hid ho
  have S7 : w.heap.size + 1 ≤ w7.heap.size := by have := hg.size; omega
  clear hv hg hr ho K6 G6 R6
  have k0 := K7.out.cell 0
  have f0 := K7.out.frozen 0
  have k1 := K7.out.cell 1
  have f1 := K7.out.frozen 1
  have k2 := K7.out.cell 2
  have f2 := K7.out.frozen 2
  have k3 := K7.out.cell 3
  have f3 := K7.out.frozen 3
  have k4 := K7.out.cell 4
  have f4 := K7.out.frozen 4
  have k5 := K7.out.cell 5
  have f5 := K7.out.frozen 5
  have k6 := K7.out.cell 6
  have f6 := K7.out.frozen 6
  simp only [List.getElem?_cons_zero, List.getElem?_cons_succ] at k0 k1 k2 k3 k4 k5 k6
  have HP : Hid (pMetaP l = some (⟨x1, x2, x3, x4, x5, x6, x7⟩, r7)) := by show _ = _; simp only [pMetaP, pMap, pSeq, H1.out, H2.out, H3.out, H4.out, H5.out, H6.out, H7.out, Option.map_some]
  clear H1 H2 H3 H4 H5 H6 H7
  go_wp2_with fail
  have KZ := set_seven K7.out (.int .i64 x1) (.int .i64 x2) (.int .i64 x3) (.int .i64 x4) (.string x5) (.slice a6 x6.length c6) (.slice a7 x7.length c7)
  have GZ := gb_set (gb_set (gb_set (gb_set (gb_set (gb_set (gb_set (G7.out) (b := w.heap.size) (i := 0) (Nat.le_refl _) (.int .i64 x1)) (b := w.heap.size) (i := 1) (Nat.le_refl _) (.int .i64 x2)) (b := w.heap.size) (i := 2) (Nat.le_refl _) (.int .i64 x3)) (b := w.heap.size) (i := 3) (Nat.le_refl _) (.int .i64 x4)) (b := w.heap.size) (i := 4) (Nat.le_refl _) (.string x5)) (b := w.heap.size) (i := 5) (Nat.le_refl _) (.slice a6 x6.length c6)) (b := w.heap.size) (i := 6) (Nat.le_refl _) (.slice a7 x7.length c7)
  have RZ := (((((((R7.out).row (grownBy_setCell _ w.heap.size 0 (.int .i64 x1)) (fun j hj => by injection hj with hj; omega)).row (grownBy_setCell _ w.heap.size 1 (.int .i64 x2)) (fun j hj => by injection hj with hj; omega)).row (grownBy_setCell _ w.heap.size 2 (.int .i64 x3)) (fun j hj => by injection hj with hj; omega)).row (grownBy_setCell _ w.heap.size 3 (.int .i64 x4)) (fun j hj => by injection hj with hj; omega)).row (grownBy_setCell _ w.heap.size 4 (.string x5)) (fun j hj => by injection hj with hj; omega)).row (grownBy_setCell _ w.heap.size 5 (.slice a6 x6.length c6)) (fun j hj => by injection hj with hj; omega)).row (grownBy_setCell _ w.heap.size 6 (.slice a7 x7.length c7)) (fun j hj => by injection hj with hj; omega)
  have Z6 := OwnA.kept (OwnA.kept (OwnA.kept (OwnA.kept (OwnA.kept (OwnA.kept (OwnA.kept (O6.out) (grownBy_setCell _ w.heap.size 0 (.int .i64 x1)) (Nat.lt_succ_self _)) (grownBy_setCell _ w.heap.size 1 (.int .i64 x2)) (Nat.lt_succ_self _)) (grownBy_setCell _ w.heap.size 2 (.int .i64 x3)) (Nat.lt_succ_self _)) (grownBy_setCell _ w.heap.size 3 (.int .i64 x4)) (Nat.lt_succ_self _)) (grownBy_setCell _ w.heap.size 4 (.string x5)) (Nat.lt_succ_self _)) (grownBy_setCell _ w.heap.size 5 (.slice a6 x6.length c6)) (Nat.lt_succ_self _)) (grownBy_setCell _ w.heap.size 6 (.slice a7 x7.length c7)) (Nat.lt_succ_self _)
  have Z7 := ownG_kept (ownG_kept (ownG_kept (ownG_kept (ownG_kept (ownG_kept (ownG_kept (O7.out) (grownBy_setCell _ w.heap.size 0 (.int .i64 x1)) (Nat.lt_succ_self _)) (grownBy_setCell _ w.heap.size 1 (.int .i64 x2)) (Nat.lt_succ_self _)) (grownBy_setCell _ w.heap.size 2 (.int .i64 x3)) (Nat.lt_succ_self _)) (grownBy_setCell _ w.heap.size 3 (.int .i64 x4)) (Nat.lt_succ_self _)) (grownBy_setCell _ w.heap.size 4 (.string x5)) (Nat.lt_succ_self _)) (grownBy_setCell _ w.heap.size 5 (.slice a6 x6.length c6)) (Nat.lt_succ_self _)) (grownBy_setCell _ w.heap.size 6 (.slice a7 x7.length c7)) (Nat.lt_succ_self _)
  exact bodyPost_ret (results_cell_row rfl _ _ w.heap.size 26 _ (0, 0) _ rfl KZ Tryz.underlying26 rfl size26') rfl ⟨GZ, .inr ⟨_, _, _, HP.out, rfl, ⟨_, _, rfl, OwnA.low Z6 (Nat.le_succ _), OwnG.low Z7 (Nat.le_succ _)⟩, RZ⟩⟩
end Go.Proofs.YtpjgkboafmebbaaGreatDoor.Sh
