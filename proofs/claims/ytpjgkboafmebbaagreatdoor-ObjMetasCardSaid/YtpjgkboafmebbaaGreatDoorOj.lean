/-
  The contracts of obj's readEach and readRow. Conditions: each law's own.
-/
import Derived.Test.YtpjgkboafmebbaaGreatDoorOi
namespace Go.Proofs.YtpjgkboafmebbaaGreatDoor.Sh
open Go.RowKit Go.Lib Lb

section
variable {P : Program} {t e : TypeId}
/-- one element appended to a row of the call's own, whatever its cells -/
theorem wpl_one {w : World} {ops : Array Oper} {rest : List Oper} {o : Oper} {a : Act} {Q : Exit → Act → World → Prop} (hgd : o.guard = none) (s x : Operand)
    (ho : o.op = .call { callee := .builtin .append, args := #[s, x], argTypes := #[t, t] })
    (ht : P.underlying t = some (.slice e)) {z : Value} {size bytes : Nat} (hinf : (P.info? e).map (fun i => (i.zero, i.size, i.bytes)) = some (some z, size, bytes)) (hzs : z.cells.size = size) (hsz : 0 < size)
    (base : Nat) (v : Value) (n : Nat) (xs : List Value) (hs : a.eval s = v) (hown : w.ownsRow base e size v n xs)
    (g : Nat) (cs : List Value) (hx : a.eval x = .slice (some ⟨g, 0, none⟩) 1 1) (hb : Blk w g cs e) (hl : cs.length = size) (h1 : ∀ u ∈ cs, u.oneCell' = true)
    (hn : n + 1 ≤ 1000000) (hby : bytes ≤ 1000) (hbase : base ≤ w.heap.size)
    (h : ∀ v' w', w'.ownsRow base e size v' (n + 1) (xs ++ cs) → w.grownBy w' v.ownBlock → wpList P ops Q rest (a.put o.dst v') w') : wpList P ops Q (o :: rest) a w := by
  obtain ⟨i0, hi, hz0, hz1, hz2⟩ := info_parts hinf
  have hmul : (n + 1) * bytes ≤ 1000000 * 1000 := Nat.mul_le_mul hn hby
  refine wpList_append_own w hgd s x t ho base e i0 z size bytes ht hi hz0 hz1 hz2 hzs hsz v n xs hs hown ⟨g, 0, none⟩ 1 1 cs hx (by omega) (fun j u hj => ?_) h1 (by unfold maxLen; omega) (by omega) hbase (fun v' w' h2 h3 _ => h v' w' h2 h3)
  rw [WideShapes.add_plain, Nat.zero_add, hb.cell]
  exact hj
end
/-- a row of the call's own, element by element -/
def OwnG {α : Type} (e : TypeId) (size : Nat) (cells : α → List Value) (B : Nat) (w : World) (l : List α) (v : Value) : Prop := w.ownsRow B e size v l.length (l.flatMap cells)
def cellsI (x : Int) : List Value := [.int .i64 x]
def cellsS (s : ByteArray) : List Value := [.string s]
def cellsR (x : RefP) : List Value := [.string x.key, .int .i64 x.lower, .int .i64 x.off, .int .i64 x.n]
theorem infoI : (Tryz.prog.info? 3).map (fun i => (i.zero, i.size, i.bytes)) = some (some (.int .i64 0), 1, 8) := by kernel_rfl
theorem infoR : (Tryz.prog.info? 49).map (fun i => (i.zero, i.size, i.bytes)) = some (some (.agg #[.string ⟨#[]⟩, .int .i64 0, .int .i64 0, .int .i64 0]), 4, 40) := by kernel_rfl
theorem infoA : (Tryz.prog.info? 95).map (fun i => (i.zero, i.size, i.bytes)) = some (some (.agg #[.string ⟨#[]⟩, .slice none 0 0]), 2, 40) := by kernel_rfl
theorem row_next {α : Type} {p : List UInt8 → Option (α × List UInt8)} {i : Nat} {l lr : List UInt8} {P : List α} (h : pRow p i l = some (P, lr)) : pRow p (i + 1) l = match p lr with | none => none | some (x, s) => some (P ++ [x], s) := by
  rw [row_snoc, h]
  simp only
  cases hp : p lr with
  | none => rfl
  | some u => rfl
theorem row_kept {w w' : World} {B e size n : Nat} {v : Value} {xs : List Value} {g : Nat} (h : w.ownsRow B e size v n xs) (hg : w.grownBy w' (some g)) (hb : g < B) : w'.ownsRow B e size v n xs :=
  World.ownsRow.kept h hg (by
    cases hv : v.ownBlock with
    | none => exact .inl rfl
    | some j => exact .inr fun e => by have := (h.lt j hv).1; injection e with e; omega)
theorem row_kept_alloc {w : World} {B e size n : Nat} {v : Value} {xs : List Value} (h : w.ownsRow B e size v n xs) (o : Obj) : (w.alloc o).ownsRow B e size v n xs := World.ownsRow.alloc h o
theorem flat_snoc {α : Type} (f : α → List Value) (l : List α) (x : α) : (l ++ [x]).flatMap f = l.flatMap f ++ f x := by simp
set_option maxHeartbeats 2000000 in
set_option maxRecDepth 100000 in
theorem readeach_int (g : Nat) (l : List UInt8) (n : Nat) (hn : n ≤ 32768) (w : World) (h : Rdr w g l) :
    Calls Tryz.prog 95 #[.pointer (some ⟨g, 0, none⟩), .int .i64 (n : Int), .int .i64 0] w (AnsP w g (OwnG 3 1 cellsI w.heap.size) (pRow (pNum 32768) n l)) := by
  have HR := Lib.hid h
  have GLT : Hid (g < w.heap.size) := by
    obtain ⟨ao, m, c, hr⟩ := h
    exact hr.blk.lt
  clear h
  have G0 := Lib.hid (World.grownBy.refl w (some g))
  go_enter Tryz.func95, Tryz.ntmps95
  go_wp2_with fail
  go_loopw [7, 9] (fun v vi wr => ∃ (i : Nat) (P : List Int) (lr : List UInt8), i ≤ n ∧ vi = .int .i64 i ∧ P.length = i ∧ Hid (pRow (pNum 32768) i l = some (P, lr)) ∧ Hid (Rdr wr g lr) ∧ Hid (wr.ownsRow w.heap.size 3 1 v i (P.flatMap cellsI)) ∧ Hid (w.grownBy wr (some g))) (fun _ vi _ => n - (RowKit.intOf vi).toNat)
  case atStart => exact ⟨0, [], l, by omega, rfl, rfl, rfl, HR.out, World.ownsRow_nil _ _ _ _, G0.out⟩
  case round =>
    obtain ⟨i, P, lr, hi, rfl, hPl, hP, hR, hO, hG⟩ := hrel
    by_cases hin : i < n
    · have q1 : (0 : Int) ≤ (i : Int) := by omega
      have q2 : (i : Int) < (n : Int) := by omega
      have CR := Lib.hid (read_int g lr wr hR.out)
      have HS := Lib.hid (row_next hP.out)
      clear hR hP
      go_wp2_with fail
      refine CR.out.mono ?_
      clear CR
      rintro e w1 ⟨hg, ⟨ho, rfl⟩ | ⟨x, r, v, ho, rfl, hv, hr⟩⟩
      · exact ⟨rfl, grownBy_trans hG.out hg, .inl ⟨row_none (pNum 32768) l (i + 1) n (by rw [HS.out, ho]) (by omega), rfl⟩⟩
      have hv' : v = .int .i64 x := hv
      subst hv'
      have gl := GLT.out
      have G1 := Lib.hid (grownBy_trans hG.out hg)
      have O1 := Lib.hid (row_kept hO.out hg gl)
      have R1 := Lib.hid hr
      have P1 : Hid (pRow (pNum 32768) (i + 1) l = some (P ++ [x], r)) := by show _ = _; rw [HS.out, ho]
      have hsz := G1.out.size
      have KX : Hid (Blk (w1.alloc (.cells #[.int .i64 x] 3)) w1.heap.size [.int .i64 x] 3) := Blk.new w1 [.int .i64 x] 3 _ rfl
      have O2 := Lib.hid (row_kept_alloc O1.out (.cells #[.int .i64 x] 3))
      have hb2 : w.heap.size ≤ (w1.alloc (.cells #[.int .i64 x] 3)).heap.size := by simp; omega
      clear hg hr hO hG ho hv HS
      go_wp2_with (at_builtin; refine wpl_one (t := 28) (e := 3) rfl (.tmp 11) (.tmp 15) rfl Tryz.underlying28 infoI rfl (by decide) w.heap.size u7 i _ rfl O2.out w1.heap.size [.int .i64 x] rfl KX.out rfl (by simp [Value.oneCell']) (by omega) (by decide) hb2 ?_; intro v' w' hown' hgrow)
      have G2 : Hid (w.grownBy w' (some g)) := gb_then (grownBy_allocR G1.out (.cells #[.int .i64 x] 3)) hgrow (fun j hj => .inl (O2.out.lt j hj).1)
      have R2 : Hid (Rdr w' g r) := (R1.out.grown ((Below.refl _ w1).alloc (Nat.le_refl _) (.cells #[.int .i64 x] 3))).row hgrow (fun j hj => by have := (O2.out.lt j hj).1; omega)
      have O3 : Hid (w'.ownsRow w.heap.size 3 1 v' (i + 1) ((P ++ [x]).flatMap cellsI)) := by show World.ownsRow _ _ _ _ _ _ _; rw [flat_snoc]; exact hown'
      have hl2 : (P ++ [x]).length = i + 1 := by simp [hPl]
      clear hown' hgrow hb2
      go_wp2_with fail
      go_roundw
      case rel => exact ⟨i + 1, P ++ [x], r, by omega, by go_num, hl2, P1, R2, O3, G2⟩
      case measure => simp [RowKit.intOf]; omega
    · obtain rfl : i = n := by omega
      go_wp2_with fail
      go_ret
      exact ⟨hG.out, .inr ⟨P, lr, _, hP.out, rfl, by show World.ownsRow _ _ _ _ _ _ _; rw [hPl]; exact hO.out, hR.out⟩⟩
set_option maxHeartbeats 2000000 in
set_option maxRecDepth 100000 in
theorem readeach_key (g : Nat) (l : List UInt8) (n : Nat) (hn : n ≤ 32768) (w : World) (h : Rdr w g l) :
    Calls Tryz.prog 100 #[.pointer (some ⟨g, 0, none⟩), .int .i64 (n : Int), .int .i64 5] w (AnsP w g (OwnG 47 1 cellsS w.heap.size) (pRow pKey n l)) := by
  have HR := Lib.hid h
  have GLT : Hid (g < w.heap.size) := by
    obtain ⟨ao, m, c, hr⟩ := h
    exact hr.blk.lt
  clear h
  have G0 := Lib.hid (World.grownBy.refl w (some g))
  go_enter Tryz.func100, Tryz.ntmps100
  go_wp2_with fail
  go_loopw [7, 9] (fun v vi wr => ∃ (i : Nat) (P : List ByteArray) (lr : List UInt8), i ≤ n ∧ vi = .int .i64 i ∧ P.length = i ∧ Hid (pRow pKey i l = some (P, lr)) ∧ Hid (Rdr wr g lr) ∧ Hid (wr.ownsRow w.heap.size 47 1 v i (P.flatMap cellsS)) ∧ Hid (w.grownBy wr (some g))) (fun _ vi _ => n - (RowKit.intOf vi).toNat)
  case atStart => exact ⟨0, [], l, by omega, rfl, rfl, rfl, HR.out, World.ownsRow_nil _ _ _ _, G0.out⟩
  case round =>
    obtain ⟨i, P, lr, hi, rfl, hPl, hP, hR, hO, hG⟩ := hrel
    by_cases hin : i < n
    · have q1 : (0 : Int) ≤ (i : Int) := by omega
      have q2 : (i : Int) < (n : Int) := by omega
      have CR := Lib.hid (read_key g lr wr hR.out)
      have HS := Lib.hid (row_next hP.out)
      clear hR hP
      go_wp2_with fail
      refine CR.out.mono ?_
      clear CR
      rintro e w1 ⟨hg, ⟨ho, rfl⟩ | ⟨x, r, v, ho, rfl, hv, hr⟩⟩
      · exact ⟨rfl, grownBy_trans hG.out hg, .inl ⟨row_none pKey l (i + 1) n (by rw [HS.out, ho]) (by omega), rfl⟩⟩
      have hv' : v = .string x := hv
      subst hv'
      have gl := GLT.out
      have G1 := Lib.hid (grownBy_trans hG.out hg)
      have O1 := Lib.hid (row_kept hO.out hg gl)
      have R1 := Lib.hid hr
      have P1 : Hid (pRow pKey (i + 1) l = some (P ++ [x], r)) := by show _ = _; rw [HS.out, ho]
      have hsz := G1.out.size
      have KX : Hid (Blk (w1.alloc (.cells #[.string x] 47)) w1.heap.size [.string x] 47) := Blk.new w1 [.string x] 47 _ rfl
      have O2 := Lib.hid (row_kept_alloc O1.out (.cells #[.string x] 47))
      have hb2 : w.heap.size ≤ (w1.alloc (.cells #[.string x] 47)).heap.size := by simp; omega
      clear hg hr hO hG ho hv HS
      go_wp2_with (at_builtin; refine wpl_one (t := 31) (e := 47) rfl (.tmp 11) (.tmp 15) rfl Tryz.underlying31 infoS rfl (by decide) w.heap.size u7 i _ rfl O2.out w1.heap.size [.string x] rfl KX.out rfl (by simp [Value.oneCell']) (by omega) (by decide) hb2 ?_; intro v' w' hown' hgrow)
      have G2 : Hid (w.grownBy w' (some g)) := gb_then (grownBy_allocR G1.out (.cells #[.string x] 47)) hgrow (fun j hj => .inl (O2.out.lt j hj).1)
      have R2 : Hid (Rdr w' g r) := (R1.out.grown ((Below.refl _ w1).alloc (Nat.le_refl _) (.cells #[.string x] 47))).row hgrow (fun j hj => by have := (O2.out.lt j hj).1; omega)
      have O3 : Hid (w'.ownsRow w.heap.size 47 1 v' (i + 1) ((P ++ [x]).flatMap cellsS)) := by show World.ownsRow _ _ _ _ _ _ _; rw [flat_snoc]; exact hown'
      have hl2 : (P ++ [x]).length = i + 1 := by simp [hPl]
      clear hown' hgrow hb2
      go_wp2_with fail
      go_roundw
      case rel => exact ⟨i + 1, P ++ [x], r, by omega, by go_num, hl2, P1, R2, O3, G2⟩
      case measure => simp [RowKit.intOf]; omega
    · obtain rfl : i = n := by omega
      go_wp2_with fail
      go_ret
      exact ⟨hG.out, .inr ⟨P, lr, _, hP.out, rfl, by show World.ownsRow _ _ _ _ _ _ _; rw [hPl]; exact hO.out, hR.out⟩⟩
set_option maxHeartbeats 2000000 in
set_option maxRecDepth 100000 in
theorem readeach_string (g : Nat) (l : List UInt8) (n : Nat) (hn : n ≤ 32768) (w : World) (h : Rdr w g l) :
    Calls Tryz.prog 120 #[.pointer (some ⟨g, 0, none⟩), .int .i64 (n : Int), .int .i64 3] w (AnsP w g (OwnG 9 1 cellsS w.heap.size) (pRow (pText 1000) n l)) := by
  have HR := Lib.hid h
  have GLT : Hid (g < w.heap.size) := by
    obtain ⟨ao, m, c, hr⟩ := h
    exact hr.blk.lt
  clear h
  have G0 := Lib.hid (World.grownBy.refl w (some g))
  go_enter Tryz.func120, Tryz.ntmps120
  go_wp2_with fail
  go_loopw [7, 9] (fun v vi wr => ∃ (i : Nat) (P : List ByteArray) (lr : List UInt8), i ≤ n ∧ vi = .int .i64 i ∧ P.length = i ∧ Hid (pRow (pText 1000) i l = some (P, lr)) ∧ Hid (Rdr wr g lr) ∧ Hid (wr.ownsRow w.heap.size 9 1 v i (P.flatMap cellsS)) ∧ Hid (w.grownBy wr (some g))) (fun _ vi _ => n - (RowKit.intOf vi).toNat)
  case atStart => exact ⟨0, [], l, by omega, rfl, rfl, rfl, HR.out, World.ownsRow_nil _ _ _ _, G0.out⟩
  case round =>
    obtain ⟨i, P, lr, hi, rfl, hPl, hP, hR, hO, hG⟩ := hrel
    by_cases hin : i < n
    · have q1 : (0 : Int) ≤ (i : Int) := by omega
      have q2 : (i : Int) < (n : Int) := by omega
      have CR := Lib.hid (read_string g lr wr hR.out)
      have HS := Lib.hid (row_next hP.out)
      clear hR hP
      go_wp2_with fail
      refine CR.out.mono ?_
      clear CR
      rintro e w1 ⟨hg, ⟨ho, rfl⟩ | ⟨x, r, v, ho, rfl, hv, hr⟩⟩
      · exact ⟨rfl, grownBy_trans hG.out hg, .inl ⟨row_none (pText 1000) l (i + 1) n (by rw [HS.out, ho]) (by omega), rfl⟩⟩
      have hv' : v = .string x := hv
      subst hv'
      have gl := GLT.out
      have G1 := Lib.hid (grownBy_trans hG.out hg)
      have O1 := Lib.hid (row_kept hO.out hg gl)
      have R1 := Lib.hid hr
      have P1 : Hid (pRow (pText 1000) (i + 1) l = some (P ++ [x], r)) := by show _ = _; rw [HS.out, ho]
      have hsz := G1.out.size
      have KX : Hid (Blk (w1.alloc (.cells #[.string x] 9)) w1.heap.size [.string x] 9) := Blk.new w1 [.string x] 9 _ rfl
      have O2 := Lib.hid (row_kept_alloc O1.out (.cells #[.string x] 9))
      have hb2 : w.heap.size ≤ (w1.alloc (.cells #[.string x] 9)).heap.size := by simp; omega
      clear hg hr hO hG ho hv HS
      go_wp2_with (at_builtin; refine wpl_one (t := 27) (e := 9) rfl (.tmp 11) (.tmp 15) rfl Tryz.underlying27 infoT rfl (by decide) w.heap.size u7 i _ rfl O2.out w1.heap.size [.string x] rfl KX.out rfl (by simp [Value.oneCell']) (by omega) (by decide) hb2 ?_; intro v' w' hown' hgrow)
      have G2 : Hid (w.grownBy w' (some g)) := gb_then (grownBy_allocR G1.out (.cells #[.string x] 9)) hgrow (fun j hj => .inl (O2.out.lt j hj).1)
      have R2 : Hid (Rdr w' g r) := (R1.out.grown ((Below.refl _ w1).alloc (Nat.le_refl _) (.cells #[.string x] 9))).row hgrow (fun j hj => by have := (O2.out.lt j hj).1; omega)
      have O3 : Hid (w'.ownsRow w.heap.size 9 1 v' (i + 1) ((P ++ [x]).flatMap cellsS)) := by show World.ownsRow _ _ _ _ _ _ _; rw [flat_snoc]; exact hown'
      have hl2 : (P ++ [x]).length = i + 1 := by simp [hPl]
      clear hown' hgrow hb2
      go_wp2_with fail
      go_roundw
      case rel => exact ⟨i + 1, P ++ [x], r, by omega, by go_num, hl2, P1, R2, O3, G2⟩
      case measure => simp [RowKit.intOf]; omega
    · obtain rfl : i = n := by omega
      go_wp2_with fail
      go_ret
      exact ⟨hG.out, .inr ⟨P, lr, _, hP.out, rfl, by show World.ownsRow _ _ _ _ _ _ _; rw [hPl]; exact hO.out, hR.out⟩⟩
set_option maxHeartbeats 2000000 in
set_option maxRecDepth 100000 in
theorem readeach_ref (g : Nat) (l : List UInt8) (n : Nat) (hn : n ≤ 32768) (w : World) (h : Rdr w g l) :
    Calls Tryz.prog 115 #[.pointer (some ⟨g, 0, none⟩), .int .i64 (n : Int), .int .i64 8] w (AnsP w g (OwnG 49 4 cellsR w.heap.size) (pRow pRefP n l)) := by
  have HR := Lib.hid h
  have GLT : Hid (g < w.heap.size) := by
    obtain ⟨ao, m, c, hr⟩ := h
    exact hr.blk.lt
  clear h
  have G0 := Lib.hid (World.grownBy.refl w (some g))
  go_enter Tryz.func115, Tryz.ntmps115
  go_wp2_with fail
  go_loopw [7, 9] (fun v vi wr => ∃ (i : Nat) (P : List RefP) (lr : List UInt8), i ≤ n ∧ vi = .int .i64 i ∧ P.length = i ∧ Hid (pRow pRefP i l = some (P, lr)) ∧ Hid (Rdr wr g lr) ∧ Hid (wr.ownsRow w.heap.size 49 4 v i (P.flatMap cellsR)) ∧ Hid (w.grownBy wr (some g))) (fun _ vi _ => n - (RowKit.intOf vi).toNat)
  case atStart => exact ⟨0, [], l, by omega, rfl, rfl, rfl, HR.out, World.ownsRow_nil _ _ _ _, G0.out⟩
  case round =>
    obtain ⟨i, P, lr, hi, rfl, hPl, hP, hR, hO, hG⟩ := hrel
    by_cases hin : i < n
    · have q1 : (0 : Int) ≤ (i : Int) := by omega
      have q2 : (i : Int) < (n : Int) := by omega
      have CR := Lib.hid (read_ref g lr wr hR.out)
      have HS := Lib.hid (row_next hP.out)
      clear hR hP
      go_wp2_with fail
      refine CR.out.mono ?_
      clear CR
      rintro e w1 ⟨hg, ⟨ho, rfl⟩ | ⟨x, r, v, ho, rfl, hv, hr⟩⟩
      · exact ⟨rfl, grownBy_trans hG.out hg, .inl ⟨row_none pRefP l (i + 1) n (by rw [HS.out, ho]) (by omega), rfl⟩⟩
      have hv' : v = .agg #[.string x.key, .int .i64 x.lower, .int .i64 x.off, .int .i64 x.n] := hv
      subst hv'
      have gl := GLT.out
      have G1 := Lib.hid (grownBy_trans hG.out hg)
      have O1 := Lib.hid (row_kept hO.out hg gl)
      have R1 := Lib.hid hr
      have P1 : Hid (pRow pRefP (i + 1) l = some (P ++ [x], r)) := by show _ = _; rw [HS.out, ho]
      have hsz := G1.out.size
      have KX : Hid (Blk (w1.alloc (.cells #[.string x.key, .int .i64 x.lower, .int .i64 x.off, .int .i64 x.n] 49)) w1.heap.size [.string x.key, .int .i64 x.lower, .int .i64 x.off, .int .i64 x.n] 49) := Blk.new w1 [.string x.key, .int .i64 x.lower, .int .i64 x.off, .int .i64 x.n] 49 _ rfl
      have O2 := Lib.hid (row_kept_alloc O1.out (.cells #[.string x.key, .int .i64 x.lower, .int .i64 x.off, .int .i64 x.n] 49))
      have hb2 : w.heap.size ≤ (w1.alloc (.cells #[.string x.key, .int .i64 x.lower, .int .i64 x.off, .int .i64 x.n] 49)).heap.size := by simp; omega
      clear hg hr hO hG ho hv HS
      go_wp2_with (at_builtin; refine wpl_one (t := 24) (e := 49) rfl (.tmp 11) (.tmp 15) rfl Tryz.underlying24 infoR rfl (by decide) w.heap.size u7 i _ rfl O2.out w1.heap.size [.string x.key, .int .i64 x.lower, .int .i64 x.off, .int .i64 x.n] rfl KX.out rfl (by simp [Value.oneCell']) (by omega) (by decide) hb2 ?_; intro v' w' hown' hgrow)
      have G2 : Hid (w.grownBy w' (some g)) := gb_then (grownBy_allocR G1.out (.cells #[.string x.key, .int .i64 x.lower, .int .i64 x.off, .int .i64 x.n] 49)) hgrow (fun j hj => .inl (O2.out.lt j hj).1)
      have R2 : Hid (Rdr w' g r) := (R1.out.grown ((Below.refl _ w1).alloc (Nat.le_refl _) (.cells #[.string x.key, .int .i64 x.lower, .int .i64 x.off, .int .i64 x.n] 49))).row hgrow (fun j hj => by have := (O2.out.lt j hj).1; omega)
      have O3 : Hid (w'.ownsRow w.heap.size 49 4 v' (i + 1) ((P ++ [x]).flatMap cellsR)) := by show World.ownsRow _ _ _ _ _ _ _; rw [flat_snoc]; exact hown'
      have hl2 : (P ++ [x]).length = i + 1 := by simp [hPl]
      clear hown' hgrow hb2
      go_wp2_with fail
      go_roundw
      case rel => exact ⟨i + 1, P ++ [x], r, by omega, by go_num, hl2, P1, R2, O3, G2⟩
      case measure => simp [RowKit.intOf]; omega
    · obtain rfl : i = n := by omega
      go_wp2_with fail
      go_ret
      exact ⟨hG.out, .inr ⟨P, lr, _, hP.out, rfl, by show World.ownsRow _ _ _ _ _ _ _; rw [hPl]; exact hO.out, hR.out⟩⟩
/-- attributes' cells -/
def attC (l : List (ByteArray × List UInt8)) (us : List Value) : List Value := (l.zip us).flatMap fun z => [.string z.1.1, z.2]
/-- a row of attributes of the call's own, each value one, too -/
def OwnA (B : Nat) (w : World) (l : List (ByteArray × List UInt8)) (v : Value) : Prop :=
  ∃ us : List Value, us.length = l.length ∧ w.ownsRow B 95 2 v l.length (attC l us) ∧ ∀ (i : Nat) (x : ByteArray × List UInt8) (u : Value), l[i]? = some x → us[i]? = some u → Own w B u x.2
theorem own_kept {w w' : World} {B g : Nat} {v : Value} {l : List UInt8} (h : Own w B v l) (hg : w.grownBy w' (some g)) (hb : g < B) : Own w' B v l := row_kept h hg hb
theorem own_apart {w w' : World} {B n : Nat} {u v : Value} {d : List UInt8} {xs : List Value} (h : Own w B u d) (ho : w.ownsRow B 95 2 v n xs) (hg : w.grownBy w' v.ownBlock) : Own w' B u d := by
  refine World.ownsRow.kept h hg ?_
  cases hu : u.ownBlock with
  | none => exact .inl rfl
  | some j =>
    refine .inr fun e => ?_
    obtain ⟨_, ⟨rfl, _⟩ | ⟨k, c1, cur1, rfl, _, h1, _⟩⟩ := h
    · cases hu
    · obtain ⟨_, ⟨rfl, _⟩ | ⟨k2, c2, cur2, rfl, _, h2, _⟩⟩ := ho
      · cases e
      · have e1 : k = j := by injection hu
        have e2 : j = k2 := by injection e
        subst e1
        subst e2
        rw [h1] at h2
        injection h2 with h2
        injection h2 with _ h3 _
        cases h3
theorem attC_snoc {l : List (ByteArray × List UInt8)} {us : List Value} (h : us.length = l.length) (x : ByteArray × List UInt8) (u : Value) : attC (l ++ [x]) (us ++ [u]) = attC l us ++ [.string x.1, u] := by
  unfold attC
  rw [List.zip_append h.symm]
  simp
theorem ownA_nil (B : Nat) (w : World) : OwnA B w [] (.slice none 0 0) := ⟨[], rfl, World.ownsRow_nil _ _ _ _, fun i x u h => by simp at h⟩
theorem OwnA.kept {w w' : World} {B g : Nat} {v : Value} {l : List (ByteArray × List UInt8)} (h : OwnA B w l v) (hg : w.grownBy w' (some g)) (hb : g < B) : OwnA B w' l v := by
  obtain ⟨us, h1, h2, h3⟩ := h
  exact ⟨us, h1, row_kept h2 hg hb, fun i x u hx hu => own_kept (h3 i x u hx hu) hg hb⟩
theorem OwnA.alloc {w : World} {B : Nat} {v : Value} {l : List (ByteArray × List UInt8)} (h : OwnA B w l v) (o : Obj) : OwnA B (w.alloc o) l v := by
  obtain ⟨us, h1, h2, h3⟩ := h
  exact ⟨us, h1, row_kept_alloc h2 o, fun i x u hx hu => row_kept_alloc (h3 i x u hx hu) o⟩
theorem OwnA.low {w : World} {B B' : Nat} {v : Value} {l : List (ByteArray × List UInt8)} (h : OwnA B w l v) (hb : B' ≤ B) : OwnA B' w l v := by
  obtain ⟨us, h1, ⟨h2, h2'⟩, h3⟩ := h
  refine ⟨us, h1, ⟨h2, ?_⟩, fun i x u hx hu => Own.low (h3 i x u hx hu) hb⟩
  rcases h2' with h2' | ⟨g, c, cur, e1, e2, e3⟩
  · exact .inl h2'
  · exact .inr ⟨g, c, cur, e1, Nat.le_trans hb e2, e3⟩
set_option maxHeartbeats 2000000 in
set_option maxRecDepth 100000 in
theorem readeach_attr (g : Nat) (l : List UInt8) (n : Nat) (hn : n ≤ 32768) (w : World) (h : Rdr w g l) :
    Calls Tryz.prog 113 #[.pointer (some ⟨g, 0, none⟩), .int .i64 (n : Int), .int .i64 7] w (AnsP w g (OwnA w.heap.size) (pRow pAttP n l)) := by
  have HR := Lib.hid h
  have GLT : Hid (g < w.heap.size) := by
    obtain ⟨ao, m, c, hr⟩ := h
    exact hr.blk.lt
  clear h
  have G0 := Lib.hid (World.grownBy.refl w (some g))
  go_enter Tryz.func113, Tryz.ntmps113
  go_wp2_with fail
  go_loopw [7, 9] (fun v vi wr => ∃ (i : Nat) (P : List (ByteArray × List UInt8)) (lr : List UInt8) (us : List Value), i ≤ n ∧ vi = .int .i64 i ∧ P.length = i ∧ Hid (pRow pAttP i l = some (P, lr)) ∧ Hid (Rdr wr g lr) ∧ Hid (us.length = P.length) ∧ Hid (wr.ownsRow w.heap.size 95 2 v i (attC P us)) ∧ Hid (∀ (i : Nat) (x : ByteArray × List UInt8) (u : Value), P[i]? = some x → us[i]? = some u → Own wr w.heap.size u x.2) ∧ Hid (w.grownBy wr (some g))) (fun _ vi _ => n - (RowKit.intOf vi).toNat)
  case atStart => exact ⟨0, [], l, [], by omega, rfl, rfl, rfl, HR.out, rfl, World.ownsRow_nil _ _ _ _, fun i x u h => by simp at h, G0.out⟩
  case round =>
    obtain ⟨i, P, lr, us, hi, rfl, hPl, hP, hR, hU, hO, hA, hG⟩ := hrel
    by_cases hin : i < n
    · have q1 : (0 : Int) ≤ (i : Int) := by omega
      have q2 : (i : Int) < (n : Int) := by omega
      have CR := Lib.hid (read_attr g lr wr hR.out)
      have HS := Lib.hid (row_next hP.out)
      clear hR hP
      go_wp2_with fail
      refine CR.out.mono ?_
      clear CR
      rintro e w1 ⟨hg, ⟨ho, rfl⟩ | ⟨x, r, v, ho, rfl, ⟨u, rfl, hv⟩, hr⟩⟩
      · exact ⟨rfl, grownBy_trans hG.out hg, .inl ⟨row_none pAttP l (i + 1) n (by rw [HS.out, ho]) (by omega), rfl⟩⟩
      obtain ⟨a5, c5, rfl, _, _, _, _⟩ := own_byt (show w1.ownsRow wr.heap.size 5 1 u x.2.length (bs x.2) from hv)
      have gl := GLT.out
      have V1 : Hid (Own w1 w.heap.size (.slice a5 x.2.length c5) x.2) := Own.low hv hG.out.size
      have G1 := Lib.hid (grownBy_trans hG.out hg)
      have O1 := Lib.hid (row_kept hO.out hg gl)
      have A1 : Hid (∀ (i : Nat) (x : ByteArray × List UInt8) (u : Value), P[i]? = some x → us[i]? = some u → Own w1 w.heap.size u x.2) := fun i x u hx hu => own_kept (hA.out i x u hx hu) hg gl
      have R1 := Lib.hid hr
      have P1 : Hid (pRow pAttP (i + 1) l = some (P ++ [x], r)) := by show _ = _; rw [HS.out, ho]
      have hsz := G1.out.size
      have KX : Hid (Blk (w1.alloc (.cells #[.string x.1, .slice a5 x.2.length c5] 95)) w1.heap.size [.string x.1, .slice a5 x.2.length c5] 95) := Blk.new w1 [.string x.1, .slice a5 x.2.length c5] 95 _ rfl
      have O2 := Lib.hid (row_kept_alloc O1.out (.cells #[.string x.1, .slice a5 x.2.length c5] 95))
      have hb2 : w.heap.size ≤ (w1.alloc (.cells #[.string x.1, .slice a5 x.2.length c5] 95)).heap.size := by simp; omega
      clear hg hr hO hG ho hv HS hA
      go_wp2_with (at_builtin; refine wpl_one (t := 23) (e := 95) rfl (.tmp 11) (.tmp 15) rfl Tryz.underlying23 infoA rfl (by decide) w.heap.size u7 i _ rfl O2.out w1.heap.size [.string x.1, .slice a5 x.2.length c5] rfl KX.out rfl (by simp [Value.oneCell']) (by omega) (by decide) hb2 ?_; intro v' w' hown' hgrow)
      have G2 : Hid (w.grownBy w' (some g)) := gb_then (grownBy_allocR G1.out (.cells #[.string x.1, .slice a5 x.2.length c5] 95)) hgrow (fun j hj => .inl (O2.out.lt j hj).1)
      have R2 : Hid (Rdr w' g r) := (R1.out.grown ((Below.refl _ w1).alloc (Nat.le_refl _) (.cells #[.string x.1, .slice a5 x.2.length c5] 95))).row hgrow (fun j hj => by have := (O2.out.lt j hj).1; omega)
      have O3 : Hid (w'.ownsRow w.heap.size 95 2 v' (i + 1) (attC (P ++ [x]) (us ++ [.slice a5 x.2.length c5]))) := by show World.ownsRow _ _ _ _ _ _ _; rw [attC_snoc hU.out]; exact hown'
      have U3 : Hid ((us ++ [Value.slice a5 x.2.length c5]).length = (P ++ [x]).length) := by show _ = _; simp [hU.out]
      have A3 : Hid (∀ (j : Nat) (y : ByteArray × List UInt8) (u : Value), (P ++ [x])[j]? = some y → (us ++ [Value.slice a5 x.2.length c5])[j]? = some u → Own w' w.heap.size u y.2) := fun j y u hy hu => by
        rcases Nat.lt_or_ge j P.length with h1 | h1
        · rw [List.getElem?_append_left h1] at hy
          rw [List.getElem?_append_left (by rw [hU.out]; exact h1)] at hu
          exact own_apart (row_kept_alloc (A1.out j y u hy hu) _) O2.out hgrow
        · rw [List.getElem?_append_right h1] at hy
          rw [List.getElem?_append_right (by rw [hU.out]; exact h1), hU.out] at hu
          have h2 : j - P.length = 0 := by
            have := (List.getElem?_eq_some_iff.1 hy).1
            simp at this
            omega
          rw [h2] at hy hu
          simp only [List.getElem?_cons_zero, Option.some.injEq] at hy hu
          subst hy
          subst hu
          exact own_apart (row_kept_alloc V1.out _) O2.out hgrow
      have hl2 : (P ++ [x]).length = i + 1 := by simp [hPl]
      clear hown' hgrow hb2
      go_wp2_with fail
      go_roundw
      case rel => exact ⟨i + 1, P ++ [x], r, us ++ [.slice a5 x.2.length c5], by omega, by go_num, hl2, P1, R2, U3, O3, A3, G2⟩
      case measure => simp [RowKit.intOf]; omega
    · obtain rfl : i = n := by omega
      go_wp2_with fail
      go_ret
      exact ⟨hG.out, .inr ⟨P, lr, _, hP.out, rfl, ⟨us, hU.out, by rw [hPl]; exact hO.out, hA.out⟩, hR.out⟩⟩
theorem many_none {α : Type} {p : List UInt8 → Option (α × List UInt8)} {m : Nat} {l : List UInt8} (h : pNum m l = none) : pMany m p l = none := by rw [pMany, pMap, pSeq, h]; rfl
theorem many_some {α : Type} {p : List UInt8 → Option (α × List UInt8)} {m : Nat} {l r : List UInt8} {n : Int} (h : pNum m l = some (n, r)) : pMany m p l = pRow p n.toNat r := by
  rw [pMany, pMap, pSeq, h]
  simp only
  cases pRow p n.toNat r with
  | none => rfl
  | some u => rfl
theorem ansP_own {α : Type} {w W : World} {g : Nat} {V V' : World → α → Value → Prop} {o : Option (α × List UInt8)} {e : Ending} {w' : World} (hW : w.grownBy W (some g)) (hV : ∀ w' x v, V w' x v → V' w' x v) (h : AnsP W g V o e w') : AnsP w g V' o e w' := by
  obtain ⟨hg, h | ⟨x, r, v, h1, h2, h3, h4⟩⟩ := h
  · exact ⟨grownBy_trans hW hg, .inl h⟩
  · exact ⟨grownBy_trans hW hg, .inr ⟨x, r, v, h1, h2, hV _ _ _ h3, h4⟩⟩
theorem OwnG.low {α : Type} {e : TypeId} {size B B' : Nat} {cells : α → List Value} {w : World} {l : List α} {v : Value} (h : OwnG e size cells B w l v) (hb : B' ≤ B) : OwnG e size cells B' w l v := by
  obtain ⟨h1, h2 | ⟨g, c, cur, e1, e2, e3⟩⟩ := h
  · exact ⟨h1, .inl h2⟩
  · exact ⟨h1, .inr ⟨g, c, cur, e1, Nat.le_trans hb e2, e3⟩⟩
set_option maxHeartbeats 2000000 in
set_option maxRecDepth 100000 in
theorem readrow_int (g : Nat) (l : List UInt8) (w : World) (h : Rdr w g l) :
    Calls Tryz.prog 99 #[.pointer (some ⟨g, 0, none⟩), .int .i64 0] w (AnsP w g (OwnG 3 1 cellsI w.heap.size) (pMany 32768 (pNum 32768) l)) := by
  have C := Lib.hid (number_rd g l w h)
  clear h
  go_enter Tryz.func99, Tryz.ntmps99
  go_wp2_with fail
  refine C.out.mono ?_
  clear C
  rintro e w1 ⟨hg, ⟨ho, rfl⟩ | ⟨x, r, v, ho, rfl, hv, hr⟩⟩
  · exact ⟨rfl, hg, .inl ⟨many_none ho, rfl⟩⟩
  have hv' : v = .int .i64 x := hv
  subst hv'
  obtain ⟨x0, x1⟩ := num_some ho
  obtain ⟨n, rfl⟩ : ∃ n : Nat, x = (n : Int) := ⟨x.toNat, by omega⟩
  have HO := Lib.hid (many_some (p := (pNum 32768)) ho)
  have C2 := Lib.hid (readeach_int g r n (by omega) w1 hr)
  have HG := Lib.hid hg
  clear hv hg hr ho
  go_wp2_with fail
  refine C2.out.mono ?_
  clear C2
  intro e w2 h2
  obtain ⟨hg2, ⟨h3, rfl⟩ | ⟨y, s, v, h3, rfl, h4, h5⟩⟩ := ansP_own (V' := OwnG 3 1 cellsI w.heap.size) HG.out (fun w' x v hx => OwnG.low hx HG.out.size) h2
  · exact ⟨rfl, hg2, .inl ⟨by rw [HO.out]; exact h3, rfl⟩⟩
  have G2 := Lib.hid hg2
  have H3 := Lib.hid h3
  have H4 := Lib.hid h4
  have H5 := Lib.hid h5
  clear hg2 h3 h4 h5 h2
  go_wp2_with fail
  go_ret
  exact ⟨G2.out, .inr ⟨_, _, _, by rw [HO.out]; exact H3.out, rfl, H4.out, H5.out⟩⟩
set_option maxHeartbeats 2000000 in
set_option maxRecDepth 100000 in
theorem readrow_key (g : Nat) (l : List UInt8) (w : World) (h : Rdr w g l) :
    Calls Tryz.prog 103 #[.pointer (some ⟨g, 0, none⟩), .int .i64 5] w (AnsP w g (OwnG 47 1 cellsS w.heap.size) (pMany 32768 pKey l)) := by
  have C := Lib.hid (number_rd g l w h)
  clear h
  go_enter Tryz.func103, Tryz.ntmps103
  go_wp2_with fail
  refine C.out.mono ?_
  clear C
  rintro e w1 ⟨hg, ⟨ho, rfl⟩ | ⟨x, r, v, ho, rfl, hv, hr⟩⟩
  · exact ⟨rfl, hg, .inl ⟨many_none ho, rfl⟩⟩
  have hv' : v = .int .i64 x := hv
  subst hv'
  obtain ⟨x0, x1⟩ := num_some ho
  obtain ⟨n, rfl⟩ : ∃ n : Nat, x = (n : Int) := ⟨x.toNat, by omega⟩
  have HO := Lib.hid (many_some (p := pKey) ho)
  have C2 := Lib.hid (readeach_key g r n (by omega) w1 hr)
  have HG := Lib.hid hg
  clear hv hg hr ho
  go_wp2_with fail
  refine C2.out.mono ?_
  clear C2
  intro e w2 h2
  obtain ⟨hg2, ⟨h3, rfl⟩ | ⟨y, s, v, h3, rfl, h4, h5⟩⟩ := ansP_own (V' := OwnG 47 1 cellsS w.heap.size) HG.out (fun w' x v hx => OwnG.low hx HG.out.size) h2
  · exact ⟨rfl, hg2, .inl ⟨by rw [HO.out]; exact h3, rfl⟩⟩
  have G2 := Lib.hid hg2
  have H3 := Lib.hid h3
  have H4 := Lib.hid h4
  have H5 := Lib.hid h5
  clear hg2 h3 h4 h5 h2
  go_wp2_with fail
  go_ret
  exact ⟨G2.out, .inr ⟨_, _, _, by rw [HO.out]; exact H3.out, rfl, H4.out, H5.out⟩⟩
set_option maxHeartbeats 2000000 in
set_option maxRecDepth 100000 in
theorem readrow_string (g : Nat) (l : List UInt8) (w : World) (h : Rdr w g l) :
    Calls Tryz.prog 94 #[.pointer (some ⟨g, 0, none⟩), .int .i64 3] w (AnsP w g (OwnG 9 1 cellsS w.heap.size) (pMany 32768 (pText 1000) l)) := by
  have C := Lib.hid (number_rd g l w h)
  clear h
  go_enter Tryz.func94, Tryz.ntmps94
  go_wp2_with fail
  refine C.out.mono ?_
  clear C
  rintro e w1 ⟨hg, ⟨ho, rfl⟩ | ⟨x, r, v, ho, rfl, hv, hr⟩⟩
  · exact ⟨rfl, hg, .inl ⟨many_none ho, rfl⟩⟩
  have hv' : v = .int .i64 x := hv
  subst hv'
  obtain ⟨x0, x1⟩ := num_some ho
  obtain ⟨n, rfl⟩ : ∃ n : Nat, x = (n : Int) := ⟨x.toNat, by omega⟩
  have HO := Lib.hid (many_some (p := (pText 1000)) ho)
  have C2 := Lib.hid (readeach_string g r n (by omega) w1 hr)
  have HG := Lib.hid hg
  clear hv hg hr ho
  go_wp2_with fail
  refine C2.out.mono ?_
  clear C2
  intro e w2 h2
  obtain ⟨hg2, ⟨h3, rfl⟩ | ⟨y, s, v, h3, rfl, h4, h5⟩⟩ := ansP_own (V' := OwnG 9 1 cellsS w.heap.size) HG.out (fun w' x v hx => OwnG.low hx HG.out.size) h2
  · exact ⟨rfl, hg2, .inl ⟨by rw [HO.out]; exact h3, rfl⟩⟩
  have G2 := Lib.hid hg2
  have H3 := Lib.hid h3
  have H4 := Lib.hid h4
  have H5 := Lib.hid h5
  clear hg2 h3 h4 h5 h2
  go_wp2_with fail
  go_ret
  exact ⟨G2.out, .inr ⟨_, _, _, by rw [HO.out]; exact H3.out, rfl, H4.out, H5.out⟩⟩
set_option maxHeartbeats 2000000 in
set_option maxRecDepth 100000 in
theorem readrow_ref (g : Nat) (l : List UInt8) (w : World) (h : Rdr w g l) :
    Calls Tryz.prog 81 #[.pointer (some ⟨g, 0, none⟩), .int .i64 8] w (AnsP w g (OwnG 49 4 cellsR w.heap.size) (pMany 32768 pRefP l)) := by
  have C := Lib.hid (number_rd g l w h)
  clear h
  go_enter Tryz.func81, Tryz.ntmps81
  go_wp2_with fail
  refine C.out.mono ?_
  clear C
  rintro e w1 ⟨hg, ⟨ho, rfl⟩ | ⟨x, r, v, ho, rfl, hv, hr⟩⟩
  · exact ⟨rfl, hg, .inl ⟨many_none ho, rfl⟩⟩
  have hv' : v = .int .i64 x := hv
  subst hv'
  obtain ⟨x0, x1⟩ := num_some ho
  obtain ⟨n, rfl⟩ : ∃ n : Nat, x = (n : Int) := ⟨x.toNat, by omega⟩
  have HO := Lib.hid (many_some (p := pRefP) ho)
  have C2 := Lib.hid (readeach_ref g r n (by omega) w1 hr)
  have HG := Lib.hid hg
  clear hv hg hr ho
  go_wp2_with fail
  refine C2.out.mono ?_
  clear C2
  intro e w2 h2
  obtain ⟨hg2, ⟨h3, rfl⟩ | ⟨y, s, v, h3, rfl, h4, h5⟩⟩ := ansP_own (V' := OwnG 49 4 cellsR w.heap.size) HG.out (fun w' x v hx => OwnG.low hx HG.out.size) h2
  · exact ⟨rfl, hg2, .inl ⟨by rw [HO.out]; exact h3, rfl⟩⟩
  have G2 := Lib.hid hg2
  have H3 := Lib.hid h3
  have H4 := Lib.hid h4
  have H5 := Lib.hid h5
  clear hg2 h3 h4 h5 h2
  go_wp2_with fail
  go_ret
  exact ⟨G2.out, .inr ⟨_, _, _, by rw [HO.out]; exact H3.out, rfl, H4.out, H5.out⟩⟩
set_option maxHeartbeats 2000000 in
set_option maxRecDepth 100000 in
theorem readrow_attr (g : Nat) (l : List UInt8) (w : World) (h : Rdr w g l) :
    Calls Tryz.prog 80 #[.pointer (some ⟨g, 0, none⟩), .int .i64 7] w (AnsP w g (OwnA w.heap.size) (pMany 32768 pAttP l)) := by
  have C := Lib.hid (number_rd g l w h)
  clear h
  go_enter Tryz.func80, Tryz.ntmps80
  go_wp2_with fail
  refine C.out.mono ?_
  clear C
  rintro e w1 ⟨hg, ⟨ho, rfl⟩ | ⟨x, r, v, ho, rfl, hv, hr⟩⟩
  · exact ⟨rfl, hg, .inl ⟨many_none ho, rfl⟩⟩
  have hv' : v = .int .i64 x := hv
  subst hv'
  obtain ⟨x0, x1⟩ := num_some ho
  obtain ⟨n, rfl⟩ : ∃ n : Nat, x = (n : Int) := ⟨x.toNat, by omega⟩
  have HO := Lib.hid (many_some (p := pAttP) ho)
  have C2 := Lib.hid (readeach_attr g r n (by omega) w1 hr)
  have HG := Lib.hid hg
  clear hv hg hr ho
  go_wp2_with fail
  refine C2.out.mono ?_
  clear C2
  intro e w2 h2
  obtain ⟨hg2, ⟨h3, rfl⟩ | ⟨y, s, v, h3, rfl, h4, h5⟩⟩ := ansP_own (V' := OwnA w.heap.size) HG.out (fun w' x v hx => OwnA.low hx HG.out.size) h2
  · exact ⟨rfl, hg2, .inl ⟨by rw [HO.out]; exact h3, rfl⟩⟩
  have G2 := Lib.hid hg2
  have H3 := Lib.hid h3
  have H4 := Lib.hid h4
  have H5 := Lib.hid h5
  clear hg2 h3 h4 h5 h2
  go_wp2_with fail
  go_ret
  exact ⟨G2.out, .inr ⟨_, _, _, by rw [HO.out]; exact H3.out, rfl, H4.out, H5.out⟩⟩
end Go.Proofs.YtpjgkboafmebbaaGreatDoor.Sh
