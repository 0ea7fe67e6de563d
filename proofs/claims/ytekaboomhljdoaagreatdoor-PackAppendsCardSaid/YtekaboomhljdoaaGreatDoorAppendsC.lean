/-
  THE STATEMENT PackAppends (P13.2): of at most 60 records, right or not, with at most 9000 bytes, appended one by one to a pack over sectors full of one byte: each is refused, or too long, or stands behind the last one; Room, Records and Read tell just that, at every place; the rows read behind the call as before.
  Conditions: none.
-/
import Derived.Test.YtekaboomhljdoaaGreatDoorWl
import Derived.Test.YtekaboomhljdoaaGreatDoorPkN
import Derived.Deep.Slices
import Derived.Test.YtekaboomhljdoaaGreatDoorCards
namespace Go.Proofs.YtekaboomhljdoaaGreatDoor.Sh
open Go.ChangeShapes Go.WideShapes Go.ChangeAt Go.RowKit Go.Lib

theorem cells3 : Tryz.prog.cellsOf 3 = 1 := by kernel_rfl
theorem cells27 : Tryz.prog.cellsOf 27 = 1 := by kernel_rfl
theorem cells29 : Tryz.prog.cellsOf 29 = 3 := by kernel_rfl
section
variable {H : Type} {enc : TypeId × Value → H} {P : Program}
theorem open_byt_f {t e : TypeId} {W : World} {v : Value} {y : DataW H × List MemPlace} {n : Nat} (ht : P.underlying t = some (.slice e)) (he : P.underlying e = some (.int .u8)) (hc : P.cellsOf e = 1)
    (hf : DataW.trod enc P W 0 (fun _ => true) true n t [v] = some y) (hlt : ∀ x ∈ y.2, x.block < W.heap.size) :
    ∃ ao l c, v = .slice ao l.length c ∧ l.length ≤ c ∧ c ≤ 9223372036854775807 ∧ Byt W ao l ∧ (ao = none → c = 0) ∧ ((y.1 = .nil ∧ l = []) ∨ ∃ es sp, y.1 = .slice es sp ∧ es.length = l.length) := by
  obtain ⟨d, p⟩ := y
  rcases open_ints ht he hc hf with ⟨hcs, hx⟩ | ⟨a, len', cap', zs, hcs, _, hl, hm, hz, hx, hcell, hws⟩
  · simp only [List.cons.injEq, and_true] at hcs
    subst hcs
    simp only [Prod.mk.injEq] at hx
    obtain ⟨rfl, rfl⟩ := hx
    exact ⟨none, [], 0, rfl, Nat.le_refl _, by omega, byt_nil _ _, fun _ => rfl, Or.inl ⟨rfl, rfl⟩⟩
  · simp only [List.cons.injEq, and_true] at hcs
    subst hcs
    simp only [Prod.mk.injEq] at hx
    obtain ⟨rfl, rfl⟩ := hx
    simp only [if_true] at hz
    have hll : ((zs.take len').map fun n => UInt8.ofNat n.toNat).length = len' := by rw [List.length_map, List.length_take]; omega
    refine ⟨some a, (zs.take len').map fun n => UInt8.ofNat n.toNat, cap', by rw [hll], by rw [hll]; exact hl, by unfold maxLen at hm; omega, fun hne => ?_, fun h => by (cases h), Or.inr ⟨_, _, rfl, ?_⟩⟩
    · have hl0 : len' ≠ 0 := by
        intro h0
        apply hne
        rw [h0]
        rfl
      obtain ⟨b, off, spot⟩ := a
      have hspot : spot = none := by simpa [Addr.add] using World.cell?_spot (hcell 0 (by omega))
      subst hspot
      refine ⟨b, off, rfl, hlt (.cell b off) (MemPlace.mem_row.2 ⟨0, by omega, by simp⟩), fun j hj => ?_⟩
      rw [hll] at hj
      have hcj := hcell j (by omega)
      rw [add_plain] at hcj
      have hjs : j < zs.length := by omega
      have hb := range_u8 hws j
      have e : zs.getD j 0 = zs[j] := by simp [List.getD, List.getElem?_eq_getElem hjs]
      rw [List.getD_eq_getElem?_getD] at e
      rw [e] at hb
      rw [hcj, List.getD_eq_getElem?_getD, e]
      simp only [List.getElem_map, List.getElem_take, UInt8.toNat_ofNat']
      congr 2
      omega
    · rw [hll]
      simp [lits]
      omega
theorem wf_u32 {zs : List Int} (h : ∀ n ∈ zs, (Lit.int .u32 n).wf = true) (j : Nat) (hj : j < zs.length) : 0 ≤ zs[j] ∧ zs[j] ≤ 4294967295 := bounds_u32 (h _ (List.getElem_mem hj))
theorem open_wrd_f {t e : TypeId} {W : World} {v : Value} {y : DataW H × List MemPlace} {n : Nat} (ht : P.underlying t = some (.slice e)) (he : P.underlying e = some (.int .u32)) (hc : P.cellsOf e = 1)
    (hf : DataW.trod enc P W 0 (fun _ => true) true n t [v] = some y) (hlt : ∀ x ∈ y.2, x.block < W.heap.size) :
    ∃ ao l c, v = .slice ao l.length c ∧ l.length ≤ c ∧ c ≤ 9223372036854775807 ∧ Wrd W ao l ∧ (ao = none → c = 0) ∧ ((y.1 = .nil ∧ l = []) ∨ ∃ es sp, y.1 = .slice es sp ∧ es.length = l.length) := by
  obtain ⟨d, p⟩ := y
  rcases open_ints ht he hc hf with ⟨hcs, hx⟩ | ⟨a, len', cap', zs, hcs, _, hl, hm, hz, hx, hcell, hws⟩
  · simp only [List.cons.injEq, and_true] at hcs
    subst hcs
    simp only [Prod.mk.injEq] at hx
    obtain ⟨rfl, rfl⟩ := hx
    exact ⟨none, [], 0, rfl, Nat.le_refl _, by omega, wrd_nil _ _, fun _ => rfl, Or.inl ⟨rfl, rfl⟩⟩
  · simp only [List.cons.injEq, and_true] at hcs
    subst hcs
    simp only [Prod.mk.injEq] at hx
    obtain ⟨rfl, rfl⟩ := hx
    simp only [if_true] at hz
    have hll : ((zs.take len').map fun n => UInt32.ofNat n.toNat).length = len' := by rw [List.length_map, List.length_take]; omega
    refine ⟨some a, (zs.take len').map fun n => UInt32.ofNat n.toNat, cap', by rw [hll], by rw [hll]; exact hl, by unfold maxLen at hm; omega, fun hne => ?_, fun h => by (cases h), Or.inr ⟨_, _, rfl, ?_⟩⟩
    · have hl0 : len' ≠ 0 := by
        intro h0
        apply hne
        rw [h0]
        rfl
      obtain ⟨b, off, spot⟩ := a
      have hspot : spot = none := by simpa [Addr.add] using World.cell?_spot (hcell 0 (by omega))
      subst hspot
      refine ⟨b, off, rfl, hlt (.cell b off) (MemPlace.mem_row.2 ⟨0, by omega, by simp⟩), fun j hj => ?_⟩
      rw [hll] at hj
      have hcj := hcell j (by omega)
      rw [add_plain] at hcj
      have hjs : j < zs.length := by omega
      have hb := wf_u32 hws j hjs
      have e : zs.getD j 0 = zs[j] := by simp [List.getD, List.getElem?_eq_getElem hjs]
      rw [List.getD_eq_getElem?_getD] at e
      rw [hcj, List.getD_eq_getElem?_getD, e]
      simp only [List.getElem_map, List.getElem_take, UInt32.toNat_ofNat']
      congr 2
      omega
    · rw [hll]
      simp [lits]
      omega
end
section
variable {H : Type} {enc : TypeId × Value → H}
set_option maxRecDepth 100000 in
/-- a record that came in -/
theorem open_rec {W : World} {base : Nat} {v : Value} {d : DataW H} {p : List MemPlace} (hval : Value.okWide Tryz.prog W .any base 29 v) (h : DataW.Trod enc Tryz.prog W 0 (fun _ => true) true 29 v d p) (hlt : ∀ x ∈ p, x.block < W.heap.size) :
    ∃ k ks ao l c, v = .agg #[.int .i64 k, .string ks, .slice ao (l : List UInt8).length c] ∧ l.length ≤ c ∧ c ≤ 9223372036854775807 ∧ Byt W ao l ∧ (ao = none → c = 0) := by
  obtain ⟨cs, rfl, hsz⟩ := okWide_struct Tryz.underlying29 hval
  rw [cells29] at hsz
  obtain ⟨l⟩ := cs
  obtain ⟨fuel, hf⟩ := h
  match l, hsz with
  | [c0, c1, c2], _ =>
    obtain ⟨xs, n, _, hx, _, hlen, hfs⟩ := DataW.trod_struct Tryz.underlying29 hf
    match xs, hlen with
    | [y0, y1, y2], _ =>
      have f0 : DataW.trod enc Tryz.prog W 0 (fun _ => true) true n 3 [c0] = some y0 := by
        have h := hfs 0 _ rfl
        change DataW.trod enc Tryz.prog W 0 (fun _ => true) true n 3 (List.take (Tryz.prog.cellsOf 3) (List.drop 0 [c0, c1, c2])) = some y0 at h
        rw [cells3] at h
        exact h
      have f1 : DataW.trod enc Tryz.prog W 0 (fun _ => true) true n 27 [c1] = some y1 := by
        have h := hfs 1 _ rfl
        change DataW.trod enc Tryz.prog W 0 (fun _ => true) true n 27 (List.take (Tryz.prog.cellsOf 27) (List.drop 1 [c0, c1, c2])) = some y1 at h
        rw [cells27] at h
        exact h
      have f2 : DataW.trod enc Tryz.prog W 0 (fun _ => true) true n 24 [c2] = some y2 := by
        have h := hfs 2 _ rfl
        change DataW.trod enc Tryz.prog W 0 (fun _ => true) true n 24 (List.take (Tryz.prog.cellsOf 24) (List.drop 2 [c0, c1, c2])) = some y2 at h
        rw [cells24] at h
        exact h
      simp only [Prod.mk.injEq] at hx
      obtain ⟨g, e0, _, _⟩ := DataW.trod_int Tryz.underlying3 f0
      obtain ⟨t, e1, _, ht⟩ := DataW.trod_string Tryz.underlying27 f1
      obtain ⟨av, la, ac, e2, a1, a2, a3, a4, _⟩ := open_byt_f Tryz.underlying24 Tryz.underlying5 cells5 f2 (fun x hx2 => hlt x (by rw [hx.2]; simp [hx2]))
      simp only [List.cons.injEq, and_true] at e0 e1
      subst e0 e1 e2
      exact ⟨g, t, av, la, ac, rfl, a1, a2, a3, a4⟩
end
end Go.Proofs.YtekaboomhljdoaaGreatDoor.Sh
namespace Go.Proofs.YtekaboomhljdoaaGreatDoor.Sh
open Go.ChangeShapes Go.WideShapes Go.ChangeAt Go.RowKit Go.Lib
/-- a record as it comes in -/
structure RecR where
  kind : Int
  key : ByteArray
  da : Option Addr
  dat : List UInt8
  dc : Nat
instance : Inhabited RecR := ⟨⟨0, ⟨#[]⟩, none, [], 0⟩⟩
/-- its three cells, and its data, older than the call -/
def RecOk (w : World) (x : RecR) : Prop := Byt w x.da x.dat ∧ (x.da = none → x.dc = 0) ∧ x.dat.length ≤ x.dc ∧ x.dc ≤ 9223372036854775807
/-- a row of records -/
def Recs (w : World) (ao : Option Addr) (L : List RecR) : Prop :=
  (L ≠ [] → ∃ b o, ao = some ⟨b, o, none⟩ ∧ b < w.heap.size ∧ ∀ j x, L[j]? = some x → w.cell? ⟨b, o + j * 3, none⟩ = some (.int .i64 x.kind) ∧ w.cell? ⟨b, o + j * 3 + 1, none⟩ = some (.string x.key) ∧ w.cell? ⟨b, o + j * 3 + 2, none⟩ = some (.slice x.da x.dat.length x.dc)) ∧ ∀ x ∈ L, RecOk w x
section
variable {H : Type} {enc : TypeId × Value → H}
set_option maxRecDepth 100000 in
theorem open_rec1 {W : World} {n : Nat} {cs : List Value} {y : DataW H × List MemPlace} (hlen : cs.length = 3) (h : DataW.trod enc Tryz.prog W 0 (fun _ => true) true n 29 cs = some y) (hlt : ∀ x ∈ y.2, x.block < W.heap.size) :
    ∃ x : RecR, cs = [.int .i64 x.kind, .string x.key, .slice x.da x.dat.length x.dc] ∧ RecOk W x := by
  match cs, hlen with
  | [c0, c1, c2], _ =>
    obtain ⟨xs, n, _, hx, _, hlen, hfs⟩ := DataW.trod_struct Tryz.underlying29 h
    match xs, hlen with
    | [y0, y1, y2], _ =>
      have f0 : DataW.trod enc Tryz.prog W 0 (fun _ => true) true n 3 [c0] = some y0 := by
        have h := hfs 0 _ rfl
        change DataW.trod enc Tryz.prog W 0 (fun _ => true) true n 3 (List.take (Tryz.prog.cellsOf 3) (List.drop 0 [c0, c1, c2])) = some y0 at h
        rw [cells3] at h
        exact h
      have f1 : DataW.trod enc Tryz.prog W 0 (fun _ => true) true n 27 [c1] = some y1 := by
        have h := hfs 1 _ rfl
        change DataW.trod enc Tryz.prog W 0 (fun _ => true) true n 27 (List.take (Tryz.prog.cellsOf 27) (List.drop 1 [c0, c1, c2])) = some y1 at h
        rw [cells27] at h
        exact h
      have f2 : DataW.trod enc Tryz.prog W 0 (fun _ => true) true n 24 [c2] = some y2 := by
        have h := hfs 2 _ rfl
        change DataW.trod enc Tryz.prog W 0 (fun _ => true) true n 24 (List.take (Tryz.prog.cellsOf 24) (List.drop 2 [c0, c1, c2])) = some y2 at h
        rw [cells24] at h
        exact h
      obtain ⟨g, e0, _, _⟩ := DataW.trod_int Tryz.underlying3 f0
      obtain ⟨t, e1, _, ht⟩ := DataW.trod_string Tryz.underlying27 f1
      obtain ⟨av, la, ac, e2, a1, a2, a3, a4, _⟩ := open_byt_f Tryz.underlying24 Tryz.underlying5 cells5 f2 (fun x hx2 => hlt x (by rw [show y.2 = _ from congrArg Prod.snd hx]; simp [hx2]))
      simp only [List.cons.injEq, and_true] at e0 e1
      subst e0 e1 e2
      exact ⟨⟨g, t, av, la, ac⟩, rfl, a3, a4, a1, a2⟩
set_option maxRecDepth 100000 in
theorem open_recs {W : World} {base : Nat} {v : Value} {d : DataW H} {p : List MemPlace} (hval : Value.okWide Tryz.prog W .any base 38 v) (h : DataW.Trod enc Tryz.prog W 0 (fun _ => true) true 38 v d p) (hlt : ∀ x ∈ p, x.block < W.heap.size) :
    ∃ (ao : Option Addr) (L : List RecR) (c : Nat), v = .slice ao L.length c ∧ Recs W ao L := by
  obtain ⟨a0, len, cap, rfl⟩ := okWide_slice Tryz.underlying38 hval
  obtain ⟨fuel, hf⟩ := h
  rcases Go.Deep.open_slice Tryz.underlying38 hf with ⟨hcs, hx⟩ | ⟨a, len', cap', m, n, D, Pl, hcs, _, hl, hm, hmm, hx, hel⟩
  · simp [Value.cells] at hcs
    obtain ⟨rfl, rfl, rfl⟩ := hcs
    exact ⟨none, [], 0, rfl, fun h => absurd rfl h, fun x hx => by cases hx⟩
  · simp [Value.cells] at hcs
    obtain ⟨rfl, rfl, rfl⟩ := hcs
    simp only [if_true] at hmm
    subst hmm
    simp only [Prod.mk.injEq] at hx
    obtain ⟨rfl, rfl⟩ := hx
    rw [cells29] at hlt
    have each : ∀ i, i < m → ∃ x : RecR, (∀ j, j < 3 → W.cell? (a.add (i * 3 + j)) = [Value.int .i64 x.kind, .string x.key, .slice x.da x.dat.length x.dc][j]?) ∧ RecOk W x := fun i hi => by
      obtain ⟨cs', h1, h2⟩ := hel i hi
      rw [cells29] at h1
      obtain ⟨_, hlen, hcell⟩ := World.cells?_some h1
      obtain ⟨x, hx1, hx2⟩ := open_rec1 hlen h2 (fun x hx => hlt x (List.mem_append_right _ (List.mem_flatMap.2 ⟨i, List.mem_range.2 hi, hx⟩)))
      refine ⟨x, fun j hj => ?_, hx2⟩
      have hcj := hcell j hj
      rw [Go.Deep.add_add] at hcj
      rw [← hx1]
      exact hcj
    obtain ⟨q, hq⟩ := Go.Deep.choose_lt each
    have hll : ((List.range len).map q).length = len := by simp
    refine ⟨some a, (List.range len).map q, m, by rw [hll], fun hne => ?_, fun x hx => ?_⟩
    · have hl0 : 0 < len := by
        rcases Nat.eq_zero_or_pos len with h0 | h0
        · exact absurd (by rw [h0]; rfl) hne
        · exact h0
      obtain ⟨b, off, spot⟩ := a
      have hspot : spot = none := by
        have h1 := (hq 0 (by omega)).1 0 (by omega)
        exact by simpa [Addr.add] using World.cell?_spot h1
      subst hspot
      refine ⟨b, off, rfl, hlt (.cell b off) (List.mem_append_left _ (MemPlace.mem_row.2 ⟨0, by omega, by simp⟩)), fun j x hj => ?_⟩
      rw [List.getElem?_map] at hj
      obtain ⟨i, hi, rfl⟩ := Option.map_eq_some_iff.1 hj
      obtain ⟨hjl, rfl⟩ := List.getElem?_eq_some_iff.1 hi
      simp only [List.length_range] at hjl
      rw [List.getElem_range]
      have h5 := (hq j (by omega)).1
      have g0 := h5 0 (by omega)
      have g1 := h5 1 (by omega)
      have g2 := h5 2 (by omega)
      simp only [add_plain] at g0 g1 g2
      exact ⟨by simpa [Nat.add_assoc] using g0, by simpa [Nat.add_assoc] using g1, by simpa [Nat.add_assoc] using g2⟩
    · obtain ⟨j, hj, rfl⟩ := List.mem_map.1 hx
      exact (hq j (by have := List.mem_range.1 hj; omega)).2
end
/-- one of them -/
theorem recs_at {w : World} {ao : Option Addr} {L : List RecR} (h : Recs w ao L) {i : Nat} (hi : i < L.length) : ∃ b o x, ao = some ⟨b, o, none⟩ ∧ b < w.heap.size ∧ L[i]? = some x ∧ w.cell? ⟨b, o + i * 3, none⟩ = some (.int .i64 x.kind) ∧ w.cell? ⟨b, o + i * 3 + 1, none⟩ = some (.string x.key) ∧ w.cell? ⟨b, o + i * 3 + 2, none⟩ = some (.slice x.da x.dat.length x.dc) ∧ Byt w x.da x.dat ∧ (x.da = none → x.dc = 0) ∧ x.dat.length ≤ x.dc ∧ x.dc ≤ 9223372036854775807 ∧ DatO w.heap.size w (.slice x.da x.dat.length x.dc) x.dat := by
  obtain ⟨b, o, h1, h2, h3⟩ := h.1 (fun h0 => by rw [h0] at hi; simp at hi)
  obtain ⟨h4, h5, h6⟩ := h3 i L[i] (List.getElem?_eq_getElem hi)
  obtain ⟨k1, k2, k3, k4⟩ := h.2 L[i] (List.getElem_mem hi)
  refine ⟨b, o, L[i], h1, h2, List.getElem?_eq_getElem hi, h4, h5, h6, k1, k2, k3, k4, _, _, rfl, k1, k2, k3, k4, fun hne b2 o2 e => ?_⟩
  obtain ⟨b3, o3, e3, h9, _⟩ := k1 hne
  rw [e] at e3
  cases e3
  exact h9
end Go.Proofs.YtekaboomhljdoaaGreatDoor.Sh
namespace Go.Proofs.YtekaboomhljdoaaGreatDoor.Sh
open Lb Go.Proofs.YtekaboomhljdoaaGreatDoor.Pc Go.RowKit Go.Lib
open Go.Proofs.YtekaboomhljdoaaGreatDoor.Dk hiding Blk made_any size_any below_chain

theorem wpl_appz2 {w : World} {ops : Array Oper} {rest : List Oper} {o : Oper} {a : Act} {Q : Exit → Act → World → Prop} (hgd : o.guard = none) (s x : Operand)
    (ho : o.op = .call { callee := .builtin .append, args := #[s, x], argTypes := #[42, 42] })
    (B : Nat) (v : Value) (xs : List Int) (y : Int) (hs : a.eval s = v) (hown : OwnZ w B v xs)
    (ad : Addr) (c : Nat) (hx : a.eval x = .slice (some ad) 1 c) (hr : Zrw w (some ad) [y]) (h47 : (xs.length + 1) * 8 ≤ 140737488355328) (hbase : B ≤ w.heap.size)
    (h : ∀ v' w', OwnZ w' B v' (xs ++ [y]) → w.grownBy w' v.ownBlock → (v'.ownBlock = v.ownBlock ∨ v'.ownBlock = some w.heap.size) → wpList Tryz.prog ops Q rest (a.put o.dst v') w') : wpList Tryz.prog ops Q (o :: rest) a w :=
  wpList_plain hgd fun _ hK => wp_appz s x ho B v xs y hs hown ad c hx hr h47 hbase (fun v' w' h1 h2 h3 => hK _ _ (h v' w' h1 h2 h3))
/-- a law's own row of places beside a pack -/
structure Kpz (B : Nat) (w : World) (p : Nat) (ps : List Int) (v : Value) : Prop where
  own : OwnZ w B v ps
  off : ∀ q, v.ownBlock = some q → q ∉ rowsOf w p
theorem ownz_fr2 {B : Nat} {w w' : World} {l : List Int} {v : Value} {L : List Nat} (h : OwnZ w B v l) (hf : Fr w w' L) (hv : ∀ q, v.ownBlock = some q → q ∉ L) : OwnZ w' B v l := by
  obtain ⟨k1, k2⟩ := h
  refine ⟨k1, ?_⟩
  rcases k2 with k2 | ⟨g, cap, cur, rfl, hb, hg, rest⟩
  · exact Or.inl k2
  · exact Or.inr ⟨g, cap, cur, rfl, hb, (hf.block g (Array.getElem?_eq_some_iff.1 hg).1 (hv g rfl)).trans hg, rest⟩
theorem Kpz.later {B : Nat} {w w' : World} {p : Nat} {ps : List Int} {v : Value} (h : Kpz B w p ps v) (hp : p < w.heap.size) (hb : Below w.heap.size w w') : Kpz B w' p ps v := ⟨ownz_below h.own hb, by rw [rows_later hp hb]; exact h.off⟩
theorem Kpz.append {B : Nat} {w w' : World} {g sa mb p : Nat} {low : Int} {N a : Nat} {V : Nat → List UInt8} {S : List (List UInt8)} {m : Nat} {rs : List Rcd} {ps : List Int} {r : Rcd} {v : Value} {e : Ending} {pw : Bool} {sh : Bool} (h : Kpz B w p ps v) (hp : Pst B w g sa mb p low N a V S pw m rs sh) (ha : AnsT B w p g sa mb a low N V S m rs r e w') : Kpz B w' p ps v := by
  obtain ⟨_, hF, _, hR, _⟩ := ha
  have hne : ∀ q, v.ownBlock = some q → q ∉ [p, g, sa, mb] := fun q hq hm => by
    obtain ⟨_, _, cur, e⟩ := own_type h.own hq
    obtain ⟨vr, vp, h1, _⟩ := hp.pac.row
    obtain ⟨k, D, wr, d, _⟩ := hp.dev.dev
    simp only [List.mem_cons, List.not_mem_nil, or_false] at hm
    rcases hm with rfl | rfl | rfl | rfl
    · rw [show w.heap[q]? = _ from h1] at e
      injection e with e
      injection e with _ e
      exact absurd e (by decide)
    · rw [show w.heap[q]? = _ from d.dv] at e
      injection e with e
      injection e with _ e
      exact absurd e (by decide)
    · rw [show w.heap[q]? = _ from d.sec] at e
      injection e with e
      injection e with _ e
      exact absurd e (by decide)
    · obtain ⟨es, cl, hb, F⟩ := d.map
      rw [hb] at e
      cases e
  refine ⟨ownz_fr2 h.own hF (fun q hq hm => ?_), fun q hq hm => ?_⟩
  · rcases List.mem_append.1 hm with hm | hm
    · exact hne q hq hm
    · exact h.off q hq hm
  · rcases hR q hm with hm | hm
    · exact h.off q hq hm
    · have := (own_type h.own hq).2.1
      omega
/-- a pack is kept by what turns a row of places that is not its own -/
theorem pst_grown_z {B : Nat} {w w' : World} {g sa mb p : Nat} {low : Int} {N a : Nat} {V : Nat → List UInt8} {S : List (List UInt8)} {pw : Bool} {m : Nat} {rs : List Rcd} {ps : List Int} {sh : Bool} {v : Value} (h : Pst B w g sa mb p low N a V S pw m rs sh) (ho2 : OwnZ w B v ps) (hg : w.grownBy w' v.ownBlock) (hv : ∀ q, v.ownBlock = some q → q ∉ rowsOf w p) : Pst B w' g sa mb p low N a V S pw m rs sh ∧ rowsOf w' p = rowsOf w p := by
  have hF : Fr w w' v.ownBlock.toList := ⟨hg.os, hg.tape, hg.output, hg.size, fun i hi hn => hg.block i hi (fun e => hn (by rw [← e]; simp))⟩
  obtain ⟨vr, vp, h1, ⟨us2, h2, h2o, h2d⟩, h3⟩ := h.pac.row
  have hty : ∀ q, v.ownBlock = some q → ∃ cur, w.heap[q]? = some (.cells cur 3 (0, 0)) := fun q hq => (own_type ho2 hq).2.2
  obtain ⟨k, D, wr, d, hdr⟩ := h.dev.dev
  have np : p ∉ v.ownBlock.toList := fun hm => by
    obtain ⟨cur, e⟩ := hty p (by simpa using hm)
    rw [show w.heap[p]? = _ from h1] at e
    injection e with e
    injection e with _ e
    exact absurd e (by decide)
  have ng : g ∉ v.ownBlock.toList := fun hm => by
    obtain ⟨cur, e⟩ := hty g (by simpa using hm)
    rw [show w.heap[g]? = _ from d.dv] at e
    injection e with e
    injection e with _ e
    exact absurd e (by decide)
  have nsa : sa ∉ v.ownBlock.toList := fun hm => by
    obtain ⟨cur, e⟩ := hty sa (by simpa using hm)
    rw [show w.heap[sa]? = _ from d.sec] at e
    injection e with e
    injection e with _ e
    exact absurd e (by decide)
  have nmb : mb ∉ v.ownBlock.toList := fun hm => by
    obtain ⟨cur, e⟩ := hty mb (by simpa using hm)
    obtain ⟨es, cl, hb, F⟩ := d.map
    rw [hb] at e
    cases e
  have hrow := rowsOf_pk h1
  have h1' := h1.fr hF np
  have apz : vp.ownBlock = none ∨ vp.ownBlock ≠ v.ownBlock := by
    cases hq : vp.ownBlock with
    | none => exact Or.inl rfl
    | some q => exact Or.inr fun e => hv q e.symm (by rw [hrow, hq]; simp)
  have keepD : ∀ j (hj : j < rs.length), ∃ u, us2[j]? = some u ∧ DatK 0 w' u rs[j].2 := fun j hj => by
    obtain ⟨u, hu, hd⟩ := h2d j hj
    refine ⟨u, hu, ?_⟩
    rcases hd with hd | ⟨a, c, m1, m2, m3, m4, m5, m6⟩
    · exact Or.inl (World.ownsRow.kept hd hg (apartT hd ho2 (by decide)))
    · refine Or.inr ⟨a, c, m1, fun hne => ?_, m3, m4, m5, m6⟩
      obtain ⟨b, o, n1, _, _⟩ := m2 hne
      exact absurd (m6 hne b o n1) (Nat.not_lt_zero _)
  refine ⟨⟨h.dev.fr hF ng nsa nmb, ⟨⟨vr, vp, h1', ⟨us2, h2, World.ownsRow.kept h2o hg (apartT h2o ho2 (by decide)), keepD⟩, World.ownsRow.kept h3 hg apz⟩, h.pac.base, h.pac.fit, h.pac.good⟩, h.hold, h.bg, h.in64⟩, ?_⟩
  rw [rowsOf_pk h1', hrow]
/-- the law's two rows beside the pack -/
def K5 (w : World) (B g sa mb p : Nat) (S : List (List UInt8)) (vk vp : Value) (wr : World) (i : Nat) (en : Int) : Prop :=
  ∃ V rs, Pst B wr g sa mb p 1 66 2 V S true (65 * i) rs false ∧ Kpt B wr p rs vk ∧ Kpz B wr p (offs 0 rs) vp ∧ Below w.heap.size w wr ∧ en = (((allR rs).length : Nat) : Int)
/-- an append that fits: the record stands in the pack, not yet in the law's rows -/
def K6 (w : World) (B g sa mb p : Nat) (S : List (List UInt8)) (vk vp : Value) (wr : World) (i : Nat) (en : Nat) (r : Rcd) : Prop :=
  ∃ V rs, Pst B wr g sa mb p 1 66 2 V S true (65 * (i + 1)) (rs ++ [r]) false ∧ Kpt B wr p rs vk ∧ Kpz B wr p (offs 0 rs) vp ∧ Below w.heap.size w wr ∧ en = (allR rs).length ∧ en + (recB r).length ≤ 16384
theorem k6_of {w w5 w6 : World} {g sa mb p i : Nat} {S : List (List UInt8)} {rs : List Rcd} {r : Rcd} {vk vp : Value} {V : Nat → List UInt8} {e : Ending} (hS : Pst w.heap.size w5 g sa mb p 1 66 2 V S true (65 * i) rs false) (hk : Kpt w.heap.size w5 p rs vk) (hz : Kpz w.heap.size w5 p (offs 0 rs) vp) (hB : Below w.heap.size w w5) (hf : (allR rs).length + (recB r).length ≤ 16384)
    (h : AnsT w.heap.size w5 p g sa mb 2 1 66 V S (65 * i) rs r e w6) : e = .returned (.tuple #[.int .i64 (((allR rs).length : Nat) : Int), .int .i64 0]) ∧ K6 w w.heap.size g sa mb p S vk vp w6 i (allR rs).length r := by
  have k := hk.append hS h
  have z := hz.append hS h
  obtain ⟨e1, _, h1, _, h2⟩ := h
  exact ⟨e1, _, rs, h1, k, z, hB.trans h2, rfl, hf⟩
theorem load_low (w : World) (b : Nat) (l : List UInt8) (N low c : Nat) (h : Byt w (some ⟨b, 0, none⟩) l) (h1 : 1 ≤ N) (h2 : N ≤ 4096) (hlo : low ≤ N) (hc : l.length ≤ c) (hl : l.length = 256 * N) (hc2 : c ≤ 9223372036854775807) : Calls Tryz.prog 11 #[.slice (some ⟨b, 0, none⟩) l.length c, .int .i64 (low : Int)] w fun e w' => Below w.heap.size w w' ∧ ∃ g sa mb S, e = .returned (.tuple #[.pointer (some ⟨g, 0, none⟩), .int .i64 0]) ∧ w.heap.size ≤ g ∧ w.heap.size ≤ sa ∧ w.heap.size ≤ mb ∧ Dev w' g sa mb (low : Int) N (fun i => (secs l N).getD i []) S true 0 := by
  refine Calls.mono (load_ok b 0 c N l.length l low w h rfl hl h1 h2 hlo hc hc2) ?_
  rintro e w' ⟨hb, g, sa, mb, rfl, k1, k2, k3, hd⟩
  exact ⟨hb, g, sa, mb, _, rfl, k1, k2, k3, dev_made hd (secs_len _ _) h1 h2⟩
/-- the record in the law's row of records -/
def K7 (w : World) (B g sa mb p : Nat) (S : List (List UInt8)) (vk vp : Value) (wr : World) (i : Nat) (en : Nat) (r : Rcd) : Prop :=
  ∃ V rs, Pst B wr g sa mb p 1 66 2 V S true (65 * (i + 1)) (rs ++ [r]) false ∧ Kpt B wr p (rs ++ [r]) vk ∧ Kpz B wr p (offs 0 rs) vp ∧ Below w.heap.size w wr ∧ en = (allR rs).length
theorem k7_of {w w7 w8 : World} {g sa mb p i en : Nat} {S : List (List UInt8)} {V : Nat → List UInt8} {rs : List Rcd} {r : Rcd} {u v vp : Value} (hS : Pst w.heap.size w7 g sa mb p 1 66 2 V S true (65 * (i + 1)) (rs ++ [r]) false) (hQ : Kpt w.heap.size w7 p rs u) (hZ : Kpz w.heap.size w7 p (offs 0 rs) vp) (hB : Below w.heap.size w w7) (he : en = (allR rs).length) (hP : w.heap.size ≤ w7.heap.size)
    (hO : OwnO w.heap.size w8 (rs ++ [r]) v) (hg : w7.grownBy w8 u.ownBlock) (hN : v.ownBlock = u.ownBlock ∨ v.ownBlock = some w7.heap.size) : K7 w w.heap.size g sa mb p S v vp w8 i en r := by
  obtain ⟨h1, h2⟩ := pst_grown hS hQ.own hg hQ.off
  obtain ⟨us, _, ho, _⟩ := hQ.own
  refine ⟨V, rs, h1, ⟨hO, fun q hq => ?_⟩, ⟨World.ownsRow.kept hZ.own hg (apartT hZ.own ho (by decide)), by rw [h2]; exact hZ.off⟩, hB.grown hg hP (fun k hk => (World.ownsRow.lt ho k hk).1), he⟩
  rw [h2]
  rcases hN with e | e
  · exact hQ.off q (by rw [← e]; exact hq)
  · rw [e] at hq
    injection hq with hq
    intro hm2
    have := (rows_far hS.pac hS.dev q hm2).2.1
    omega
theorem offs_one (rs : List Rcd) (r : Rcd) (a : Nat) : offs a (rs ++ [r]) = offs a rs ++ [((a + (allR rs).length : Nat) : Int)] := by
  rw [offs_app]
  rfl
theorem k5_next {w w7 w8 : World} {g sa mb p i en : Nat} {S : List (List UInt8)} {V : Nat → List UInt8} {rs : List Rcd} {r : Rcd} {vk u v : Value} (hS : Pst w.heap.size w7 g sa mb p 1 66 2 V S true (65 * (i + 1)) (rs ++ [r]) false) (hQ : Kpt w.heap.size w7 p (rs ++ [r]) vk) (hZ : Kpz w.heap.size w7 p (offs 0 rs) u) (hB : Below w.heap.size w w7) (he : en = (allR rs).length) (hP : w.heap.size ≤ w7.heap.size)
    (hO : OwnZ w8 w.heap.size v (offs 0 rs ++ [(en : Int)])) (hg : w7.grownBy w8 u.ownBlock) (hN : v.ownBlock = u.ownBlock ∨ v.ownBlock = some w7.heap.size) : K5 w w.heap.size g sa mb p S vk v w8 (i + 1) ((en + (recB r).length : Nat) : Int) := by
  obtain ⟨h1, h2⟩ := pst_grown_z hS hZ.own hg hZ.off
  have ho := hZ.own
  refine ⟨V, rs ++ [r], h1, ⟨owno_fr hQ.own (L := u.ownBlock.toList) ⟨hg.os, hg.tape, hg.output, hg.size, fun i hi hn => hg.block i hi (fun e => hn (by rw [← e]; simp))⟩ (fun b hb => (own_type ho (by simpa using hb)).1) (fun q hq hm => ?_), by rw [h2]; exact hQ.off⟩, ⟨?_, fun q hq => ?_⟩, hB.grown hg hP (fun k hk => (World.ownsRow.lt ho k hk).1), ?_⟩
  · obtain ⟨_, cur, e⟩ := owno_lt hQ.own hq
    obtain ⟨_, _, cur2, e2⟩ := own_type ho (q := q) (by simpa using hm)
    rw [e] at e2
    injection e2 with e2
    injection e2 with _ e2
    exact absurd e2 (by decide)
  · rw [offs_one, Nat.zero_add, ← he]
    exact hO
  · rw [h2]
    rcases hN with e | e
    · exact hZ.off q (by rw [← e]; exact hq)
    · rw [e] at hq
      injection hq with hq
      intro hm2
      have := (rows_far hS.pac hS.dev q hm2).2.1
      omega
  · rw [allR_app, allR_one, List.length_append, he]
end Go.Proofs.YtekaboomhljdoaaGreatDoor.Sh
namespace Go.Proofs.YtekaboomhljdoaaGreatDoor.Sh
open Lb Go.Proofs.YtekaboomhljdoaaGreatDoor.Pc Go.RowKit Go.Lib
open Go.Proofs.YtekaboomhljdoaaGreatDoor.Dk hiding Blk made_any size_any below_chain

theorem room_st {B : Nat} {w : World} {g sa mb p : Nat} {low : Int} {N a : Nat} {V : Nat → List UInt8} {S : List (List UInt8)} {pw : Bool} {m en : Nat} {rs : List Rcd} (h : Pst B w g sa mb p low N a V S pw m rs false) (he : en = (allR rs).length) : Calls Tryz.prog 20 #[.pointer (some ⟨p, 0, none⟩)] w fun e w' => e = .returned (.int .i64 (16384 - (en : Int))) ∧ w' = w := by
  obtain ⟨vr, vp, h1, _⟩ := h.pac.row
  have hf := h.pac.fit
  refine (room_any h1 (by omega) (by omega)).mono ?_
  rintro e w' ⟨rfl, rfl⟩
  subst he
  exact ⟨rfl, rfl⟩
theorem frw_one {W : World} {r : Rcd} {a : Option Addr} {c : Nat} (hy : Byt W a r.2) (hn : a = none → c = 0) (hc : r.2.length ≤ c) (hcc : c ≤ 9223372036854775807) : Frw (W.alloc (.cells #[.int .i64 (r.1.toNat : Int), .string (keyS (r.1.toNat : Nat) r.2), .slice a r.2.length c] 29)) (some ⟨W.heap.size, 0, none⟩) [r] := fun _ => by
  have hb := Blk.new W [.int .i64 (r.1.toNat : Int), .string (keyS (r.1.toNat : Nat) r.2), .slice a r.2.length c] 29 _ rfl
  refine ⟨W.heap.size, 0, rfl, by simp, fun j x hx => ?_⟩
  obtain ⟨hj, rfl⟩ := List.getElem?_eq_some_iff.1 hx
  obtain rfl : j = 0 := by simp at hj; omega
  exact ⟨a, c, hb.cell 0, hb.cell 1, hb.cell 2, hy.below (al1 W _), hn, hc, hcc⟩
theorem k5_more {w w' : World} {g sa mb p i : Nat} {S : List (List UInt8)} {vk vp : Value} {wr : World} {en : Int} (h : K5 w w.heap.size g sa mb p S vk vp wr i en) (hb : Below wr.heap.size wr w') : K5 w w.heap.size g sa mb p S vk vp w' (i + 1) en := by
  obtain ⟨V, rs, h1, h2, h3, h4, h5⟩ := h
  exact ⟨V, rs, (h1.later hb).more (by omega), h2.later h1.pac.lt hb, h3.later h1.pac.lt hb, below_chain h4 hb, h5⟩
set_option maxHeartbeats 8000000 in
set_option maxRecDepth 100000 in
theorem appends_law (f : UInt8) (ao : Option Addr) (L : List RecR) (n c : Nat) (at_ : Int) (a0 a1 : Addr) (w : World) (hE : Env w a0 a1) (hL : Recs w ao L) (eL : L.length = n) (h0 : -9223372036854775808 ≤ at_) (h1 : at_ ≤ 9223372036854775807) :
    Calls Tryz.prog 5 #[.int .u8 (f.toNat : Int), .slice ao n c, .int .i64 at_] w fun e w' => e = .returned (.bool true) ∧ Below w.heap.size w w' := by
  have E0 := Lib.hid hE
  have CH := Lib.hid (fun W (hb : Below w.heap.size w W) => heads_any a0 a1 W (hE.below hb))
  have B0 := Lib.hid (Below.refl w.heap.size w)
  clear hE
  by_cases g1 : n ≤ 60
  case neg =>
    have d1 : decide ((60 : Int) < (n : Int)) = true := by simp; omega
    clear hL eL h0 h1 g1
    go_enter Tryz.func5, Tryz.ntmps5
    go_wp2_with fail
    refine (CH.out _ B0.out).mono ?_
    rintro e w1 ⟨rfl, b1⟩
    go_wp2_with fail
    go_ret
    exact ⟨rfl, b1⟩
  have d1 : decide ((60 : Int) < (n : Int)) = false := by simp; omega
  have HL := Lib.hid hL
  have EL := Lib.hid eL
  have H01 := Lib.hid (And.intro h0 h1)
  obtain ⟨NN, hNN⟩ : ∃ NN, NN = 16896 := ⟨_, rfl⟩
  have HNN := Lib.hid hNN
  have NB : NN ≤ 16896 := by omega
  obtain ⟨Z, lz, hll, hmk1, hG1⟩ := make_noughts w NN (by omega) 16896 (by omega)
  have HLZ := Lib.hid hll
  have G1 := Lib.hid hG1
  have A1 := Lib.hid (al1 w (.cells Z 5))
  clear hL eL h0 h1 hll hG1 hNN
  go_enter Tryz.func5, Tryz.ntmps5
  go_wp2_with fail
  generalize w.alloc (.cells Z 5) = w1 at *
  go_loopw [8] (fun vi wr => ∃ (i : Nat) (l : List UInt8), i ≤ NN ∧ vi = .int .i64 i ∧ l.length = NN ∧ Hid (Blk wr w.heap.size (bs l) 5) ∧ Hid (Below w.heap.size w wr)) (fun vi _ => NN - (RowKit.intOf vi).toNat)
  case atStart => exact ⟨0, lz, by omega, rfl, HLZ.out, G1.out, A1.out⟩
  case round =>
    obtain ⟨i, l, hi, rfl, hl, hB, hb⟩ := hrel
    by_cases hin : i < NN
    · have inI : (i : Int) < NN := by omega
      have i9 : (i : Int) + 1 ≤ 100000 := by omega
      have q0 : (0 : Int) ≤ (i : Int) := by omega
      have hil : i < l.length := by omega
      have b1 : wr.cell? ⟨w.heap.size, 0 + i, none⟩ = some (.int .u8 ((l[i]'hil).toNat : Int)) := by rw [Nat.zero_add, hB.out.cell, bs_get l i hil]
      have b2 : wr.cell? ⟨w.heap.size, i, none⟩ = some (.int .u8 ((l[i]'hil).toNat : Int)) := by rw [hB.out.cell, bs_get l i hil]
      have fz := hB.out.frozen i
      go_wp2_with fail
      go_roundw
      case rel => exact ⟨i + 1, l.set i f, by omega, by go_num, by rw [List.length_set]; exact hl, by have := hB.out.set i (.int .u8 (f.toNat : Int)); rw [bs_set] at this; exact this, hb.out.setCell (Nat.le_refl _) _⟩
      case measure => simp [RowKit.intOf]; omega
    · obtain rfl : i = NN := by omega
      have BB := Lib.hid hb.out
      have CL := Lib.hid (load_low wr w.heap.size l 66 1 i hB.out.byt (by decide) (by decide) (by decide) (Nat.le_of_eq hl) (by rw [hl]; exact HNN.out) (by omega))
      rw [hl] at CL
      clear hB hb hin hi hl
      go_wp2_with fail
      refine CL.out.mono ?_
      rintro e w2 ⟨b2, g, sa, mb, S, rfl, h1, h2, h3, hd⟩
      obtain ⟨V, hV⟩ : ∃ V : Nat → List UInt8, V = fun i => (secs l 66).getD i [] := ⟨_, rfl⟩
      rw [← hV] at hd
      have B2 := Lib.hid (below_chain BB.out b2)
      have BG : Hid (w.heap.size ≤ g ∧ w.heap.size ≤ sa ∧ w.heap.size ≤ mb) := by have := BB.out.size; exact ⟨by omega, by omega, by omega⟩
      have CF := Lib.hid (show Calls Tryz.prog 12 #[.pointer (some ⟨g, 0, none⟩), .int .i64 2] w2 (AnsP w2 g 2 []) from fresh_ok (a := 2) hd (by decide) (by decide))
      have D2 := Lib.hid hd
      clear b2 h1 h2 h3 hd hV CL BB
      go_wp2_with fail
      refine CF.out.mono ?_
      rintro e w3 ⟨b3, p, rfl, hp⟩
      have D3 := Lib.hid (D2.out.later b3)
      have P3 := Lib.hid (hp.lower B2.out.size)
      have B3 := Lib.hid (below_chain B2.out b3)
      have CG := Lib.hid (show Calls Tryz.prog 12 #[.pointer (some ⟨g, 0, none⟩), .int .i64 0] w3 (AnsNo w3 92) from fresh_low (a := 0) (D2.out.later b3) (by decide) (by decide))
      clear b3 hp CF D2 B2
      go_wp2_with fail
      refine CG.out.mono ?_
      rintro e w4 ⟨rfl, b4⟩
      have S4 : Hid (Pst w.heap.size w4 g sa mb p 1 66 2 V S true (65 * 0) [] false) := ⟨D3.out.later b4, P3.out.later b4, hold_nil _ _, BG.out, by decide⟩
      have B4 := Lib.hid (below_chain B3.out b4)
      clear b4 CG D3 P3 B3
      go_wp2_with fail
      clear HLZ G1 A1 B0 hmk1
      go_loopw [15, 16, 17, 18] (fun vk vp ve vi wr => ∃ (i en : Nat), i ≤ n ∧ en ≤ 16384 ∧ vi = .int .i64 i ∧ ve = .int .i64 en ∧ Hid (K5 w w.heap.size g sa mb p S vk vp wr i (en : Int))) (fun _ _ _ vi _ => n - (RowKit.intOf vi).toNat)
      case atStart => exact ⟨0, 0, by omega, by omega, rfl, rfl, V, [], S4.out, ⟨owno_nil _ _, fun q hq => by cases hq⟩, ⟨World.ownsRow_nil _ _ _ _, fun q hq => by cases hq⟩, B4.out, rfl⟩
      case round =>
        obtain ⟨i, en, hi, hen, rfl, rfl, hK⟩ := hrel
        by_cases hin : i < n
        · obtain ⟨V', rs, hS, hk, hz, hb, he⟩ := hK.out
          obtain ⟨b, o, x, rfl, hbl, hx, x0, x1, x2, hy, hjn, hjc, hjm, hdo⟩ := recs_at HL.out (i := i) (by have := EL.out; omega)
          obtain ⟨kk, ks, aj, d, cj⟩ := x
          simp only at x0 x1 x2 hy hjn hjc hjm hdo
          have X0 := Lib.hid x0
          have X1 := Lib.hid x1
          have he' : en = (allR rs).length := by omega
          obtain ⟨m, hm⟩ : ∃ m, m = d.length := ⟨_, rfl⟩
          rw [← hm] at x2 hjc
          have X2 := Lib.hid x2
          have d2 := (hb.cell (p := ⟨b, o + i * 3 + 2, none⟩) hbl).trans x2
          have inI : (i : Int) < n := by omega
          have q0 : (0 : Int) ≤ (i : Int) := by omega
          have HBL := Lib.hid hbl
          by_cases hlen : m ≤ 9000
          case neg =>
            have t1 : decide ((9000 : Int) < (m : Int)) = true := by simp; omega
            have CHW := Lib.hid (CH.out _ hb)
            have HB := Lib.hid hb
            clear hK hS hk hz hb he he' hx x0 x1 x2 hy hjn hdo hm hlen
            go_wp2_with fail
            refine CHW.out.mono ?_
            rintro e w5 ⟨rfl, b5⟩
            go_wp2_with fail
            go_ret
            exact ⟨rfl, below_chain HB.out b5⟩
          have t1 : decide ((9000 : Int) < (m : Int)) = false := by simp; omega
          have d0 := (hb.cell (p := ⟨b, o + i * 3, none⟩) hbl).trans x0
          have d1' := (hb.cell (p := ⟨b, o + i * 3 + 1, none⟩) hbl).trans x1
          have i65 : Hid (65 * i ≤ 900000) := by show _ ≤ _; omega
          have n63 : Hid (m ≤ 9223372036854775807) := by show _ ≤ _; omega
          have HS := Lib.hid hS
          have HKT := Lib.hid hk
          have HZ := Lib.hid hz
          have HB := Lib.hid hb
          have HEN := Lib.hid he'
          have HK5 := hK
          have HY := Lib.hid hy
          have HJN := Lib.hid hjn
          have HM := Lib.hid hm
          have HDO := Lib.hid hdo
          have CP := Lib.hid (refput_far kk ks aj d m cj wr (hy.below hb) hjn hm.symm)
          obtain ⟨E, hEE⟩ : ∃ E, E = putE kk ks d := ⟨_, rfl⟩
          have HEE := Lib.hid hEE
          have PW := Lib.hid (putE_two kk ks d)
          clear hK hS hk hz hb he he' hx x0 x1 x2 hy hjn hdo hm hlen hEE hjc
          go_wp2_with fail
          refine CP.out.mono ?_
          rintro e w5 ⟨b5, vb, rfl, ob⟩
          have OB := Lib.hid ob
          have S5 := Lib.hid (HS.out.later b5)
          have B5 := Lib.hid (below_chain HB.out b5)
          have K55 := Lib.hid b5
          have Y5 := Lib.hid ((HY.out.below HB.out).below b5)
          have c0 := (B5.out.cell (p := ⟨b, o + i * 3, none⟩) HBL.out).trans X0.out
          have c1 := (B5.out.cell (p := ⟨b, o + i * 3 + 1, none⟩) HBL.out).trans X1.out
          have c2 := (B5.out.cell (p := ⟨b, o + i * 3 + 2, none⟩) HBL.out).trans X2.out
          rw [← HEE.out] at OB ⊢
          clear CP d0 d1' d2 ob b5
          rcases (show E = 0 ∨ E = 120 by rw [HEE.out]; exact PW.out) with e0 | e0
          · rw [if_pos e0] at OB
            subst e0
            obtain ⟨a3, c3, hvb, _, _, _, _⟩ := own_byt OB.out
            obtain ⟨R, hR⟩ : ∃ R, R = Fr.frL (kb kk) d := ⟨_, rfl⟩
            rw [← hR] at hvb
            obtain ⟨k, hk⟩ : ∃ k, k = R.length := ⟨_, rfl⟩
            rw [← hk] at hvb
            have HK : Hid ((recB (kb kk, d)).length = k) := by
              show (Fr.frL (kb kk) d).length = k
              rw [hk, hR]
            subst hvb
            have kp : 0 < k := by
              have := recB_pos (kb kk, d)
              have := HK.out
              omega
            clear OB hR hk
            rcases Nat.lt_or_ge 16384 (en + k) with hf | hf
            · have z1 : decide ((16384 : Int) - (en : Int) < (k : Int)) = true := by simp; omega
              have CA := Lib.hid (append_full S5.out.pac a0 a1 (E0.out.below B5.out) (k := kk) (ks := ks) (n := m) (c := cj) Y5.out HJN.out HM.out.symm n63.out HEE.out.symm (by
                unfold roomN
                have h1 := HEN.out
                have h2 := HK.out
                rw [show Fr.frL (kb kk) d = recB (kb kk, d) from rfl]
                simp only [Bool.false_eq_true, if_false]
                omega))
              go_wp2_with fail
              refine CA.out.mono ?_
              rintro e w6 ⟨rfl, b6⟩
              have K5N := Lib.hid (k5_more HK5.out (below_chain K55.out b6))
              have CR := Lib.hid (room_st (en := en) (S5.out.later b6) HEN.out)
              clear CA b6 c0 c1 c2
              go_wp2_with fail
              all_goals try (exfalso; omega)
              refine CR.out.mono ?_
              rintro e w7 ⟨rfl, rfl⟩
              go_wp2_with fail
              go_roundw
              case rel => exact ⟨i + 1, en, by omega, by omega, by go_num, rfl, K5N.out⟩
              case measure => simp [RowKit.intOf]; omega
            · have z1 : decide ((16384 : Int) - (en : Int) < (k : Int)) = false := by simp; omega
              have CA := Lib.hid (append_st S5.out (by decide) i65.out a0 a1 (E0.out.below B5.out) (k := kk) (ks := ks) (n := m) (c := cj) Y5.out HJN.out HM.out.symm n63.out HEE.out.symm (by rw [← HEN.out, HK.out]; exact hf))
              have KT5 := Lib.hid (HKT.out.later HS.out.pac.lt K55.out)
              have KZ5 := Lib.hid (HZ.out.later HS.out.pac.lt K55.out)
              have GR := Lib.hid (putE_good (k := kk) (ks := ks) (d := d) HEE.out.symm)
              clear HKT HZ HS HK5 K55 HB
              go_wp2_with fail
              refine CA.out.mono ?_
              intro e w6 hA
              obtain ⟨he, hK6⟩ := k6_of S5.out KT5.out KZ5.out B5.out (by rw [← HEN.out, HK.out]; exact hf) hA
              rw [← HEN.out] at he hK6
              subst he
              obtain ⟨V6, rs6, hS6, hk6, hz6, hb6, he6, hf6⟩ := hK6
              have S6 := Lib.hid hS6
              have Q6 := Lib.hid hk6
              have Z6 := Lib.hid hz6
              have B6 := Lib.hid hb6
              have HE6 := Lib.hid he6
              have d0 := (B6.out.cell (p := ⟨b, o + i * 3, none⟩) HBL.out).trans X0.out
              have d1' := (B6.out.cell (p := ⟨b, o + i * 3 + 1, none⟩) HBL.out).trans X1.out
              have d2 := (B6.out.cell (p := ⟨b, o + i * 3 + 2, none⟩) HBL.out).trans X2.out
              have b7 := al1 w6 (.cells #[.int .i64 kk, .string ks, .slice aj m cj] 29)
              have S7 := Lib.hid (S6.out.later b7)
              have Q7 := Lib.hid (Q6.out.later S6.out.pac.lt b7)
              have Z7 := Lib.hid (Z6.out.later S6.out.pac.lt b7)
              have B7 := Lib.hid (below_chain B6.out b7)
              have KB : Hid (Blk (w6.alloc (.cells #[.int .i64 kk, .string ks, .slice aj m cj] 29)) w6.heap.size (recC (kb kk, d) (.slice aj m cj)) 29) := by
                show Blk _ _ _ _
                obtain ⟨_, g2, g3⟩ := GR.out
                have hc : recC (kb kk, d) (.slice aj m cj) = [.int .i64 kk, .string ks, .slice aj m cj] := by
                  unfold recC
                  simp only
                  rw [g3]
                  congr 2
                  rw [g2]
                  congr 2
                  omega
                rw [hc]
                exact Blk.new _ [.int .i64 kk, .string ks, .slice aj m cj] 29 _ rfl
              have D7 : Hid (DatO w.heap.size (w6.alloc (.cells #[.int .i64 kk, .string ks, .slice aj m cj] 29)) (.slice aj m cj) d) := by
                have := datO_below HDO.out B7.out
                rw [← HM.out] at this
                exact this
              have L7 : Hid (rs6.length + 1 ≤ 1000000000) := len_one (many _ S6.out.pac.fit)
              have P7 := Lib.hid B7.out.size
              clear CA hA hS6 hk6 hz6 hb6 he6 hf6 b7 S6 Q6 Z6 B6 KT5 KZ5 S5 B5 c0 c1 c2 GR Y5
              go_wp2_with (first
                | (at_builtin; refine wpl_appo2 rfl (.tmp 110) (.tmp 115) rfl w.heap.size u15 (.slice aj m cj) rs6 (kb kk, d) rfl Q7.out.own D7.out w6.heap.size (by rfl) KB.out L7.out P7.out ?_
                   intro v8 w8 O8 g8 N8
                   obtain ⟨V8, rs8, hS8, hk8, hz8, hb8, he8⟩ := k7_of S7.out Q7.out Z7.out B7.out HE6.out P7.out O8 g8 N8
                   have b9 := al1 w8 (.cells #[.int .i64 (en : Int)] 3)
                   have S9 := Lib.hid (hS8.later b9)
                   have Q9 := Lib.hid (hk8.later hS8.pac.lt b9)
                   have Z9 := Lib.hid (hz8.later hS8.pac.lt b9)
                   have B9 := Lib.hid (below_chain hb8 b9)
                   have HE9 := Lib.hid he8
                   have ZR : Hid (Zrw (w8.alloc (.cells #[.int .i64 (en : Int)] 3)) (some ⟨w8.heap.size, 0, none⟩) [(en : Int)]) := zrw_one w8 en
                   have L9 : Hid (((offs 0 rs8).length + 1) * 8 ≤ 140737488355328) := by
                     show _ ≤ _
                     rw [offs_len]
                     have := many _ hS8.pac.fit
                     rw [List.length_append] at this
                     omega
                   have P9 := Lib.hid B9.out.size
                   clear O8 g8 N8 hS8 hk8 hz8 hb8 he8 b9 S7 Q7 Z7 B7 HE6 P7 KB D7 L7 d0 d1' d2)
                | (at_builtin; refine wpl_appz2 rfl (.tmp 117) (.tmp 119) rfl w.heap.size u16 (offs 0 rs8) (en : Int) rfl Z9.out.own ⟨w8.heap.size, 0, none⟩ 1 (by rfl) ZR.out L9.out P9.out ?_
                   intro v10 w10 O10 g10 N10))
              all_goals try (exfalso; omega)
              have K10 := Lib.hid (k5_next S9.out Q9.out Z9.out B9.out HE9.out P9.out O10 g10 N10)
              rw [HK.out] at K10
              clear O10 g10 N10 S9 Q9 Z9 B9 HE9 P9 ZR L9
              obtain ⟨V11, rs11, hS11, _, _, _, he11⟩ := K10.out
              obtain ⟨en2, hen2⟩ : ∃ en2, en2 = en + k := ⟨_, rfl⟩
              have CR := Lib.hid (room_st (en := en2) hS11 (by omega))
              rw [← hen2] at K10
              have HE2 := Lib.hid hen2
              have e2 : (en2 : Int) = (en : Int) + (k : Int) := by omega
              have e3 : en2 ≤ 16384 := by omega
              clear hS11 he11 hen2
              go_wp2_with fail
              refine CR.out.mono ?_
              rintro e w12 ⟨rfl, rfl⟩
              go_wp2_with fail
              go_roundw
              case rel => exact ⟨i + 1, en2, by omega, by omega, by go_num, by rw [e2], K10.out⟩
              case measure => simp [RowKit.intOf]; omega
          · subst e0
            rw [if_neg (by decide)] at OB
            have CA := Lib.hid (append_no S5.out.pac a0 a1 (E0.out.below B5.out) (k := kk) (ks := ks) (n := m) (c := cj) Y5.out HJN.out HM.out.symm n63.out (by rw [← HEE.out]; decide))
            rw [← HEE.out] at CA
            obtain ⟨a3, c3, hvb, _, _, _, _⟩ := own_byt OB.out
            subst hvb
            clear OB
            go_wp2_with fail
            refine CA.out.mono ?_
            rintro e w6 ⟨rfl, b6⟩
            have K5N := Lib.hid (k5_more HK5.out (below_chain K55.out b6))
            have CR := Lib.hid (room_st (en := en) (S5.out.later b6) HEN.out)
            clear CA b6 c0 c1 c2
            go_wp2_with fail
            refine CR.out.mono ?_
            rintro e w7 ⟨rfl, rfl⟩
            go_wp2_with fail
            go_roundw
            case rel => exact ⟨i + 1, en, by omega, by omega, by go_num, rfl, K5N.out⟩
            case measure => simp [RowKit.intOf]; omega
        · obtain rfl : i = n := by omega
          obtain ⟨V1, rs, hS, hk, hz, hb, he⟩ := hK.out
          have HS := Lib.hid hS
          have HKT := Lib.hid hk
          have HZ := Lib.hid hz
          have HB := Lib.hid hb
          have CR := Lib.hid (records_any hS.pac)
          have RL : rs.length ≤ 3000 := many rs hS.pac.fit
          clear hK hS hk hz hb he hin hi S4 B4
          go_wp2_with fail
          refine CR.out.mono ?_
          rintro e w5 ⟨b5, u, vv, rfl, hu, hv⟩
          obtain ⟨m, hm⟩ : ∃ m, m = rs.length := ⟨_, rfl⟩
          have HM := Lib.hid hm
          obtain ⟨au, cu, rfl, hcu, hdu, fu, _⟩ := ownf_read hu
          obtain ⟨ak, ck, hkv, hck, hdk, fk, _⟩ := ownf_read (owno_f (owno_below HKT.out.own b5))
          obtain ⟨az, cz, rfl, hcz, hdz, zu, _⟩ := own_zrw hv
          obtain ⟨ap, cp, hpv, hcp, hdp, zp, _⟩ := own_zrw (ownz_below HZ.out.own b5)
          rw [offs_len] at hpv hcz hcp ⊢
          rw [← hm] at hkv hpv hcu hck hcz hcp RL ⊢
          subst hkv hpv
          have FK := Lib.hid fk
          have ZP := Lib.hid zp
          have S5 := Lib.hid (HS.out.later b5)
          have B5 := Lib.hid (below_chain HB.out b5)
          have CS := Lib.hid (recs_same au ak rs m cu ck w5 fu fk hm.symm hcu hdu hck)
          have CI := Lib.hid (fun (W : World) (hW : Below w5.heap.size w5 W) => ints_same az ap (offs 0 rs) m cz cp W (zu.below hW) (zp.below hW) (by rw [offs_len]; exact hm.symm) hcz hdz hcp)
          clear hu hv b5 fu fk zu zp CR hm HKT HZ HB HS hcu hck hcz hcp hdu hdk hdz hdp
          go_wp2_with fail
          refine CS.out.mono ?_
          rintro e w6 ⟨rfl, b6⟩
          have B6 := Lib.hid b6
          clear b6 CS
          go_wp2_with fail
          refine (CI.out _ B6.out).mono ?_
          rintro e w7 ⟨rfl, b7⟩
          have B57 := Lib.hid (below_chain B6.out b7)
          have S7 := Lib.hid (S5.out.later B57.out)
          have B7 := Lib.hid (below_chain B5.out B57.out)
          have FK7 := Lib.hid (FK.out.below B57.out)
          have ZP7 := Lib.hid (ZP.out.below B57.out)
          clear b7 CI B6 B57 S5 B5 FK ZP
          go_wp2_with fail
          go_loopw [25] (fun vi wr => ∃ j : Nat, j ≤ m ∧ vi = .int .i64 j ∧ Hid (Below w7.heap.size w7 wr)) (fun vi _ => m - (RowKit.intOf vi).toNat)
          case atStart => exact ⟨0, by omega, rfl, Below.refl _ _⟩
          case round =>
            obtain ⟨j, hj, rfl, hb⟩ := hrel
            by_cases hjn : j < m
            · obtain ⟨r, hr⟩ : ∃ r, rs[j]? = some r := ⟨_, List.getElem?_eq_getElem (by rw [← HM.out]; exact hjn)⟩
              obtain ⟨bp, op, rfl, hbp, hxp⟩ := ZP7.out (by intro h0; have h1 := congrArg List.length h0; rw [offs_len, ← HM.out] at h1; simp at h1; omega)
              have hxj := hxp j (by rw [offs_len, ← HM.out]; exact hjn)
              rw [(List.getElem?_eq_some_iff.1 (offs_get rs 0 j (by rw [← HM.out]; exact hjn))).2, Nat.zero_add] at hxj
              obtain ⟨of, hof⟩ : ∃ of, of = (allR (rs.take j)).length := ⟨_, rfl⟩
              rw [← hof] at hxj
              have p0 := (hb.out.cell (p := ⟨bp, op + j, none⟩) hbp).trans hxj
              have CRD := Lib.hid (pread_some (S7.out.pac.later hb.out) (S7.out.dev.later hb.out) S7.out.hold (by decide) a0 a1 (E0.out.below (below_chain B7.out hb.out)) j r hr of hof)
              have jI : (j : Int) < (m : Int) := by omega
              have j0 : (0 : Int) ≤ (j : Int) := by omega
              have HR := Lib.hid hr
              have HB := Lib.hid hb.out
              clear hr hxp hxj hof hb
              go_wp2_with fail
              refine CRD.out.mono ?_
              rintro e w8 ⟨b8, v8, rfl, ow8⟩
              obtain ⟨a9, c9, rfl, hc9, hd9, y9, n9⟩ := own_byt ow8
              obtain ⟨bk, ok, rfl, hbk, hxk⟩ := FK7.out (by intro h0; have h1 := congrArg List.length h0; rw [← HM.out] at h1; simp at h1; omega)
              obtain ⟨ra, rc, x0, x1, x2, ry, rn, rrc, rrcc⟩ := hxk j r HR.out
              have B78 := below_chain HB.out b8
              obtain ⟨kq, hkq⟩ : ∃ kq : Int, kq = (r.1.toNat : Int) := ⟨_, rfl⟩
              obtain ⟨KS, hKS⟩ : ∃ KS, KS = keyS (r.1.toNat : Nat) r.2 := ⟨_, rfl⟩
              obtain ⟨q, hq⟩ : ∃ q, q = r.2.length := ⟨_, rfl⟩
              rw [← hKS] at x1 ⊢
              rw [← hkq] at x0 ⊢
              rw [← hq] at x2 hc9 rrc ⊢
              have b9 := al1 w8 (.cells #[.int .i64 kq, .string KS, .slice a9 q c9] 29)
              have BXC := Blk.new w8 [.int .i64 kq, .string KS, .slice a9 q c9] 29 _ rfl
              obtain ⟨BX, hBX⟩ : ∃ BX, BX = w8.heap.size := ⟨_, rfl⟩
              have B79 := Lib.hid (below_chain B78 b9)
              have lBX : BX < (w8.alloc (.cells #[.int .i64 kq, .string KS, .slice a9 q c9] 29)).heap.size := by rw [hBX]; simp
              have KK : Hid (∀ W, Below (w8.alloc (.cells #[.int .i64 kq, .string KS, .slice a9 q c9] 29)).heap.size (w8.alloc (.cells #[.int .i64 kq, .string KS, .slice a9 q c9] 29)) W → W.cell? ⟨BX, 0, none⟩ = some (.int .i64 kq) ∧ W.cell? ⟨BX, 1, none⟩ = some (.string KS) ∧ W.cell? ⟨BX, 2, none⟩ = some (.slice a9 q c9) ∧ W.cell? ⟨bk, ok + j * 3, none⟩ = some (.int .i64 kq) ∧ W.cell? ⟨bk, ok + j * 3 + 1, none⟩ = some (.string KS) ∧ W.cell? ⟨bk, ok + j * 3 + 2, none⟩ = some (.slice ra q rc)) := fun W hW => by
                have hk2 := B79.out.trans (hW.mono B79.out.size)
                rw [hBX] at *
                exact ⟨(hW.cell (p := ⟨_, 0, none⟩) lBX).trans (BXC.cell 0), (hW.cell (p := ⟨_, 1, none⟩) lBX).trans (BXC.cell 1), (hW.cell (p := ⟨_, 2, none⟩) lBX).trans (BXC.cell 2), (hk2.cell (p := ⟨bk, ok + j * 3, none⟩) hbk).trans x0, (hk2.cell (p := ⟨bk, ok + j * 3 + 1, none⟩) hbk).trans x1, (hk2.cell (p := ⟨bk, ok + j * 3 + 2, none⟩) hbk).trans x2⟩
              have FA : Hid (∀ W, Below (w8.alloc (.cells #[.int .i64 kq, .string KS, .slice a9 q c9] 29)).heap.size (w8.alloc (.cells #[.int .i64 kq, .string KS, .slice a9 q c9] 29)) W → Frw (W.alloc (.cells #[.int .i64 kq, .string KS, .slice a9 q c9] 29)) (some ⟨W.heap.size, 0, none⟩) [r]) := fun W hW => by
                rw [hkq, hKS, hq]
                exact frw_one (y9.below (below_chain b9 hW)) n9 (by rw [← hq]; exact hc9) hd9
              have FB : Hid (∀ W, Below (w8.alloc (.cells #[.int .i64 kq, .string KS, .slice a9 q c9] 29)).heap.size (w8.alloc (.cells #[.int .i64 kq, .string KS, .slice a9 q c9] 29)) W → Frw (W.alloc (.cells #[.int .i64 kq, .string KS, .slice ra q rc] 29)) (some ⟨W.heap.size, 0, none⟩) [r]) := fun W hW => by
                rw [hkq, hKS, hq]
                exact frw_one (ry.below (B79.out.trans (hW.mono B79.out.size))) rn (by rw [← hq]; exact rrc) rrcc
              have CF : Hid (∀ W (v1 v2 : Option Addr), Frw W v1 [r] → Frw W v2 [r] → Calls Tryz.prog 17 #[.slice v1 1 1, .slice v2 1 1] W fun e w' => e = .returned (.bool true) ∧ Below W.heap.size W w') := fun W v1 v2 f1 f2 => recs_same v1 v2 [r] 1 1 1 W f1 f2 rfl (by decide) (by decide) (by decide)
              clear b8 b9 ow8 y9 n9 hc9 hd9 hxk ry rn rrc rrcc x0 x1 x2 hkq hKS hq BXC lBX B78 p0 CRD
              go_wp2_with fail
              generalize w8.alloc (.cells #[.int .i64 kq, .string KS, .slice a9 q c9] 29) = w9 at *
              rw [← hBX]
              obtain ⟨k0, k1, k2, k3, k4, k5⟩ := KK.out w9 (Below.refl _ _)
              have BQ := Lib.hid (Below.refl w9.heap.size w9).drew
              clear hBX
              have D1 : Hid (Below w9.heap.size w9 ((w9.alloc (.cells #[.int .i64 kq, .string KS, .slice a9 q c9] 29)).alloc (.cells #[.int .i64 kq, .string KS, .slice ra q rc] 29)).drew) := (below_chain (al1 w9 (.cells #[.int .i64 kq, .string KS, .slice a9 q c9] 29)) (al1 _ (.cells #[.int .i64 kq, .string KS, .slice ra q rc] 29))).drew
              have D2 : Hid (Below w9.heap.size w9 ((w9.alloc (.cells #[.int .i64 kq, .string KS, .slice ra q rc] 29)).alloc (.cells #[.int .i64 kq, .string KS, .slice a9 q c9] 29)).drew) := (below_chain (al1 w9 (.cells #[.int .i64 kq, .string KS, .slice ra q rc] 29)) (al1 _ (.cells #[.int .i64 kq, .string KS, .slice a9 q c9] 29))).drew
              have C1 := Lib.hid (CF.out ((w9.alloc (.cells #[.int .i64 kq, .string KS, .slice a9 q c9] 29)).alloc (.cells #[.int .i64 kq, .string KS, .slice ra q rc] 29)).drew (some ⟨w9.heap.size, 0, none⟩) (some ⟨w9.heap.size + 1, 0, none⟩) ((FA.out w9 (Below.refl _ _)).below (al1 _ _).drew) (by
                have h := FB.out (w9.alloc (.cells #[.int .i64 kq, .string KS, .slice a9 q c9] 29)) (al1 _ _)
                have e : (w9.alloc (.cells #[.int .i64 kq, .string KS, .slice a9 q c9] 29)).heap.size = w9.heap.size + 1 := by simp
                rw [e] at h
                exact h.below (Below.refl _ _).drew))
              have C2 := Lib.hid (CF.out ((w9.alloc (.cells #[.int .i64 kq, .string KS, .slice ra q rc] 29)).alloc (.cells #[.int .i64 kq, .string KS, .slice a9 q c9] 29)).drew (some ⟨w9.heap.size + 1, 0, none⟩) (some ⟨w9.heap.size, 0, none⟩) (by
                have h := FA.out (w9.alloc (.cells #[.int .i64 kq, .string KS, .slice ra q rc] 29)) (al1 _ _)
                have e : (w9.alloc (.cells #[.int .i64 kq, .string KS, .slice ra q rc] 29)).heap.size = w9.heap.size + 1 := by simp
                rw [e] at h
                exact h.below (Below.refl _ _).drew) ((FB.out w9 (Below.refl _ _)).below (al1 _ _).drew))
              clear FA FB CF BQ
              go_region_held3 (fun W => W.cell? ⟨BX, 0, none⟩ = some (.int .i64 kq) ∧ W.cell? ⟨BX, 1, none⟩ = some (.string KS) ∧ W.cell? ⟨BX, 2, none⟩ = some (.slice a9 q c9) ∧ W.cell? ⟨bk, ok + j * 3, none⟩ = some (.int .i64 kq) ∧ W.cell? ⟨bk, ok + j * 3 + 1, none⟩ = some (.string KS) ∧ W.cell? ⟨bk, ok + j * 3 + 2, none⟩ = some (.slice ra q rc))
                (first | go_keep | exact ⟨k0, k1, k2, k3, k4, k5⟩)
                ((go_at_call 17; first
                  | ((with_reducible refine C1.out.mono ?_); rintro e w12 ⟨rfl, b12⟩; have B12 := Lib.hid (below_chain D1.out b12); obtain ⟨k0, k1, k2, k3, k4, k5⟩ := KK.out _ B12.out)
                  | ((with_reducible refine C2.out.mono ?_); rintro e w12 ⟨rfl, b12⟩; have B12 := Lib.hid (below_chain D2.out b12); obtain ⟨k0, k1, k2, k3, k4, k5⟩ := KK.out _ B12.out)))
              all_goals
                clear b12 k0 k1 k2 k3 k4 k5 C1 C2 D1 D2 KK
                have B13 := Lib.hid (below_chain B79.out B12.out)
                go_wp2_with fail
                go_roundw
                case rel => exact ⟨j + 1, by omega, by go_num, B13.out⟩
                case measure => simp [RowKit.intOf]; omega
            · obtain rfl : j = m := by omega
              have B8 := Lib.hid (below_chain B7.out hb.out)
              have S8 := Lib.hid (S7.out.later hb.out)
              have ZP8 := Lib.hid (ZP7.out.below hb.out)
              clear hb hjn hj S7 B7 FK7 ZP7
              go_wp2_with fail
              go_loopw [28, 29] (fun vb vi w2 => ∃ (q : Nat) (bq : Bool), q ≤ j ∧ vi = .int .i64 q ∧ vb = .bool bq ∧ Hid (bq = decide (at_ ∈ (offs 0 rs).take q)) ∧ Hid (Below wr.heap.size wr w2)) (fun _ vi _ => j - (RowKit.intOf vi).toNat)
              case atStart => exact ⟨0, false, by omega, rfl, rfl, by show _ = _; simp, Below.refl _ _⟩
              case round =>
                obtain ⟨q, bq, hq, rfl, rfl, hbq, hb⟩ := hrel
                by_cases hqn : q < j
                · obtain ⟨x, hx⟩ : ∃ x, (offs 0 rs)[q]? = some x := ⟨_, List.getElem?_eq_getElem (by rw [offs_len, ← HM.out]; exact hqn)⟩
                  obtain ⟨bp, op, rfl, hbp, hxp⟩ := ZP8.out (by intro h0; rw [h0] at hx; simp at hx)
                  have hxj := hxp q (by rw [offs_len, ← HM.out]; exact hqn)
                  rw [(List.getElem?_eq_some_iff.1 hx).2] at hxj
                  have p0 := (hb.out.cell (p := ⟨bp, op + q, none⟩) hbp).trans hxj
                  have HT := Lib.hid (take_one hx)
                  have jI : (q : Int) < (j : Int) := by omega
                  have j0 : (0 : Int) ≤ (q : Int) := by omega
                  have HB := Lib.hid hb.out
                  clear hxp hxj hx hb
                  cases bq with
                  | true =>
                    have HQ : Hid (true = decide (at_ ∈ (offs 0 rs).take (q + 1))) := by
                      show _ = _
                      have h1 := hbq.out
                      rw [HT.out]
                      simp at h1 ⊢
                      exact Or.inl h1
                    clear hbq
                    go_wp2_with fail
                    go_roundw
                    case rel => exact ⟨q + 1, true, by omega, by go_num, rfl, HQ, HB.out⟩
                    case measure => simp [RowKit.intOf]; omega
                  | false =>
                    rcases (show x = at_ ∨ x ≠ at_ from Decidable.em _) with hxa | hxa
                    · have HQ : Hid (true = decide (at_ ∈ (offs 0 rs).take (q + 1))) := by
                        show _ = _
                        rw [HT.out, hxa]
                        simp
                      subst hxa
                      clear hbq
                      go_wp2_with fail
                      go_roundw
                      case rel => exact ⟨q + 1, true, by omega, by go_num, rfl, HQ, HB.out⟩
                      case measure => simp [RowKit.intOf]; omega
                    · have HQ : Hid (false = decide (at_ ∈ (offs 0 rs).take (q + 1))) := by
                        show _ = _
                        have h1 := hbq.out
                        rw [HT.out]
                        simp at h1 ⊢
                        exact ⟨h1, fun h => hxa h.symm⟩
                      have z1 : (x == at_) = false := by simp; exact hxa
                      clear hbq
                      go_wp2_with fail
                      go_roundw
                      case rel => exact ⟨q + 1, false, by omega, by go_num, rfl, HQ, HB.out⟩
                      case measure => simp [RowKit.intOf]; omega
                · obtain rfl : q = j := by omega
                  have B9 := Lib.hid (below_chain B8.out hb.out)
                  have S9 := Lib.hid (S8.out.later hb.out)
                  have HE9 := Lib.hid (E0.out.below B9.out)
                  have HTL : Hid (bq = decide (at_ ∈ offs 0 rs)) := by
                    have h1 := hbq.out
                    rw [List.take_of_length_le (by rw [offs_len, ← HM.out]; exact Nat.le_refl _)] at h1
                    exact h1
                  clear hb hbq hqn hq S8 B8 ZP8
                  cases bq with
                  | true =>
                    have hmem : at_ ∈ offs 0 rs := by simpa using HTL.out.symm
                    obtain ⟨jj, hjj, hat⟩ := List.mem_iff_getElem.1 hmem
                    rw [offs_len] at hjj
                    have hof := (List.getElem?_eq_some_iff.1 (offs_get rs 0 jj hjj)).2
                    rw [hat, Nat.zero_add] at hof
                    obtain ⟨r, hr⟩ : ∃ r, rs[jj]? = some r := ⟨_, List.getElem?_eq_getElem hjj⟩
                    obtain ⟨of, hof2⟩ : ∃ of, of = (allR (rs.take jj)).length := ⟨_, rfl⟩
                    have CRD := Lib.hid (pread_some S9.out.pac S9.out.dev S9.out.hold (by decide) a0 a1 HE9.out jj r hr of hof2)
                    rw [← hof2] at hof
                    rw [← hof] at CRD
                    clear hmem hat hof hof2 hr HTL
                    go_wp2_with fail
                    refine CRD.out.mono ?_
                    rintro e w10 ⟨b10, v10, rfl, ow10⟩
                    obtain ⟨a9, c9, rfl, _, _, _, _⟩ := own_byt ow10
                    have b11 := al1 w10 (.cells #[.int .i64 (r.1.toNat : Int), .string (keyS (r.1.toNat : Nat) r.2), .slice a9 r.2.length c9] 29)
                    have B11 := Lib.hid (below_chain (below_chain B9.out b10) b11)
                    have CHW := Lib.hid (CH.out _ B11.out)
                    clear b10 b11 ow10 CRD
                    go_wp2_with fail
                    refine CHW.out.mono ?_
                    rintro e w14 ⟨rfl, b14⟩
                    go_wp2_with fail
                    go_ret
                    exact ⟨rfl, below_chain B11.out b14⟩
                  | false =>
                    have hmem : at_ ∉ offs 0 rs := by simpa using HTL.out.symm
                    have CRD := Lib.hid (pread_none S9.out.pac at_ hmem)
                    clear hmem HTL
                    go_wp2_with fail
                    refine CRD.out.mono ?_
                    rintro e w10 ⟨rfl, b10⟩
                    have b11 := al1 w10 (.cells #[.int .i64 0, .string ⟨#[]⟩, .slice none 0 0] 29)
                    have B11 := Lib.hid (below_chain (below_chain B9.out b10) b11)
                    have CHW := Lib.hid (CH.out _ B11.out)
                    clear b10 b11 CRD
                    go_wp2_with fail
                    refine CHW.out.mono ?_
                    rintro e w14 ⟨rfl, b14⟩
                    go_wp2_with fail
                    go_ret
                    exact ⟨rfl, below_chain B11.out b14⟩
end Go.Proofs.YtekaboomhljdoaaGreatDoor.Sh
namespace Go.Proofs.YtekaboomhljdoaaGreatDoor
namespace Sh
open Go.ChangeShapes Go.WideShapes Go.ChangeAt Go.RowKit Go.Lib Go.ChangeMaps

theorem appends_env (f : Nat) (hf : f < 256) (ao : Option Addr) (L : List RecR) (c : Nat) (o : Int) (w : World) (hL : laidMetH Tryz.prog laidAll w) (h : Recs w ao L) (h0 : -9223372036854775808 ≤ o) (h1 : o ≤ 9223372036854775807) :
    Calls Tryz.prog 5 #[.int .u8 (f : Int), .slice ao L.length c, .int .i64 o] w fun e w' => e = .returned (.bool true) ∧ Below w.heap.size w w' := by
  obtain ⟨a0, a1, hE⟩ := env_of hL
  have hu : ((UInt8.ofNat f).toNat : Int) = (f : Int) := by rw [UInt8.toNat_ofNat']; omega
  have h := appends_law (UInt8.ofNat f) ao L L.length c o a0 a1 w hE h rfl h0 h1
  rw [hu] at h
  exact h
set_option maxRecDepth 100000 in
/-- WHAT THE WALK GIVES, for every argument and every memory that meets the row. -/
theorem packAppends_contract (H : Type) (enc : TypeId × Value → H) (W : World) (base : Nat) (args : Array Value) (ds gs : List (DataW H)) (before : List MemPlace)
    (hval : ∀ (j : Nat) t v, Tryz.f5.params[j]? = some t → args[j]? = some v → Value.okWide Tryz.prog W .any base t v)
    (hW : DataW.Whole enc Tryz.prog Tryz.f5.params.toList Rows.packAppendsSpec.vars false W args.toList ds gs before) 
    (hsz0 : (DataW.weightsEach Tryz.prog (Tryz.f5.params.toList ++ (OpenSpec.ofChange Rows.packAppendsSpec).bare.plain.varTypes Tryz.prog) (ds ++ gs)).all (· ≤ reachBytes) = true) (hL : laidMetH Tryz.prog Rows.packAppendsRow.laid W) :
    Calls Tryz.prog 5 args W fun e W' => ∃ v, e = .returned v ∧ Rows.packAppendsSpec.post enc Tryz.prog Tryz.f5 false true false false W args v W' := by
  have hsz := hsz0
  clear hsz0
  have hW' := hW
  obtain ⟨p, q, hA0, hV, rfl, hfz, hnd⟩ := hW
  have hA : DataW.TrodAll enc Tryz.prog W 0 (fun _ => true) true Tryz.f5.params.toList args.toList ds p := hA0
  have hAk := hA
  clear hA0
  rw [Tryz.params5] at hA hval hsz
  obtain ⟨rfl, rfl⟩ := trodVars_none hV
  simp only [List.append_nil] at hW' hsz
  have hlt : ∀ x ∈ p, x.block < W.heap.size := fun x hx => by simpa using hW'.lt x hx
  obtain ⟨v0, vs0, d0, ds0, p0, q0, hargs, rfl, hp0, h0, r0⟩ := trodAll_cons hA
  obtain ⟨v1, vs1, d1, ds1, p1, q1, rfl, rfl, hp1, h1, r1⟩ := trodAll_cons r0
  obtain ⟨v2, vs2, d2, ds2, p2, q2, rfl, rfl, hp2, h2, r2⟩ := trodAll_cons r1
  obtain ⟨rfl, rfl, hpn⟩ := trodAll_nil r2
  obtain rfl : args = #[v0, v1, v2] := by cases args; simp_all
  have hlt0 : ∀ x ∈ p0, x.block < W.heap.size := fun x hx => hlt x (by rw [hp0]; exact List.mem_append_left _ hx)
  have hltq0 : ∀ x ∈ q0, x.block < W.heap.size := fun x hx => hlt x (by rw [hp0]; exact List.mem_append_right _ hx)
  have hlt1 : ∀ x ∈ p1, x.block < W.heap.size := fun x hx => hltq0 x (by rw [hp1]; exact List.mem_append_left _ hx)
  have hltq1 : ∀ x ∈ q1, x.block < W.heap.size := fun x hx => hltq0 x (by rw [hp1]; exact List.mem_append_right _ hx)
  have hlt2 : ∀ x ∈ p2, x.block < W.heap.size := fun x hx => hltq1 x (by rw [hp2]; exact List.mem_append_left _ hx)
  have hltq2 : ∀ x ∈ q2, x.block < W.heap.size := fun x hx => hltq1 x (by rw [hp2]; exact List.mem_append_right _ hx)
  obtain ⟨n0, rfl, rfl, rfl, ws0⟩ := open_int Tryz.underlying5 (hval 0 5 v0 rfl rfl) h0
  have bd0 := bounds_u8 ws0
  obtain ⟨fill, rfl⟩ : ∃ m : Nat, n0 = (m : Int) := ⟨n0.toNat, by omega⟩
  have hfill : fill < 256 := by omega
  obtain ⟨ax, x, cx, rfl, hxr⟩ := open_recs (hval 1 38 v1 rfl rfl) h1 hlt1
  obtain ⟨n, rfl, rfl, rfl, ws2⟩ := open_int Tryz.underlying3 (hval 2 3 v2 rfl rfl) h2
  obtain ⟨hn0, hn1⟩ := bounds_i64 ws2
  refine (appends_env fill hfill ax x cx n W hL hxr hn0 hn1).mono fun e W' ⟨he, hb⟩ => ?_
  subst he
  exact ⟨_, rfl, _, _, _, [], p, [], hW', trodAll_mk1 (shut_bool Tryz.underlying4 _), below_trodAll laidOut hb _ _ _ _ (by kernel_rfl) hAk hlt, rfl, hb.frame _, fun h => by cases h⟩

theorem packAppends_reads (os : Os) {H : Type} (enc : TypeId × Value → H) : ∃ places, DataW.whole enc Tryz.prog ((laidWorld os).forCall (fun _ _ => 0) ⟨#[], #[.int .u8 0, .slice none 0 0, .int .i64 0], []⟩).memory Tryz.f5.params.toList Rows.packAppendsSpec.vars false (#[Value.int .u8 0, Value.slice none 0 0, Value.int .i64 0] : Array Value).toList 8 = some ([.lit (.int .u8 0), .nil, .lit (.int .i64 0)], [], places) :=
  ⟨[], by kernel_rfl⟩

set_option maxRecDepth 100000 in
theorem packAppends_lifted (os : Os) (started : os.Started) (H : Type) (enc : TypeId × Value → H) (F : Stop.Interp) :
    ReturnsInHanded {} Tryz.checked os 5 .any ((OpenSpec.ofChange Rows.packAppendsSpec).preRow enc Tryz.prog Tryz.f5 Rows.packAppendsRow.domain false Rows.packAppendsRow.laid) (((OpenSpec.ofChange Rows.packAppendsSpec).at F).post enc Tryz.prog Tryz.f5 false true false false) := by
  obtain ⟨places, hx⟩ := packAppends_reads os enc
  refine returnsInHanded_of_row (C := Tryz.checked) (s := OpenSpec.ofChange Rows.packAppendsSpec) own started (by kernel_rfl) Tryz.func5 ?_ ?_
  · refine ⟨laidWorld os, fun _ _ => 0, ⟨#[], #[.int .u8 0, .slice none 0 0, .int .i64 0], []⟩, laidWorld_os os, laidWorld_shaped os _, rfl, (Input.okWide_of_okWideB (by kernel_rfl)).2, ?_, ?_⟩
    · exact OpenSpec.preRow_of_cond 8 hx (by kernel_rfl) (fun k hk => by cases hk) (by kernel_rfl) (laidWorld_met os _)
    · simp only [Assume.holds]
      exact ⟨by simp, by simp, fun _ => Modest.zero, by simp, by simp⟩
  intro W base args ds gs before hval hW _ _ hsz hL hsh _
  exact packAppends_contract H enc W base args ds gs before hval hW hsz hL

theorem packAppends_said : Rows.PackAppendsSaid :=
  OpenClaim.holds_of_cond 5 Tryz.f5 rfl rfl rfl rfl rfl rfl rfl ⟨rfl, rfl, rfl, rfl, rfl⟩ rfl rfl rfl rfl rfl (by kernel_rfl) Tryz.func5 (by kernel_rfl)
    (of_decide_eq_true (by kernel_rfl)) (by unfold Func.isWrapper; first | (rw [if_pos (by decide +kernel)]; kernel_rfl) | (rw [if_neg (by decide +kernel)]; exact ⟨rfl, rfl⟩))
    (fun os started H enc _ F => by rw [OpenClaim.pre_eq_preRow]; exact packAppends_lifted os started H enc F)
end Sh
theorem packAppends_plain (f : FuncId) (fn : Func) (hf : Tryz.pinned.checked.prog.funcNamed Rows.packAppendsRow.func = some f) (hfn : Tryz.pinned.checked.prog.funcs[f]? = some fn) :
    true = Tryz.pinned.checked.prog.looks [] ∧ ∀ (j : Nat) t, fn.params[j]? = some t → Tryz.pinned.checked.prog.wantsStandIn t = false := by
  obtain rfl : f = 5 := Option.some.inj ((show Tryz.prog.funcNamed Rows.packAppendsRow.func = some 5 by kernel_rfl).symm.trans hf) |>.symm
  obtain rfl : fn = Tryz.f5 := (Option.some.inj (Tryz.func5.symm.trans hfn)).symm
  refine ⟨by kernel_rfl, fun j t ht => ?_⟩
  rw [Tryz.params5] at ht
  have hm : t ∈ [5, 38, 3] := by simpa using Array.mem_of_getElem? ht
  have hall : ([5, 38, 3].all fun u => !Tryz.prog.wantsStandIn u) = true := by kernel_rfl
  exact (show Tryz.prog.wantsStandIn t = false by simpa using List.all_eq_true.1 hall t hm)
/-- THE STATEMENT. -/
theorem packAppends_card : Rows.PackAppendsCardSaid :=
  Claim7.holds_tied_plain_at .later [] _ _ _ _ Sh.packAppends_said (fun _ h => by cases h) (by kernel_rfl) (fun _ h => by cases h) packAppends_row_tie rfl ⟨rfl, rfl⟩ (by kernel_rfl) rfl packAppends_plain (by kernel_rfl)
end Go.Proofs.YtekaboomhljdoaaGreatDoor
