/-
  The contracts of the law's empty and heads. Condition: the library's variable errors.errorType is as its text lays it.
-/
import Derived.Test.YtcgbaiogbcodcaaGreatDoorPlC
import Derived.Test.YtcgbaiogbcodcaaGreatDoorPlA
namespace Go.Proofs.YtcgbaiogbcodcaaGreatDoor.Lw
open Go.RowKit Go.Lib Go.Proofs.YtcgbaiogbcodcaaGreatDoor.Sh Go.Proofs.YtcgbaiogbcodcaaGreatDoor.Lb Go.Proofs.YtcgbaiogbcodcaaGreatDoor.Pf
open Go.Maps Go.Proofs.YtcgbaiogbcodcaaGreatDoor.Nm

/-- why a name is not entered -/
def EnterM (l : List InoP) (k : Int) (s : ByteArray) (num m : Int) : Prop := (m ≠ 0 ∧ m ≠ 2) ∧ ((∀ x ∈ l, x.num = k → x.kind ≠ 2) ∨ checkL s.data.toList ≠ 0 ∨ (∃ d ∈ l, d.num = k ∧ s ∈ d.names) ∨ (∀ x ∈ l, x.num ≠ num) ∨ (∃ x ∈ l, x.num = num ∧ x.links = 64) ∨ ∃ d ∈ l, d.num = k ∧ d.names.length = 128)
/-- a directory with a name more -/
def dirP (d : InoP) (i : Nat) (s : ByteArray) (num : Int) : InoP := { d with names := d.names.take i ++ s :: d.names.drop i, nums := d.nums.take i ++ num :: d.nums.drop i }
def EnterG (l : List InoP) (k : Int) (s : ByteArray) (num : Int) (L : List InoP) (r : Int) : Prop := r = 0 ∧ ∃ d ∈ l, ∃ x ∈ l, ∃ i, d.num = k ∧ d.kind = 2 ∧ x.num = num ∧ checkL s.data.toList = 0 ∧ St d.names s i false ∧ x.links ≠ 64 ∧ d.names.length ≠ 128 ∧ Puts l [linkP x 1, dirP d i s num] L
theorem refusedI {l : List InoP} {k m : Int} {b : Bool} (h : m = 201 ∧ (∀ x ∈ l, x.num ≠ k) ∨ m = 203 ∧ b = true ∧ ∃ x ∈ l, x.num = k ∧ x.kind ≠ 2) : m ≠ 0 ∧ m ≠ 2 := by
  rcases h with h | h <;> rw [h.1] <;> exact ⟨by decide, by decide⟩
theorem checkL_no (l : List UInt8) : checkL l ≠ 2 := by
  unfold checkL
  split
  · decide
  · split
    · decide
    · split
      · decide
      · split <;> decide
def At20 (w : World) (h0 h3 h2 : Nat) (ao : Option Addr) (n c : Nat) (nx : Int) (c0 c1 c2 c3 c4 c5 c6 c7 c8 d0 d1 d2 d3 d4 d5 d6 d7 d8 : Value) : Prop := w.cell? ⟨h0, 0, none⟩ = some (.slice ao n c) ∧ w.cell? ⟨h0, 1, none⟩ = some (.int .i64 nx) ∧ w.cell? ⟨h3, 0, none⟩ = some c0 ∧ w.cell? ⟨h3, 1, none⟩ = some c1 ∧ w.cell? ⟨h3, 2, none⟩ = some c2 ∧ w.cell? ⟨h3, 3, none⟩ = some c3 ∧ w.cell? ⟨h3, 4, none⟩ = some c4 ∧ w.cell? ⟨h3, 5, none⟩ = some c5 ∧ w.cell? ⟨h3, 6, none⟩ = some c6 ∧ w.cell? ⟨h3, 7, none⟩ = some c7 ∧ w.cell? ⟨h3, 8, none⟩ = some c8 ∧ w.cell? ⟨h2, 0, none⟩ = some d0 ∧ w.cell? ⟨h2, 1, none⟩ = some d1 ∧ w.cell? ⟨h2, 2, none⟩ = some d2 ∧ w.cell? ⟨h2, 3, none⟩ = some d3 ∧ w.cell? ⟨h2, 4, none⟩ = some d4 ∧ w.cell? ⟨h2, 5, none⟩ = some d5 ∧ w.cell? ⟨h2, 6, none⟩ = some d6 ∧ w.cell? ⟨h2, 7, none⟩ = some d7 ∧ w.cell? ⟨h2, 8, none⟩ = some d8
theorem at20_out {w : World} {h0 h3 h2 : Nat} {ao : Option Addr} {n c : Nat} {nx : Int} {c0 c1 c2 c3 c4 c5 c6 c7 c8 d0 d1 d2 d3 d4 d5 d6 d7 d8 : Value} (h : At20 w h0 h3 h2 ao n c nx c0 c1 c2 c3 c4 c5 c6 c7 c8 d0 d1 d2 d3 d4 d5 d6 d7 d8) : w.cell? ⟨h0, 0, none⟩ = some (.slice ao n c) ∧ w.cell? ⟨h0, 1, none⟩ = some (.int .i64 nx) ∧ w.cell? ⟨h3, 0, none⟩ = some c0 ∧ w.cell? ⟨h3, 1, none⟩ = some c1 ∧ w.cell? ⟨h3, 2, none⟩ = some c2 ∧ w.cell? ⟨h3, 3, none⟩ = some c3 ∧ w.cell? ⟨h3, 4, none⟩ = some c4 ∧ w.cell? ⟨h3, 5, none⟩ = some c5 ∧ w.cell? ⟨h3, 6, none⟩ = some c6 ∧ w.cell? ⟨h3, 7, none⟩ = some c7 ∧ w.cell? ⟨h3, 8, none⟩ = some c8 ∧ w.cell? ⟨h2, 0, none⟩ = some d0 ∧ w.cell? ⟨h2, 1, none⟩ = some d1 ∧ w.cell? ⟨h2, 2, none⟩ = some d2 ∧ w.cell? ⟨h2, 3, none⟩ = some d3 ∧ w.cell? ⟨h2, 4, none⟩ = some d4 ∧ w.cell? ⟨h2, 5, none⟩ = some d5 ∧ w.cell? ⟨h2, 6, none⟩ = some d6 ∧ w.cell? ⟨h2, 7, none⟩ = some d7 ∧ w.cell? ⟨h2, 8, none⟩ = some d8 := h
theorem at20_of {w : World} {h0 h3 h2 : Nat} {ao : Option Addr} {n c : Nat} {nx : Int} {c0 c1 c2 c3 c4 c5 c6 c7 c8 d0 d1 d2 d3 d4 d5 d6 d7 d8 : Value} (h : Sh.Blk w h0 [.slice ao n c, .int .i64 nx] 24) (k : Sh.Blk w h3 [c0, c1, c2, c3, c4, c5, c6, c7, c8] 38) (m : Sh.Blk w h2 [d0, d1, d2, d3, d4, d5, d6, d7, d8] 38) : At20 w h0 h3 h2 ao n c nx c0 c1 c2 c3 c4 c5 c6 c7 c8 d0 d1 d2 d3 d4 d5 d6 d7 d8 :=
  ⟨h.cell 0, h.cell 1, k.cell 0, k.cell 1, k.cell 2, k.cell 3, k.cell 4, k.cell 5, k.cell 6, k.cell 7, k.cell 8, m.cell 0, m.cell 1, m.cell 2, m.cell 3, m.cell 4, m.cell 5, m.cell 6, m.cell 7, m.cell 8⟩
theorem at20_map {w w' : World} {h0 h3 h2 : Nat} {ao : Option Addr} {n c : Nat} {nx : Int} {c0 c1 c2 c3 c4 c5 c6 c7 c8 d0 d1 d2 d3 d4 d5 d6 d7 d8 : Value} (h : At20 w h0 h3 h2 ao n c nx c0 c1 c2 c3 c4 c5 c6 c7 c8 d0 d1 d2 d3 d4 d5 d6 d7 d8) (k : ∀ {q : Addr} {u : Value}, q.block = h0 ∨ q.block = h3 ∨ q.block = h2 → w.cell? q = some u → w'.cell? q = some u) : At20 w' h0 h3 h2 ao n c nx c0 c1 c2 c3 c4 c5 c6 c7 c8 d0 d1 d2 d3 d4 d5 d6 d7 d8 := by
  obtain ⟨a1, a2, b0, b1, b2, b3, b4, b5, b6, b7, b8, e0, e1, e2, e3, e4, e5, e6, e7, e8⟩ := h
  exact ⟨k (.inl rfl) a1, k (.inl rfl) a2, k (.inr (.inl rfl)) b0, k (.inr (.inl rfl)) b1, k (.inr (.inl rfl)) b2, k (.inr (.inl rfl)) b3, k (.inr (.inl rfl)) b4, k (.inr (.inl rfl)) b5, k (.inr (.inl rfl)) b6, k (.inr (.inl rfl)) b7, k (.inr (.inl rfl)) b8, k (.inr (.inr rfl)) e0, k (.inr (.inr rfl)) e1, k (.inr (.inr rfl)) e2, k (.inr (.inr rfl)) e3, k (.inr (.inr rfl)) e4, k (.inr (.inr rfl)) e5, k (.inr (.inr rfl)) e6, k (.inr (.inr rfl)) e7, k (.inr (.inr rfl)) e8⟩
theorem at20_low {w w' : World} {h0 h3 h2 : Nat} {ao : Option Addr} {n c : Nat} {nx : Int} {c0 c1 c2 c3 c4 c5 c6 c7 c8 d0 d1 d2 d3 d4 d5 d6 d7 d8 : Value} (h : At20 w h0 h3 h2 ao n c nx c0 c1 c2 c3 c4 c5 c6 c7 c8 d0 d1 d2 d3 d4 d5 d6 d7 d8) (hb : Below w.heap.size w w') : At20 w' h0 h3 h2 ao n c nx c0 c1 c2 c3 c4 c5 c6 c7 c8 d0 d1 d2 d3 d4 d5 d6 d7 d8 :=
  at20_map h fun {q _} _ h => (hb.cell (p := q) (World.block_lt_of_cell? w _ h)).trans h
theorem at20_alloc {w : World} {h0 h3 h2 : Nat} {ao : Option Addr} {n c : Nat} {nx : Int} {c0 c1 c2 c3 c4 c5 c6 c7 c8 d0 d1 d2 d3 d4 d5 d6 d7 d8 : Value} {o : Obj} (h : At20 w h0 h3 h2 ao n c nx c0 c1 c2 c3 c4 c5 c6 c7 c8 d0 d1 d2 d3 d4 d5 d6 d7 d8) : (w.alloc o).cell? ⟨h0, 0, none⟩ = some (.slice ao n c) ∧ (w.alloc o).cell? ⟨h0, 1, none⟩ = some (.int .i64 nx) ∧ (w.alloc o).cell? ⟨h3, 0, none⟩ = some c0 ∧ (w.alloc o).cell? ⟨h3, 1, none⟩ = some c1 ∧ (w.alloc o).cell? ⟨h3, 2, none⟩ = some c2 ∧ (w.alloc o).cell? ⟨h3, 3, none⟩ = some c3 ∧ (w.alloc o).cell? ⟨h3, 4, none⟩ = some c4 ∧ (w.alloc o).cell? ⟨h3, 5, none⟩ = some c5 ∧ (w.alloc o).cell? ⟨h3, 6, none⟩ = some c6 ∧ (w.alloc o).cell? ⟨h3, 7, none⟩ = some c7 ∧ (w.alloc o).cell? ⟨h3, 8, none⟩ = some c8 ∧ (w.alloc o).cell? ⟨h2, 0, none⟩ = some d0 ∧ (w.alloc o).cell? ⟨h2, 1, none⟩ = some d1 ∧ (w.alloc o).cell? ⟨h2, 2, none⟩ = some d2 ∧ (w.alloc o).cell? ⟨h2, 3, none⟩ = some d3 ∧ (w.alloc o).cell? ⟨h2, 4, none⟩ = some d4 ∧ (w.alloc o).cell? ⟨h2, 5, none⟩ = some d5 ∧ (w.alloc o).cell? ⟨h2, 6, none⟩ = some d6 ∧ (w.alloc o).cell? ⟨h2, 7, none⟩ = some d7 ∧ (w.alloc o).cell? ⟨h2, 8, none⟩ = some d8 := at20_low h ((Below.refl _ w).alloc (Nat.le_refl _) o)
theorem at20_set3 {w : World} {h1 : Nat} {h0 h3 h2 : Nat} {ao : Option Addr} {n c : Nat} {nx : Int} {c0 c1 c2 c3 c4 c5 c6 c7 c8 d0 d1 d2 d3 d4 d5 d6 d7 d8 : Value} {v0 v1 v2 : Value} (h : At20 w h0 h3 h2 ao n c nx c0 c1 c2 c3 c4 c5 c6 c7 c8 d0 d1 d2 d3 d4 d5 d6 d7 d8) (n0 : h0 ≠ h1) (n3 : h3 ≠ h1) (n2 : h2 ≠ h1) : (((w.setCell ⟨h1, 0, none⟩ v0).setCell ⟨h1, 1, none⟩ v1).setCell ⟨h1, 2, none⟩ v2).cell? ⟨h0, 0, none⟩ = some (.slice ao n c) ∧ (((w.setCell ⟨h1, 0, none⟩ v0).setCell ⟨h1, 1, none⟩ v1).setCell ⟨h1, 2, none⟩ v2).cell? ⟨h0, 1, none⟩ = some (.int .i64 nx) ∧ (((w.setCell ⟨h1, 0, none⟩ v0).setCell ⟨h1, 1, none⟩ v1).setCell ⟨h1, 2, none⟩ v2).cell? ⟨h3, 0, none⟩ = some c0 ∧ (((w.setCell ⟨h1, 0, none⟩ v0).setCell ⟨h1, 1, none⟩ v1).setCell ⟨h1, 2, none⟩ v2).cell? ⟨h3, 1, none⟩ = some c1 ∧ (((w.setCell ⟨h1, 0, none⟩ v0).setCell ⟨h1, 1, none⟩ v1).setCell ⟨h1, 2, none⟩ v2).cell? ⟨h3, 2, none⟩ = some c2 ∧ (((w.setCell ⟨h1, 0, none⟩ v0).setCell ⟨h1, 1, none⟩ v1).setCell ⟨h1, 2, none⟩ v2).cell? ⟨h3, 3, none⟩ = some c3 ∧ (((w.setCell ⟨h1, 0, none⟩ v0).setCell ⟨h1, 1, none⟩ v1).setCell ⟨h1, 2, none⟩ v2).cell? ⟨h3, 4, none⟩ = some c4 ∧ (((w.setCell ⟨h1, 0, none⟩ v0).setCell ⟨h1, 1, none⟩ v1).setCell ⟨h1, 2, none⟩ v2).cell? ⟨h3, 5, none⟩ = some c5 ∧ (((w.setCell ⟨h1, 0, none⟩ v0).setCell ⟨h1, 1, none⟩ v1).setCell ⟨h1, 2, none⟩ v2).cell? ⟨h3, 6, none⟩ = some c6 ∧ (((w.setCell ⟨h1, 0, none⟩ v0).setCell ⟨h1, 1, none⟩ v1).setCell ⟨h1, 2, none⟩ v2).cell? ⟨h3, 7, none⟩ = some c7 ∧ (((w.setCell ⟨h1, 0, none⟩ v0).setCell ⟨h1, 1, none⟩ v1).setCell ⟨h1, 2, none⟩ v2).cell? ⟨h3, 8, none⟩ = some c8 ∧ (((w.setCell ⟨h1, 0, none⟩ v0).setCell ⟨h1, 1, none⟩ v1).setCell ⟨h1, 2, none⟩ v2).cell? ⟨h2, 0, none⟩ = some d0 ∧ (((w.setCell ⟨h1, 0, none⟩ v0).setCell ⟨h1, 1, none⟩ v1).setCell ⟨h1, 2, none⟩ v2).cell? ⟨h2, 1, none⟩ = some d1 ∧ (((w.setCell ⟨h1, 0, none⟩ v0).setCell ⟨h1, 1, none⟩ v1).setCell ⟨h1, 2, none⟩ v2).cell? ⟨h2, 2, none⟩ = some d2 ∧ (((w.setCell ⟨h1, 0, none⟩ v0).setCell ⟨h1, 1, none⟩ v1).setCell ⟨h1, 2, none⟩ v2).cell? ⟨h2, 3, none⟩ = some d3 ∧ (((w.setCell ⟨h1, 0, none⟩ v0).setCell ⟨h1, 1, none⟩ v1).setCell ⟨h1, 2, none⟩ v2).cell? ⟨h2, 4, none⟩ = some d4 ∧ (((w.setCell ⟨h1, 0, none⟩ v0).setCell ⟨h1, 1, none⟩ v1).setCell ⟨h1, 2, none⟩ v2).cell? ⟨h2, 5, none⟩ = some d5 ∧ (((w.setCell ⟨h1, 0, none⟩ v0).setCell ⟨h1, 1, none⟩ v1).setCell ⟨h1, 2, none⟩ v2).cell? ⟨h2, 6, none⟩ = some d6 ∧ (((w.setCell ⟨h1, 0, none⟩ v0).setCell ⟨h1, 1, none⟩ v1).setCell ⟨h1, 2, none⟩ v2).cell? ⟨h2, 7, none⟩ = some d7 ∧ (((w.setCell ⟨h1, 0, none⟩ v0).setCell ⟨h1, 1, none⟩ v1).setCell ⟨h1, 2, none⟩ v2).cell? ⟨h2, 8, none⟩ = some d8 :=
  at20_map h fun {q _} hq h => keepc (G := h1) (o := 0) (ds := [v0, v1, v2]) h (by rcases hq with e | e | e <;> rw [e] <;> assumption)
theorem linked_X (x : InoP) (lk : Int) (da na za aa : Option Addr) (dn dc nn nc zn zc an ac : Nat) (w : World) (h1 : -1000000 ≤ x.links) (h2 : x.links ≤ 1000000) (hk : lk = (linkP x 1).links) :
    Calls Tryz.prog 50 #[.agg #[.int .i64 x.num, .int .i64 x.kind, .int .i64 x.mode, .int .i64 x.links, .slice da dn dc, .string x.target, .slice na nn nc, .slice za zn zc, .slice aa an ac], .int .i64 1] w fun e w' => Below w.heap.size w w' ∧ e = .returned (.agg #[.int .i64 x.num, .int .i64 x.kind, .int .i64 x.mode, .int .i64 lk, .slice da dn dc, .string x.target, .slice na nn nc, .slice za zn zc, .slice aa an ac]) := by
  refine (linked_any x ⟨da, dn, dc, na, nn, nc, za, zn, zc, aa, an, ac⟩ 1 w h1 h2 (by omega) (by omega)).mono ?_
  rintro e w' ⟨hb, rfl⟩
  refine ⟨hb, ?_⟩
  subst hk
  unfold linkP
  split <;> rfl
theorem irw_two (w : World) (x y : InoP) (p q : Sl) (hx : IvS (w.alloc (.cells (inC x p ++ inC y q).toArray 38)) x p) (hy : IvS (w.alloc (.cells (inC x p ++ inC y q).toArray 38)) y q) : Irw (w.alloc (.cells (inC x p ++ inC y q).toArray 38)) (some ⟨w.heap.size, 0, none⟩) [x, y] := by
  have K : Sh.Blk (w.alloc (.cells (inC x p ++ inC y q).toArray 38)) w.heap.size (inC x p ++ inC y q) 38 := Sh.Blk.new w _ 38 _ rfl
  intro _
  refine ⟨w.heap.size, 0, rfl, K.lt, fun j z hz => ?_⟩
  match j with
  | 0 =>
    obtain rfl : x = z := by simpa using hz
    exact ⟨_, _, _, _, _, _, _, _, _, _, _, _, ⟨K.cell 0, K.cell 1, K.cell 2, K.cell 3, K.cell 4, K.cell 5, K.cell 6, K.cell 7, K.cell 8⟩, hx⟩
  | 1 =>
    obtain rfl : y = z := by simpa using hz
    exact ⟨_, _, _, _, _, _, _, _, _, _, _, _, ⟨K.cell 9, K.cell 10, K.cell 11, K.cell 12, K.cell 13, K.cell 14, K.cell 15, K.cell 16, K.cell 17⟩, hy⟩
  | j + 2 => simp at hz
theorem ivS_dir {w : World} {d : InoP} {da na za aa : Option Addr} {dn dc nn nc zn zc an ac i c8 c9 : Nat} {s : ByteArray} {num : Int} {ao8 ao9 : Option Addr} (h : IvP w d da dn dc na nn nc za zn zc aa an ac) (hi : i ≤ nn) (hz : i ≤ zn)
    (h8 : nn + 1 ≤ c8 ∧ c8 ≤ 9223372036854775807 ∧ (ao8 = none → c8 = 0) ∧ Cr w ao8 ((sv d.names).take (i * 1) ++ ([.string s] ++ (sv d.names).drop (i * 1)))) (h9 : zn + 1 ≤ c9 ∧ c9 ≤ 9223372036854775807 ∧ (ao9 = none → c9 = 0) ∧ Cr w ao9 ((zv d.nums).take (i * 1) ++ ([.int .i64 num] ++ (zv d.nums).drop (i * 1)))) :
    IvS w (dirP d i s num) ⟨da, dn, dc, ao8, nn + 1, c8, ao9, zn + 1, c9, aa, an, ac⟩ := by
  have e8 : (sv d.names).take (i * 1) ++ ([.string s] ++ (sv d.names).drop (i * 1)) = sv (d.names.take i ++ s :: d.names.drop i) := by simp [sv]
  have e9 : (zv d.nums).take (i * 1) ++ ([.int .i64 num] ++ (zv d.nums).drop (i * 1)) = zv (d.nums.take i ++ num :: d.nums.drop i) := by simp [zv]
  rw [e8] at h8
  rw [e9] at h9
  exact ⟨h.d1, h.d2, h.d3, h.d4, h.d5, by show (d.names.take i ++ s :: d.names.drop i).length = _; have := h.n1; simp; omega, h8.1, h8.2.1, srw_cr.1 h8.2.2.2, h8.2.2.1, by show (d.nums.take i ++ num :: d.nums.drop i).length = _; have := h.z1; simp; omega, h9.1, h9.2.1, zrw_cr.1 h9.2.2.2, h9.2.2.1, h.a1, h.a2, h.a3, h.a4, h.a5, h.ts⟩
theorem far_dir {d : InoP} (h : FarI d) (i : Nat) (s : ByteArray) (num : Int) (h1 : d.names.length ≤ 128) (h2 : d.nums.length ≤ 128) : FarI (dirP d i s num) :=
  ⟨h.data, by show (d.names.take i ++ s :: d.names.drop i).length * 16 ≤ _; simp; omega, by show (d.nums.take i ++ num :: d.nums.drop i).length * 8 ≤ _; simp; omega, h.attrs⟩
theorem far_link {x : InoP} (h : FarI x) (m : Int) : FarI (linkP x m) := by
  unfold linkP
  split
  · exact h
  · exact ⟨h.data, h.names, h.nums, h.attrs⟩
set_option maxHeartbeats 16000000 in
set_option maxRecDepth 100000 in
theorem entered_any (ao : Option Addr) (l : List InoP) (n c : Nat) (nx k num : Int) (s : ByteArray) (w : World) (h : Irw w ao l) (hl : l.length = n) (hn : ao = none → c = 0) (hc : n ≤ c) (hF : FarL l) (hok : OkP l nx) :
    Calls Tryz.prog 29 #[.agg #[.slice ao n c, .int .i64 nx], .int .i64 k, .string s, .int .i64 num] w (AnsDo (EnterM l k s num) (EnterG l k s num) nx w) := by
  obtain ⟨w1, hw1⟩ : ∃ w1, w1 = (w.alloc (.cells #[.slice ao n c, .int .i64 nx] 24)).alloc (.cells #[.slice none 0 0, .int .i64 0, .int .i64 0] 50) := ⟨_, rfl⟩
  have b1 : Below w.heap.size w w1 := by rw [hw1]; exact below_alloc (below_alloc (Below.refl _ w) _) _
  have s1 : w1.heap.size = w.heap.size + 2 := by rw [hw1]; simp
  have x1 : Sh.Blk w1 w.heap.size [.slice ao n c, .int .i64 nx] 24 := by rw [hw1]; exact (Sh.Blk.new w [.slice ao n c, .int .i64 nx] 24 _ rfl).alloc _
  have r1 : Sh.Blk w1 (w.heap.size + 1) [.slice none 0 0, .int .i64 0, .int .i64 0] 50 := by rw [hw1]; exact Sh.Blk.new _ [.slice none 0 0, .int .i64 0, .int .i64 0] 50 _ (by simp)
  have HI := Lib.hid h
  have HL := Lib.hid hl
  have HF := Lib.hid hF
  have HN : Hid ((ao = none → c = 0) ∧ n ≤ c) := ⟨hn, hc⟩
  have YES := Lib.hid hok
  have B1 := Lib.hid b1
  have X1 := Lib.hid x1
  have R1 := Lib.hid r1
  have S1 := Lib.hid s1
  have HW1 : Hid ((w.alloc (.cells #[.slice ao n c, .int .i64 nx] 24)).alloc (.cells #[.slice none 0 0, .int .i64 0, .int .i64 0] 50) = w1) := hw1.symm
  have C := Lib.hid (directory_any ao l n c k w w1 h b1 hl (by have := hok.nums.most; omega) hok.nums.risen)
  have nb : n ≤ 512 := by have := hok.nums.most; omega
  have c0 := x1.cell 0
  simp only [List.getElem?_cons_zero] at c0
  rw [hw1] at c0
  clear h hl hn hc hF hok b1 s1 x1 r1 hw1
  go_enter Tryz.func29, Tryz.ntmps29
  go_wp2_with fail
  rw [HW1.out]
  refine C.out.mono ?_
  clear C c0 HW1
  rintro e w2 ⟨hb, ⟨q, d, da, dn, dc, na, nn, nc, za, zn, zc, aa, an, ac, hx, hxk, hk2, hv, rfl⟩ | ⟨t, m, hm, rfl⟩⟩
  rotate_left
  · obtain ⟨w3, hw3⟩ : ∃ w3, w3 = w2.alloc (.cells #[.int .i64 0, .int .i64 0, .int .i64 0, .int .i64 0, .slice none 0 0, .string ⟨#[]⟩, .slice none 0 0, .slice none 0 0, .slice none 0 0] 38) := ⟨_, rfl⟩
    have B3 : Hid (Below w.heap.size w w3) := by show Below _ _ _; rw [hw3]; exact (below_chain B1.out hb).alloc (below_chain B1.out hb).size _
    have R3 : Hid (Sh.Blk w3 (w.heap.size + 1) [.slice none 0 0, .int .i64 0, .int .i64 0] 50) := by show Sh.Blk _ _ _ _; rw [hw3]; exact (R1.out.low hb).alloc _
    have HW3 : Hid (w2.alloc (.cells #[.int .i64 0, .int .i64 0, .int .i64 0, .int .i64 0, .slice none 0 0, .string ⟨#[]⟩, .slice none 0 0, .slice none 0 0, .slice none 0 0] 38) = w3) := hw3.symm
    have HE : Hid ((m ≠ 0 ∧ m ≠ 2) ∧ ((∀ x ∈ l, x.num = k → x.kind ≠ 2) ∨ checkL s.data.toList ≠ 0 ∨ (∃ d ∈ l, d.num = k ∧ s ∈ d.names) ∨ (∀ x ∈ l, x.num ≠ num) ∨ (∃ x ∈ l, x.num = num ∧ x.links = 64) ∨ ∃ d ∈ l, d.num = k ∧ d.names.length = 128)) := ⟨refusedI hm, .inl fun x hx he => by
      rcases hm with h1 | ⟨_, _, y, hy, hyk, hy2⟩
      · exact absurd he (h1.2 x hx)
      · obtain ⟨i1, h1⟩ := List.getElem?_of_mem hx
        obtain ⟨i2, h2⟩ := List.getElem?_of_mem hy
        have := YES.out.nums.unique h1 h2 (he.trans hyk.symm)
        subst this
        rw [h1] at h2
        injection h2 with h2
        rw [h2]
        exact hy2⟩
    obtain ⟨y, hy⟩ : ∃ y, Ref t m = .iface 76 y := ⟨_, rfl⟩
    have HY := Lib.hid hy
    rw [hy]
    clear hb hm hy hw3
    have R9 := R3.out
    have r0 := R9.cell 0
    have r1 := R9.cell 1
    have r2 := R9.cell 2
    have z0 := R9.frozen 0
    have z1 := R9.frozen 1
    have z2 := R9.frozen 2
    simp only [List.getElem?_cons_zero, List.getElem?_cons_succ] at r0 r1 r2
    have K9 := Lib.hid (((R9.set 0 (.slice none 0 0)).set 1 (.int .i64 0)).set 2 (.int .i64 0))
    have gs := gb_sets (w.heap.size + 1) [.slice none 0 0, .int .i64 0, .int .i64 0] 0 w3
    have B9 := Lib.hid (below_own B3.out gs (Nat.le_succ _))
    have HM : Hid (EnterM l k s num m) := HE.out
    clear R9 gs
    rw [← HW3.out] at r0 r1 r2 z0 z1 z2 K9 B9
    go_wp2_with fail
    exact bodyPost_ret (results_row_tmp rfl _ _ (w.heap.size + 1) 50 _ _ _ rfl rfl K9.out Tryz.underlying50 rfl (size50 _ _ _)) rfl ⟨B9.out, .inl ⟨t, m, HM.out, by rw [HY.out]; rfl⟩⟩
  obtain ⟨w3, hw3⟩ : ∃ w3, w3 = w2.alloc (.cells (ivC d da dn dc na nn nc za zn zc aa an ac).toArray 38) := ⟨_, rfl⟩
  have B3 : Hid (Below w.heap.size w w3) := by show Below _ _ _; rw [hw3]; exact (below_chain B1.out hb).alloc (below_chain B1.out hb).size _
  have R3 : Hid (Sh.Blk w3 (w.heap.size + 1) [.slice none 0 0, .int .i64 0, .int .i64 0] 50) := by show Sh.Blk _ _ _ _; rw [hw3]; exact (R1.out.low hb).alloc _
  have X3 : Hid (Sh.Blk w3 w.heap.size [.slice ao n c, .int .i64 nx] 24) := by show Sh.Blk _ _ _ _; rw [hw3]; exact (X1.out.low hb).alloc _
  have D3 : Hid (Sh.Blk w3 w2.heap.size (ivC d da dn dc na nn nc za zn zc aa an ac) 38) := by show Sh.Blk _ _ _ _; rw [hw3]; exact Sh.Blk.new w2 _ 38 _ rfl
  have S2 : Hid (w.heap.size + 2 ≤ w2.heap.size) := by show _ ≤ _; have := S1.out; have := hb.size; omega
  have HW3 : Hid (w2.alloc (.cells (ivC d da dn dc na nn nc za zn zc aa an ac).toArray 38) = w3) := hw3.symm
  have DM : Hid (d ∈ l) := List.mem_of_getElem? hx
  have DK := Lib.hid hxk
  have D2 := Lib.hid (hk2 rfl)
  have DV := Lib.hid hv
  have CN := Lib.hid (Sh.check_any s w3)
  simp only [ivC] at HW3
  simp only [ivC]
  clear hb hx hxk hk2 hv hw3 X1 R1 B1 S1
  go_wp2_with fail
  rw [HW3.out]
  refine CN.out.mono ?_
  clear CN HW3
  rintro e w4 ⟨rfl, hb⟩
  have B4 := Lib.hid (below_chain B3.out hb)
  have R4 := Lib.hid (R3.out.low hb)
  have X4 := Lib.hid (X3.out.low hb)
  have D4 := Lib.hid (D3.out.low hb)
  clear hb B3 R3 X3 D3
  by_cases he : checkL s.data.toList = 0
  rotate_left
  · have hc2 := checkL_no s.data.toList
    obtain ⟨ce, hce⟩ : ∃ ce, ce = checkL s.data.toList := ⟨_, rfl⟩
    rw [← hce] at he hc2 ⊢
    have HE : Hid ((ce ≠ 0 ∧ ce ≠ 2) ∧ checkL s.data.toList ≠ 0) := ⟨⟨he, hc2⟩, by rw [← hce]; exact he⟩
    have e1 : (ce != 0) = true := by simpa using he
    clear hce
    have R9 := R4.out
    have r0 := R9.cell 0
    have r1 := R9.cell 1
    have r2 := R9.cell 2
    have z0 := R9.frozen 0
    have z1 := R9.frozen 1
    have z2 := R9.frozen 2
    simp only [List.getElem?_cons_zero, List.getElem?_cons_succ] at r0 r1 r2
    have K9 := Lib.hid (((R9.set 0 (.slice none 0 0)).set 1 (.int .i64 0)).set 2 (.int .i64 0))
    have gs := gb_sets (w.heap.size + 1) [.slice none 0 0, .int .i64 0, .int .i64 0] 0 w4
    have B9 := Lib.hid (below_own B4.out gs (Nat.le_succ _))
    have HM : Hid (EnterM l k s num ce) := ⟨HE.out.1, .inr (.inl HE.out.2)⟩
    clear R9 gs
    go_wp2_with fail
    exact bodyPost_ret (results_row_tmp rfl _ _ (w.heap.size + 1) 50 _ _ _ rfl rfl K9.out Tryz.underlying50 rfl (size50 _ _ _)) rfl ⟨B9.out, .inl ⟨_, _, HM.out, rfl⟩⟩
  rw [he]
  have c6 := D4.out.cell 6
  simp only [ivC, List.getElem?_cons_zero, List.getElem?_cons_succ] at c6
  obtain ⟨su, hzl, hnl⟩ := YES.out.namesOk d DM.out D2.out
  have CT := Lib.hid (search_text na d.names nn nc s w4 (DV.out.n4.below B4.out) DV.out.n1 (by have := DV.out.n1; omega) su)
  have NN : Hid (d.nums.length = d.names.length ∧ d.names.length ≤ 128) := ⟨hzl, hnl⟩
  clear su hzl hnl
  go_wp2_with fail
  refine CT.out.mono ?_
  clear CT c6
  rintro e w5 ⟨i, b, rfl, hst, hb⟩
  have B5 := Lib.hid (below_chain B4.out hb)
  have R5 := Lib.hid (R4.out.low hb)
  have X5 := Lib.hid (X4.out.low hb)
  have D5 := Lib.hid (D4.out.low hb)
  have ST := Lib.hid hst
  clear hb B4 R4 X4 D4 hst
  cases b with
  | true =>
    have R9 := R5.out
    have r0 := R9.cell 0
    have r1 := R9.cell 1
    have r2 := R9.cell 2
    have z0 := R9.frozen 0
    have z1 := R9.frozen 1
    have z2 := R9.frozen 2
    simp only [List.getElem?_cons_zero, List.getElem?_cons_succ] at r0 r1 r2
    have K9 := Lib.hid (((R9.set 0 (.slice none 0 0)).set 1 (.int .i64 0)).set 2 (.int .i64 0))
    have gs := gb_sets (w.heap.size + 1) [.slice none 0 0, .int .i64 0, .int .i64 0] 0 w5
    have B9 := Lib.hid (below_own B5.out gs (Nat.le_succ _))
    have HM : Hid (EnterM l k s num 202) := ⟨⟨by decide, by decide⟩, .inr (.inr (.inl ⟨d, DM.out, DK.out, List.mem_of_getElem? (ST.out.has.1 rfl)⟩))⟩
    clear R9 gs
    go_wp2_with fail
    exact bodyPost_ret (results_row_tmp rfl _ _ (w.heap.size + 1) 50 _ _ _ rfl rfl K9.out Tryz.underlying50 rfl (size50 _ _ _)) rfl ⟨B9.out, .inl ⟨_, _, HM.out, rfl⟩⟩
  | false =>
    have c0 := X5.out.cell 0
    simp only [List.getElem?_cons_zero] at c0
    have CI := Lib.hid (inode_any ao l n c num w w5 HI.out B5.out HL.out (by omega) YES.out.nums.risen)
    go_wp2_with fail
    refine CI.out.mono ?_
    clear CI c0
    rintro e w6 ⟨hb, ⟨r, x, da', dn', dc', na', nn', nc', za', zn', zc', aa', an', ac', hx, hxk, _, hv, rfl⟩ | ⟨t, m, hm, rfl⟩⟩
    rotate_left
    · obtain ⟨w7, hw7⟩ : ∃ w7, w7 = w6.alloc (.cells #[.int .i64 0, .int .i64 0, .int .i64 0, .int .i64 0, .slice none 0 0, .string ⟨#[]⟩, .slice none 0 0, .slice none 0 0, .slice none 0 0] 38) := ⟨_, rfl⟩
      have B7 : Hid (Below w.heap.size w w7) := by show Below _ _ _; rw [hw7]; exact (below_chain B5.out hb).alloc (below_chain B5.out hb).size _
      have R7 : Hid (Sh.Blk w7 (w.heap.size + 1) [.slice none 0 0, .int .i64 0, .int .i64 0] 50) := by show Sh.Blk _ _ _ _; rw [hw7]; exact (R5.out.low hb).alloc _
      have HW7 : Hid (w6.alloc (.cells #[.int .i64 0, .int .i64 0, .int .i64 0, .int .i64 0, .slice none 0 0, .string ⟨#[]⟩, .slice none 0 0, .slice none 0 0, .slice none 0 0] 38) = w7) := hw7.symm
      have HE : Hid ((m ≠ 0 ∧ m ≠ 2) ∧ ∀ x ∈ l, x.num ≠ num) := ⟨refusedI hm, by rcases hm with h1 | ⟨_, h1, _⟩ <;> first | exact h1.2 | cases h1⟩
      obtain ⟨y, hy⟩ : ∃ y, Ref t m = .iface 76 y := ⟨_, rfl⟩
      have HY := Lib.hid hy
      rw [hy]
      clear hb hm hy hw7
      have R9 := R7.out
      have r0 := R9.cell 0
      have r1 := R9.cell 1
      have r2 := R9.cell 2
      have z0 := R9.frozen 0
      have z1 := R9.frozen 1
      have z2 := R9.frozen 2
      simp only [List.getElem?_cons_zero, List.getElem?_cons_succ] at r0 r1 r2
      have K9 := Lib.hid (((R9.set 0 (.slice none 0 0)).set 1 (.int .i64 0)).set 2 (.int .i64 0))
      have gs := gb_sets (w.heap.size + 1) [.slice none 0 0, .int .i64 0, .int .i64 0] 0 w7
      have B9 := Lib.hid (below_own B7.out gs (Nat.le_succ _))
      have HM : Hid (EnterM l k s num m) := ⟨HE.out.1, .inr (.inr (.inr (.inl HE.out.2)))⟩
      clear R9 gs
      rw [← HW7.out] at r0 r1 r2 z0 z1 z2 K9 B9
      go_wp2_with fail
      exact bodyPost_ret (results_row_tmp rfl _ _ (w.heap.size + 1) 50 _ _ _ rfl rfl K9.out Tryz.underlying50 rfl (size50 _ _ _)) rfl ⟨B9.out, .inl ⟨t, m, HM.out, by rw [HY.out]; rfl⟩⟩
    obtain ⟨w7, hw7⟩ : ∃ w7, w7 = w6.alloc (.cells (ivC x da' dn' dc' na' nn' nc' za' zn' zc' aa' an' ac').toArray 38) := ⟨_, rfl⟩
    have B7 : Hid (Below w.heap.size w w7) := by show Below _ _ _; rw [hw7]; exact (below_chain B5.out hb).alloc (below_chain B5.out hb).size _
    have R7 : Hid (Sh.Blk w7 (w.heap.size + 1) [.slice none 0 0, .int .i64 0, .int .i64 0] 50) := by show Sh.Blk _ _ _ _; rw [hw7]; exact (R5.out.low hb).alloc _
    have X7 : Hid (Sh.Blk w7 w.heap.size [.slice ao n c, .int .i64 nx] 24) := by show Sh.Blk _ _ _ _; rw [hw7]; exact (X5.out.low hb).alloc _
    have D7 : Hid (Sh.Blk w7 w2.heap.size (ivC d da dn dc na nn nc za zn zc aa an ac) 38) := by show Sh.Blk _ _ _ _; rw [hw7]; exact (D5.out.low hb).alloc _
    have E7 : Hid (Sh.Blk w7 w6.heap.size (ivC x da' dn' dc' na' nn' nc' za' zn' zc' aa' an' ac') 38) := by show Sh.Blk _ _ _ _; rw [hw7]; exact Sh.Blk.new w6 _ 38 _ rfl
    have S6 : Hid (w2.heap.size < w6.heap.size) := by show _ < _; exact (D5.out.low hb).lt
    have HW7 : Hid (w6.alloc (.cells (ivC x da' dn' dc' na' nn' nc' za' zn' zc' aa' an' ac').toArray 38) = w7) := hw7.symm
    have EM : Hid (x ∈ l) := List.mem_of_getElem? hx
    have EK := Lib.hid hxk
    have EV := Lib.hid hv
    simp only [ivC] at HW7
    have e3 := E7.out.cell 3
    have d6 := D7.out.cell 6
    simp only [ivC, List.getElem?_cons_zero, List.getElem?_cons_succ] at e3 d6
    rw [← HW7.out] at e3 d6
    simp only [ivC]
    clear hb hx hxk hv hw7 X5 R5 B5 D5
    by_cases hl64 : x.links = 64
    · have e1 : (x.links == 64) = true := by simpa using hl64
      have HE : Hid (∃ x ∈ l, x.num = num ∧ x.links = 64) := ⟨x, EM.out, EK.out, hl64⟩
      clear hl64
      have R9 := R7.out
      have r0 := R9.cell 0
      have r1 := R9.cell 1
      have r2 := R9.cell 2
      have z0 := R9.frozen 0
      have z1 := R9.frozen 1
      have z2 := R9.frozen 2
      simp only [List.getElem?_cons_zero, List.getElem?_cons_succ] at r0 r1 r2
      have K9 := Lib.hid (((R9.set 0 (.slice none 0 0)).set 1 (.int .i64 0)).set 2 (.int .i64 0))
      have gs := gb_sets (w.heap.size + 1) [.slice none 0 0, .int .i64 0, .int .i64 0] 0 w7
      have B9 := Lib.hid (below_own B7.out gs (Nat.le_succ _))
      have HM : Hid (EnterM l k s num 210) := ⟨⟨by decide, by decide⟩, .inr (.inr (.inr (.inr (.inl HE.out))))⟩
      clear R9 gs
      rw [← HW7.out] at r0 r1 r2 z0 z1 z2 K9 B9
      go_wp2_with fail
      exact bodyPost_ret (results_row_tmp rfl _ _ (w.heap.size + 1) 50 _ _ _ rfl rfl K9.out Tryz.underlying50 rfl (size50 _ _ _)) rfl ⟨B9.out, .inl ⟨_, _, HM.out, rfl⟩⟩
    have e1 : (x.links == 64) = false := by simpa using hl64
    by_cases h128 : nn = 128
    · have HE : Hid (∃ d ∈ l, d.num = k ∧ d.names.length = 128) := ⟨d, DM.out, DK.out, by rw [DV.out.n1]; exact h128⟩
      subst h128
      have R9 := R7.out
      have r0 := R9.cell 0
      have r1 := R9.cell 1
      have r2 := R9.cell 2
      have z0 := R9.frozen 0
      have z1 := R9.frozen 1
      have z2 := R9.frozen 2
      simp only [List.getElem?_cons_zero, List.getElem?_cons_succ] at r0 r1 r2
      have K9 := Lib.hid (((R9.set 0 (.slice none 0 0)).set 1 (.int .i64 0)).set 2 (.int .i64 0))
      have gs := gb_sets (w.heap.size + 1) [.slice none 0 0, .int .i64 0, .int .i64 0] 0 w7
      have B9 := Lib.hid (below_own B7.out gs (Nat.le_succ _))
      have HM : Hid (EnterM l k s num 211) := ⟨⟨by decide, by decide⟩, .inr (.inr (.inr (.inr (.inr HE.out))))⟩
      clear R9 gs
      rw [← HW7.out] at r0 r1 r2 z0 z1 z2 K9 B9
      go_wp2_with fail
      exact bodyPost_ret (results_row_tmp rfl _ _ (w.heap.size + 1) 50 _ _ _ rfl rfl K9.out Tryz.underlying50 rfl (size50 _ _ _)) rfl ⟨B9.out, .inl ⟨_, _, HM.out, rfl⟩⟩
    have e2 : ¬ (nn : Int) = 128 := by omega
    have HI2 := ST.out.le
    have in1 : i ≤ nn := by have := DV.out.n1; omega
    have zn1 : zn = nn := by have := DV.out.z1; have := DV.out.n1; have := NN.out.1; omega
    have nn1 : nn ≤ 128 := by have := DV.out.n1; have := NN.out.2; omega
    have CW : Hid (∀ W, Below w7.heap.size w7 W → Calls Tryz.prog 48 #[.slice na nn nc, .int .i64 i, .string s] W (AnsK 9 1 (nn + 1) ((sv d.names).take (i * 1) ++ ([.string s] ++ (sv d.names).drop (i * 1))) W)) := fun W hW =>
      with_txt na nn nc i (sv d.names) s W (srw_cr.2 ((DV.out.n4.below B7.out).below hW)) (by rw [sv, List.length_map, DV.out.n1, Nat.mul_one]) (sv_one _) (fun h0 => ⟨by have := DV.out.n5 h0; have := DV.out.n2; omega, DV.out.n5 h0⟩) DV.out.n2 in1 (by omega)
    have CZ : Hid (∀ W, Below w7.heap.size w7 W → Calls Tryz.prog 49 #[.slice za zn zc, .int .i64 i, .int .i64 num] W (AnsK 3 1 (zn + 1) ((zv d.nums).take (i * 1) ++ ([.int .i64 num] ++ (zv d.nums).drop (i * 1))) W)) := fun W hW =>
      with_num za zn zc i (zv d.nums) num W (zrw_cr.2 ((DV.out.z4.below B7.out).below hW)) (by rw [zv, List.length_map, DV.out.z1, Nat.mul_one]) (zv_one _) (fun h0 => ⟨by have := DV.out.z5 h0; have := DV.out.z2; omega, DV.out.z5 h0⟩) DV.out.z2 (by omega) (by omega)
    have BQ : Hid (Below w7.heap.size w7 w7.drew) := (Below.refl _ w7).drew
    have DQ := Lib.hid (D7.out.low BQ.out)
    have d6 := DQ.out.cell 6
    have d7 := DQ.out.cell 7
    simp only [ivC, List.getElem?_cons_zero, List.getElem?_cons_succ] at d6 d7
    rw [← HW7.out] at BQ DQ d6 d7
    have ZN := Lib.hid zn1
    clear HI2 in1 zn1
    go_wp2_with fail
    go_region_with (first
        | (go_at_call 48; (with_reducible refine (CW.out _ (by rw [← HW7.out]; exact BQ.out)).mono ?_); rintro e w8 ⟨b8, v8, rfl, hown8⟩; have DQ := Lib.hid (DQ.out.low b8); have L8 := Lib.hid DQ.out.lt; have d7 := DQ.out.cell 7; simp only [ivC, List.getElem?_cons_zero, List.getElem?_cons_succ] at d7; have BQ := Lib.hid (below_chain BQ.out b8); obtain ⟨ao8, c8, rfl, hN8⟩ := newK_of hown8; have N8 := Lib.hid hN8; clear b8 hown8 hN8)
        | (go_at_call 49; (with_reducible refine (CZ.out _ (by rw [← HW7.out]; exact BQ.out)).mono ?_); rintro e w9 ⟨b9, v9, rfl, hown9⟩; have DQ := Lib.hid (DQ.out.low b9); have d6 := DQ.out.cell 6; have d7 := DQ.out.cell 7; have y6 := DQ.out.frozen 6; have y7 := DQ.out.frozen 7; simp only [ivC, List.getElem?_cons_zero, List.getElem?_cons_succ] at d6 d7; have BQ := Lib.hid (below_chain BQ.out b9); obtain ⟨ao9, c9, rfl, hN9⟩ := newK_of hown9; have N9 := Lib.hid hN9; have G9 := Lib.hid b9; clear b9 hown9 hN9))
    all_goals
      have hlb : 0 ≤ x.links ∧ x.links ≤ 64 := (YES.out.each x EM.out).1.links
      have gs := grownBy_trans (grownBy_setCell w9 w2.heap.size 6 (.slice ao8 (nn + 1) c8)) (grownBy_setCell _ w2.heap.size 7 (.slice ao9 (zn + 1) c9))
      obtain ⟨wa, hwa⟩ : ∃ wa, wa = ((w9.setCell ⟨w2.heap.size, 6, none⟩ (.slice ao8 (nn + 1) c8)).setCell ⟨w2.heap.size, 7, none⟩ (.slice ao9 (zn + 1) c9)) := ⟨_, rfl⟩
      have BQ' := BQ.out
      rw [HW7.out] at BQ'
      have B9 := below_chain B7.out BQ'
      have XA := blk_grown (X7.out.low BQ') gs (by have := S2.out; omega)
      have RA := blk_grown (R7.out.low BQ') gs (by have := S2.out; omega)
      have EA := blk_grown (E7.out.low BQ') gs (by have := S6.out; omega)
      have DA : Sh.Blk wa w2.heap.size [.int .i64 d.num, .int .i64 d.kind, .int .i64 d.mode, .int .i64 d.links, .slice da dn dc, .string d.target, .slice ao8 (nn + 1) c8, .slice ao9 (zn + 1) c9, .slice aa an ac] 38 := by rw [hwa]; exact (DQ.out.set 6 (.slice ao8 (nn + 1) c8)).set 7 (.slice ao9 (zn + 1) c9)
      have BA := below_own B9 gs (by have := S2.out; omega)
      rw [← hwa] at XA RA EA BA gs
      have AT0 := at20_of XA EA DA
      have RAH := Lib.hid RA
      have BAH := Lib.hid BA
      have GSH := Lib.hid gs
      have HWA : Hid (((w9.setCell ⟨w2.heap.size, 6, none⟩ (.slice ao8 (nn + 1) c8)).setCell ⟨w2.heap.size, 7, none⟩ (.slice ao9 (zn + 1) c9)) = wa) := hwa.symm
      have AT := Lib.hid (at20_low AT0 (Below.refl wa.heap.size wa).drew)
      obtain ⟨lk, hlk⟩ : ∃ lk, lk = (linkP x 1).links := ⟨_, rfl⟩
      have HLK := Lib.hid hlk
      have CL : Hid (∀ W, Calls Tryz.prog 50 #[.agg #[.int .i64 x.num, .int .i64 x.kind, .int .i64 x.mode, .int .i64 x.links, .slice da' dn' dc', .string x.target, .slice na' nn' nc', .slice za' zn' zc', .slice aa' an' ac'], .int .i64 1] W fun e w' => Below W.heap.size W w' ∧ e = .returned (.agg #[.int .i64 x.num, .int .i64 x.kind, .int .i64 x.mode, .int .i64 lk, .slice da' dn' dc', .string x.target, .slice na' nn' nc', .slice za' zn' zc', .slice aa' an' ac'])) := fun W => linked_X x lk _ _ _ _ _ _ _ _ _ _ _ _ W (by omega) (by omega) hlk
      have CP : Hid (∀ W, Below wa.heap.size wa W → Calls Tryz.prog 38 #[.agg #[.slice ao n c, .int .i64 nx], .slice (some ⟨W.heap.size, 0, none⟩) 2 2] (W.alloc (.cells #[.int .i64 x.num, .int .i64 x.kind, .int .i64 x.mode, .int .i64 lk, .slice da' dn' dc', .string x.target, .slice na' nn' nc', .slice za' zn' zc', .slice aa' an' ac', .int .i64 d.num, .int .i64 d.kind, .int .i64 d.mode, .int .i64 d.links, .slice da dn dc, .string d.target, .slice ao8 (nn + 1) c8, .slice ao9 (zn + 1) c9, .slice aa an ac] 38)) (AnsPut l [linkP x 1, dirP d i s num] nx (W.alloc (.cells #[.int .i64 x.num, .int .i64 x.kind, .int .i64 x.mode, .int .i64 lk, .slice da' dn' dc', .string x.target, .slice na' nn' nc', .slice za' zn' zc', .slice aa' an' ac', .int .i64 d.num, .int .i64 d.kind, .int .i64 d.mode, .int .i64 d.links, .slice da dn dc, .string d.target, .slice ao8 (nn + 1) c8, .slice ao9 (zn + 1) c9, .slice aa an ac] 38)))) := fun W hW => by
        have hlx : inC (linkP x 1) ⟨da', dn', dc', na', nn', nc', za', zn', zc', aa', an', ac'⟩ = [.int .i64 x.num, .int .i64 x.kind, .int .i64 x.mode, .int .i64 lk, .slice da' dn' dc', .string x.target, .slice na' nn' nc', .slice za' zn' zc', .slice aa' an' ac'] := by
          rw [hlk]
          unfold linkP
          split <;> rfl
        have hc : (#[.int .i64 x.num, .int .i64 x.kind, .int .i64 x.mode, .int .i64 lk, .slice da' dn' dc', .string x.target, .slice na' nn' nc', .slice za' zn' zc', .slice aa' an' ac', .int .i64 d.num, .int .i64 d.kind, .int .i64 d.mode, .int .i64 d.links, .slice da dn dc, .string d.target, .slice ao8 (nn + 1) c8, .slice ao9 (zn + 1) c9, .slice aa an ac] : Array Value) = (inC (linkP x 1) ⟨da', dn', dc', na', nn', nc', za', zn', zc', aa', an', ac'⟩ ++ inC (dirP d i s num) ⟨da, dn, dc, ao8, nn + 1, c8, ao9, zn + 1, c9, aa, an, ac⟩).toArray := by rw [hlx]; rfl
        rw [hc]
        have bW := hW.alloc hW.size (.cells (inC (linkP x 1) ⟨da', dn', dc', na', nn', nc', za', zn', zc', aa', an', ac'⟩ ++ inC (dirP d i s num) ⟨da, dn, dc, ao8, nn + 1, c8, ao9, zn + 1, c9, aa, an, ac⟩).toArray 38)
        have b0 := below_chain BA bW
        have hin : i ≤ nn := by have := ST.out.le; have := DV.out.n1; omega
        have ex : IvS _ (linkP x 1) ⟨da', dn', dc', na', nn', nc', za', zn', zc', aa', an', ac'⟩ := ivS_link (p := ⟨da', dn', dc', na', nn', nc', za', zn', zc', aa', an', ac'⟩) (EV.out.below b0) 1
        have ed := ivS_dir (s := s) (num := num) (DV.out.below b0) hin (by rw [ZN.out]; exact hin) ⟨N8.out.1, N8.out.2.1, N8.out.2.2.1, (((N8.out.2.2.2.below G9.out).grown gs (by have := S6.out; simp; omega)).below bW).self⟩ ⟨N9.out.1, N9.out.2.1, N9.out.2.2.1, ((N9.out.2.2.2.grown gs (by have := L8.out; omega)).below bW).self⟩
        exact put_any ao l [linkP x 1, dirP d i s num] n c 2 W.heap.size 0 2 nx _ (HI.out.below b0) HL.out HN.out.1 HN.out.2 HF.out YES.out.nums.risen YES.out.ne (by omega) (irw_two W (linkP x 1) (dirP d i s num) _ _ ex ed) rfl (by decide) (fun y hy => by
          rcases List.mem_cons.1 hy with rfl | hy
          · exact far_link (HF.out.each x EM.out) 1
          · obtain rfl := List.mem_singleton.1 hy
            exact far_dir (HF.out.each d DM.out) i s num NN.out.2 (by rw [NN.out.1]; exact NN.out.2))
      have RS : Hid (w.heap.size + 1 < wa.heap.size) := RA.lt
      have NE0 : ¬ w.heap.size = w.heap.size + 1 := by omega
      have NE3 : ¬ w6.heap.size = w.heap.size + 1 := by have := S2.out; have := S6.out; omega
      have NE2 : ¬ w2.heap.size = w.heap.size + 1 := by have := S2.out; omega
      clear gs hwa BQ' B9 XA RA EA DA BA AT0 BQ DQ hlk d6 d7 y6 y7
      go_wp2_with fail
      rw [HWA.out]
      go_region_held3 (fun w' => w'.cell? ⟨w.heap.size, 0, none⟩ = some (.slice ao n c) ∧ w'.cell? ⟨w.heap.size, 1, none⟩ = some (.int .i64 nx) ∧ w'.cell? ⟨w6.heap.size, 0, none⟩ = some (.int .i64 x.num) ∧ w'.cell? ⟨w6.heap.size, 1, none⟩ = some (.int .i64 x.kind) ∧ w'.cell? ⟨w6.heap.size, 2, none⟩ = some (.int .i64 x.mode) ∧ w'.cell? ⟨w6.heap.size, 3, none⟩ = some (.int .i64 x.links) ∧ w'.cell? ⟨w6.heap.size, 4, none⟩ = some (.slice da' dn' dc') ∧ w'.cell? ⟨w6.heap.size, 5, none⟩ = some (.string x.target) ∧ w'.cell? ⟨w6.heap.size, 6, none⟩ = some (.slice na' nn' nc') ∧ w'.cell? ⟨w6.heap.size, 7, none⟩ = some (.slice za' zn' zc') ∧ w'.cell? ⟨w6.heap.size, 8, none⟩ = some (.slice aa' an' ac') ∧ w'.cell? ⟨w2.heap.size, 0, none⟩ = some (.int .i64 d.num) ∧ w'.cell? ⟨w2.heap.size, 1, none⟩ = some (.int .i64 d.kind) ∧ w'.cell? ⟨w2.heap.size, 2, none⟩ = some (.int .i64 d.mode) ∧ w'.cell? ⟨w2.heap.size, 3, none⟩ = some (.int .i64 d.links) ∧ w'.cell? ⟨w2.heap.size, 4, none⟩ = some (.slice da dn dc) ∧ w'.cell? ⟨w2.heap.size, 5, none⟩ = some (.string d.target) ∧ w'.cell? ⟨w2.heap.size, 6, none⟩ = some (.slice ao8 (nn + 1) c8) ∧ w'.cell? ⟨w2.heap.size, 7, none⟩ = some (.slice ao9 (zn + 1) c9) ∧ w'.cell? ⟨w2.heap.size, 8, none⟩ = some (.slice aa an ac))
        (first | with_reducible exact at20_out AT.out | with_reducible exact at20_alloc AT.out | with_reducible exact at20_set3 AT.out NE0 NE3 NE2)
        (first
          | (go_at_call 50; (with_reducible refine (CL.out _).mono ?_); rintro e w10 ⟨b10, rfl⟩; have AT := Lib.hid (at20_low AT.out b10); have B10 := Lib.hid (below_chain (Below.refl wa.heap.size wa).drew b10); clear b10)
          | (go_at_call 38; (with_reducible refine (CP.out _ B10.out).mono ?_); rintro e w11 ⟨b11, L, v, hPu, rfl, hOw⟩; have GA := below_chain ((Below.refl w10.heap.size w10).alloc (Nat.le_refl _) (.cells #[.int .i64 x.num, .int .i64 x.kind, .int .i64 x.mode, .int .i64 lk, .slice da' dn' dc', .string x.target, .slice na' nn' nc', .slice za' zn' zc', .slice aa' an' ac', .int .i64 d.num, .int .i64 d.kind, .int .i64 d.mode, .int .i64 d.links, .slice da dn dc, .string d.target, .slice ao8 (nn + 1) c8, .slice ao9 (zn + 1) c9, .slice aa an ac] 38)) b11; have AT := Lib.hid (at20_low AT.out GA); have B11 := Lib.hid (below_chain B10.out GA); have PU := Lib.hid hPu; have OW := Lib.hid hOw; obtain ⟨ao2, c2, rfl, _⟩ := hOw; have RR := RAH.out.low B11.out; have r0 := RR.cell 0; have r1 := RR.cell 1; have r2 := RR.cell 2; have z0 := RR.frozen 0; have z1 := RR.frozen 1; have z2 := RR.frozen 2; simp only [List.getElem?_cons_zero, List.getElem?_cons_succ] at r0 r1 r2; clear b11 hPu GA RR CP))
      have K9 := Lib.hid ((((RAH.out.low B11.out).set 0 (.slice ao2 L.length c2)).set 1 (.int .i64 nx)).set 2 (.int .i64 0))
      have gs3 := gb_sets (w.heap.size + 1) [.slice ao2 L.length c2, .int .i64 nx, .int .i64 0] 0 w11
      have B12 := Lib.hid (below_own (below_chain BAH.out B11.out) gs3 (Nat.le_succ _))
      have O12 := Lib.hid ((OW.out.grown gs3 (by have := RS.out; have := B10.out.size; simp; omega)).low (B' := w.heap.size) (by have := RS.out; have := B10.out.size; simp; omega))
      have HG : Hid (EnterG l k s num L 0) := ⟨rfl, d, DM.out, x, EM.out, i, DK.out, D2.out, EK.out, he, ST.out, hl64, by rw [DV.out.n1]; exact h128, PU.out⟩
      clear gs3 AT OW PU
      go_wp2_with fail
      exact bodyPost_ret (results_row_tmp rfl _ _ (w.heap.size + 1) 50 _ _ _ rfl rfl K9.out Tryz.underlying50 rfl (size50 _ _ _)) rfl ⟨B12.out, .inr ⟨L, _, 0, HG.out, rfl, O12.out⟩⟩
end Go.Proofs.YtcgbaiogbcodcaaGreatDoor.Lw
namespace Go.Proofs.YtcgbaiogbcodcaaGreatDoor.Lw
open Go.RowKit Go.Lib Go.Proofs.YtcgbaiogbcodcaaGreatDoor.Sh Go.Proofs.YtcgbaiogbcodcaaGreatDoor.Lb Go.Proofs.YtcgbaiogbcodcaaGreatDoor.Pf
open Go.Maps

set_option maxHeartbeats 4000000 in
set_option maxRecDepth 100000 in
theorem enter1_any (ao : Option Addr) (l : List InoP) (n c : Nat) (nx k num : Int) (s : ByteArray) (b0 b1 b2 b3 : Nat) (w : World) (h : Irw w ao l) (hl : l.length = n) (hn : ao = none → c = 0) (hc : n ≤ c) (hF : FarL l) (hok : OkP l nx)
    (k0 : Sh.Blk w b0 [.slice ao n c, .int .i64 nx] 24) (k1 : w.cell? ⟨b1, 0, none⟩ = some (.int .i64 k)) (k2 : w.cell? ⟨b2, 0, none⟩ = some (.string s)) (k3 : w.cell? ⟨b3, 0, none⟩ = some (.int .i64 num)) :
    Calls Tryz.prog 28 #[.pointer (some ⟨b0, 0, none⟩), .pointer (some ⟨b1, 0, none⟩), .pointer (some ⟨b2, 0, none⟩), .pointer (some ⟨b3, 0, none⟩)] w (AnsDo (EnterM l k s num) (EnterG l k s num) nx w) := by
  obtain ⟨w1, hw1⟩ : ∃ w1, w1 = w.alloc (.cells #[.slice none 0 0, .int .i64 0, .int .i64 0] 50) := ⟨_, rfl⟩
  have bb : Below w.heap.size w w1 := by rw [hw1]; exact below_alloc (Below.refl _ w) _
  have r1 : Sh.Blk w1 w.heap.size [.slice none 0 0, .int .i64 0, .int .i64 0] 50 := by rw [hw1]; exact Sh.Blk.new w [.slice none 0 0, .int .i64 0, .int .i64 0] 50 _ rfl
  have s1 : w1.heap.size = w.heap.size + 1 := by rw [hw1]; simp
  have CM := Lib.hid (entered_any ao l n c nx k num s w1 (h.below bb) hl hn hc hF hok)
  have kk := k0.low bb
  have c0 := kk.cell 0
  have c1 := kk.cell 1
  simp only [List.getElem?_cons_zero, List.getElem?_cons_succ] at c0 c1
  have d1 := (bb.cell (p := ⟨b1, 0, none⟩) (World.block_lt_of_cell? w _ k1)).trans k1
  have d2 := (bb.cell (p := ⟨b2, 0, none⟩) (World.block_lt_of_cell? w _ k2)).trans k2
  have d3 := (bb.cell (p := ⟨b3, 0, none⟩) (World.block_lt_of_cell? w _ k3)).trans k3
  have HW1 : Hid (w.alloc (.cells #[.slice none 0 0, .int .i64 0, .int .i64 0] 50) = w1) := hw1.symm
  rw [hw1] at c0 c1 d1 d2 d3
  have B1 := Lib.hid bb
  have R1 := Lib.hid r1
  have S1 := Lib.hid s1
  clear h hl hn hc hF hok k0 k1 k2 k3 bb r1 s1 kk hw1
  go_enter Tryz.func28, Tryz.ntmps28
  go_wp2_with fail
  rw [HW1.out]
  refine CM.out.mono ?_
  clear CM c0 c1 d1 d2 d3 HW1
  rintro e w2 ⟨hb2, hans⟩
  have R2 := R1.out.low hb2
  have r0 := R2.cell 0
  have r1 := R2.cell 1
  have r2 := R2.cell 2
  have z0 := R2.frozen 0
  have z1 := R2.frozen 1
  have z2 := R2.frozen 2
  simp only [List.getElem?_cons_zero, List.getElem?_cons_succ] at r0 r1 r2
  have B2 := Lib.hid (below_chain B1.out hb2)
  rcases hans with ⟨t, m, hm, rfl⟩ | ⟨L, v, r, hp, rfl, hown⟩
  · have K9 := Lib.hid (((R2.set 0 (.slice none 0 0)).set 1 (.int .i64 0)).set 2 (.int .i64 0))
    have gs := gb_sets w.heap.size [.slice none 0 0, .int .i64 0, .int .i64 0] 0 w2
    have B9 := Lib.hid (below_own B2.out gs (Nat.le_refl _))
    have HM := Lib.hid hm
    obtain ⟨y, hy⟩ : ∃ y, y = Ref t m := ⟨_, rfl⟩
    rw [← hy]
    have HY := Lib.hid hy
    clear hb2 R2 gs hm hy
    go_wp2_with fail
    exact bodyPost_ret (results_row_tmp rfl _ _ w.heap.size 50 _ _ _ rfl rfl K9.out Tryz.underlying50 rfl (size50 _ _ _)) rfl ⟨B9.out, .inl ⟨t, m, HM.out, by rw [← HY.out]; rfl⟩⟩
  · have OV := Lib.hid hown
    obtain ⟨ao2, c2, rfl, _⟩ := hown
    have K9 := Lib.hid (((R2.set 0 (.slice ao2 L.length c2)).set 1 (.int .i64 nx)).set 2 (.int .i64 r))
    have gs := gb_sets w.heap.size [.slice ao2 L.length c2, .int .i64 nx, .int .i64 r] 0 w2
    have B9 := Lib.hid (below_own B2.out gs (Nat.le_refl _))
    have O9 := Lib.hid ((OV.out.grown gs (by have := S1.out; omega)).low (B' := w.heap.size) (by have := S1.out; omega))
    have HG := Lib.hid hp
    clear hb2 R2 gs hp OV
    go_wp2_with fail
    exact bodyPost_ret (results_row_tmp rfl _ _ w.heap.size 50 _ _ _ rfl rfl K9.out Tryz.underlying50 rfl (size50 _ _ _)) rfl ⟨B9.out, .inr ⟨L, _, r, HG.out, rfl, O9.out⟩⟩
set_option maxHeartbeats 4000000 in
set_option maxRecDepth 100000 in
theorem enter_any (ao : Option Addr) (l : List InoP) (n c : Nat) (nx k num : Int) (s : ByteArray) (w : World) (hE : ErrT w) (h : Irw w ao l) (hl : l.length = n) (hn : ao = none → c = 0) (hc : n ≤ c) (hF : FarL l) :
    Calls Tryz.prog 14 #[.agg #[.slice ao n c, .int .i64 nx], .int .i64 k, .string s, .int .i64 num] w (AnsDon2 l (EnterM l k s num) (EnterG l k s num) nx w) := by
  obtain ⟨w1, hw1⟩ : ∃ w1, w1 = ((((w.alloc (.cells #[.slice ao n c, .int .i64 nx] 24)).alloc (.cells #[.int .i64 k] 3)).alloc (.cells #[.string s] 9)).alloc (.cells #[.int .i64 num] 3)).alloc (.cells #[.slice none 0 0, .int .i64 0] 24) := ⟨_, rfl⟩
  have bb : Below w.heap.size w w1 := by rw [hw1]; exact below_alloc (below_alloc (below_alloc (below_alloc (below_alloc (Below.refl _ w) _) _) _) _) _
  have s1 : w1.heap.size = w.heap.size + 5 := by rw [hw1]; simp
  have x0 : Sh.Blk w1 w.heap.size [.slice ao n c, .int .i64 nx] 24 := by rw [hw1]; exact ((((Sh.Blk.new w [.slice ao n c, .int .i64 nx] 24 _ rfl).alloc _).alloc _).alloc _).alloc _
  have x1 : Sh.Blk w1 (w.heap.size + 1) [.int .i64 k] 3 := by rw [hw1]; exact (((Sh.Blk.new _ [.int .i64 k] 3 _ (by simp)).alloc _).alloc _).alloc _
  have x2 : Sh.Blk w1 (w.heap.size + 2) [.string s] 9 := by rw [hw1]; exact ((Sh.Blk.new _ [.string s] 9 _ (by simp)).alloc _).alloc _
  have x3 : Sh.Blk w1 (w.heap.size + 3) [.int .i64 num] 3 := by rw [hw1]; exact (Sh.Blk.new _ [.int .i64 num] 3 _ (by simp)).alloc _
  have r1 : Sh.Blk w1 (w.heap.size + 4) [.slice none 0 0, .int .i64 0] 24 := by rw [hw1]; exact Sh.Blk.new _ [.slice none 0 0, .int .i64 0] 24 _ (by simp)
  have CD := Lib.hid (done_enter ao l n c nx ⟨w.heap.size, 0, none⟩ ⟨w.heap.size + 1, 0, none⟩ ⟨w.heap.size + 2, 0, none⟩ ⟨w.heap.size + 3, 0, none⟩ (EnterM l k s num) (EnterG l k s num) w1 (hE.below bb) (h.below bb) hl hn hc hF (fun m hm => hm.1)
    (fun hok W hW => enter1_any ao l n c nx k num s w.heap.size (w.heap.size + 1) (w.heap.size + 2) (w.heap.size + 3) W ((h.below bb).below hW) hl hn hc hF hok (x0.low hW) ((x1.low hW).cell 0) ((x2.low hW).cell 0) ((x3.low hW).cell 0)))
  have c0 := x0.cell 0
  have c1 := x0.cell 1
  simp only [List.getElem?_cons_zero, List.getElem?_cons_succ] at c0 c1
  have HW1 : Hid (((((w.alloc (.cells #[.slice ao n c, .int .i64 nx] 24)).alloc (.cells #[.int .i64 k] 3)).alloc (.cells #[.string s] 9)).alloc (.cells #[.int .i64 num] 3)).alloc (.cells #[.slice none 0 0, .int .i64 0] 24) = w1) := hw1.symm
  rw [hw1] at c0 c1
  have B1 := Lib.hid bb
  have R1 := Lib.hid r1
  have S1 := Lib.hid s1
  clear hE h hl hn hc hF bb s1 x0 x1 x2 x3 r1 hw1
  go_enter Tryz.func14, Tryz.ntmps14
  go_wp2_with fail
  rw [HW1.out]
  refine CD.out.mono ?_
  clear CD c0 c1 HW1
  rintro e w2 ⟨hb2, hans⟩
  have B2 := Lib.hid (below_chain B1.out hb2)
  have SS : Hid (w.heap.size + 5 ≤ w2.heap.size) := by show _ ≤ _; have := S1.out; have := hb2.size; omega
  rcases hans with ⟨v, hy, rfl, hown⟩ | ⟨hok, m, hm, rfl⟩ | ⟨hok, L, r, v, hg, hok2, rfl, hown⟩
  · have OV := Lib.hid hown
    obtain ⟨ao2, c2, rfl, _⟩ := hown
    have R2 := (R1.out.low hb2).alloc (.cells #[.slice ao2 l.length c2, .int .i64 nx] 24)
    have r0 := R2.cell 0
    have r1 := R2.cell 1
    have z0 := R2.frozen 0
    have z1 := R2.frozen 1
    simp only [List.getElem?_cons_zero, List.getElem?_cons_succ] at r0 r1
    have K9 := Lib.hid ((R2.set 0 (.slice ao2 l.length c2)).set 1 (.int .i64 nx))
    have gs := gb_sets (w.heap.size + 4) [.slice ao2 l.length c2, .int .i64 nx] 0 (w2.alloc (.cells #[.slice ao2 l.length c2, .int .i64 nx] 24))
    have B9 := Lib.hid (below_own (B2.out.alloc B2.out.size (.cells #[.slice ao2 l.length c2, .int .i64 nx] 24)) gs (by omega))
    have O9 := Lib.hid (((OV.out.below ((Below.refl _ w2).alloc (Nat.le_refl _) (.cells #[.slice ao2 l.length c2, .int .i64 nx] 24))).grown gs (by have := S1.out; omega)).low (B' := w.heap.size) (by have := S1.out; omega))
    clear OV
    have HY := Lib.hid hy
    clear hb2 R2 gs hy
    go_wp2_with fail
    exact bodyPost_ret (results_row_tmp rfl _ _ (w.heap.size + 4) 24 _ _ _ rfl rfl K9.out Tryz.underlying24 rfl (size24 _ _)) rfl ⟨B9.out, .inl ⟨_, HY.out, rfl, O9.out⟩⟩
  · have R2 := (R1.out.low hb2).alloc (.cells #[.slice none 0 0, .int .i64 0] 24)
    have r0 := R2.cell 0
    have r1 := R2.cell 1
    have z0 := R2.frozen 0
    have z1 := R2.frozen 1
    simp only [List.getElem?_cons_zero, List.getElem?_cons_succ] at r0 r1
    have K9 := Lib.hid ((R2.set 0 (.slice none 0 0)).set 1 (.int .i64 0))
    have gs := gb_sets (w.heap.size + 4) [.slice none 0 0, .int .i64 0] 0 (w2.alloc (.cells #[.slice none 0 0, .int .i64 0] 24))
    have B9 := Lib.hid (below_own (B2.out.alloc B2.out.size (.cells #[.slice none 0 0, .int .i64 0] 24)) gs (by omega))
    have HM := Lib.hid hm
    have HOK := Lib.hid hok
    clear hb2 R2 gs hm hok
    go_wp2_with fail
    exact bodyPost_ret (results_row_tmp rfl _ _ (w.heap.size + 4) 24 _ _ _ rfl rfl K9.out Tryz.underlying24 rfl (size24 _ _)) rfl ⟨B9.out, .inr (.inl ⟨HOK.out, m, HM.out, rfl⟩)⟩
  · have OV := Lib.hid hown
    obtain ⟨ao2, c2, rfl, _⟩ := hown
    have R2 := (R1.out.low hb2).alloc (.cells #[.slice ao2 L.length c2, .int .i64 nx] 24)
    have r0 := R2.cell 0
    have r1 := R2.cell 1
    have z0 := R2.frozen 0
    have z1 := R2.frozen 1
    simp only [List.getElem?_cons_zero, List.getElem?_cons_succ] at r0 r1
    have K9 := Lib.hid ((R2.set 0 (.slice ao2 L.length c2)).set 1 (.int .i64 nx))
    have gs := gb_sets (w.heap.size + 4) [.slice ao2 L.length c2, .int .i64 nx] 0 (w2.alloc (.cells #[.slice ao2 L.length c2, .int .i64 nx] 24))
    have B9 := Lib.hid (below_own (B2.out.alloc B2.out.size (.cells #[.slice ao2 L.length c2, .int .i64 nx] 24)) gs (by omega))
    have O9 := Lib.hid (((OV.out.below ((Below.refl _ w2).alloc (Nat.le_refl _) (.cells #[.slice ao2 L.length c2, .int .i64 nx] 24))).grown gs (by have := S1.out; omega)).low (B' := w.heap.size) (by have := S1.out; omega))
    clear OV
    have HG := Lib.hid hg
    have H1 := Lib.hid hok
    have H2 := Lib.hid hok2
    clear hb2 R2 gs hg hok hok2
    go_wp2_with fail
    exact bodyPost_ret (results_row_tmp rfl _ _ (w.heap.size + 4) 24 _ _ _ rfl rfl K9.out Tryz.underlying24 rfl (size24 _ _)) rfl ⟨B9.out, .inr (.inr ⟨H1.out, L, r, _, HG.out, H2.out, rfl, O9.out⟩)⟩
end Go.Proofs.YtcgbaiogbcodcaaGreatDoor.Lw
namespace Go.Proofs.YtcgbaiogbcodcaaGreatDoor.Lw
open Go.RowKit Go.Lib Go.Proofs.YtcgbaiogbcodcaaGreatDoor.Sh Go.Proofs.YtcgbaiogbcodcaaGreatDoor.Lb Go.Proofs.YtcgbaiogbcodcaaGreatDoor.Pf
open Go.Maps Go.Proofs.YtcgbaiogbcodcaaGreatDoor.Nm

/-- why a name is not taken away -/
def LeaveM (l : List InoP) (k : Int) (s : ByteArray) (m : Int) : Prop := m = 201 ∧ (∀ x ∈ l, x.num ≠ k) ∨ m = 203 ∧ (∃ x ∈ l, x.num = k ∧ x.kind ≠ 2) ∨ m = 201 ∧ ∃ x ∈ l, x.num = k ∧ x.kind = 2 ∧ s ∉ x.names
/-- a directory with a name less -/
def dirM (d : InoP) (i : Nat) : InoP := { d with names := d.names.take i ++ d.names.drop (i + 1), nums := d.nums.take i ++ d.nums.drop (i + 1) }
def LeaveG (l : List InoP) (k : Int) (s : ByteArray) (L : List InoP) (r : Int) : Prop := ∃ d ∈ l, ∃ x ∈ l, ∃ i, d.num = k ∧ d.kind = 2 ∧ St d.names s i true ∧ d.nums[i]? = some x.num ∧ r = x.num ∧ Puts l [linkP x (-1), dirM d i] L
theorem linked_Y (x : InoP) (lk more : Int) (da na za aa : Option Addr) (dn dc nn nc zn zc an ac : Nat) (w : World) (h1 : -1000000 ≤ x.links) (h2 : x.links ≤ 1000000) (h3 : -1 ≤ more) (h4 : more ≤ 1) (hk : lk = (linkP x more).links) :
    Calls Tryz.prog 50 #[.agg #[.int .i64 x.num, .int .i64 x.kind, .int .i64 x.mode, .int .i64 x.links, .slice da dn dc, .string x.target, .slice na nn nc, .slice za zn zc, .slice aa an ac], .int .i64 more] w fun e w' => Below w.heap.size w w' ∧ e = .returned (.agg #[.int .i64 x.num, .int .i64 x.kind, .int .i64 x.mode, .int .i64 lk, .slice da dn dc, .string x.target, .slice na nn nc, .slice za zn zc, .slice aa an ac]) := by
  refine (linked_any x ⟨da, dn, dc, na, nn, nc, za, zn, zc, aa, an, ac⟩ more w h1 h2 h3 h4).mono ?_
  rintro e w' ⟨hb, rfl⟩
  refine ⟨hb, ?_⟩
  subst hk
  unfold linkP
  split <;> rfl
theorem ivS_dirM {w : World} {d : InoP} {da na za aa : Option Addr} {dn dc nn nc zn zc an ac i c8 c9 : Nat} {ao8 ao9 : Option Addr} (h : IvP w d da dn dc na nn nc za zn zc aa an ac) (hi : i < nn) (hz : i < zn)
    (h8 : nn - 1 ≤ c8 ∧ c8 ≤ 9223372036854775807 ∧ (ao8 = none → c8 = 0) ∧ Cr w ao8 ((sv d.names).take (i * 1) ++ (sv d.names).drop ((i + 1) * 1))) (h9 : zn - 1 ≤ c9 ∧ c9 ≤ 9223372036854775807 ∧ (ao9 = none → c9 = 0) ∧ Cr w ao9 ((zv d.nums).take (i * 1) ++ (zv d.nums).drop ((i + 1) * 1))) :
    IvS w (dirM d i) ⟨da, dn, dc, ao8, nn - 1, c8, ao9, zn - 1, c9, aa, an, ac⟩ := by
  have e8 : (sv d.names).take (i * 1) ++ (sv d.names).drop ((i + 1) * 1) = sv (d.names.take i ++ d.names.drop (i + 1)) := by simp [sv]
  have e9 : (zv d.nums).take (i * 1) ++ (zv d.nums).drop ((i + 1) * 1) = zv (d.nums.take i ++ d.nums.drop (i + 1)) := by simp [zv]
  rw [e8] at h8
  rw [e9] at h9
  exact ⟨h.d1, h.d2, h.d3, h.d4, h.d5, by show (d.names.take i ++ d.names.drop (i + 1)).length = _; have := h.n1; simp; omega, h8.1, h8.2.1, srw_cr.1 h8.2.2.2, h8.2.2.1, by show (d.nums.take i ++ d.nums.drop (i + 1)).length = _; have := h.z1; simp; omega, h9.1, h9.2.1, zrw_cr.1 h9.2.2.2, h9.2.2.1, h.a1, h.a2, h.a3, h.a4, h.a5, h.ts⟩
theorem far_dirM {d : InoP} (h : FarI d) (i : Nat) (h1 : d.names.length ≤ 128) (h2 : d.nums.length ≤ 128) : FarI (dirM d i) :=
  ⟨h.data, by show (d.names.take i ++ d.names.drop (i + 1)).length * 16 ≤ _; simp; omega, by show (d.nums.take i ++ d.nums.drop (i + 1)).length * 8 ≤ _; simp; omega, h.attrs⟩
set_option maxHeartbeats 16000000 in
set_option maxRecDepth 100000 in
theorem left_any (ao : Option Addr) (l : List InoP) (n c : Nat) (nx k : Int) (s : ByteArray) (w : World) (h : Irw w ao l) (hl : l.length = n) (hn : ao = none → c = 0) (hc : n ≤ c) (hF : FarL l) (hok : OkP l nx) :
    Calls Tryz.prog 31 #[.agg #[.slice ao n c, .int .i64 nx], .int .i64 k, .string s] w (AnsDo (LeaveM l k s) (LeaveG l k s) nx w) := by
  obtain ⟨w1, hw1⟩ : ∃ w1, w1 = (w.alloc (.cells #[.slice ao n c, .int .i64 nx] 24)).alloc (.cells #[.slice none 0 0, .int .i64 0, .int .i64 0] 50) := ⟨_, rfl⟩
  have b1 : Below w.heap.size w w1 := by rw [hw1]; exact below_alloc (below_alloc (Below.refl _ w) _) _
  have s1 : w1.heap.size = w.heap.size + 2 := by rw [hw1]; simp
  have x1 : Sh.Blk w1 w.heap.size [.slice ao n c, .int .i64 nx] 24 := by rw [hw1]; exact (Sh.Blk.new w [.slice ao n c, .int .i64 nx] 24 _ rfl).alloc _
  have r1 : Sh.Blk w1 (w.heap.size + 1) [.slice none 0 0, .int .i64 0, .int .i64 0] 50 := by rw [hw1]; exact Sh.Blk.new _ [.slice none 0 0, .int .i64 0, .int .i64 0] 50 _ (by simp)
  have HI := Lib.hid h
  have HL := Lib.hid hl
  have HF := Lib.hid hF
  have HN : Hid ((ao = none → c = 0) ∧ n ≤ c) := ⟨hn, hc⟩
  have YES := Lib.hid hok
  have B1 := Lib.hid b1
  have X1 := Lib.hid x1
  have R1 := Lib.hid r1
  have S1 := Lib.hid s1
  have HW1 : Hid ((w.alloc (.cells #[.slice ao n c, .int .i64 nx] 24)).alloc (.cells #[.slice none 0 0, .int .i64 0, .int .i64 0] 50) = w1) := hw1.symm
  have nb : n ≤ 512 := by have := hok.nums.most; omega
  have C := Lib.hid (entry_any ao l n c k s w w1 h b1 hl (by omega) hok.nums.risen hok.namesOk)
  have c0 := x1.cell 0
  simp only [List.getElem?_cons_zero] at c0
  rw [hw1] at c0
  clear h hl hn hc hF hok b1 s1 x1 r1 hw1
  go_enter Tryz.func31, Tryz.ntmps31
  go_wp2_with fail
  rw [HW1.out]
  refine C.out.mono ?_
  clear C c0 HW1
  rintro e w2 ⟨hb, ⟨q, i, d, da, dn, dc, na, nn, nc, za, zn, zc, aa, an, ac, hx, hxk, hk2, hst, hv, rfl⟩ | ⟨t, m, hm, rfl⟩⟩
  rotate_left
  · obtain ⟨w3, hw3⟩ : ∃ w3, w3 = w2.alloc (.cells #[.int .i64 0, .int .i64 0, .int .i64 0, .int .i64 0, .slice none 0 0, .string ⟨#[]⟩, .slice none 0 0, .slice none 0 0, .slice none 0 0] 38) := ⟨_, rfl⟩
    have B3 : Hid (Below w.heap.size w w3) := by show Below _ _ _; rw [hw3]; exact (below_chain B1.out hb).alloc (below_chain B1.out hb).size _
    have R3 : Hid (Sh.Blk w3 (w.heap.size + 1) [.slice none 0 0, .int .i64 0, .int .i64 0] 50) := by show Sh.Blk _ _ _ _; rw [hw3]; exact (R1.out.low hb).alloc _
    have HW3 : Hid (w2.alloc (.cells #[.int .i64 0, .int .i64 0, .int .i64 0, .int .i64 0, .slice none 0 0, .string ⟨#[]⟩, .slice none 0 0, .slice none 0 0, .slice none 0 0] 38) = w3) := hw3.symm
    have HM : Hid (LeaveM l k s m) := hm
    obtain ⟨y, hy⟩ : ∃ y, Ref t m = .iface 76 y := ⟨_, rfl⟩
    have HY := Lib.hid hy
    rw [hy]
    clear hb hm hy hw3
    have R9 := R3.out
    have r0 := R9.cell 0
    have r1 := R9.cell 1
    have r2 := R9.cell 2
    have z0 := R9.frozen 0
    have z1 := R9.frozen 1
    have z2 := R9.frozen 2
    simp only [List.getElem?_cons_zero, List.getElem?_cons_succ] at r0 r1 r2
    have K9 := Lib.hid (((R9.set 0 (.slice none 0 0)).set 1 (.int .i64 0)).set 2 (.int .i64 0))
    have gs := gb_sets (w.heap.size + 1) [.slice none 0 0, .int .i64 0, .int .i64 0] 0 w3
    have B9 := Lib.hid (below_own B3.out gs (Nat.le_succ _))
    clear R9 gs
    rw [← HW3.out] at r0 r1 r2 z0 z1 z2 K9 B9
    go_wp2_with fail
    exact bodyPost_ret (results_row_tmp rfl _ _ (w.heap.size + 1) 50 _ _ _ rfl rfl K9.out Tryz.underlying50 rfl (size50 _ _ _)) rfl ⟨B9.out, .inl ⟨t, m, HM.out, by rw [HY.out]; rfl⟩⟩
  obtain ⟨w3, hw3⟩ : ∃ w3, w3 = w2.alloc (.cells (ivC d da dn dc na nn nc za zn zc aa an ac).toArray 38) := ⟨_, rfl⟩
  have B3 : Hid (Below w.heap.size w w3) := by show Below _ _ _; rw [hw3]; exact (below_chain B1.out hb).alloc (below_chain B1.out hb).size _
  have R3 : Hid (Sh.Blk w3 (w.heap.size + 1) [.slice none 0 0, .int .i64 0, .int .i64 0] 50) := by show Sh.Blk _ _ _ _; rw [hw3]; exact (R1.out.low hb).alloc _
  have X3 : Hid (Sh.Blk w3 w.heap.size [.slice ao n c, .int .i64 nx] 24) := by show Sh.Blk _ _ _ _; rw [hw3]; exact (X1.out.low hb).alloc _
  have D3 : Hid (Sh.Blk w3 w2.heap.size (ivC d da dn dc na nn nc za zn zc aa an ac) 38) := by show Sh.Blk _ _ _ _; rw [hw3]; exact Sh.Blk.new w2 _ 38 _ rfl
  have S2 : Hid (w.heap.size + 2 ≤ w2.heap.size) := by show _ ≤ _; have := S1.out; have := hb.size; omega
  have HW3 : Hid (w2.alloc (.cells (ivC d da dn dc na nn nc za zn zc aa an ac).toArray 38) = w3) := hw3.symm
  have DM : Hid (d ∈ l) := List.mem_of_getElem? hx
  have DK := Lib.hid hxk
  have D2 := Lib.hid hk2
  have DV := Lib.hid hv
  have ST := Lib.hid hst
  obtain ⟨_, hzl, hnl⟩ := YES.out.namesOk d DM.out D2.out
  have NN : Hid (d.nums.length = d.names.length ∧ d.names.length ≤ 128) := ⟨hzl, hnl⟩
  have hsi := hst.has.1 rfl
  have hin : i < d.names.length := (List.getElem?_eq_some_iff.1 hsi).1
  have hil : i < d.nums.length := by omega
  obtain ⟨zb, zo, hza, hzb, hz⟩ := zrw_cell hv.z4 i hil
  obtain ⟨nab, nao, _, hna, _⟩ := srw_cell hv.n4 i hin
  subst hza hna
  obtain ⟨z, hzz⟩ : ∃ z, d.nums[i]? = some z := ⟨_, List.getElem?_eq_getElem hil⟩
  obtain ⟨r, x, hxr, hxz⟩ := YES.out.stands DM.out (List.mem_of_getElem? hzz)
  have ZZ := Lib.hid hzz
  have XR := Lib.hid hxr
  have XZ := Lib.hid hxz
  have BQ3 : Hid (Below w3.heap.size w3 w3.drew) := (Below.refl _ w3).drew
  have c0 := (X3.out.low BQ3.out).cell 0
  have d7 := (D3.out.low BQ3.out).cell 7
  have bq := below_chain B3.out BQ3.out
  have e7 := (bq.cell (p := ⟨zb, zo + i, none⟩) hzb).trans (hz i z hzz)
  simp only [ivC, List.getElem?_cons_zero, List.getElem?_cons_succ] at c0 d7 e7
  have q2 : (0 : Int) ≤ (i : Int) := by omega
  have q3 : (i : Int) < (zn : Int) := by have := hv.z1; omega
  have CS : Hid (∀ W, Below w3.heap.size w3 W → Calls Tryz.prog 21 #[.slice ao n c, .int .i64 z] W (AnsS l z W)) := fun W hW => sought_any ao l n c z W ((HI.out.below B3.out).below hW) HL.out (by omega) YES.out.nums.risen
  rw [← HW3.out] at c0 d7 e7 BQ3
  simp only [ivC] at HW3 c0 d7 e7 BQ3
  simp only [ivC]
  clear hb hx hxk hk2 hst hv hw3 X1 R1 B1 S1 hzl hnl hsi hin hil hz hzb hzz hxr hxz bq
  go_wp2_with fail
  go_region_with (go_at_call 21; (with_reducible refine (CS.out _ (by rw [← HW3.out]; exact BQ3.out)).mono ?_); rintro e w6 ⟨r', b', rfl, hsk, hb6⟩)
  all_goals
    obtain ⟨er, eb⟩ := hsk.yes XR.out XZ.out YES.out.nums.risen
    subst er eb
    have BQ4 := BQ3.out
    rw [HW3.out] at BQ4 hb6
    have B36 := below_chain BQ4 hb6
    have B6 := Lib.hid (below_chain B3.out B36)
    have R6 := Lib.hid (R3.out.low B36)
    have X6 := Lib.hid (X3.out.low B36)
    have D6 := Lib.hid (D3.out.low B36)
    obtain ⟨fb, fo, e, hfbl, da', dn', dc', na', nn', nc', za', zn', zc', aa', an', ac', h9, hv⟩ := irw_at HI.out r' x XR.out
    subst e
    have hrn : r' < n := by have := (List.getElem?_eq_some_iff.1 XR.out).1; have := HL.out; omega
    have h9' := h9.below B6.out hfbl
    have k0 := h9'.k0
    have k1 := h9'.k1
    have k2 := h9'.k2
    have k3 := h9'.k3
    have k4 := h9'.k4
    have k5 := h9'.k5
    have k6 := h9'.k6
    have k7 := h9'.k7
    have k8 := h9'.k8
    have c0 := X6.out.cell 0
    simp only [List.getElem?_cons_zero] at c0
    have p2 : (0 : Int) ≤ (r' : Int) := by omega
    have p3 : (r' : Int) < (n : Int) := by omega
    obtain ⟨w7, hw7⟩ : ∃ w7, w7 = w6.alloc (.cells (ivC x da' dn' dc' na' nn' nc' za' zn' zc' aa' an' ac').toArray 38) := ⟨_, rfl⟩
    have B7 : Hid (Below w.heap.size w w7) := by show Below _ _ _; rw [hw7]; exact B6.out.alloc B6.out.size _
    have R7 : Hid (Sh.Blk w7 (w.heap.size + 1) [.slice none 0 0, .int .i64 0, .int .i64 0] 50) := by show Sh.Blk _ _ _ _; rw [hw7]; exact R6.out.alloc _
    have X7 : Hid (Sh.Blk w7 w.heap.size [.slice (some ⟨fb, fo, none⟩) n c, .int .i64 nx] 24) := by show Sh.Blk _ _ _ _; rw [hw7]; exact X6.out.alloc _
    have D7 : Hid (Sh.Blk w7 w2.heap.size (ivC d da dn dc (some ⟨nab, nao, none⟩) nn nc (some ⟨zb, zo, none⟩) zn zc aa an ac) 38) := by show Sh.Blk _ _ _ _; rw [hw7]; exact D6.out.alloc _
    have E7 : Hid (Sh.Blk w7 w6.heap.size (ivC x da' dn' dc' na' nn' nc' za' zn' zc' aa' an' ac') 38) := by show Sh.Blk _ _ _ _; rw [hw7]; exact Sh.Blk.new w6 _ 38 _ rfl
    have S6 : Hid (w2.heap.size < w6.heap.size) := by show _ < _; exact D6.out.lt
    have HW7 : Hid (w6.alloc (.cells (ivC x da' dn' dc' na' nn' nc' za' zn' zc' aa' an' ac').toArray 38) = w7) := hw7.symm
    have EM : Hid (x ∈ l) := List.mem_of_getElem? XR.out
    have EV := Lib.hid hv
    have HI2 := ST.out.le
    have in1 : i < nn := by have := DV.out.n1; have := (List.getElem?_eq_some_iff.1 (ST.out.has.1 rfl)).1; omega
    have zn1 : zn = nn := by have := DV.out.z1; have := DV.out.n1; have := NN.out.1; omega
    have nn1 : nn ≤ 128 := by have := DV.out.n1; have := NN.out.2; omega
    have IN := Lib.hid in1
    have CW : Hid (∀ W, Below w7.heap.size w7 W → Calls Tryz.prog 51 #[.slice (some ⟨nab, nao, none⟩) nn nc, .int .i64 i] W (AnsK 9 1 (nn - 1) ((sv d.names).take (i * 1) ++ (sv d.names).drop ((i + 1) * 1)) W)) := fun W hW =>
      without_txt _ nn nc i (sv d.names) W (srw_cr.2 ((DV.out.n4.below B7.out).below hW)) (by rw [sv, List.length_map, DV.out.n1, Nat.mul_one]) (sv_one _) DV.out.n2 (by omega) (by omega)
    have CZ : Hid (∀ W, Below w7.heap.size w7 W → Calls Tryz.prog 52 #[.slice (some ⟨zb, zo, none⟩) zn zc, .int .i64 i] W (AnsK 3 1 (zn - 1) ((zv d.nums).take (i * 1) ++ (zv d.nums).drop ((i + 1) * 1)) W)) := fun W hW =>
      without_num _ zn zc i (zv d.nums) W (zrw_cr.2 ((DV.out.z4.below B7.out).below hW)) (by rw [zv, List.length_map, DV.out.z1, Nat.mul_one]) (zv_one _) DV.out.z2 (by omega) (by omega)
    have BQ : Hid (Below w7.heap.size w7 w7.drew) := (Below.refl _ w7).drew
    have DQ := Lib.hid (D7.out.low BQ.out)
    have d6 := DQ.out.cell 6
    have d7 := DQ.out.cell 7
    simp only [ivC, List.getElem?_cons_zero, List.getElem?_cons_succ] at d6 d7
    rw [← HW7.out] at BQ DQ d6 d7
    simp only [ivC] at HW7 BQ DQ d6 d7
    have ZN := Lib.hid zn1
    clear hsk hb6 hw7 B36 R6 X6 h9 h9' hfbl hv HI2 in1 zn1 BQ4
    go_wp2_with fail
    go_region_with (first
        | (go_at_call 51; (with_reducible refine (CW.out _ (by rw [← HW7.out]; exact BQ.out)).mono ?_); rintro e w8 ⟨b8, v8, rfl, hown8⟩; have DQ := Lib.hid (DQ.out.low b8); have L8 := Lib.hid DQ.out.lt; have d7 := DQ.out.cell 7; simp only [List.getElem?_cons_zero, List.getElem?_cons_succ] at d7; have BQ := Lib.hid (below_chain BQ.out b8); obtain ⟨ao8, c8, rfl, hN8⟩ := newK_of hown8; have N8 := Lib.hid hN8; clear b8 hown8 hN8)
        | (go_at_call 52; (with_reducible refine (CZ.out _ (by rw [← HW7.out]; exact BQ.out)).mono ?_); rintro e w9 ⟨b9, v9, rfl, hown9⟩; have DQ := Lib.hid (DQ.out.low b9); have d6 := DQ.out.cell 6; have d7 := DQ.out.cell 7; have y6 := DQ.out.frozen 6; have y7 := DQ.out.frozen 7; simp only [List.getElem?_cons_zero, List.getElem?_cons_succ] at d6 d7; have BQ := Lib.hid (below_chain BQ.out b9); obtain ⟨ao9, c9, rfl, hN9⟩ := newK_of hown9; have N9 := Lib.hid hN9; have G9 := Lib.hid b9; clear b9 hown9 hN9))
    all_goals
      have hlb : 0 ≤ x.links ∧ x.links ≤ 64 := (YES.out.each x EM.out).1.links
      have gs := grownBy_trans (grownBy_setCell w9 w2.heap.size 6 (.slice ao8 (nn - 1) c8)) (grownBy_setCell _ w2.heap.size 7 (.slice ao9 (zn - 1) c9))
      obtain ⟨wa, hwa⟩ : ∃ wa, wa = ((w9.setCell ⟨w2.heap.size, 6, none⟩ (.slice ao8 (nn - 1) c8)).setCell ⟨w2.heap.size, 7, none⟩ (.slice ao9 (zn - 1) c9)) := ⟨_, rfl⟩
      have BQ' := BQ.out
      rw [HW7.out] at BQ'
      have B9 := below_chain B7.out BQ'
      have XA := blk_grown (X7.out.low BQ') gs (by have := S2.out; omega)
      have RA := blk_grown (R7.out.low BQ') gs (by have := S2.out; omega)
      have EA := blk_grown (E7.out.low BQ') gs (by have := S6.out; omega)
      have DA : Sh.Blk wa w2.heap.size [.int .i64 d.num, .int .i64 d.kind, .int .i64 d.mode, .int .i64 d.links, .slice da dn dc, .string d.target, .slice ao8 (nn - 1) c8, .slice ao9 (zn - 1) c9, .slice aa an ac] 38 := by rw [hwa]; exact (DQ.out.set 6 (.slice ao8 (nn - 1) c8)).set 7 (.slice ao9 (zn - 1) c9)
      have BA := below_own B9 gs (by have := S2.out; omega)
      rw [← hwa] at XA RA EA BA gs
      have AT0 := at20_of XA EA DA
      have RAH := Lib.hid RA
      have BAH := Lib.hid BA
      have GSH := Lib.hid gs
      have HWA : Hid (((w9.setCell ⟨w2.heap.size, 6, none⟩ (.slice ao8 (nn - 1) c8)).setCell ⟨w2.heap.size, 7, none⟩ (.slice ao9 (zn - 1) c9)) = wa) := hwa.symm
      have AT := Lib.hid (at20_low AT0 (Below.refl wa.heap.size wa).drew)
      obtain ⟨lk, hlk⟩ : ∃ lk, lk = (linkP x (-1)).links := ⟨_, rfl⟩
      have HLK := Lib.hid hlk
      have CL : Hid (∀ W, Calls Tryz.prog 50 #[.agg #[.int .i64 x.num, .int .i64 x.kind, .int .i64 x.mode, .int .i64 x.links, .slice da' dn' dc', .string x.target, .slice na' nn' nc', .slice za' zn' zc', .slice aa' an' ac'], .int .i64 (-1)] W fun e w' => Below W.heap.size W w' ∧ e = .returned (.agg #[.int .i64 x.num, .int .i64 x.kind, .int .i64 x.mode, .int .i64 lk, .slice da' dn' dc', .string x.target, .slice na' nn' nc', .slice za' zn' zc', .slice aa' an' ac'])) := fun W => linked_Y x lk (-1) _ _ _ _ _ _ _ _ _ _ _ _ W (by omega) (by omega) (by omega) (by omega) hlk
      have CP : Hid (∀ W, Below wa.heap.size wa W → Calls Tryz.prog 38 #[.agg #[.slice (some ⟨fb, fo, none⟩) n c, .int .i64 nx], .slice (some ⟨W.heap.size, 0, none⟩) 2 2] (W.alloc (.cells #[.int .i64 x.num, .int .i64 x.kind, .int .i64 x.mode, .int .i64 lk, .slice da' dn' dc', .string x.target, .slice na' nn' nc', .slice za' zn' zc', .slice aa' an' ac', .int .i64 d.num, .int .i64 d.kind, .int .i64 d.mode, .int .i64 d.links, .slice da dn dc, .string d.target, .slice ao8 (nn - 1) c8, .slice ao9 (zn - 1) c9, .slice aa an ac] 38)) (AnsPut l [linkP x (-1), dirM d i] nx (W.alloc (.cells #[.int .i64 x.num, .int .i64 x.kind, .int .i64 x.mode, .int .i64 lk, .slice da' dn' dc', .string x.target, .slice na' nn' nc', .slice za' zn' zc', .slice aa' an' ac', .int .i64 d.num, .int .i64 d.kind, .int .i64 d.mode, .int .i64 d.links, .slice da dn dc, .string d.target, .slice ao8 (nn - 1) c8, .slice ao9 (zn - 1) c9, .slice aa an ac] 38)))) := fun W hW => by
        have hlx : inC (linkP x (-1)) ⟨da', dn', dc', na', nn', nc', za', zn', zc', aa', an', ac'⟩ = [.int .i64 x.num, .int .i64 x.kind, .int .i64 x.mode, .int .i64 lk, .slice da' dn' dc', .string x.target, .slice na' nn' nc', .slice za' zn' zc', .slice aa' an' ac'] := by
          rw [hlk]
          unfold linkP
          split <;> rfl
        have hc : (#[.int .i64 x.num, .int .i64 x.kind, .int .i64 x.mode, .int .i64 lk, .slice da' dn' dc', .string x.target, .slice na' nn' nc', .slice za' zn' zc', .slice aa' an' ac', .int .i64 d.num, .int .i64 d.kind, .int .i64 d.mode, .int .i64 d.links, .slice da dn dc, .string d.target, .slice ao8 (nn - 1) c8, .slice ao9 (zn - 1) c9, .slice aa an ac] : Array Value) = (inC (linkP x (-1)) ⟨da', dn', dc', na', nn', nc', za', zn', zc', aa', an', ac'⟩ ++ inC (dirM d i) ⟨da, dn, dc, ao8, nn - 1, c8, ao9, zn - 1, c9, aa, an, ac⟩).toArray := by rw [hlx]; rfl
        rw [hc]
        have bW := hW.alloc hW.size (.cells (inC (linkP x (-1)) ⟨da', dn', dc', na', nn', nc', za', zn', zc', aa', an', ac'⟩ ++ inC (dirM d i) ⟨da, dn, dc, ao8, nn - 1, c8, ao9, zn - 1, c9, aa, an, ac⟩).toArray 38)
        have b0 := below_chain BA bW
        have hin : i < nn := IN.out
        have ex : IvS _ (linkP x (-1)) ⟨da', dn', dc', na', nn', nc', za', zn', zc', aa', an', ac'⟩ := ivS_link (p := ⟨da', dn', dc', na', nn', nc', za', zn', zc', aa', an', ac'⟩) (EV.out.below b0) (-1)
        have ed := ivS_dirM (DV.out.below b0) hin (by rw [ZN.out]; exact hin) ⟨N8.out.1, N8.out.2.1, N8.out.2.2.1, (((N8.out.2.2.2.below G9.out).grown gs (by have := S6.out; simp; omega)).below bW).self⟩ ⟨N9.out.1, N9.out.2.1, N9.out.2.2.1, ((N9.out.2.2.2.grown gs (by have := L8.out; omega)).below bW).self⟩
        exact put_any (some ⟨fb, fo, none⟩) l [linkP x (-1), dirM d i] n c 2 W.heap.size 0 2 nx _ (HI.out.below b0) HL.out HN.out.1 HN.out.2 HF.out YES.out.nums.risen YES.out.ne (by omega) (irw_two W (linkP x (-1)) (dirM d i) _ _ ex ed) rfl (by decide) (fun y hy => by
          rcases List.mem_cons.1 hy with rfl | hy
          · exact far_link (HF.out.each x EM.out) (-1)
          · obtain rfl := List.mem_singleton.1 hy
            exact far_dirM (HF.out.each d DM.out) i NN.out.2 (by rw [NN.out.1]; exact NN.out.2))
      have RS : Hid (w.heap.size + 1 < wa.heap.size) := RA.lt
      have NE0 : ¬ w.heap.size = w.heap.size + 1 := by omega
      have NE3 : ¬ w6.heap.size = w.heap.size + 1 := by have := S2.out; have := S6.out; omega
      have NE2 : ¬ w2.heap.size = w.heap.size + 1 := by have := S2.out; omega
      clear gs hwa BQ' B9 XA RA EA DA BA AT0 BQ DQ hlk d6 d7 y6 y7
      go_wp2_with fail
      rw [HWA.out]
      go_region_held3 (fun w' => w'.cell? ⟨w.heap.size, 0, none⟩ = some (.slice (some ⟨fb, fo, none⟩) n c) ∧ w'.cell? ⟨w.heap.size, 1, none⟩ = some (.int .i64 nx) ∧ w'.cell? ⟨w6.heap.size, 0, none⟩ = some (.int .i64 x.num) ∧ w'.cell? ⟨w6.heap.size, 1, none⟩ = some (.int .i64 x.kind) ∧ w'.cell? ⟨w6.heap.size, 2, none⟩ = some (.int .i64 x.mode) ∧ w'.cell? ⟨w6.heap.size, 3, none⟩ = some (.int .i64 x.links) ∧ w'.cell? ⟨w6.heap.size, 4, none⟩ = some (.slice da' dn' dc') ∧ w'.cell? ⟨w6.heap.size, 5, none⟩ = some (.string x.target) ∧ w'.cell? ⟨w6.heap.size, 6, none⟩ = some (.slice na' nn' nc') ∧ w'.cell? ⟨w6.heap.size, 7, none⟩ = some (.slice za' zn' zc') ∧ w'.cell? ⟨w6.heap.size, 8, none⟩ = some (.slice aa' an' ac') ∧ w'.cell? ⟨w2.heap.size, 0, none⟩ = some (.int .i64 d.num) ∧ w'.cell? ⟨w2.heap.size, 1, none⟩ = some (.int .i64 d.kind) ∧ w'.cell? ⟨w2.heap.size, 2, none⟩ = some (.int .i64 d.mode) ∧ w'.cell? ⟨w2.heap.size, 3, none⟩ = some (.int .i64 d.links) ∧ w'.cell? ⟨w2.heap.size, 4, none⟩ = some (.slice da dn dc) ∧ w'.cell? ⟨w2.heap.size, 5, none⟩ = some (.string d.target) ∧ w'.cell? ⟨w2.heap.size, 6, none⟩ = some (.slice ao8 (nn - 1) c8) ∧ w'.cell? ⟨w2.heap.size, 7, none⟩ = some (.slice ao9 (zn - 1) c9) ∧ w'.cell? ⟨w2.heap.size, 8, none⟩ = some (.slice aa an ac))
        (first | with_reducible exact at20_out AT.out | with_reducible exact at20_alloc AT.out | with_reducible exact at20_set3 AT.out NE0 NE3 NE2)
        (first
          | (go_at_call 50; (with_reducible refine (CL.out _).mono ?_); rintro e w10 ⟨b10, rfl⟩; have AT := Lib.hid (at20_low AT.out b10); have B10 := Lib.hid (below_chain (Below.refl wa.heap.size wa).drew b10); clear b10)
          | (go_at_call 38; (with_reducible refine (CP.out _ B10.out).mono ?_); rintro e w11 ⟨b11, L, v, hPu, rfl, hOw⟩; have GA := below_chain ((Below.refl w10.heap.size w10).alloc (Nat.le_refl _) (.cells #[.int .i64 x.num, .int .i64 x.kind, .int .i64 x.mode, .int .i64 lk, .slice da' dn' dc', .string x.target, .slice na' nn' nc', .slice za' zn' zc', .slice aa' an' ac', .int .i64 d.num, .int .i64 d.kind, .int .i64 d.mode, .int .i64 d.links, .slice da dn dc, .string d.target, .slice ao8 (nn - 1) c8, .slice ao9 (zn - 1) c9, .slice aa an ac] 38)) b11; have AT := Lib.hid (at20_low AT.out GA); have B11 := Lib.hid (below_chain B10.out GA); have PU := Lib.hid hPu; have OW := Lib.hid hOw; obtain ⟨ao2, c2, rfl, _⟩ := hOw; have RR := RAH.out.low B11.out; have r0 := RR.cell 0; have r1 := RR.cell 1; have r2 := RR.cell 2; have z0 := RR.frozen 0; have z1 := RR.frozen 1; have z2 := RR.frozen 2; simp only [List.getElem?_cons_zero, List.getElem?_cons_succ] at r0 r1 r2; clear b11 hPu GA RR CP))
      have K9 := Lib.hid ((((RAH.out.low B11.out).set 0 (.slice ao2 L.length c2)).set 1 (.int .i64 nx)).set 2 (.int .i64 x.num))
      have gs3 := gb_sets (w.heap.size + 1) [.slice ao2 L.length c2, .int .i64 nx, .int .i64 x.num] 0 w11
      have B12 := Lib.hid (below_own (below_chain BAH.out B11.out) gs3 (Nat.le_succ _))
      have O12 := Lib.hid ((OW.out.grown gs3 (by have := RS.out; have := B10.out.size; simp; omega)).low (B' := w.heap.size) (by have := RS.out; have := B10.out.size; simp; omega))
      have HG : Hid (LeaveG l k s L x.num) := ⟨d, DM.out, x, EM.out, i, DK.out, D2.out, ST.out, by rw [XZ.out]; exact ZZ.out, rfl, PU.out⟩
      clear gs3 AT OW PU
      go_wp2_with fail
      exact bodyPost_ret (results_row_tmp rfl _ _ (w.heap.size + 1) 50 _ _ _ rfl rfl K9.out Tryz.underlying50 rfl (size50 _ _ _)) rfl ⟨B12.out, .inr ⟨L, _, _, HG.out, rfl, O12.out⟩⟩
end Go.Proofs.YtcgbaiogbcodcaaGreatDoor.Lw
namespace Go.Proofs.YtcgbaiogbcodcaaGreatDoor.Lw
open Go.RowKit Go.Lib Go.Proofs.YtcgbaiogbcodcaaGreatDoor.Sh Go.Proofs.YtcgbaiogbcodcaaGreatDoor.Lb Go.Proofs.YtcgbaiogbcodcaaGreatDoor.Pf
open Go.Maps

set_option maxHeartbeats 4000000 in
set_option maxRecDepth 100000 in
theorem leave1_any (ao : Option Addr) (l : List InoP) (n c : Nat) (nx k : Int) (s : ByteArray) (b0 b1 b2 : Nat) (w : World) (h : Irw w ao l) (hl : l.length = n) (hn : ao = none → c = 0) (hc : n ≤ c) (hF : FarL l) (hok : OkP l nx)
    (k0 : Sh.Blk w b0 [.slice ao n c, .int .i64 nx] 24) (k1 : w.cell? ⟨b1, 0, none⟩ = some (.int .i64 k)) (k2 : w.cell? ⟨b2, 0, none⟩ = some (.string s)) :
    Calls Tryz.prog 30 #[.pointer (some ⟨b0, 0, none⟩), .pointer (some ⟨b1, 0, none⟩), .pointer (some ⟨b2, 0, none⟩)] w (AnsDo (LeaveM l k s) (LeaveG l k s) nx w) := by
  obtain ⟨w1, hw1⟩ : ∃ w1, w1 = w.alloc (.cells #[.slice none 0 0, .int .i64 0, .int .i64 0] 50) := ⟨_, rfl⟩
  have bb : Below w.heap.size w w1 := by rw [hw1]; exact below_alloc (Below.refl _ w) _
  have r1 : Sh.Blk w1 w.heap.size [.slice none 0 0, .int .i64 0, .int .i64 0] 50 := by rw [hw1]; exact Sh.Blk.new w [.slice none 0 0, .int .i64 0, .int .i64 0] 50 _ rfl
  have s1 : w1.heap.size = w.heap.size + 1 := by rw [hw1]; simp
  have CM := Lib.hid (left_any ao l n c nx k s w1 (h.below bb) hl hn hc hF hok)
  have kk := k0.low bb
  have c0 := kk.cell 0
  have c1 := kk.cell 1
  simp only [List.getElem?_cons_zero, List.getElem?_cons_succ] at c0 c1
  have d1 := (bb.cell (p := ⟨b1, 0, none⟩) (World.block_lt_of_cell? w _ k1)).trans k1
  have d2 := (bb.cell (p := ⟨b2, 0, none⟩) (World.block_lt_of_cell? w _ k2)).trans k2
  have HW1 : Hid (w.alloc (.cells #[.slice none 0 0, .int .i64 0, .int .i64 0] 50) = w1) := hw1.symm
  rw [hw1] at c0 c1 d1 d2
  have B1 := Lib.hid bb
  have R1 := Lib.hid r1
  have S1 := Lib.hid s1
  clear h hl hn hc hF hok k0 k1 k2 bb r1 s1 kk hw1
  go_enter Tryz.func30, Tryz.ntmps30
  go_wp2_with fail
  rw [HW1.out]
  refine CM.out.mono ?_
  clear CM c0 c1 d1 d2 HW1
  rintro e w2 ⟨hb2, hans⟩
  have R2 := R1.out.low hb2
  have r0 := R2.cell 0
  have r1 := R2.cell 1
  have r2 := R2.cell 2
  have z0 := R2.frozen 0
  have z1 := R2.frozen 1
  have z2 := R2.frozen 2
  simp only [List.getElem?_cons_zero, List.getElem?_cons_succ] at r0 r1 r2
  have B2 := Lib.hid (below_chain B1.out hb2)
  rcases hans with ⟨t, m, hm, rfl⟩ | ⟨L, v, r, hp, rfl, hown⟩
  · have K9 := Lib.hid (((R2.set 0 (.slice none 0 0)).set 1 (.int .i64 0)).set 2 (.int .i64 0))
    have gs := gb_sets w.heap.size [.slice none 0 0, .int .i64 0, .int .i64 0] 0 w2
    have B9 := Lib.hid (below_own B2.out gs (Nat.le_refl _))
    have HM := Lib.hid hm
    obtain ⟨y, hy⟩ : ∃ y, y = Ref t m := ⟨_, rfl⟩
    rw [← hy]
    have HY := Lib.hid hy
    clear hb2 R2 gs hm hy
    go_wp2_with fail
    exact bodyPost_ret (results_row_tmp rfl _ _ w.heap.size 50 _ _ _ rfl rfl K9.out Tryz.underlying50 rfl (size50 _ _ _)) rfl ⟨B9.out, .inl ⟨t, m, HM.out, by rw [← HY.out]; rfl⟩⟩
  · have OV := Lib.hid hown
    obtain ⟨ao2, c2, rfl, _⟩ := hown
    have K9 := Lib.hid (((R2.set 0 (.slice ao2 L.length c2)).set 1 (.int .i64 nx)).set 2 (.int .i64 r))
    have gs := gb_sets w.heap.size [.slice ao2 L.length c2, .int .i64 nx, .int .i64 r] 0 w2
    have B9 := Lib.hid (below_own B2.out gs (Nat.le_refl _))
    have O9 := Lib.hid ((OV.out.grown gs (by have := S1.out; omega)).low (B' := w.heap.size) (by have := S1.out; omega))
    have HG := Lib.hid hp
    clear hb2 R2 gs hp OV
    go_wp2_with fail
    exact bodyPost_ret (results_row_tmp rfl _ _ w.heap.size 50 _ _ _ rfl rfl K9.out Tryz.underlying50 rfl (size50 _ _ _)) rfl ⟨B9.out, .inr ⟨L, _, r, HG.out, rfl, O9.out⟩⟩
set_option maxHeartbeats 4000000 in
set_option maxRecDepth 100000 in
theorem leave_any (ao : Option Addr) (l : List InoP) (n c : Nat) (nx k : Int) (s : ByteArray) (w : World) (hE : ErrT w) (h : Irw w ao l) (hl : l.length = n) (hn : ao = none → c = 0) (hc : n ≤ c) (hF : FarL l) :
    Calls Tryz.prog 15 #[.agg #[.slice ao n c, .int .i64 nx], .int .i64 k, .string s] w (AnsDone l (LeaveM l k s) (LeaveG l k s) nx w) := by
  obtain ⟨w1, hw1⟩ : ∃ w1, w1 = (((w.alloc (.cells #[.slice ao n c, .int .i64 nx] 24)).alloc (.cells #[.int .i64 k] 3)).alloc (.cells #[.string s] 9)).alloc (.cells #[.slice none 0 0, .int .i64 0] 24) := ⟨_, rfl⟩
  have bb : Below w.heap.size w w1 := by rw [hw1]; exact below_alloc (below_alloc (below_alloc (below_alloc (Below.refl _ w) _) _) _) _
  have s1 : w1.heap.size = w.heap.size + 4 := by rw [hw1]; simp
  have x0 : Sh.Blk w1 w.heap.size [.slice ao n c, .int .i64 nx] 24 := by rw [hw1]; exact (((Sh.Blk.new w [.slice ao n c, .int .i64 nx] 24 _ rfl).alloc _).alloc _).alloc _
  have x1 : Sh.Blk w1 (w.heap.size + 1) [.int .i64 k] 3 := by rw [hw1]; exact ((Sh.Blk.new _ [.int .i64 k] 3 _ (by simp)).alloc _).alloc _
  have x2 : Sh.Blk w1 (w.heap.size + 2) [.string s] 9 := by rw [hw1]; exact (Sh.Blk.new _ [.string s] 9 _ (by simp)).alloc _
  have r1 : Sh.Blk w1 (w.heap.size + 3) [.slice none 0 0, .int .i64 0] 24 := by rw [hw1]; exact Sh.Blk.new _ [.slice none 0 0, .int .i64 0] 24 _ (by simp)
  have CD := Lib.hid (done_leave ao l n c nx ⟨w.heap.size, 0, none⟩ ⟨w.heap.size + 1, 0, none⟩ ⟨w.heap.size + 2, 0, none⟩ (LeaveM l k s) (LeaveG l k s) w1 (hE.below bb) (h.below bb) hl hn hc hF (fun m hm => by rcases hm with h1 | h1 | h1 <;> rw [h1.1] <;> exact ⟨by decide, by decide⟩)
    (fun hok W hW => leave1_any ao l n c nx k s w.heap.size (w.heap.size + 1) (w.heap.size + 2) W ((h.below bb).below hW) hl hn hc hF hok (x0.low hW) ((x1.low hW).cell 0) ((x2.low hW).cell 0)))
  have c0 := x0.cell 0
  have c1 := x0.cell 1
  simp only [List.getElem?_cons_zero, List.getElem?_cons_succ] at c0 c1
  have HW1 : Hid ((((w.alloc (.cells #[.slice ao n c, .int .i64 nx] 24)).alloc (.cells #[.int .i64 k] 3)).alloc (.cells #[.string s] 9)).alloc (.cells #[.slice none 0 0, .int .i64 0] 24) = w1) := hw1.symm
  rw [hw1] at c0 c1
  have B1 := Lib.hid bb
  have R1 := Lib.hid r1
  have S1 := Lib.hid s1
  clear hE h hl hn hc hF bb s1 x0 x1 x2 r1 hw1
  go_enter Tryz.func15, Tryz.ntmps15
  go_wp2_with fail
  rw [HW1.out]
  refine CD.out.mono ?_
  clear CD c0 c1 HW1
  rintro e w2 ⟨hb2, hans⟩
  have B2 := Lib.hid (below_chain B1.out hb2)
  have SS : Hid (w.heap.size + 4 ≤ w2.heap.size) := by show _ ≤ _; have := S1.out; have := hb2.size; omega
  rcases hans with ⟨v, hy, rfl, hown⟩ | ⟨hok, m, hm, rfl⟩ | ⟨hok, L, r, v, hg, hok2, rfl, hown⟩
  · have OV := Lib.hid hown
    obtain ⟨ao2, c2, rfl, _⟩ := hown
    have R2 := R1.out.low hb2
    have r0 := R2.cell 0
    have r1 := R2.cell 1
    have z0 := R2.frozen 0
    have z1 := R2.frozen 1
    simp only [List.getElem?_cons_zero, List.getElem?_cons_succ] at r0 r1
    have K9 := Lib.hid ((R2.set 0 (.slice ao2 l.length c2)).set 1 (.int .i64 nx))
    have gs := gb_sets (w.heap.size + 3) [.slice ao2 l.length c2, .int .i64 nx] 0 w2
    have B9 := Lib.hid (below_own B2.out gs (by omega))
    have O9 := Lib.hid ((OV.out.grown gs (by have := S1.out; omega)).low (B' := w.heap.size) (by have := S1.out; omega))
    clear OV
    have HY := Lib.hid hy
    clear hb2 R2 gs hy
    go_wp2_with fail
    exact bodyPost_ret (results_row_tmp2 rfl _ _ (w.heap.size + 3) 24 _ _ _ _ rfl rfl rfl K9.out Tryz.underlying24 rfl (size24 _ _)) rfl ⟨B9.out, .inl ⟨_, HY.out, rfl, O9.out⟩⟩
  · have R2 := R1.out.low hb2
    have r0 := R2.cell 0
    have r1 := R2.cell 1
    have z0 := R2.frozen 0
    have z1 := R2.frozen 1
    simp only [List.getElem?_cons_zero, List.getElem?_cons_succ] at r0 r1
    have K9 := Lib.hid ((R2.set 0 (.slice none 0 0)).set 1 (.int .i64 0))
    have gs := gb_sets (w.heap.size + 3) [.slice none 0 0, .int .i64 0] 0 w2
    have B9 := Lib.hid (below_own B2.out gs (by omega))
    have HM := Lib.hid hm
    have HOK := Lib.hid hok
    clear hb2 R2 gs hm hok
    go_wp2_with fail
    exact bodyPost_ret (results_row_tmp2 rfl _ _ (w.heap.size + 3) 24 _ _ _ _ rfl rfl rfl K9.out Tryz.underlying24 rfl (size24 _ _)) rfl ⟨B9.out, .inr (.inl ⟨HOK.out, m, HM.out, rfl⟩)⟩
  · have OV := Lib.hid hown
    obtain ⟨ao2, c2, rfl, _⟩ := hown
    have R2 := R1.out.low hb2
    have r0 := R2.cell 0
    have r1 := R2.cell 1
    have z0 := R2.frozen 0
    have z1 := R2.frozen 1
    simp only [List.getElem?_cons_zero, List.getElem?_cons_succ] at r0 r1
    have K9 := Lib.hid ((R2.set 0 (.slice ao2 L.length c2)).set 1 (.int .i64 nx))
    have gs := gb_sets (w.heap.size + 3) [.slice ao2 L.length c2, .int .i64 nx] 0 w2
    have B9 := Lib.hid (below_own B2.out gs (by omega))
    have O9 := Lib.hid ((OV.out.grown gs (by have := S1.out; omega)).low (B' := w.heap.size) (by have := S1.out; omega))
    clear OV
    have HG := Lib.hid hg
    have H1 := Lib.hid hok
    have H2 := Lib.hid hok2
    clear hb2 R2 gs hg hok hok2
    go_wp2_with fail
    exact bodyPost_ret (results_row_tmp2 rfl _ _ (w.heap.size + 3) 24 _ _ _ _ rfl rfl rfl K9.out Tryz.underlying24 rfl (size24 _ _)) rfl ⟨B9.out, .inr (.inr ⟨H1.out, L, r, _, HG.out, H2.out, rfl, O9.out⟩)⟩
end Go.Proofs.YtcgbaiogbcodcaaGreatDoor.Lw
namespace Go.Proofs.YtcgbaiogbcodcaaGreatDoor.Lw
open Go.RowKit Go.Lib Go.Proofs.YtcgbaiogbcodcaaGreatDoor.Sh Go.Proofs.YtcgbaiogbcodcaaGreatDoor.Lb Go.Proofs.YtcgbaiogbcodcaaGreatDoor.Pf
open Go.Maps Go.Proofs.YtcgbaiogbcodcaaGreatDoor.Nm

def rootP (ns : List ByteArray) (zs : List Int) : InoP := ⟨1, 2, 0, 1, [], ⟨#[]⟩, ns, zs, []⟩
def fileP (lk : Int) : InoP := ⟨2, 1, 420, lk, [], ⟨#[]⟩, [], [], []⟩
def twoP (ns : List ByteArray) (k : Nat) : List InoP := [rootP ns (List.replicate k 2), fileP (k : Int)]
theorem sk_uniq {l : List InoP} {k : Int} {i i' : Nat} {b b' : Bool} (h : Sk l k i b) (h' : Sk l k i' b') (hr : Rise l) : i = i' ∧ b = b' := by
  cases b with
  | true =>
    obtain ⟨x, hx, hk⟩ := h.has.1 rfl
    obtain ⟨e1, e2⟩ := h'.yes hx hk hr
    exact ⟨e1.symm, e2.symm⟩
  | false =>
    cases b' with
    | true =>
      obtain ⟨x, hx, hk⟩ := h'.has.1 rfl
      have := (h.yes hx hk hr).2
      cases this
    | false =>
      refine ⟨?_, rfl⟩
      rcases Nat.lt_trichotomy i i' with h1 | h1 | h1
      · obtain ⟨y, hy⟩ : ∃ y, l[i]? = some y := ⟨_, List.getElem?_eq_getElem (by have := h'.le; omega)⟩
        have h2 := h.high i y (Nat.le_refl _) hy
        have h3 := h'.low i y h1 hy
        omega
      · exact h1
      · obtain ⟨y, hy⟩ : ∃ y, l[i']? = some y := ⟨_, List.getElem?_eq_getElem (by have := h.le; omega)⟩
        have h2 := h'.high i' y (Nat.le_refl _) hy
        have h3 := h.low i' y h1 hy
        omega
theorem st_uniq {l : List ByteArray} {s : ByteArray} {i i' : Nat} {b b' : Bool} (h : St l s i b) (h' : St l s i' b') : i = i' ∧ b = b' := by
  have e : i = i' := by
    rcases Nat.lt_trichotomy i i' with h1 | h1 | h1
    · obtain ⟨y, hy⟩ : ∃ y, l[i]? = some y := ⟨_, List.getElem?_eq_getElem (by have := h'.le; omega)⟩
      have h2 := h.high i y (Nat.le_refl _) hy
      have h3 := h'.low i y h1 hy
      rw [h2] at h3
      cases h3
    · exact h1
    · obtain ⟨y, hy⟩ : ∃ y, l[i']? = some y := ⟨_, List.getElem?_eq_getElem (by have := h.le; omega)⟩
      have h2 := h'.high i' y (Nat.le_refl _) hy
      have h3 := h.low i' y h1 hy
      rw [h2] at h3
      cases h3
  subst e
  refine ⟨rfl, ?_⟩
  cases b with
  | true => exact (h'.has.2 (h.has.1 rfl)).symm
  | false =>
    cases b' with
    | true => exact h.has.2 (h'.has.1 rfl)
    | false => rfl
theorem two_at {ns : List ByteArray} {k j : Nat} {x : InoP} (h : (twoP ns k)[j]? = some x) : (j = 0 ∧ x = rootP ns (List.replicate k 2)) ∨ (j = 1 ∧ x = fileP k) := by
  match j with
  | 0 => exact .inl ⟨rfl, by injection h with h; exact h.symm⟩
  | 1 => exact .inr ⟨rfl, by injection h with h; exact h.symm⟩
  | j + 2 => simp [twoP] at h
theorem two_rise (ns : List ByteArray) (k : Nat) : Rise (twoP ns k) := fun i j x y hij hx hy => by
  rcases two_at hx with ⟨rfl, rfl⟩ | ⟨rfl, rfl⟩ <;> rcases two_at hy with ⟨rfl, rfl⟩ | ⟨rfl, rfl⟩
  · omega
  · show (1 : Int) < 2; decide
  · omega
  · omega
theorem two_file (ns : List ByteArray) (k : Nat) : Sk (twoP ns k) 2 1 true :=
  ⟨by show 1 ≤ 2; decide, fun j x hj hx => by
    rcases two_at hx with ⟨rfl, rfl⟩ | ⟨rfl, rfl⟩
    · show (1 : Int) < 2; decide
    · omega, fun j x hj hx => by
    rcases two_at hx with ⟨rfl, rfl⟩ | ⟨rfl, rfl⟩
    · omega
    · show (2 : Int) ≤ 2; decide, ⟨fun _ => ⟨fileP k, rfl, rfl⟩, fun _ => rfl⟩⟩
theorem two_root (ns : List ByteArray) (k : Nat) : Sk (twoP ns k) 1 0 true :=
  ⟨Nat.zero_le _, fun j x hj hx => by omega, fun j x hj hx => by
    rcases two_at hx with ⟨rfl, rfl⟩ | ⟨rfl, rfl⟩
    · show (1 : Int) ≤ 1; decide
    · show (1 : Int) ≤ 2; decide, ⟨fun _ => ⟨rootP ns (List.replicate k 2), rfl, rfl⟩, fun _ => rfl⟩⟩
theorem st_empty (s : ByteArray) : St [] s 0 false := ⟨Nat.le_refl _, fun j y hj hy => (by omega), fun j y hj hy => (by simp at hy), ⟨fun h => (by cases h), fun h => (by simp at h)⟩⟩
abbrev ta : ByteArray := ⟨#[97]⟩
abbrev tb : ByteArray := ⟨#[98]⟩
theorem lt_ab : ltB ta tb = true := by kernel_rfl
theorem lt_ba : ltB tb ta = false := by kernel_rfl
theorem lt_aa : ltB ta ta = false := by kernel_rfl
theorem lt_bb : ltB tb tb = false := by kernel_rfl
theorem ne_ab : ta ≠ tb := by decide
theorem st_b : St [ta] tb 1 false := ⟨by show 1 ≤ 1; decide, fun j y hj hy => by
    obtain rfl : j = 0 := by omega
    injection hy with hy; subst hy; exact lt_ab, fun j y hj hy => by
    have := (List.getElem?_eq_some_iff.1 hy).1
    simp at this; omega, ⟨fun h => (by cases h), fun h => (by simp at h)⟩⟩
theorem st_a : St [ta, tb] ta 0 true := ⟨Nat.zero_le _, fun j y hj hy => by omega, fun j y hj hy => by
    match j with
    | 0 => injection hy with hy; subst hy; exact lt_aa
    | 1 => injection hy with hy; subst hy; exact lt_ba
    | j + 2 => simp at hy, ⟨fun _ => rfl, fun _ => rfl⟩⟩
theorem ok_a : nameOk ta := by unfold nameOk; decide
theorem ok_b : nameOk tb := by unfold nameOk; decide
theorem en_two (ns : List ByteArray) (k : Nat) : enL (twoP ns k) = (List.replicate k (2 : Int)).map fun n => (n, (1 : Int)) := by
  show ents [(1, List.replicate k 2), (2, [])] = _
  simp [ents]
/-- a directory of one file, in each of its names -/
theorem ok_two {ns : List ByteArray} {k : Nat} (hk : ns.length = k) (h2 : k ≤ 2) (hs : SU ltB ns) (ho : ∀ s ∈ ns, nameOk s) : OkP (twoP ns k) 2 := by
  have hz : k = 0 ∨ k = 1 ∨ k = 2 := by omega
  refine ⟨⟨by show 1 ≤ 2; decide, by show 2 ≤ 512; decide, by decide, by decide, ?_, ?_, ?_⟩, ?_, ⟨?_, ?_, ?_, ?_⟩⟩
  · intro i x y hx hy
    exact two_rise ns k i (i + 1) x y (Nat.lt_succ_self _) hx hy
  · intro x hx
    injection hx with hx
    subst hx
    exact ⟨rfl, rfl⟩
  · intro x hx
    rcases two_at hx with ⟨_, rfl⟩ | ⟨_, rfl⟩
    · show (1 : Int) ≤ 1024; decide
    · show (2 : Int) ≤ 1024; decide
  · intro x hx
    obtain ⟨j, hj⟩ := List.getElem?_of_mem hx
    rcases two_at hj with ⟨_, rfl⟩ | ⟨_, rfl⟩
    · refine ⟨⟨by show within 2 1 3; decide, by show within 0 0 4095; decide, by show within 1 0 64; decide, by show within 0 0 32768; decide, ?_, by show 0 ≤ 8; decide, fun a ha => (by cases ha), fun a ha => (by cases ha), List.Pairwise.nil, by show 0 ≤ 128; decide, fun a ha => (by cases ha), rfl, fun _ => rfl⟩, fun _ => ⟨⟨?_, ho, hs, ?_, ?_, fun h => by cases h⟩, ?_, rfl, rfl⟩, fun h => absurd rfl h⟩
      · rw [if_neg (by show ¬ (2 : Int) = 3; decide)]; rfl
      · show ns.length ≤ 256; omega
      · show (List.replicate k (2 : Int)).length = ns.length; rw [List.length_replicate, hk]
      · intro n hn
        have := (List.mem_replicate.1 hn).2
        subst this
        show within 2 0 1024
        decide
      · show ns.length ≤ 128; omega
    · refine ⟨⟨by show within 1 1 3; decide, by show within 420 0 4095; decide, ?_, by show within 0 0 32768; decide, ?_, by show 0 ≤ 8; decide, fun a ha => (by cases ha), fun a ha => (by cases ha), List.Pairwise.nil, by show 0 ≤ 128; decide, fun a ha => (by cases ha), rfl, fun _ => rfl⟩, fun h => absurd h (by show ¬ (1 : Int) = 2; decide), fun _ => ⟨?_, rfl, rfl⟩⟩
      · show within (k : Int) 0 64
        unfold within
        omega
      · rw [if_neg (by show ¬ (1 : Int) = 3; decide)]; rfl
      · show ((0 : Nat) : Int) ≤ if (1 : Int) = 1 then 32768 else 0
        decide
  · rw [en_two]
    clear hk hs
    rcases hz with rfl | rfl | rfl <;> decide
  · intro x hx
    obtain ⟨j, hj⟩ := List.getElem?_of_mem hx
    rw [en_two]
    clear hk hs
    rcases two_at hj with ⟨_, rfl⟩ | ⟨_, rfl⟩
    · refine ⟨?_, fun h => absurd rfl h⟩
      show ((times _ 1 : Nat) : Int) ≤ 1
      rcases hz with rfl | rfl | rfl <;> decide
    · show ((times _ 2 : Nat) : Int) ≤ (k : Int) ∧ (_ → ((times _ 2 : Nat) : Int) = (k : Int))
      rcases hz with rfl | rfl | rfl <;> exact ⟨by decide, fun _ => by decide⟩
  · rw [en_two]
    show ([1, 2] : List Int).countP _ = _
    clear hk hs
    rcases hz with rfl | rfl | rfl <;> decide
  · intro x hx
    obtain ⟨j, hj⟩ := List.getElem?_of_mem hx
    rw [en_two]
    clear hk hs
    rcases two_at hj with ⟨_, rfl⟩ | ⟨_, rfl⟩
    · refine ⟨1, ?_⟩
      show upN _ 1 1 = 0
      rcases hz with rfl | rfl | rfl <;> decide
    · refine ⟨2, ?_⟩
      show upN _ 2 2 = 0
      rcases hz with rfl | rfl | rfl <;> decide
/-- a file more -/
theorem one_made {L : List InoP} {r : Int} (h : MadeG [rootP [] []] 2 1 420 ⟨#[]⟩ L r) : r = 2 ∧ L = twoP [] 0 := by
  obtain ⟨_, rfl, i, b, hs, hp⟩ := h
  have hR : Rise [rootP [] []] := fun i j x y hij hx hy => by
    have h1 := (List.getElem?_eq_some_iff.1 hx).1
    have h2 := (List.getElem?_eq_some_iff.1 hy).1
    simp at h1 h2
    omega
  have hs' : Sk [rootP [] []] 2 1 false := ⟨by show 1 ≤ 1; decide, fun j x hj hx => by
    obtain rfl : j = 0 := by omega
    injection hx with hx
    subst hx
    show (1 : Int) < 2
    decide, fun j x hj hx => by
    have := (List.getElem?_eq_some_iff.1 hx).1
    simp at this
    omega, ⟨fun h => (by cases h), fun ⟨x, hx, _⟩ => (by simp at hx)⟩⟩
  obtain ⟨rfl, rfl⟩ := sk_uniq hs hs' hR
  have hp : L = putAt [rootP [] []] 1 false (newP [rootP [] []] 2 1 420 ⟨#[]⟩) := hp
  subst hp
  exact ⟨rfl, rfl⟩
/-- a name more -/
theorem two_enter {ns : List ByteArray} {k : Nat} {s : ByteArray} {L : List InoP} {r : Int} {i0 : Nat} (hk : ns.length = k) (hi : St ns s i0 false) (h : EnterG (twoP ns k) 1 s 2 L r) : L = twoP (ns.take i0 ++ s :: ns.drop i0) (k + 1) := by
  obtain ⟨_, d, hd, x, hx, i, hdk, _, hxk, _, hst, _, _, i1, b1, h1, i2, b2, h2, hp⟩ := h
  obtain ⟨j, hj⟩ := List.getElem?_of_mem hd
  obtain ⟨j', hj'⟩ := List.getElem?_of_mem hx
  have ed : d = rootP ns (List.replicate k 2) := by
    rcases two_at hj with ⟨_, rfl⟩ | ⟨_, rfl⟩
    · rfl
    · exact absurd hdk (by show ¬ (2 : Int) = 1; decide)
  have ex : x = fileP k := by
    rcases two_at hj' with ⟨_, rfl⟩ | ⟨_, rfl⟩
    · exact absurd hxk (by show ¬ (1 : Int) = 2; decide)
    · rfl
  subst ed ex
  obtain ⟨rfl, _⟩ := st_uniq hst hi
  obtain ⟨rfl, rfl⟩ := sk_uniq h1 (two_file ns k) (two_rise ns k)
  have e1 : putAt (twoP ns k) 1 true (linkP (fileP k) 1) = [rootP ns (List.replicate k 2), fileP (k + 1)] := rfl
  rw [e1] at h2 hp
  have hR : Rise [rootP ns (List.replicate k 2), fileP (k + 1)] := fun i j x y hij hx hy => by
    have a1 := (List.getElem?_eq_some_iff.1 hx).1
    have a2 := (List.getElem?_eq_some_iff.1 hy).1
    simp at a1 a2
    obtain rfl : i = 0 := by omega
    obtain rfl : j = 1 := by omega
    injection hx with hx
    injection hy with hy
    subst hx hy
    show (1 : Int) < 2
    decide
  obtain ⟨e0, e0'⟩ := h2.yes (j := 0) (x := rootP ns (List.replicate k 2)) rfl rfl hR
  subst e0 e0'
  have hp : L = [dirP (rootP ns (List.replicate k 2)) i s 2, fileP (k + 1)] := hp
  rw [hp]
  show [rootP (ns.take i ++ s :: ns.drop i) ((List.replicate k 2).take i ++ 2 :: (List.replicate k 2).drop i), fileP (k + 1)] = [rootP (ns.take i ++ s :: ns.drop i) (List.replicate (k + 1) 2), fileP ((k + 1 : Nat) : Int)]
  have hil : i ≤ k := by have h5 : i ≤ ns.length := hst.le; omega
  rw [List.take_replicate, List.drop_replicate, Nat.min_eq_left hil, ← List.replicate_succ, List.replicate_append_replicate, show i + (k - i + 1) = k + 1 by omega, show (((k + 1 : Nat) : Nat) : Int) = (k : Int) + 1 by omega]
/-- a name less -/
theorem two_leave {ns : List ByteArray} {k : Nat} {s : ByteArray} {L : List InoP} {r : Int} {i0 : Nat} (hk : ns.length = k + 1) (hi : St ns s i0 true) (h : LeaveG (twoP ns (k + 1)) 1 s L r) : L = twoP (ns.take i0 ++ ns.drop (i0 + 1)) k ∧ r = 2 := by
  obtain ⟨d, hd, x, hx, i, hdk, hd2, hst, hzx, rfl, i1, b1, h1, i2, b2, h2, hp⟩ := h
  obtain ⟨j, hj⟩ := List.getElem?_of_mem hd
  obtain ⟨j', hj'⟩ := List.getElem?_of_mem hx
  have ed : d = rootP ns (List.replicate (k + 1) 2) := by
    rcases two_at hj with ⟨_, rfl⟩ | ⟨_, rfl⟩
    · rfl
    · exact absurd hdk (by show ¬ (2 : Int) = 1; decide)
  subst ed
  have hx2 : x.num = 2 := (List.mem_replicate.1 (List.mem_of_getElem? hzx)).2
  have ex : x = fileP ((k + 1 : Nat) : Int) := by
    rcases two_at hj' with ⟨_, rfl⟩ | ⟨_, rfl⟩
    · exact absurd hx2 (by show ¬ (1 : Int) = 2; decide)
    · rfl
  subst ex
  obtain ⟨rfl, _⟩ := st_uniq hst hi
  obtain ⟨rfl, rfl⟩ := sk_uniq h1 (two_file ns (k + 1)) (two_rise ns (k + 1))
  have e1 : putAt (twoP ns (k + 1)) 1 true (linkP (fileP ((k + 1 : Nat) : Int)) (-1)) = [rootP ns (List.replicate (k + 1) 2), fileP k] := by
    show [rootP ns (List.replicate (k + 1) 2), fileP (((k + 1 : Nat) : Int) + -1)] = _
    rw [show (((k + 1 : Nat) : Int) + -1) = (k : Int) by omega]
  rw [e1] at h2 hp
  have hR : Rise [rootP ns (List.replicate (k + 1) 2), fileP k] := fun i j x y hij hx hy => by
    have a1 := (List.getElem?_eq_some_iff.1 hx).1
    have a2 := (List.getElem?_eq_some_iff.1 hy).1
    simp at a1 a2
    obtain rfl : i = 0 := by omega
    obtain rfl : j = 1 := by omega
    injection hx with hx
    injection hy with hy
    subst hx hy
    show (1 : Int) < 2
    decide
  obtain ⟨e0, e0'⟩ := h2.yes (j := 0) (x := rootP ns (List.replicate (k + 1) 2)) rfl rfl hR
  subst e0 e0'
  have hp : L = [dirM (rootP ns (List.replicate (k + 1) 2)) i, fileP k] := hp
  refine ⟨?_, hx2⟩
  rw [hp]
  show [rootP (ns.take i ++ ns.drop (i + 1)) ((List.replicate (k + 1) 2).take i ++ (List.replicate (k + 1) 2).drop (i + 1)), fileP k] = [rootP (ns.take i ++ ns.drop (i + 1)) (List.replicate k 2), fileP k]
  have hil : i < k + 1 := by have h5 : i < ns.length := (List.getElem?_eq_some_iff.1 (hst.has.1 rfl)).1; omega
  rw [List.take_replicate, List.drop_replicate, Nat.min_eq_left (by omega), List.replicate_append_replicate, show i + (k + 1 - (i + 1)) = k by omega]
end Go.Proofs.YtcgbaiogbcodcaaGreatDoor.Lw
namespace Go.Proofs.YtcgbaiogbcodcaaGreatDoor.Lw
open Go.RowKit Go.Lib Go.Proofs.YtcgbaiogbcodcaaGreatDoor.Sh Go.Proofs.YtcgbaiogbcodcaaGreatDoor.Lb Go.Proofs.YtcgbaiogbcodcaaGreatDoor.Pf
open Go.Maps Go.Proofs.YtcgbaiogbcodcaaGreatDoor.Nm

/-- such a one, made anew, within what is answered -/
def Got (ns : List ByteArray) (k : Nat) (f : Value → Value) (w : World) (e : Ending) (w' : World) : Prop := Below w.heap.size w w' ∧ ∃ g c, e = .returned (f (.agg #[.slice (some ⟨g, 0, none⟩) 2 c, .int .i64 2])) ∧ OwnI w.heap.size w' (twoP ns k) (.slice (some ⟨g, 0, none⟩) 2 c)
theorem own_two {B : Nat} {w : World} {ns : List ByteArray} {k : Nat} {v : Value} (h : OwnI B w (twoP ns k) v) : ∃ g c, v = .slice (some ⟨g, 0, none⟩) 2 c := by
  obtain ⟨ao, c, rfl, _, _, _, h4⟩ := h
  obtain ⟨g, P, rfl, _⟩ := h4 (by simp [twoP])
  exact ⟨g, c, rfl⟩
theorem own_two_irw {B g c : Nat} {w : World} {ns : List ByteArray} {k : Nat} (h : OwnI B w (twoP ns k) (.slice (some ⟨g, 0, none⟩) 2 c)) : Irw w (some ⟨g, 0, none⟩) (twoP ns k) ∧ 2 ≤ c ∧ c ≤ 9223372036854775807 := by
  obtain ⟨ao, c', e, h1, h2, _, h4⟩ := h
  injection e with e1 _ e3
  subst e1 e3
  obtain ⟨g', P, e, hr⟩ := h4 (by simp [twoP])
  injection e with e
  injection e with e _ _
  subst e
  exact ⟨hr.irw (by show 2 ≤ _; decide), h1, h2⟩
theorem far_two {ns : List ByteArray} {k : Nat} (hk : ns.length = k) (h2 : k ≤ 2) : FarL (twoP ns k) :=
  ⟨by show 2 * 144 ≤ _; decide, fun x hx => by
    obtain ⟨j, hj⟩ := List.getElem?_of_mem hx
    rcases two_at hj with ⟨_, rfl⟩ | ⟨_, rfl⟩
    · exact ⟨by show 0 ≤ _; decide, by show ns.length * 16 ≤ _; omega, by show (List.replicate k (2 : Int)).length * 8 ≤ _; rw [List.length_replicate]; omega, by show 0 * 40 ≤ _; decide, fun a ha => (by cases ha)⟩
    · exact ⟨by show 0 ≤ _; decide, by show 0 * 16 ≤ _; decide, by show 0 * 8 ≤ _; decide, by show 0 * 40 ≤ _; decide, fun a ha => (by cases ha)⟩⟩
theorem enter_two {ns ns' : List ByteArray} {k i0 : Nat} {s : ByteArray} (ao : Option Addr) (c : Nat) (w : World) (hE : ErrT w) (h : Irw w ao (twoP ns k)) (hn : ao = none → c = 0) (hc : 2 ≤ c)
    (hk : ns.length = k) (h2 : k + 1 ≤ 2) (hs : SU ltB ns) (ho : ∀ s ∈ ns, nameOk s) (hi : St ns s i0 false) (hso : nameOk s) (he : ns.take i0 ++ s :: ns.drop i0 = ns') (hs' : SU ltB ns') (ho' : ∀ s ∈ ns', nameOk s) :
    Calls Tryz.prog 14 #[.agg #[.slice ao 2 c, .int .i64 2], .int .i64 1, .string s, .int .i64 2] w (Got ns' (k + 1) (fun v => .tuple #[v, .int .i64 0]) w) := by
  have OK := ok_two hk (by omega) hs ho
  have hl' : ns'.length = k + 1 := by rw [← he]; have := hi.le; simp; omega
  have OK' := ok_two hl' h2 hs' ho'
  have sno : s ∉ ns := hi.not_mem hs rfl
  refine (enter_any ao (twoP ns k) 2 c 2 1 2 s w hE h rfl hn hc (far_two hk (by omega))).mono ?_
  rintro e w' ⟨hb, ⟨v, h1 | ⟨_, L, r, hg, h1⟩, _⟩ | ⟨_, m, ⟨_, hm⟩, _⟩ | ⟨_, L, r, v, hg, _, rfl, hown⟩⟩
  · exact absurd OK h1
  · have := two_enter hk hi hg
    subst this
    rw [he] at h1
    exact absurd OK' h1
  · exfalso
    rcases hm with h1 | h1 | ⟨d, hd, hdk, h1⟩ | h1 | ⟨x, hx, _, h1⟩ | ⟨d, hd, hdk, h1⟩
    · exact h1 (rootP ns (List.replicate k 2)) (by simp [twoP]) rfl rfl
    · exact h1 hso
    · obtain ⟨j, hj⟩ := List.getElem?_of_mem hd
      rcases two_at hj with ⟨_, rfl⟩ | ⟨_, rfl⟩
      · exact sno h1
      · exact absurd hdk (by show ¬ (2 : Int) = 1; decide)
    · exact h1 (fileP k) (by simp [twoP]) rfl
    · obtain ⟨j, hj⟩ := List.getElem?_of_mem hx
      rcases two_at hj with ⟨_, rfl⟩ | ⟨_, rfl⟩
      · exact absurd h1 (by show ¬ (1 : Int) = 64; decide)
      · have h1 : (k : Int) = 64 := h1
        omega
    · obtain ⟨j, hj⟩ := List.getElem?_of_mem hd
      rcases two_at hj with ⟨_, rfl⟩ | ⟨_, rfl⟩
      · have h1 : ns.length = 128 := h1
        omega
      · exact absurd hdk (by show ¬ (2 : Int) = 1; decide)
  · have := two_enter hk hi hg
    subst this
    rw [he] at hown
    obtain ⟨g, c', rfl⟩ := own_two hown
    exact ⟨hb, g, c', rfl, hown⟩
theorem leave_two {ns ns' : List ByteArray} {k i0 : Nat} {s : ByteArray} (ao : Option Addr) (c : Nat) (w : World) (hE : ErrT w) (h : Irw w ao (twoP ns (k + 1))) (hn : ao = none → c = 0) (hc : 2 ≤ c)
    (hk : ns.length = k + 1) (h2 : k + 1 ≤ 2) (hs : SU ltB ns) (ho : ∀ s ∈ ns, nameOk s) (hi : St ns s i0 true) (he : ns.take i0 ++ ns.drop (i0 + 1) = ns') (hs' : SU ltB ns') (ho' : ∀ s ∈ ns', nameOk s) :
    Calls Tryz.prog 15 #[.agg #[.slice ao 2 c, .int .i64 2], .int .i64 1, .string s] w (Got ns' k (fun v => .tuple #[v, .int .i64 2, .int .i64 0]) w) := by
  have OK := ok_two hk h2 hs ho
  have hin := (List.getElem?_eq_some_iff.1 (hi.has.1 rfl)).1
  have hl' : ns'.length = k := by rw [← he]; simp; omega
  have OK' := ok_two hl' (by omega) hs' ho'
  have sin : s ∈ ns := List.mem_of_getElem? (hi.has.1 rfl)
  refine (leave_any ao (twoP ns (k + 1)) 2 c 2 1 s w hE h rfl hn hc (far_two hk h2)).mono ?_
  rintro e w' ⟨hb, ⟨v, h1 | ⟨_, L, r, hg, h1⟩, _⟩ | ⟨_, m, hm, _⟩ | ⟨_, L, r, v, hg, _, rfl, hown⟩⟩
  · exact absurd OK h1
  · have := (two_leave hk hi hg).1
    subst this
    rw [he] at h1
    exact absurd OK' h1
  · exfalso
    rcases hm with ⟨_, h1⟩ | ⟨_, x, hx, hxk, h1⟩ | ⟨_, x, hx, hxk, _, h1⟩
    · exact h1 (rootP ns (List.replicate (k + 1) 2)) (by simp [twoP]) rfl
    · obtain ⟨j, hj⟩ := List.getElem?_of_mem hx
      rcases two_at hj with ⟨_, rfl⟩ | ⟨_, rfl⟩
      · exact h1 rfl
      · exact absurd hxk (by show ¬ (2 : Int) = 1; decide)
    · obtain ⟨j, hj⟩ := List.getElem?_of_mem hx
      rcases two_at hj with ⟨_, rfl⟩ | ⟨_, rfl⟩
      · exact h1 sin
      · exact absurd hxk (by show ¬ (2 : Int) = 1; decide)
  · obtain ⟨rfl, rfl⟩ := two_leave hk hi hg
    rw [he] at hown
    obtain ⟨g, c', rfl⟩ := own_two hown
    exact ⟨hb, g, c', rfl, hown⟩
theorem lookup_two {ns : List ByteArray} {k : Nat} {s : ByteArray} (ao : Option Addr) (c : Nat) (w : World) (hE : ErrT w) (h : Irw w ao (twoP ns k)) (hk : ns.length = k) (h2 : k ≤ 2) (hs : SU ltB ns) (ho : ∀ s ∈ ns, nameOk s) (b : Bool) (hb : b = true ↔ s ∈ ns) :
    Calls Tryz.prog 11 #[.agg #[.slice ao 2 c, .int .i64 2], .int .i64 1, .string s] w fun e w' => Below w.heap.size w w' ∧ e = .returned (.tuple (if b = true then #[.int .i64 2, .int .i64 0] else #[.int .i64 0, .int .i64 201])) := by
  have OK := ok_two hk h2 hs ho
  refine (lookup_any ao (twoP ns k) 2 c 2 1 s w hE h rfl).mono ?_
  rintro e w' ⟨hbw, ⟨h1, _⟩ | ⟨_, d, i, z, hd, hdk, _, hn, hz, rfl⟩ | ⟨_, m, hm, rfl⟩⟩
  · exact absurd OK h1
  · obtain ⟨j, hj⟩ := List.getElem?_of_mem hd
    rcases two_at hj with ⟨_, rfl⟩ | ⟨_, rfl⟩
    · have hz2 : z = 2 := (List.mem_replicate.1 (List.mem_of_getElem? hz)).2
      subst hz2
      rw [if_pos (hb.2 (List.mem_of_getElem? hn))]
      exact ⟨hbw, rfl⟩
    · exact absurd hdk (by show ¬ (2 : Int) = 1; decide)
  · rcases hm with ⟨_, h1⟩ | ⟨_, x, hx, hxk, h1⟩ | ⟨rfl, x, hx, hxk, _, h1⟩
    · exact absurd rfl (h1 (rootP ns (List.replicate k 2)) (by simp [twoP]))
    · obtain ⟨j, hj⟩ := List.getElem?_of_mem hx
      rcases two_at hj with ⟨_, rfl⟩ | ⟨_, rfl⟩
      · exact absurd rfl h1
      · exact absurd hxk (by show ¬ (2 : Int) = 1; decide)
    · obtain ⟨j, hj⟩ := List.getElem?_of_mem hx
      rcases two_at hj with ⟨_, rfl⟩ | ⟨_, rfl⟩
      · rw [if_neg (fun e => h1 (hb.1 e))]
        exact ⟨hbw, rfl⟩
      · exact absurd hxk (by show ¬ (2 : Int) = 1; decide)
/-- a file that has a name is not taken away -/
theorem drop_two {ns : List ByteArray} {k : Nat} (ao : Option Addr) (c : Nat) (w : World) (hE : ErrT w) (h : Irw w ao (twoP ns (k + 1))) (hn : ao = none → c = 0) (hc : 2 ≤ c) (hk : ns.length = k + 1) (h2 : k + 1 ≤ 2) (hs : SU ltB ns) (ho : ∀ s ∈ ns, nameOk s) :
    Calls Tryz.prog 10 #[.agg #[.slice ao 2 c, .int .i64 2], .int .i64 2] w fun e w' => Below w.heap.size w w' ∧ e = .returned (.tuple #[.agg #[.slice none 0 0, .int .i64 0], .int .i64 215]) := by
  have OK := ok_two hk h2 hs ho
  have ht : times (enL (twoP ns (k + 1))) 2 ≠ 0 := by
    rw [en_two]
    have hz : k = 0 ∨ k = 1 := by omega
    clear hk hs OK h
    rcases hz with rfl | rfl <;> decide
  refine (drop_any ao (twoP ns (k + 1)) 2 c 2 2 w hE h rfl hn hc (far_two hk h2)).mono ?_
  rintro e w' ⟨hb, ⟨v, h1 | ⟨_, L, r, ⟨_, i, x, _, _, _, _, hg, _⟩, h1⟩, _⟩ | ⟨_, m, hm, rfl⟩ | ⟨_, L, r, v, ⟨_, i, x, _, _, _, _, hg, _⟩, _⟩⟩
  · exact absurd OK h1
  · exact absurd hg ht
  · rcases hm with ⟨_, h1⟩ | ⟨rfl, _⟩
    · exact absurd rfl (h1 (fileP ((k + 1 : Nat) : Int)) (by simp [twoP]))
    · exact ⟨hb, rfl⟩
  · exact absurd hg ht
theorem drop_none (w : World) (hE : ErrT w) : Calls Tryz.prog 10 #[.agg #[.slice none 0 0, .int .i64 0], .int .i64 1] w fun e w' => Below w.heap.size w w' ∧ ∃ ao c, e = .returned (.tuple #[.agg #[.slice ao 0 c, .int .i64 0], .int .i64 2]) := by
  have NO : ¬ OkP [] 0 := fun h => by have := h.nums.one; simp at this
  refine (drop_any none [] 0 0 0 1 w hE (fun h => absurd rfl h) rfl (fun _ => rfl) (Nat.le_refl _) ⟨by simp, fun x hx => by cases hx⟩).mono ?_
  rintro e w' ⟨hb, ⟨v, _, rfl, ao, c, rfl, _⟩ | ⟨h, _⟩ | ⟨h, _⟩⟩
  · exact ⟨hb, ao, c, rfl⟩
  · exact absurd h NO
  · exact absurd h NO
/-- a file more in a directory of none -/
theorem make_one (ao : Option Addr) (c : Nat) (w : World) (hE : ErrT w) (h : Irw w ao [rootP [] []]) (hn : ao = none → c = 0) (hc : 1 ≤ c) (OK1 : OkP [rootP [] []] 2) :
    Calls Tryz.prog 7 #[.agg #[.slice ao 1 c, .int .i64 2], .int .i64 1, .int .i64 420, .string ⟨#[]⟩] w (Got [] 0 (fun v => .tuple #[v, .int .i64 2, .int .i64 0]) w) := by
  have OK' : OkP (twoP [] 0) 2 := ok_two rfl (by decide) List.Pairwise.nil (fun s hs => by cases hs)
  refine (make_any ao [rootP [] []] 1 c 2 1 420 ⟨#[]⟩ w hE h rfl hn hc ⟨by show 1 * 144 ≤ _; decide, fun x hx => by
    obtain rfl := List.mem_singleton.1 hx
    exact ⟨by show 0 ≤ _; decide, by show 0 * 16 ≤ _; decide, by show 0 * 8 ≤ _; decide, by show 0 * 40 ≤ _; decide, fun a ha => (by cases ha)⟩⟩ (by decide)).mono ?_
  rintro e w' ⟨hb, ⟨v, h1 | ⟨_, L, r, hg, h1⟩, _⟩ | ⟨_, m, ⟨_, hm⟩, _⟩ | ⟨_, L, r, v, hg, _, rfl, hown⟩⟩
  · exact absurd OK1 h1
  · obtain ⟨_, rfl⟩ := one_made hg
    exact absurd OK' h1
  · exact absurd hm (by show ¬ 1 = 512; decide)
  · obtain ⟨rfl, rfl⟩ := one_made hg
    obtain ⟨g, c', rfl⟩ := own_two hown
    exact ⟨hb, g, c', rfl, hown⟩
theorem ok_one : OkP [rootP [] []] 2 := by
  have ha : ∀ {j : Nat} {x : InoP}, ([rootP [] []] : List InoP)[j]? = some x → j = 0 ∧ x = rootP [] [] := fun {j x} h => by
    match j with
    | 0 => exact ⟨rfl, by injection h with h; exact h.symm⟩
    | j + 1 => simp at h
  refine ⟨⟨by decide, by decide, by decide, by decide, ?_, ?_, ?_⟩, ?_, ⟨by decide, ?_, by decide, ?_⟩⟩
  · intro i x y hx hy
    have h1 := (ha hx).1
    have h2 := (ha hy).1
    omega
  · intro x hx
    rw [(ha hx).2]
    exact ⟨rfl, rfl⟩
  · intro x hx
    rw [(ha hx).2]
    show (1 : Int) ≤ 1024
    decide
  · intro x hx
    obtain rfl := List.mem_singleton.1 hx
    exact (ok_two (ns := []) (k := 0) rfl (by decide) List.Pairwise.nil (fun s hs => by cases hs)).each (rootP [] []) (by simp [twoP])
  · intro x hx
    obtain rfl := List.mem_singleton.1 hx
    exact ⟨by decide, fun h => absurd rfl h⟩
  · intro x hx
    obtain rfl := List.mem_singleton.1 hx
    exact ⟨1, by decide⟩
end Go.Proofs.YtcgbaiogbcodcaaGreatDoor.Lw
namespace Go.Proofs.YtcgbaiogbcodcaaGreatDoor.Lw
open Go.RowKit Go.Lib Go.Proofs.YtcgbaiogbcodcaaGreatDoor.Sh Go.Proofs.YtcgbaiogbcodcaaGreatDoor.Lb Go.Proofs.YtcgbaiogbcodcaaGreatDoor.Pf
open Go.Maps Go.Proofs.YtcgbaiogbcodcaaGreatDoor.Nm

theorem root_irw_of {w : World} {g : Nat} (K : Sh.Blk w g [.int .i64 1, .int .i64 2, .int .i64 0, .int .i64 1, .slice none 0 0, .string ⟨#[]⟩, .slice none 0 0, .slice none 0 0, .slice none 0 0] 38) : Irw w (some ⟨g, 0, none⟩) [rootP [] []] := fun _ => by
  refine ⟨g, 0, rfl, K.lt, fun j x hx => ?_⟩
  match j with
  | 0 =>
    obtain rfl : rootP [] [] = x := by injection hx
    exact ⟨none, 0, 0, none, 0, 0, none, 0, 0, none, 0, 0, ⟨K.cell 0, K.cell 1, K.cell 2, K.cell 3, K.cell 4, K.cell 5, K.cell 6, K.cell 7, K.cell 8⟩, ⟨rfl, by omega, by omega, byt_nil _ _, fun _ => rfl, rfl, by omega, by omega, srw_nil _ _, fun _ => rfl, rfl, by omega, by omega, fun h => absurd rfl h, fun _ => rfl, rfl, by omega, by omega, fun h => absurd rfl h, fun _ => rfl, by decide⟩⟩
  | j + 1 => simp at hx
set_option maxHeartbeats 4000000 in
set_option maxRecDepth 100000 in
theorem empty_any (w : World) : Calls Tryz.prog 13 #[] w fun e w' => Below w.heap.size w w' ∧ ∃ g, e = .returned (.agg #[.slice (some ⟨g, 0, none⟩) 1 1, .int .i64 2]) ∧ Irw w' (some ⟨g, 0, none⟩) [rootP [] []] := by
  have b1 : Below w.heap.size w ((w.alloc (.cells #[.slice (some ⟨w.heap.size + 1, 0, none⟩) 1 1, .int .i64 2] 24)).alloc (.cells #[.int .i64 1, .int .i64 2, .int .i64 0, .int .i64 1, .slice none 0 0, .string ⟨#[]⟩, .slice none 0 0, .slice none 0 0, .slice none 0 0] 38)) := below_alloc (below_alloc (Below.refl _ w) _) _
  have K9 := Lib.hid ((Sh.Blk.new w [.slice (some ⟨w.heap.size + 1, 0, none⟩) 1 1, .int .i64 2] 24 _ rfl).alloc (.cells #[.int .i64 1, .int .i64 2, .int .i64 0, .int .i64 1, .slice none 0 0, .string ⟨#[]⟩, .slice none 0 0, .slice none 0 0, .slice none 0 0] 38))
  have Y9 : Hid (Sh.Blk ((w.alloc (.cells #[.slice (some ⟨w.heap.size + 1, 0, none⟩) 1 1, .int .i64 2] 24)).alloc (.cells #[.int .i64 1, .int .i64 2, .int .i64 0, .int .i64 1, .slice none 0 0, .string ⟨#[]⟩, .slice none 0 0, .slice none 0 0, .slice none 0 0] 38)) (w.heap.size + 1) [.int .i64 1, .int .i64 2, .int .i64 0, .int .i64 1, .slice none 0 0, .string ⟨#[]⟩, .slice none 0 0, .slice none 0 0, .slice none 0 0] 38) := Sh.Blk.new _ [.int .i64 1, .int .i64 2, .int .i64 0, .int .i64 1, .slice none 0 0, .string ⟨#[]⟩, .slice none 0 0, .slice none 0 0, .slice none 0 0] 38 _ (by simp)
  have B9 := Lib.hid b1
  clear b1
  go_enter Tryz.func13, Tryz.ntmps13
  go_wp2_with fail
  exact bodyPost_ret (results_cell_row rfl _ _ w.heap.size 24 _ (0, 0) _ rfl K9.out Tryz.underlying24 rfl (size24 _ _)) rfl ⟨B9.out, _, rfl, root_irw_of Y9.out⟩
set_option maxHeartbeats 16000000 in
set_option maxRecDepth 100000 in
theorem heads_any (w : World) (hE : ErrT w) : Calls Tryz.prog 6 #[] w fun e w' => e = .returned (.bool true) ∧ Below w.heap.size w w' := by
  have SA : Hid (SU ltB [ta] ∧ ∀ s ∈ [ta], nameOk s) := ⟨List.pairwise_singleton _ _, fun s hs => by obtain rfl := List.mem_singleton.1 hs; exact ok_a⟩
  have SB : Hid (SU ltB [tb] ∧ ∀ s ∈ [tb], nameOk s) := ⟨List.pairwise_singleton _ _, fun s hs => by obtain rfl := List.mem_singleton.1 hs; exact ok_b⟩
  have SAB : Hid (SU ltB [ta, tb] ∧ ∀ s ∈ [ta, tb], nameOk s) := ⟨List.pairwise_cons.2 ⟨fun x hx => by obtain rfl := List.mem_singleton.1 hx; exact lt_ab, List.pairwise_singleton _ _⟩, fun s hs => by
    rcases List.mem_cons.1 hs with rfl | hs
    · exact ok_a
    · obtain rfl := List.mem_singleton.1 hs; exact ok_b⟩
  have E0 := Lib.hid hE
  have C0 := Lib.hid (empty_any w)
  clear hE
  go_enter Tryz.func6, Tryz.ntmps6
  go_wp2_with fail
  refine C0.out.mono ?_
  clear C0
  rintro e w1 ⟨hb, g0, rfl, hi⟩
  have B1 := Lib.hid hb
  have C1 := Lib.hid (make_one (some ⟨g0, 0, none⟩) 1 w1 (E0.out.below hb) hi (fun h => by cases h) (Nat.le_refl _) ok_one)
  clear hb hi
  go_wp2_with fail
  refine C1.out.mono ?_
  clear C1
  rintro e w2 ⟨hb, g1, c1, rfl, hown⟩
  obtain ⟨v2, hv2⟩ : ∃ v2, v2 = w2.alloc (.cells #[.slice (some ⟨g1, 0, none⟩) 2 c1, .int .i64 2] 24) := ⟨_, rfl⟩
  have b2 : Below w2.heap.size w2 v2 := by rw [hv2]; exact below_alloc (Below.refl _ w2) _
  have F2 : Sh.Blk v2 w2.heap.size [.slice (some ⟨g1, 0, none⟩) 2 c1, .int .i64 2] 24 := by rw [hv2]; exact Sh.Blk.new w2 [.slice (some ⟨g1, 0, none⟩) 2 c1, .int .i64 2] 24 _ rfl
  have B2 := Lib.hid (below_chain (below_chain B1.out hb) b2)
  have LW : Hid (w.heap.size ≤ w2.heap.size) := (below_chain B1.out hb).size
  have I2 := own_two_irw (hown.below b2)
  have FH2 := Lib.hid F2
  have x0 := F2.cell 0
  have x1 := F2.cell 1
  simp only [List.getElem?_cons_zero, List.getElem?_cons_succ] at x0 x1
  have C2 := Lib.hid (enter_two (ns := []) (ns' := [ta]) (k := 0) (i0 := 0) (s := ta) (some ⟨g1, 0, none⟩) c1 v2 (E0.out.below B2.out) I2.1 (fun h => by cases h) I2.2.1 rfl (by decide) List.Pairwise.nil (fun s hs => by cases hs) (st_empty _) ok_a rfl SA.out.1 SA.out.2)
  have HV2 : Hid (w2.alloc (.cells #[.slice (some ⟨g1, 0, none⟩) 2 c1, .int .i64 2] 24) = v2) := hv2.symm
  have SV : Hid (w2.heap.size < v2.heap.size) := F2.lt
  rw [hv2] at x0 x1
  generalize hX : w2.heap.size = X at *
  clear hb hown b2 F2 I2 hv2
  go_wp2_with fail
  rw [HV2.out]
  refine C2.out.mono ?_
  clear C2 x0 x1 HV2 hX
  rintro e w3 ⟨hb, g3, c3, rfl, hown⟩
  have F3 := FH2.out.low hb
  have r0 := F3.cell 0
  have r1 := F3.cell 1
  have z0 := F3.frozen 0
  have z1 := F3.frozen 1
  simp only [List.getElem?_cons_zero, List.getElem?_cons_succ] at r0 r1
  have gs := gb_sets X [.slice (some ⟨g3, 0, none⟩) 2 c3, .int .i64 2] 0 w3
  obtain ⟨v3, hv3⟩ : ∃ v3, v3 = (w3.setCell ⟨X, 0, none⟩ (.slice (some ⟨g3, 0, none⟩) 2 c3)).setCell ⟨X, 1, none⟩ (.int .i64 2) := ⟨_, rfl⟩
  have FF : Sh.Blk v3 X [.slice (some ⟨g3, 0, none⟩) 2 c3, .int .i64 2] 24 := by rw [hv3]; exact (F3.set 0 (.slice (some ⟨g3, 0, none⟩) 2 c3)).set 1 (.int .i64 2)
  have OO : OwnI v2.heap.size v3 (twoP [ta] 1) (.slice (some ⟨g3, 0, none⟩) 2 c3) := by rw [hv3]; exact hown.grown gs SV.out
  have BB : Below w.heap.size w v3 := by rw [hv3]; exact below_own (below_chain B2.out hb) gs LW.out
  have SV : Hid (X < v3.heap.size) := FF.lt
  have I3 := own_two_irw OO
  have FH3 := Lib.hid FF
  have B3 := Lib.hid BB
  have x0 := FF.cell 0
  have x1 := FF.cell 1
  simp only [List.getElem?_cons_zero, List.getElem?_cons_succ] at x0 x1
  have C3 := Lib.hid (enter_two (ns := [ta]) (ns' := [ta, tb]) (k := 1) (i0 := 1) (s := tb) (some ⟨g3, 0, none⟩) c3 v3 (E0.out.below BB) I3.1 (fun h => by cases h) I3.2.1 rfl (by decide) SA.out.1 SA.out.2 st_b ok_b rfl SAB.out.1 SAB.out.2)
  have HV : Hid ((w3.setCell ⟨X, 0, none⟩ (.slice (some ⟨g3, 0, none⟩) 2 c3)).setCell ⟨X, 1, none⟩ (.int .i64 2) = v3) := hv3.symm
  rw [hv3] at x0 x1
  clear hb hown F3 gs FF OO BB hv3 I3
  go_wp2_with fail
  rw [HV.out]
  refine C3.out.mono ?_
  clear C3 x0 x1 r0 r1 z0 z1 HV
  rintro e w4 ⟨hb, g4, c4, rfl, hown⟩
  have F4 := FH3.out.low hb
  have r0 := F4.cell 0
  have r1 := F4.cell 1
  have z0 := F4.frozen 0
  have z1 := F4.frozen 1
  simp only [List.getElem?_cons_zero, List.getElem?_cons_succ] at r0 r1
  have gs := gb_sets X [.slice (some ⟨g4, 0, none⟩) 2 c4, .int .i64 2] 0 w4
  obtain ⟨v4, hv4⟩ : ∃ v4, v4 = (w4.setCell ⟨X, 0, none⟩ (.slice (some ⟨g4, 0, none⟩) 2 c4)).setCell ⟨X, 1, none⟩ (.int .i64 2) := ⟨_, rfl⟩
  have FF : Sh.Blk v4 X [.slice (some ⟨g4, 0, none⟩) 2 c4, .int .i64 2] 24 := by rw [hv4]; exact (F4.set 0 (.slice (some ⟨g4, 0, none⟩) 2 c4)).set 1 (.int .i64 2)
  have OO : OwnI v3.heap.size v4 (twoP [ta, tb] 2) (.slice (some ⟨g4, 0, none⟩) 2 c4) := by rw [hv4]; exact hown.grown gs SV.out
  have BB : Below w.heap.size w v4 := by rw [hv4]; exact below_own (below_chain B3.out hb) gs LW.out
  have SV : Hid (X < v4.heap.size) := FF.lt
  have I4 := own_two_irw OO
  have FH4 := Lib.hid FF
  have B4 := Lib.hid BB
  have x0 := FF.cell 0
  have x1 := FF.cell 1
  simp only [List.getElem?_cons_zero, List.getElem?_cons_succ] at x0 x1
  have C4 := Lib.hid (leave_two (ns := [ta, tb]) (ns' := [tb]) (k := 1) (i0 := 0) (s := ta) (some ⟨g4, 0, none⟩) c4 v4 (E0.out.below BB) I4.1 (fun h => by cases h) I4.2.1 rfl (by decide) SAB.out.1 SAB.out.2 st_a rfl SB.out.1 SB.out.2)
  have HV : Hid ((w4.setCell ⟨X, 0, none⟩ (.slice (some ⟨g4, 0, none⟩) 2 c4)).setCell ⟨X, 1, none⟩ (.int .i64 2) = v4) := hv4.symm
  rw [hv4] at x0 x1
  clear hb hown F4 gs FF OO BB hv4 I4
  go_wp2_with fail
  rw [HV.out]
  refine C4.out.mono ?_
  clear C4 x0 x1 r0 r1 z0 z1 HV
  rintro e w5 ⟨hb, g5, c5, rfl, hown⟩
  have F5 := FH4.out.low hb
  have r0 := F5.cell 0
  have r1 := F5.cell 1
  have z0 := F5.frozen 0
  have z1 := F5.frozen 1
  simp only [List.getElem?_cons_zero, List.getElem?_cons_succ] at r0 r1
  have gs := gb_sets X [.slice (some ⟨g5, 0, none⟩) 2 c5, .int .i64 2] 0 w5
  obtain ⟨v5, hv5⟩ : ∃ v5, v5 = (w5.setCell ⟨X, 0, none⟩ (.slice (some ⟨g5, 0, none⟩) 2 c5)).setCell ⟨X, 1, none⟩ (.int .i64 2) := ⟨_, rfl⟩
  have FF : Sh.Blk v5 X [.slice (some ⟨g5, 0, none⟩) 2 c5, .int .i64 2] 24 := by rw [hv5]; exact (F5.set 0 (.slice (some ⟨g5, 0, none⟩) 2 c5)).set 1 (.int .i64 2)
  have OO : OwnI v4.heap.size v5 (twoP [tb] 1) (.slice (some ⟨g5, 0, none⟩) 2 c5) := by rw [hv5]; exact hown.grown gs SV.out
  have BB : Below w.heap.size w v5 := by rw [hv5]; exact below_own (below_chain B4.out hb) gs LW.out
  have SV : Hid (X < v5.heap.size) := FF.lt
  have I5 := own_two_irw OO
  have FH5 := Lib.hid FF
  have B5 := Lib.hid BB
  have x0 := FF.cell 0
  have x1 := FF.cell 1
  simp only [List.getElem?_cons_zero, List.getElem?_cons_succ] at x0 x1
  have C5 := Lib.hid (lookup_two (ns := [tb]) (k := 1) (s := tb) (some ⟨g5, 0, none⟩) c5 v5 (E0.out.below BB) I5.1 rfl (by decide) SB.out.1 SB.out.2 true ⟨fun _ => List.mem_singleton.2 rfl, fun _ => rfl⟩)
  have IH := Lib.hid I5
  have HV : Hid ((w5.setCell ⟨X, 0, none⟩ (.slice (some ⟨g5, 0, none⟩) 2 c5)).setCell ⟨X, 1, none⟩ (.int .i64 2) = v5) := hv5.symm
  rw [hv5] at x0 x1
  clear hb hown F5 gs FF OO BB hv5 I5
  go_wp2_with fail
  rw [HV.out]
  refine C5.out.mono ?_
  clear C5 x0 x1 r0 r1 z0 z1 HV
  rintro e w6 ⟨hb, rfl⟩
  have F6 := FH5.out.low hb
  have FH6 := Lib.hid F6
  have B6 := Lib.hid (below_chain B5.out hb)
  have I6 := Lib.hid (IH.out.1.below hb)
  have CC := Lib.hid IH.out.2
  have x0 := F6.cell 0
  have x1 := F6.cell 1
  simp only [List.getElem?_cons_zero, List.getElem?_cons_succ] at x0 x1
  have C6 := Lib.hid (lookup_two (ns := [tb]) (k := 1) (s := ta) (some ⟨g5, 0, none⟩) c5 w6 (E0.out.below B6.out) I6.out rfl (by decide) SB.out.1 SB.out.2 false ⟨fun h => (by cases h), fun h => absurd (List.mem_singleton.1 h) ne_ab⟩)
  clear hb F6
  simp only [if_true]
  go_wp2_with fail
  refine C6.out.mono ?_
  clear C6 x0 x1
  rintro e w7 ⟨hb, rfl⟩
  have F7 := FH6.out.low hb
  have FH7 := Lib.hid F7
  have B7 := Lib.hid (below_chain B6.out hb)
  have I7 := Lib.hid (I6.out.below hb)
  have x0 := F7.cell 0
  have x1 := F7.cell 1
  simp only [List.getElem?_cons_zero, List.getElem?_cons_succ] at x0 x1
  have C7 := Lib.hid (drop_two (ns := [tb]) (k := 0) (some ⟨g5, 0, none⟩) c5 w7 (E0.out.below B7.out) I7.out (fun h => by cases h) CC.out.1 rfl (by decide) SB.out.1 SB.out.2)
  clear hb F7
  simp only [Bool.false_eq_true, if_false]
  go_wp2_with fail
  refine C7.out.mono ?_
  clear C7 x0 x1
  rintro e w8 ⟨hb, rfl⟩
  obtain ⟨v8, hv8⟩ : ∃ v8, v8 = w8.alloc (.cells #[.slice none 0 0, .int .i64 0] 24) := ⟨_, rfl⟩
  have b8 : Below w8.heap.size w8 v8 := by rw [hv8]; exact below_alloc (Below.refl _ w8) _
  have FH8 := Lib.hid ((FH7.out.low hb).low b8)
  have B8 := Lib.hid (below_chain (below_chain B7.out hb) b8)
  have I8 := Lib.hid ((I7.out.below hb).below b8)
  have C8 := Lib.hid (drop_none v8 (E0.out.below B8.out))
  have HV8 : Hid (w8.alloc (.cells #[.slice none 0 0, .int .i64 0] 24) = v8) := hv8.symm
  clear hb b8 hv8
  go_wp2_with fail
  rw [HV8.out]
  refine C8.out.mono ?_
  clear C8 HV8
  rintro e w9 ⟨hb, ao9, c9, rfl⟩
  obtain ⟨v9, hv9⟩ : ∃ v9, v9 = w9.alloc (.cells #[.slice ao9 0 c9, .int .i64 0] 24) := ⟨_, rfl⟩
  have b9 : Below w9.heap.size w9 v9 := by rw [hv9]; exact below_alloc (Below.refl _ w9) _
  have F9 := (FH8.out.low hb).low b9
  have B9 := Lib.hid (below_chain (below_chain B8.out hb) b9)
  have i9 := (I8.out.below hb).below b9
  have x0 := F9.cell 0
  have x1 := F9.cell 1
  simp only [List.getElem?_cons_zero, List.getElem?_cons_succ] at x0 x1
  obtain ⟨fb, fo, e, _, da, dn, dc, na, nn, nc, za, zn, zc, aa, an, ac, h9, _⟩ := irw_at i9 1 (fileP 1) rfl
  injection e with e
  injection e with e1 e2 _
  subst e1 e2
  have l3 : v9.cell? ⟨g5, 12, none⟩ = some (.int .i64 1) := h9.k3
  have C9 := Lib.hid (check_any (some ⟨g5, 0, none⟩) (twoP [tb] 1) 2 c5 2 v9 i9 rfl)
  have HV9 : Hid (w9.alloc (.cells #[.slice ao9 0 c9, .int .i64 0] 24) = v9) := hv9.symm
  rw [hv9] at x0 x1 l3
  clear hb b9 hv9 F9 i9 h9
  go_wp2_with fail
  rw [HV9.out]
  refine C9.out.mono ?_
  clear C9 HV9 x0 x1 l3
  rintro e w10 ⟨b, rfl, hiff, hb⟩
  obtain rfl : b = true := hiff.2 (ok_two (ns := [tb]) (k := 1) rfl (by decide) SB.out.1 SB.out.2)
  have B10 := Lib.hid (below_chain B9.out hb)
  clear hiff hb
  go_wp2_with fail
  go_ret
  exact ⟨rfl, B10.out⟩
end Go.Proofs.YtcgbaiogbcodcaaGreatDoor.Lw
