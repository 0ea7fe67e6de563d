/-
  The contracts of plain's Lookup, Parent. Condition: the library's variable errors.errorType is as its text lays it.
-/
import Derived.Test.YtcgbaiogbcodcaaGreatDoorOg
import Derived.Test.YtcgbaiogbcodcaaGreatDoorJe
import Derived.Test.YtcgbaiogbcodcaaGreatDoorPg
import Derived.BigRegion
import Derived.WalkSmall
import Derived.Deep.LoopGhost
import Derived.Maps.OwnOps
import Derived.Laws.Rows
namespace Go.Proofs.YtcgbaiogbcodcaaGreatDoor.Lw
open Go.RowKit Go.Lib Go.Proofs.YtcgbaiogbcodcaaGreatDoor.Sh Go.Proofs.YtcgbaiogbcodcaaGreatDoor.Lb


structure InoP where
  num : Int
  kind : Int
  mode : Int
  links : Int
  data : List UInt8
  target : ByteArray
  names : List ByteArray
  nums : List Int
  attrs : List (ByteArray × List UInt8)

/-- an inode's slices, as memory holds them -/
structure IvP (w : World) (x : InoP) (da : Option Addr) (dn dc : Nat) (na : Option Addr) (nn nc : Nat) (za : Option Addr) (zn zc : Nat) (aa : Option Addr) (an ac : Nat) : Prop where
  d1 : x.data.length = dn
  d2 : dn ≤ dc
  d3 : dc ≤ 9223372036854775807
  d4 : Byt w da x.data
  d5 : da = none → dc = 0
  n1 : x.names.length = nn
  n2 : nn ≤ nc
  n3 : nc ≤ 9223372036854775807
  n4 : Srw w na x.names
  n5 : na = none → nc = 0
  z1 : x.nums.length = zn
  z2 : zn ≤ zc
  z3 : zc ≤ 9223372036854775807
  z4 : Zrw w za x.nums
  z5 : za = none → zc = 0
  a1 : x.attrs.length = an
  a2 : an ≤ ac
  a3 : ac ≤ 9223372036854775807
  a4 : Arw w aa x.attrs
  a5 : aa = none → ac = 0
  ts : x.target.size ≤ 9223372036854775807
theorem IvP.below {w w' : World} {x : InoP} {da na za aa : Option Addr} {dn dc nn nc zn zc an ac : Nat} (h : IvP w x da dn dc na nn nc za zn zc aa an ac) (hb : Below w.heap.size w w') : IvP w' x da dn dc na nn nc za zn zc aa an ac :=
  { h with d4 := h.d4.below hb, n4 := h.n4.below hb, z4 := h.z4.below hb, a4 := h.a4.below hb }
def ivC (x : InoP) (da : Option Addr) (dn dc : Nat) (na : Option Addr) (nn nc : Nat) (za : Option Addr) (zn zc : Nat) (aa : Option Addr) (an ac : Nat) : List Value :=
  [.int .i64 x.num, .int .i64 x.kind, .int .i64 x.mode, .int .i64 x.links, .slice da dn dc, .string x.target, .slice na nn nc, .slice za zn zc, .slice aa an ac]
theorem putR_gen {w : World} {ok : Prop} {l : List UInt8} {e : Ending} {w' : World} (h : PutR w ok l e w') : Below w.heap.size w w' ∧ ∃ v z, e = .returned (.tuple #[v, .int .i64 z]) ∧ ((ok ∧ z = 0) ∨ (¬ ok ∧ z = 80)) := by
  obtain ⟨hb, ⟨h1, v, rfl, _⟩ | ⟨h1, rfl⟩⟩ := h
  · exact ⟨hb, v, 0, rfl, .inl ⟨h1, rfl⟩⟩
  · exact ⟨hb, _, 80, rfl, .inr ⟨h1, rfl⟩⟩
theorem no_len {α : Type} {l : List α} {n : Nat} (h : l.length = n) (h0 : n = 0) : l = [] := List.eq_nil_of_length_eq_zero (by omega)

/-- the nine cells of an inode -/
structure At9 (w : World) (b p : Nat) (x : InoP) (da : Option Addr) (dn dc : Nat) (na : Option Addr) (nn nc : Nat) (za : Option Addr) (zn zc : Nat) (aa : Option Addr) (an ac : Nat) : Prop where
  k0 : w.cell? ⟨b, p, none⟩ = some (.int .i64 x.num)
  k1 : w.cell? ⟨b, p + 1, none⟩ = some (.int .i64 x.kind)
  k2 : w.cell? ⟨b, p + 2, none⟩ = some (.int .i64 x.mode)
  k3 : w.cell? ⟨b, p + 3, none⟩ = some (.int .i64 x.links)
  k4 : w.cell? ⟨b, p + 4, none⟩ = some (.slice da dn dc)
  k5 : w.cell? ⟨b, p + 5, none⟩ = some (.string x.target)
  k6 : w.cell? ⟨b, p + 6, none⟩ = some (.slice na nn nc)
  k7 : w.cell? ⟨b, p + 7, none⟩ = some (.slice za zn zc)
  k8 : w.cell? ⟨b, p + 8, none⟩ = some (.slice aa an ac)
theorem At9.below {w w' : World} {b p : Nat} {x : InoP} {da na za aa : Option Addr} {dn dc nn nc zn zc an ac : Nat} (h : At9 w b p x da dn dc na nn nc za zn zc aa an ac) (hb : Below w.heap.size w w') (h2 : b < w.heap.size) : At9 w' b p x da dn dc na nn nc za zn zc aa an ac :=
  ⟨(hb.cell (p := ⟨b, _, none⟩) h2).trans h.k0, (hb.cell (p := ⟨b, _, none⟩) h2).trans h.k1, (hb.cell (p := ⟨b, _, none⟩) h2).trans h.k2, (hb.cell (p := ⟨b, _, none⟩) h2).trans h.k3, (hb.cell (p := ⟨b, _, none⟩) h2).trans h.k4, (hb.cell (p := ⟨b, _, none⟩) h2).trans h.k5, (hb.cell (p := ⟨b, _, none⟩) h2).trans h.k6, (hb.cell (p := ⟨b, _, none⟩) h2).trans h.k7, (hb.cell (p := ⟨b, _, none⟩) h2).trans h.k8⟩
def Irw (w : World) (ao : Option Addr) (l : List InoP) : Prop :=
  l ≠ [] → ∃ b o, ao = some ⟨b, o, none⟩ ∧ b < w.heap.size ∧ ∀ (j : Nat) (x : InoP), l[j]? = some x → ∃ da dn dc na nn nc za zn zc aa an ac, At9 w b (o + j * 9) x da dn dc na nn nc za zn zc aa an ac ∧ IvP w x da dn dc na nn nc za zn zc aa an ac
theorem Irw.below {w w' : World} {ao : Option Addr} {l : List InoP} (h : Irw w ao l) (hb : Below w.heap.size w w') : Irw w' ao l := fun hne => by
  obtain ⟨b, o, h1, h2, h3⟩ := h hne
  refine ⟨b, o, h1, Nat.lt_of_lt_of_le h2 hb.size, fun j x hx => ?_⟩
  obtain ⟨da, dn, dc, na, nn, nc, za, zn, zc, aa, an, ac, h4, h5⟩ := h3 j x hx
  exact ⟨da, dn, dc, na, nn, nc, za, zn, zc, aa, an, ac, h4.below hb h2, h5.below hb⟩
theorem irw_at {w : World} {ao : Option Addr} {l : List InoP} (h : Irw w ao l) (j : Nat) (x : InoP) (hx : l[j]? = some x) : ∃ b o, ao = some ⟨b, o, none⟩ ∧ b < w.heap.size ∧ ∃ da dn dc na nn nc za zn zc aa an ac, At9 w b (o + j * 9) x da dn dc na nn nc za zn zc aa an ac ∧ IvP w x da dn dc na nn nc za zn zc aa an ac := by
  obtain ⟨b, o, h1, h2, h3⟩ := h (fun h0 => by rw [h0] at hx; simp at hx)
  exact ⟨b, o, h1, h2, h3 j x hx⟩
end Go.Proofs.YtcgbaiogbcodcaaGreatDoor.Lw
namespace Go.Proofs.YtcgbaiogbcodcaaGreatDoor.Lw
open Go.RowKit Go.Lib Go.Proofs.YtcgbaiogbcodcaaGreatDoor.Sh Go.Proofs.YtcgbaiogbcodcaaGreatDoor.Lb Go.Proofs.YtcgbaiogbcodcaaGreatDoor.Pf

/-- an inode without its content -/
def OkNode (x : InoP) : Prop := OkMeta ltB nameOk ⟨x.kind, x.mode, x.links, 0, x.target, x.attrs, []⟩
/-- its content -/
structure OkCont (x : InoP) : Prop where
  dir : x.kind = 2 → OkList ltB nameOk ⟨false, x.names, x.nums⟩ ∧ x.names.length ≤ 128 ∧ x.links = 1 ∧ x.data = []
  other : x.kind ≠ 2 → (x.data.length : Int) ≤ (if x.kind = 1 then 32768 else 0) ∧ x.names = [] ∧ x.nums = []
structure OkNums (l : List InoP) (next : Int) : Prop where
  one : 1 ≤ l.length
  most : l.length ≤ 512
  lo : 2 ≤ next
  hi : next ≤ 513
  rise : ∀ (i : Nat) (x y : InoP), l[i]? = some x → l[i + 1]? = some y → x.num < y.num
  root : ∀ x, l[0]? = some x → x.num = 1 ∧ x.kind = 2
  last : ∀ x, l[l.length - 1]? = some x → x.num ≤ 1024
def gr (l : List InoP) : List (Int × List Int) := l.map fun x => (x.num, x.nums)
def enL (l : List InoP) : List (Int × Int) := ents (gr l)
structure OkPlaces (l : List InoP) : Prop where
  first : times (enL l) 1 = 0
  each : ∀ x ∈ l, (times (enL l) x.num : Int) ≤ x.links ∧ (x.kind ≠ 2 → (times (enL l) x.num : Int) = x.links)
  keys : (l.map (·.num)).countP (fun n => decide (0 < times (enL l) n)) = (keysL (enL l)).length
  ends : ∀ x ∈ l, UpEnds (enL l) x.num
/-- a file system that may be -/
structure OkP (l : List InoP) (next : Int) : Prop where
  nums : OkNums l next
  each : ∀ x ∈ l, OkNode x ∧ OkCont x
  places : OkPlaces l
theorem OkNums.lt {l : List InoP} {next : Int} (h : OkNums l next) : ∀ (d i : Nat) (x y : InoP), l[i]? = some x → l[i + 1 + d]? = some y → x.num < y.num
  | 0, i, x, y, hx, hy => h.rise i x y hx hy
  | d + 1, i, x, y, hx, hy => by
    obtain ⟨z, hz⟩ : ∃ z, l[i + 1 + d]? = some z := ⟨_, List.getElem?_eq_getElem (by have := (List.getElem?_eq_some_iff.1 hy).1; omega)⟩
    have h1 := h.lt d i x z hx hz
    have h2 := h.rise (i + 1 + d) z y hz hy
    omega
theorem OkNums.lt' {l : List InoP} {next : Int} (h : OkNums l next) {i j : Nat} {x y : InoP} (hx : l[i]? = some x) (hy : l[j]? = some y) (hij : i < j) : x.num < y.num :=
  h.lt (j - (i + 1)) i x y hx (by rw [show i + 1 + (j - (i + 1)) = j by omega]; exact hy)
theorem OkNums.pos {l : List InoP} {next : Int} (h : OkNums l next) {i : Nat} {x : InoP} (hx : l[i]? = some x) : 1 ≤ x.num := by
  obtain ⟨z, hz⟩ : ∃ z, l[0]? = some z := ⟨_, List.getElem?_eq_getElem (by have := h.one; omega)⟩
  have h1 := (h.root z hz).1
  rcases Nat.eq_zero_or_pos i with rfl | h0
  · rw [hz] at hx
    injection hx with hx
    subst hx
    omega
  · have := h.lt' hz hx h0
    omega
theorem OkNums.top {l : List InoP} {next : Int} (h : OkNums l next) {i : Nat} {x : InoP} (hx : l[i]? = some x) : x.num ≤ 1024 := by
  obtain ⟨z, hz⟩ : ∃ z, l[l.length - 1]? = some z := ⟨_, List.getElem?_eq_getElem (by have := h.one; omega)⟩
  have h1 := h.last z hz
  have hi := (List.getElem?_eq_some_iff.1 hx).1
  rcases Nat.lt_or_ge i (l.length - 1) with h2 | h2
  · have := h.lt' hx hz h2
    omega
  · obtain rfl : i = l.length - 1 := by omega
    rw [hz] at hx
    injection hx with hx
    subst hx
    exact h1
theorem OkNums.unique {l : List InoP} {next : Int} (h : OkNums l next) {i j : Nat} {x y : InoP} (hx : l[i]? = some x) (hy : l[j]? = some y) (he : x.num = y.num) : i = j := by
  rcases Nat.lt_trichotomy i j with h1 | h1 | h1
  · have := h.lt' hx hy h1; omega
  · exact h1
  · have := h.lt' hy hx h1; omega
theorem OkNums.nodup {l : List InoP} {next : Int} (h : OkNums l next) : (l.map (·.num)).Nodup := by
  rw [List.Nodup, List.pairwise_iff_getElem]
  intro i j hi hj hij e
  rw [List.length_map] at hi hj
  rw [List.getElem_map, List.getElem_map] at e
  have := h.lt' (List.getElem?_eq_getElem hi) (List.getElem?_eq_getElem hj) hij
  omega
/-- whatever stands somewhere is an inode -/
theorem OkP.stands {l : List InoP} {next : Int} (h : OkP l next) {d : InoP} (hd : d ∈ l) {n : Int} (hn : n ∈ d.nums) : ∃ (i : Nat) (x : InoP), l[i]? = some x ∧ x.num = n := by
  have h1 : times (enL l) n ≠ 0 := times_mem.2 ⟨d.num, ents_mem.2 ⟨(d.num, d.nums), List.mem_map.2 ⟨d, hd, rfl⟩, rfl, hn⟩⟩
  have h2 := (standing_iff h.nums.nodup (enL l)).1 h.places.keys n h1
  obtain ⟨x, hx, rfl⟩ := List.mem_map.1 h2
  obtain ⟨i, hi⟩ := List.getElem?_of_mem hx
  exact ⟨i, x, hi, rfl⟩
/-- a directory's place is the one that it has -/
theorem OkP.up {l : List InoP} {next : Int} (h : OkP l next) {d x : InoP} (hd : d ∈ l) (hx : x ∈ l) (hn : x.num ∈ d.nums) (hk : x.kind = 2) : dirOf (enL l) x.num = d.num := by
  refine dirOf_only _ _ _ ?_ (ents_mem.2 ⟨(d.num, d.nums), List.mem_map.2 ⟨d, hd, rfl⟩, rfl, hn⟩)
  have h1 := (h.places.each x hx).1
  have h2 := ((h.each x hx).2.dir hk).2.2.1
  omega
end Go.Proofs.YtcgbaiogbcodcaaGreatDoor.Lw
namespace Go.Proofs.YtcgbaiogbcodcaaGreatDoor.Lw
open Go.RowKit Go.Lib Go.Proofs.YtcgbaiogbcodcaaGreatDoor.Sh Go.Proofs.YtcgbaiogbcodcaaGreatDoor.Lb Go.Proofs.YtcgbaiogbcodcaaGreatDoor.Pf

/-- a yes or no that says just whether P -/
def AnsB (P : Prop) (w : World) (e : Ending) (w' : World) : Prop := ∃ b : Bool, e = .returned (.bool b) ∧ (b = true ↔ P) ∧ Below w.heap.size w w'

set_option maxHeartbeats 4000000 in
set_option maxRecDepth 100000 in
theorem node_any (xn xk xm xl : Int) (xd : List UInt8) (xt : ByteArray) (xs : List ByteArray) (xz : List Int) (xa : List (ByteArray × List UInt8)) (da na za aa : Option Addr) (dn dc nn nc zn zc an ac : Nat) (w : World) (h : IvP w ⟨xn, xk, xm, xl, xd, xt, xs, xz, xa⟩ da dn dc na nn nc za zn zc aa an ac) :
    Calls Tryz.prog 33 #[.agg #[.int .i64 xn, .int .i64 xk, .int .i64 xm, .int .i64 xl, .slice da dn dc, .string xt, .slice na nn nc, .slice za zn zc, .slice aa an ac]] w (AnsB (OkNode ⟨xn, xk, xm, xl, xd, xt, xs, xz, xa⟩) w) := by
  obtain ⟨w1, hw1⟩ : ∃ w1, w1 = w.alloc (.cells #[.int .i64 xn, .int .i64 xk, .int .i64 xm, .int .i64 xl, .slice da dn dc, .string xt, .slice na nn nc, .slice za zn zc, .slice aa an ac] 38) := ⟨_, rfl⟩
  have b1 : Below w.heap.size w w1 := by rw [hw1]; exact (Below.refl _ w).alloc (Nat.le_refl _) _
  have x1 : Sh.Blk w1 w.heap.size [.int .i64 xn, .int .i64 xk, .int .i64 xm, .int .i64 xl, .slice da dn dc, .string xt, .slice na nn nc, .slice za zn zc, .slice aa an ac] 38 := by rw [hw1]; exact Sh.Blk.new w [.int .i64 xn, .int .i64 xk, .int .i64 xm, .int .i64 xl, .slice da dn dc, .string xt, .slice na nn nc, .slice za zn zc, .slice aa an ac] 38 _ rfl
  have V1 := Lib.hid (h.below b1)
  have B1 := Lib.hid b1
  have HW1 := Lib.hid hw1
  have c1 := x1.cell 1
  have c2 := x1.cell 2
  have c3 := x1.cell 3
  have c5 := x1.cell 5
  have c8 := x1.cell 8
  simp only [List.getElem?_cons_zero, List.getElem?_cons_succ] at c1 c2 c3 c5 c8
  rw [hw1] at c1 c2 c3 c5 c8
  have CM := Lib.hid (oputmeta_any xk xm xl 0 xt aa none an ac 0 0 xa [] w1 h.ts V1.out.a4 V1.out.a1 V1.out.a2 V1.out.a3 (fun hne => absurd rfl hne) rfl (Nat.le_refl _) (by omega))
  clear h x1 b1 hw1
  go_enter Tryz.func33, Tryz.ntmps33
  go_wp2_with fail
  rw [← HW1.out]
  refine CM.out.mono ?_
  clear CM HW1 c1 c2 c3 c5 c8
  intro e w3 h3
  obtain ⟨hb, v1, z1, rfl, hz1⟩ := putR_gen h3
  have B3 := Lib.hid (below_chain B1.out hb)
  rcases hz1 with ⟨hm, rfl⟩ | ⟨hm, rfl⟩
  · have HM := Lib.hid hm
    clear hm h3 hb
    go_wp2_with fail
    go_ret
    exact ⟨true, rfl, ⟨fun _ => HM.out, fun _ => rfl⟩, B3.out⟩
  · have HM := Lib.hid hm
    clear hm h3 hb
    go_wp2_with fail
    go_ret
    exact ⟨false, rfl, ⟨fun h => (by cases h), fun h => absurd h HM.out⟩, B3.out⟩
set_option maxHeartbeats 4000000 in
set_option maxRecDepth 100000 in
theorem content_any (xn xk xm xl : Int) (xd : List UInt8) (xt : ByteArray) (xs : List ByteArray) (xz : List Int) (xa : List (ByteArray × List UInt8)) (da na za aa : Option Addr) (dn dc nn nc zn zc an ac : Nat) (w : World) (h : IvP w ⟨xn, xk, xm, xl, xd, xt, xs, xz, xa⟩ da dn dc na nn nc za zn zc aa an ac) :
    Calls Tryz.prog 34 #[.agg #[.int .i64 xn, .int .i64 xk, .int .i64 xm, .int .i64 xl, .slice da dn dc, .string xt, .slice na nn nc, .slice za zn zc, .slice aa an ac]] w (AnsB (OkCont ⟨xn, xk, xm, xl, xd, xt, xs, xz, xa⟩) w) := by
  obtain ⟨w1, hw1⟩ : ∃ w1, w1 = w.alloc (.cells #[.int .i64 xn, .int .i64 xk, .int .i64 xm, .int .i64 xl, .slice da dn dc, .string xt, .slice na nn nc, .slice za zn zc, .slice aa an ac] 38) := ⟨_, rfl⟩
  have b1 : Below w.heap.size w w1 := by rw [hw1]; exact (Below.refl _ w).alloc (Nat.le_refl _) _
  have x1 : Sh.Blk w1 w.heap.size [.int .i64 xn, .int .i64 xk, .int .i64 xm, .int .i64 xl, .slice da dn dc, .string xt, .slice na nn nc, .slice za zn zc, .slice aa an ac] 38 := by rw [hw1]; exact Sh.Blk.new w [.int .i64 xn, .int .i64 xk, .int .i64 xm, .int .i64 xl, .slice da dn dc, .string xt, .slice na nn nc, .slice za zn zc, .slice aa an ac] 38 _ rfl
  have V1 := Lib.hid (h.below b1)
  have B1 := Lib.hid b1
  have X1 := Lib.hid x1
  have HW1 := Lib.hid hw1
  have D1 := Lib.hid h.d1
  have N1 := Lib.hid h.n1
  have Z1 := Lib.hid h.z1
  simp only at D1 N1 Z1
  have c1 := x1.cell 1
  have c3 := x1.cell 3
  have c4 := x1.cell 4
  have c6 := x1.cell 6
  have c7 := x1.cell 7
  simp only [List.getElem?_cons_zero, List.getElem?_cons_succ] at c1 c3 c4 c6 c7
  rw [hw1] at c1 c3 c4 c6 c7
  have CL := Lib.hid (oputlisting_any false na za nn nc zn zc xs xz w1 V1.out.z4 V1.out.z1 V1.out.z2 V1.out.z3 V1.out.n4 V1.out.n1 V1.out.n2 V1.out.n3)
  clear h x1 b1 hw1
  by_cases hk : xk = 2
  · subst hk
    go_enter Tryz.func34, Tryz.ntmps34
    go_wp2_with fail
    rw [← HW1.out]
    refine CL.out.mono ?_
    clear CL HW1 c1 c3 c4 c6 c7
    intro e w3 h3
    obtain ⟨hb, v1, z1, rfl, hz1⟩ := putR_gen h3
    have B3 := Lib.hid (below_chain B1.out hb)
    have X3 := Lib.hid (X1.out.low hb)
    have c3 := X3.out.cell 3
    have c4 := X3.out.cell 4
    have c6 := X3.out.cell 6
    simp only [List.getElem?_cons_zero, List.getElem?_cons_succ] at c3 c4 c6
    clear h3 hb
    rcases hz1 with ⟨hm, rfl⟩ | ⟨hm, rfl⟩
    rotate_left
    · have HM := Lib.hid hm
      clear hm
      go_wp2_with fail
      go_ret
      exact ⟨false, rfl, ⟨fun h => (by cases h), fun h => absurd (h.dir rfl).1 HM.out⟩, B3.out⟩
    have HM := Lib.hid hm
    clear hm
    by_cases h128 : nn ≤ 128
    rotate_left
    · have t1 : decide ((nn : Int) ≤ 128) = false := by simp; omega
      have t2 : decide (nn ≤ 128) = false := by simp; omega
      go_wp2_with fail
      go_ret
      exact ⟨false, rfl, ⟨fun h => (by cases h), fun h => by have h1 := (h.dir rfl).2.1; have := N1.out; simp only at h1; omega⟩, B3.out⟩
    have t1 : decide ((nn : Int) ≤ 128) = true := by simp; omega
    have t2 : decide (nn ≤ 128) = true := by simp; omega
    by_cases hxl : xl = 1
    rotate_left
    · have t3 : (xl == 1) = false := by simpa using hxl
      go_wp2_with fail
      go_ret
      exact ⟨false, rfl, ⟨fun h => (by cases h), fun h => absurd (h.dir rfl).2.2.1 hxl⟩, B3.out⟩
    subst hxl
    by_cases hd0 : dn = 0
    · subst hd0
      go_wp2_with fail
      go_ret
      exact ⟨true, rfl, ⟨fun _ => ⟨fun _ => ⟨HM.out, by have := N1.out; show xs.length ≤ 128; omega, rfl, List.eq_nil_of_length_eq_zero D1.out⟩, fun h => absurd rfl h⟩, fun _ => rfl⟩, B3.out⟩
    · have t4 : ((dn : Int) == 0) = false := by simp; omega
      have t5 : (dn == 0) = false := by simp; omega
      go_wp2_with fail
      go_ret
      exact ⟨false, rfl, ⟨fun h => (by cases h), fun h => by have h1 := (h.dir rfl).2.2.2; simp only at h1; have := D1.out; rw [h1] at this; simp at this; omega⟩, B3.out⟩
  have t0 : (xk == 2) = false := by simpa using hk
  have hno : ∀ m : Int, (¬ ((dn : Int) ≤ m ∧ nn = 0 ∧ zn = 0)) → m = (if xk = 1 then 32768 else 0) → ¬ OkCont ⟨xn, xk, xm, xl, xd, xt, xs, xz, xa⟩ := fun m hc hm ho => by
    obtain ⟨o1, o2, o3⟩ := ho.other hk
    simp only at o1 o2 o3
    have h1 := D1.out
    have h2 := N1.out
    have h3 := Z1.out
    rw [o2] at h2
    rw [o3] at h3
    simp at h2 h3
    exact hc ⟨by omega, h2.symm, h3.symm⟩
  have hyes : ∀ m : Int, ((dn : Int) ≤ m ∧ nn = 0 ∧ zn = 0) → m = (if xk = 1 then 32768 else 0) → OkCont ⟨xn, xk, xm, xl, xd, xt, xs, xz, xa⟩ := fun m hc hm => by
    refine ⟨fun h => absurd h hk, fun _ => ⟨?_, ?_, ?_⟩⟩
    · have h1 := D1.out
      have := hc.1
      simp only
      omega
    · exact List.eq_nil_of_length_eq_zero (by have := N1.out; have := hc.2.1; show xs.length = 0; omega)
    · exact List.eq_nil_of_length_eq_zero (by have := Z1.out; have := hc.2.2; show xz.length = 0; omega)
  have HNO := Lib.hid hno
  have HYES := Lib.hid hyes
  clear hno hyes CL
  by_cases hk1 : xk = 1
  · subst hk1
    by_cases g1 : dn ≤ 32768
    rotate_left
    · have t1 : decide ((dn : Int) ≤ 32768) = false := by simp; omega
      have t2 : decide (dn ≤ 32768) = false := by simp; omega
      go_enter Tryz.func34, Tryz.ntmps34
      go_wp2_with fail
      rw [← HW1.out]
      go_ret
      exact ⟨false, rfl, ⟨fun h => (by cases h), fun h => absurd h (HNO.out 32768 (fun hc => by omega) rfl)⟩, B1.out⟩
    have t1 : decide ((dn : Int) ≤ 32768) = true := by simp; omega
    have t2 : decide (dn ≤ 32768) = true := by simp; omega
    by_cases g2 : nn = 0
    rotate_left
    · have t3 : ((nn : Int) == 0) = false := by simp; omega
      have t4 : (nn == 0) = false := by simp; omega
      go_enter Tryz.func34, Tryz.ntmps34
      go_wp2_with fail
      rw [← HW1.out]
      go_ret
      exact ⟨false, rfl, ⟨fun h => (by cases h), fun h => absurd h (HNO.out 32768 (fun hc => by omega) rfl)⟩, B1.out⟩
    subst g2
    by_cases g3 : zn = 0
    rotate_left
    · have t3 : ((zn : Int) == 0) = false := by simp; omega
      have t4 : (zn == 0) = false := by simp; omega
      go_enter Tryz.func34, Tryz.ntmps34
      go_wp2_with fail
      rw [← HW1.out]
      go_ret
      exact ⟨false, rfl, ⟨fun h => (by cases h), fun h => absurd h (HNO.out 32768 (fun hc => by omega) rfl)⟩, B1.out⟩
    subst g3
    have YES := Lib.hid (HYES.out 32768 ⟨by omega, rfl, rfl⟩ rfl)
    go_enter Tryz.func34, Tryz.ntmps34
    go_wp2_with fail
    rw [← HW1.out]
    go_ret
    exact ⟨true, rfl, ⟨fun _ => YES.out, fun _ => rfl⟩, B1.out⟩
  · have u1 : (xk == 1) = false := by simpa using hk1
    have hm0 : (0 : Int) = (if xk = 1 then 32768 else 0) := by rw [if_neg hk1]
    have HM0 := Lib.hid hm0
    clear hm0
    by_cases g1 : dn = 0
    rotate_left
    · have t1 : decide ((dn : Int) ≤ 0) = false := by simp; omega
      have t2 : decide (dn ≤ 0) = false := by simp; omega
      have t5 : (dn == 0) = false := by simp; omega
      go_enter Tryz.func34, Tryz.ntmps34
      go_wp2_with fail
      rw [← HW1.out]
      go_ret
      exact ⟨false, rfl, ⟨fun h => (by cases h), fun h => absurd h (HNO.out 0 (fun hc => by omega) HM0.out)⟩, B1.out⟩
    subst g1
    by_cases g2 : nn = 0
    rotate_left
    · have t3 : ((nn : Int) == 0) = false := by simp; omega
      have t4 : (nn == 0) = false := by simp; omega
      go_enter Tryz.func34, Tryz.ntmps34
      go_wp2_with fail
      rw [← HW1.out]
      go_ret
      exact ⟨false, rfl, ⟨fun h => (by cases h), fun h => absurd h (HNO.out 0 (fun hc => by omega) HM0.out)⟩, B1.out⟩
    subst g2
    by_cases g3 : zn = 0
    rotate_left
    · have t3 : ((zn : Int) == 0) = false := by simp; omega
      have t4 : (zn == 0) = false := by simp; omega
      go_enter Tryz.func34, Tryz.ntmps34
      go_wp2_with fail
      rw [← HW1.out]
      go_ret
      exact ⟨false, rfl, ⟨fun h => (by cases h), fun h => absurd h (HNO.out 0 (fun hc => by omega) HM0.out)⟩, B1.out⟩
    subst g3
    have YES := Lib.hid (HYES.out 0 ⟨by omega, rfl, rfl⟩ HM0.out)
    go_enter Tryz.func34, Tryz.ntmps34
    go_wp2_with fail
    rw [← HW1.out]
    go_ret
    exact ⟨true, rfl, ⟨fun _ => YES.out, fun _ => rfl⟩, B1.out⟩
end Go.Proofs.YtcgbaiogbcodcaaGreatDoor.Lw
namespace Go.Proofs.YtcgbaiogbcodcaaGreatDoor.Lw
open Go.RowKit Go.Lib Go.Proofs.YtcgbaiogbcodcaaGreatDoor.Sh Go.Proofs.YtcgbaiogbcodcaaGreatDoor.Lb Go.Proofs.YtcgbaiogbcodcaaGreatDoor.Pf

set_option maxHeartbeats 8000000 in
set_option maxRecDepth 100000 in
theorem nums_any (ao : Option Addr) (l : List InoP) (n c : Nat) (next : Int) (w : World) (h : Irw w ao l) (hl : l.length = n) :
    Calls Tryz.prog 32 #[.agg #[.slice ao n c, .int .i64 next]] w (AnsB (OkNums l next) w) := by
  obtain ⟨w1, hw1⟩ : ∃ w1, w1 = w.alloc (.cells #[.slice ao n c, .int .i64 next] 24) := ⟨_, rfl⟩
  have b1 : Below w.heap.size w w1 := by rw [hw1]; exact (Below.refl _ w).alloc (Nat.le_refl _) _
  have x1 : Sh.Blk w1 w.heap.size [.slice ao n c, .int .i64 next] 24 := by rw [hw1]; exact Sh.Blk.new w [.slice ao n c, .int .i64 next] 24 _ rfl
  have I1 := Lib.hid (h.below b1)
  have HL := Lib.hid hl
  have B1 := Lib.hid b1
  have X1 := Lib.hid x1
  have HW1 := Lib.hid hw1
  have c0 := x1.cell 0
  have c1 := x1.cell 1
  simp only [List.getElem?_cons_zero, List.getElem?_cons_succ] at c0 c1
  rw [hw1] at c0 c1
  clear h hl x1 b1 hw1
  by_cases g1 : n < 1
  · have t1 : decide ((n : Int) < 1) = true := by simp; omega
    have t2 : decide (n < 1) = true := by simp; omega
    go_enter Tryz.func32, Tryz.ntmps32
    go_wp2_with fail
    rw [← HW1.out]
    go_ret
    exact ⟨false, rfl, ⟨fun h => (by cases h), fun h => by have := h.one; have := HL.out; omega⟩, B1.out⟩
  have t1 : decide ((n : Int) < 1) = false := by simp; omega
  have t1' : decide (n < 1) = false := by simp; omega
  by_cases g2 : 512 < n
  · have t2 : decide ((512 : Int) < (n : Int)) = true := by simp; omega
    have t2' : decide (512 < n) = true := by simp; omega
    go_enter Tryz.func32, Tryz.ntmps32
    go_wp2_with fail
    rw [← HW1.out]
    go_ret
    exact ⟨false, rfl, ⟨fun h => (by cases h), fun h => by have := h.most; have := HL.out; omega⟩, B1.out⟩
  have t2 : decide ((512 : Int) < (n : Int)) = false := by simp; omega
  have t2' : decide (512 < n) = false := by simp; omega
  by_cases g3 : next < 2
  · have t3 : decide (next < 2) = true := by simpa using g3
    go_enter Tryz.func32, Tryz.ntmps32
    go_wp2_with fail
    rw [← HW1.out]
    go_ret
    exact ⟨false, rfl, ⟨fun h => (by cases h), fun h => by have := h.lo; omega⟩, B1.out⟩
  have t3 : decide (next < 2) = false := by simpa using g3
  by_cases g4 : 513 < next
  · have t4 : decide (513 < next) = true := by simpa using g4
    go_enter Tryz.func32, Tryz.ntmps32
    go_wp2_with fail
    rw [← HW1.out]
    go_ret
    exact ⟨false, rfl, ⟨fun h => (by cases h), fun h => by have := h.hi; omega⟩, B1.out⟩
  have t4 : decide (513 < next) = false := by simpa using g4
  go_enter Tryz.func32, Tryz.ntmps32
  go_wp2_with fail
  rw [← HW1.out]
  clear t1 t1' t2 t2' t3 t4 c0 c1 HW1
  go_loopw [4] (fun vi wr => ∃ i : Nat, 1 ≤ i ∧ i ≤ n ∧ vi = .int .i64 i ∧ Hid (Below w1.heap.size w1 wr) ∧ Hid (∀ (j : Nat) (x y : InoP), j + 1 < i → l[j]? = some x → l[j + 1]? = some y → x.num < y.num)) (fun vi _ => n - (RowKit.intOf vi).toNat)
  case atStart => exact ⟨1, Nat.le_refl _, by omega, rfl, Below.refl _ _, (fun j x y hj => by omega : ∀ (j : Nat) (x y : InoP), j + 1 < 1 → l[j]? = some x → l[j + 1]? = some y → x.num < y.num)⟩
  case round =>
    obtain ⟨i, hi1, hin, rfl, hB, hR⟩ := hrel
    have c0 := (X1.out.low hB.out).cell 0
    simp only [List.getElem?_cons_zero] at c0
    have BB := Lib.hid (below_chain B1.out hB.out)
    by_cases hlt : i < n
    · have u1 : decide ((i : Int) < (n : Int)) = true := by simp; omega
      have u2 : decide (i < n) = true := by simp; omega
      obtain ⟨i1, hi1'⟩ : ∃ i1, i1 = i - 1 := ⟨_, rfl⟩
      obtain ⟨x, hx⟩ : ∃ x, l[i]? = some x := ⟨_, List.getElem?_eq_getElem (by have := HL.out; omega)⟩
      obtain ⟨y, hy⟩ : ∃ y, l[i1]? = some y := ⟨_, List.getElem?_eq_getElem (by have := HL.out; omega)⟩
      obtain ⟨fb, fo, e, hfbl, da, dn, dc, na, nn, nc, za, zn, zc, aa, an, ac, h9, _⟩ := irw_at I1.out i x hx
      obtain ⟨fb', fo', e', _, da', dn', dc', na', nn', nc', za', zn', zc', aa', an', ac', h9', _⟩ := irw_at I1.out i1 y hy
      subst e
      injection e' with e'
      injection e' with e1 e2 _
      subst e1 e2
      have k0 := (h9.below hB.out hfbl).k0
      have k1 := (h9'.below hB.out hfbl).k0
      have q2 : (0 : Int) ≤ (i : Int) := by omega
      have q3 : (i : Int) < (n : Int) := by omega
      have q4 : (0 : Int) ≤ (i1 : Int) := by omega
      have q5 : (i1 : Int) < (n : Int) := by omega
      have hw : IntKind.i64.wrap ((i : Int) - 1) = (i1 : Int) := by rw [IntKind.wrap]; simp [IntKind.bits, IntKind.signed]; omega
      have hwi : IntKind.i64.wrap ((i : Int) + 1) = (i : Int) + 1 := by rw [IntKind.wrap]; simp [IntKind.bits, IntKind.signed]; omega
      obtain ⟨v, hv⟩ : ∃ v, v = x.num := ⟨_, rfl⟩
      obtain ⟨u, hu⟩ : ∃ u, u = y.num := ⟨_, rfl⟩
      rw [← hv] at k0
      rw [← hu] at k1
      have HX := Lib.hid hx
      have HY := Lib.hid hy
      have HV := Lib.hid hv
      have HU := Lib.hid hu
      have HI1 := Lib.hid hi1'
      clear h9 h9' hfbl hx hy hv hu hi1'
      by_cases hvu : v ≤ u
      · have u3 : decide (v ≤ u) = true := by simpa using hvu
        go_wp2_with fail
        go_region
        all_goals
          go_wp2_with fail
          go_ret
          exact ⟨false, rfl, ⟨fun h => (by cases h), fun h => by
            have h1 := HI1.out
            have h2 := h.rise i1 y x HY.out (by rw [show i1 + 1 = i by omega]; exact HX.out)
            have := HV.out
            have := HU.out
            omega⟩, BB.out.drew⟩
      · have u3 : decide (v ≤ u) = false := by simpa using hvu
        have NX : Hid (∀ (j : Nat) (x y : InoP), j + 1 < i + 1 → l[j]? = some x → l[j + 1]? = some y → x.num < y.num) := fun j p q hj hp hq => by
          rcases Nat.lt_or_ge (j + 1) i with h1 | h1
          · exact hR.out j p q h1 hp hq
          · have h2 := HI1.out
            obtain rfl : j = i1 := by omega
            have e0 : i = j + 1 := by omega
            have e1 : some y = some p := HY.out.symm.trans hp
            have e2 : some x = some q := by rw [← HX.out, ← hq, e0]
            injection e1 with e1
            injection e2 with e2
            subst e1 e2
            have := HV.out
            have := HU.out
            omega
        clear hR
        go_wp2_with fail
        go_region
        all_goals
          go_wp2_with fail
          go_roundw
          case rel => exact ⟨i + 1, by omega, by omega, by go_num, hB.out.drew, NX.out⟩
          case measure => simp [RowKit.intOf]; omega
    · obtain rfl : i = n := by omega
      have u1 : decide ((i : Int) < (i : Int)) = false := by simp
      obtain ⟨x, hx⟩ : ∃ x, l[0]? = some x := ⟨_, List.getElem?_eq_getElem (by have := HL.out; omega)⟩
      obtain ⟨i1, hi1'⟩ : ∃ i1, i1 = i - 1 := ⟨_, rfl⟩
      obtain ⟨y, hy⟩ : ∃ y, l[i1]? = some y := ⟨_, List.getElem?_eq_getElem (by have := HL.out; omega)⟩
      obtain ⟨fb, fo, e, hfbl, da, dn, dc, na, nn, nc, za, zn, zc, aa, an, ac, h9, _⟩ := irw_at I1.out 0 x hx
      obtain ⟨fb', fo', e', _, da', dn', dc', na', nn', nc', za', zn', zc', aa', an', ac', h9', _⟩ := irw_at I1.out i1 y hy
      subst e
      injection e' with e'
      injection e' with e1 e2 _
      subst e1 e2
      have k0 := (h9.below hB.out hfbl).k0
      have k1 := (h9.below hB.out hfbl).k1
      have k2 := (h9'.below hB.out hfbl).k0
      rw [Nat.zero_mul, Nat.add_zero] at k0 k1
      have q3 : (0 : Int) < (i : Int) := by omega
      have q4 : (0 : Int) ≤ (i1 : Int) := by omega
      have q5 : (i1 : Int) < (i : Int) := by omega
      have hw : IntKind.i64.wrap ((i : Int) - 1) = (i1 : Int) := by rw [IntKind.wrap]; simp [IntKind.bits, IntKind.signed]; omega
      have FIN : Hid (∀ b : Bool, (b = true ↔ (x.num = 1 ∧ x.kind = 2 ∧ y.num ≤ 1024)) → (b = true ↔ OkNums l next)) := fun b hb => by
        rw [hb]
        have h1 := HL.out
        constructor
        · rintro ⟨e1, e2, e3⟩
          refine ⟨by omega, by omega, by omega, by omega, fun j p q hp hq => ?_, fun p hp => ?_, fun p hp => ?_⟩
          · have h2 := (List.getElem?_eq_some_iff.1 hq).1
            exact hR.out j p q (by omega) hp hq
          · rw [hx] at hp
            injection hp with hp
            subst hp
            exact ⟨e1, e2⟩
          · rw [show l.length - 1 = i1 by omega, hy] at hp
            injection hp with hp
            subst hp
            exact e3
        · intro h
          exact ⟨(h.root x hx).1, (h.root x hx).2, h.last y (by rw [show l.length - 1 = i1 by omega]; exact hy)⟩
      obtain ⟨v, hv⟩ : ∃ v, v = x.num := ⟨_, rfl⟩
      obtain ⟨k, hk⟩ : ∃ k, k = x.kind := ⟨_, rfl⟩
      obtain ⟨u, hu⟩ : ∃ u, u = y.num := ⟨_, rfl⟩
      rw [← hv] at k0 FIN
      rw [← hk] at k1 FIN
      rw [← hu] at k2 FIN
      clear h9 h9' hfbl hx hy hv hk hu hi1' hR hB
      by_cases hv1 : v = 1
      rotate_left
      · have u3 : (v == 1) = false := by simpa using hv1
        have NO := Lib.hid hv1
        clear hv1
        go_wp2_with fail
        all_goals first | go_region | skip
        all_goals
          go_wp2_with fail
          go_ret
          exact ⟨false, rfl, FIN.out false ⟨fun h => (by cases h), fun h => absurd h.1 NO.out⟩, by first | exact BB.out | exact BB.out.drew⟩
      have u3 : (v == 1) = true := by simpa using hv1
      have V1 := Lib.hid hv1
      clear hv1
      by_cases hk2 : k = 2
      rotate_left
      · have u4 : (k == 2) = false := by simpa using hk2
        have NO := Lib.hid hk2
        clear hk2
        go_wp2_with fail
        all_goals first | go_region | skip
        all_goals
          go_wp2_with fail
          go_ret
          exact ⟨false, rfl, FIN.out false ⟨fun h => (by cases h), fun h => absurd h.2.1 NO.out⟩, by first | exact BB.out | exact BB.out.drew⟩
      have u4 : (k == 2) = true := by simpa using hk2
      have K2 := Lib.hid hk2
      clear hk2
      by_cases hu2 : u ≤ 1024
      · have u5 : decide (u ≤ 1024) = true := by simpa using hu2
        have U2 := Lib.hid hu2
        clear hu2
        go_wp2_with fail
        all_goals first | go_region | skip
        all_goals
          go_wp2_with fail
          go_ret
          exact ⟨true, rfl, FIN.out true ⟨fun _ => ⟨V1.out, K2.out, U2.out⟩, fun _ => rfl⟩, by first | exact BB.out | exact BB.out.drew⟩
      · have u5 : decide (u ≤ 1024) = false := by simpa using hu2
        have U2 := Lib.hid hu2
        clear hu2
        go_wp2_with fail
        all_goals first | go_region | skip
        all_goals
          go_wp2_with fail
          go_ret
          exact ⟨false, rfl, FIN.out false ⟨fun h => (by cases h), fun h => (by have h1 := h.2.2; have h2 := U2.out; omega)⟩, by first | exact BB.out | exact BB.out.drew⟩
end Go.Proofs.YtcgbaiogbcodcaaGreatDoor.Lw
namespace Go.Proofs.YtcgbaiogbcodcaaGreatDoor.Lw
open Go.RowKit Go.Lib Go.Proofs.YtcgbaiogbcodcaaGreatDoor.Sh Go.Proofs.YtcgbaiogbcodcaaGreatDoor.Lb Go.Proofs.YtcgbaiogbcodcaaGreatDoor.Pf
open Go.Maps

theorem plaw3 : Keyed Tryz.prog 3 := int_keyed Tryz.underlying3
theorem zero66 (w : World) : (zeroValue 66).run Tryz.prog w = .ok (plV 0 0) w := by kernel_rfl
set_option maxRecDepth 100000 in
theorem make_map67 (n : Nat) (w : World) : (Instr.makeMap 67 (some (.int .i64 (n : Int)))).run Tryz.prog w = .ok (.map (some w.heap.size)) (w.alloc (.map #[] 0)) := by
  simp [Instr.makeMap]
  rfl
set_option maxRecDepth 100000 in
theorem make_map131 (n : Nat) (w : World) : (Instr.makeMap 131 (some (.int .i64 (n : Int)))).run Tryz.prog w = .ok (.map (some w.heap.size)) (w.alloc (.map #[] 0)) := by
  simp [Instr.makeMap]
  rfl
theorem f66_0 (a b : Int) (w : World) : (Instr.field 66 (.agg #[.int .i64 a, .int .i64 b]) 0).run Tryz.prog w = .ok (.int .i64 a) w := by kernel_rfl
theorem f66_1 (a b : Int) (w : World) : (Instr.field 66 (.agg #[.int .i64 a, .int .i64 b]) 1).run Tryz.prog w = .ok (.int .i64 b) w := by kernel_rfl
theorem pzero3 (w : World) : (zeroValue 3).run Tryz.prog w = .ok (.int .i64 0) w := by kernel_rfl
theorem keyI (i : Int) (h0 : -9223372036854775808 ≤ i) (h1 : i ≤ 9223372036854775807) : keyOf Tryz.prog 3 (.int .i64 i) = some (.int .i64 i) := keyOf_int_mk Tryz.underlying3 (WalkArith.wf_i64 ⟨h0, h1⟩)
/-- what stands at a number -/
theorem look_pl {w : World} {mb cnt : Nat} {D : DataW Unit} {E : List (Int × Int)} (hm : PlM D E) (ho : w.ownsMap Tryz.prog 3 plR mb cnt D) (x : Int) (h0 : -9223372036854775808 ≤ x) (h1 : x ≤ 9223372036854775807) :
    (Instr.lookup 67 (.map (some mb)) (.int .i64 x) false).run Tryz.prog w = .ok (.agg #[.int .i64 (times E x : Int), .int .i64 (dirOf E x)]) w := by
  obtain ⟨v, ps, hr, hv⟩ := ho.lookup plaw3 Tryz.underlying67 (zero66 w) (plR_of 0 0) (keyI x h0 h1)
  rw [hm.at_ x] at hv
  rw [hr, (plR_inv hv).1]
  rfl
theorem len_pl {w : World} {mb cnt : Nat} {D : DataW Unit} {E : List (Int × Int)} (hm : PlM D E) (ho : w.ownsMap Tryz.prog 3 plR mb cnt D) (ty : TypeId) :
    (Builtin.len_ #[67] ty #[.map (some mb)]).run Tryz.prog w = .ok (.int .i64 ((keysL E).length : Int)) w := by
  rw [ho.len Tryz.underlying67 ty, hm.size]
/-- rows of numbers that are not too many -/
structure FewP (l : List InoP) : Prop where
  most : l.length ≤ 512
  row : ∀ x ∈ l, x.nums.length ≤ 128
  nums : ∀ x ∈ l, ∀ z ∈ x.nums, -9223372036854775808 ≤ z ∧ z ≤ 9223372036854775807
  num : ∀ x ∈ l, -9223372036854775808 ≤ x.num ∧ x.num ≤ 9223372036854775807
theorem few_of {l : List InoP} {next : Int} (h : OkNums l next) (hc : ∀ x ∈ l, OkCont x) : FewP l := by
  refine ⟨h.most, fun x hx => ?_, fun x hx z hz => ?_, fun x hx => ?_⟩
  · by_cases hk : x.kind = 2
    · obtain ⟨h1, h2, _⟩ := (hc x hx).dir hk
      have h3 := h1.same
      simp only at h3
      omega
    · rw [((hc x hx).other hk).2.2]
      simp
  · by_cases hk : x.kind = 2
    · have h1 := ((hc x hx).dir hk).1.nums z hz
      unfold Sh.within at h1
      omega
    · rw [((hc x hx).other hk).2.2] at hz
      cases hz
  · obtain ⟨i, hi⟩ := List.getElem?_of_mem hx
    have h1 := h.pos hi
    have h2 := h.top hi
    omega
theorem enL_take {l : List InoP} {i : Nat} {x : InoP} (h : l[i]? = some x) : enL (l.take (i + 1)) = enL (l.take i) ++ x.nums.map fun n => (n, x.num) := by
  unfold enL gr
  rw [List.take_add_one, h, List.map_append]
  exact ents_snoc _ (x.num, x.nums)
theorem ents_len (l : List InoP) (h : ∀ x ∈ l, x.nums.length ≤ 128) : (enL l).length ≤ 128 * l.length := by
  induction l with
  | nil => simp [enL, gr, ents]
  | cons x r ih =>
    have h1 := ih (fun y hy => h y (List.mem_cons_of_mem _ hy))
    have h2 := h x List.mem_cons_self
    have e : enL (x :: r) = (x.nums.map fun n => (n, x.num)) ++ enL r := by simp [enL, gr, ents]
    rw [e, List.length_append, List.length_map, List.length_cons]
    omega
theorem inner_take (x : InoP) (j : Nat) (z : Int) (h : x.nums[j]? = some z) : ((x.nums.take (j + 1)).map fun n => (n, x.num)) = ((x.nums.take j).map fun n => (n, x.num)) ++ [(z, x.num)] := by
  rw [List.take_add_one, h, List.map_append]
  rfl
/-- what places answers -/
def PlA (l : List InoP) (w : World) (e : Ending) (w' : World) : Prop :=
  Below w.heap.size w w' ∧ ∃ mb D cnt, e = .returned (.map (some mb)) ∧ PlM D (enL l) ∧ w'.ownsMap Tryz.prog 3 plR mb cnt D ∧ w.heap.size ≤ mb
set_option maxHeartbeats 8000000 in
set_option maxRecDepth 100000 in
theorem places_any (ao : Option Addr) (l : List InoP) (n c : Nat) (w : World) (h : Irw w ao l) (hl : l.length = n) (hok : FewP l) :
    Calls Tryz.prog 27 #[.slice ao n c] w (PlA l w) := by
  have hmm := fun W => make_map67 n W
  have hf0 := f66_0
  have HI := Lib.hid h
  have HL := Lib.hid hl
  have HK := Lib.hid hok
  have O0 : Hid ((w.alloc (.map #[] 0)).ownsMap Tryz.prog 3 plR w.heap.size 0 (.map [])) := World.ownsMap_made _ _ _ _
  have B0 : Hid (Below w.heap.size w (w.alloc (.map #[] 0))) := (Below.refl _ w).alloc (Nat.le_refl _) _
  have hn512 : n ≤ 512 := by rw [← hl]; exact hok.most
  clear h hl hok
  go_enter Tryz.func27, Tryz.ntmps27
  go_wp2_with fail
  clear hmm
  generalize w.alloc (.map #[] 0) = w1 at *
  go_loopw [13] (fun vi wr => ∃ (i cnt : Nat) (D : DataW Unit), i ≤ n ∧ vi = .int .i64 i ∧ Hid (PlM D (enL (l.take i))) ∧ Hid (wr.ownsMap Tryz.prog 3 plR w.heap.size cnt D) ∧ Hid (cnt ≤ 128 * i) ∧ Hid (Below w.heap.size w wr)) (fun vi _ => n - (RowKit.intOf vi).toNat)
  case atStart => exact ⟨0, 0, _, Nat.zero_le _, rfl, PlM.empty, O0.out, (Nat.le_refl 0 : (0:Nat) ≤ 128 * 0), B0.out⟩
  case round =>
    clear O0 B0
    obtain ⟨i, cnt, D, hi, rfl, hP, hO, hcn, hB⟩ := hrel
    by_cases hin : i < n
    rotate_left
    · obtain rfl : i = n := by omega
      have PF : Hid (PlM D (enL l)) := by
        show PlM _ _
        have := hP.out
        rw [List.take_of_length_le (by have := HL.out; omega)] at this
        exact this
      clear hP
      go_wp2_with fail
      go_ret
      exact ⟨hB.out, w.heap.size, D, cnt, rfl, PF.out, hO.out, Nat.le_refl _⟩
    obtain ⟨x, hx⟩ : ∃ x, l[i]? = some x := ⟨_, List.getElem?_eq_getElem (by have := HL.out; omega)⟩
    obtain ⟨fb, fo, e, hfbl, da, dn, dc, na, nn, nc, za, zn, zc, aa, an, ac, h9, hv⟩ := irw_at HI.out i x hx
    subst e
    have hmem := List.mem_of_getElem? hx
    have ZV := Lib.hid hv.z4
    have ZL := Lib.hid hv.z1
    have Z128 : Hid (zn ≤ 128) := by show _ ≤ _; have h1 := HK.out.row x hmem; have h2 := hv.z1; omega
    have ZB := Lib.hid (HK.out.nums x hmem)
    have XB := Lib.hid (HK.out.num x hmem)
    have ET := Lib.hid (enL_take hx)
    have IT := Lib.hid (inner_take x)
    have TL := Lib.hid (ents_len (l.take i) (fun y hy => HK.out.row y (List.mem_of_mem_take hy)))
    have h9' := h9.below hB.out hfbl
    obtain ⟨xn, xk, xm, xl, xd, xt, xs, xz, xa⟩ := x
    have k0 := h9'.k0
    have k1 := h9'.k1
    have k2 := h9'.k2
    have k3 := h9'.k3
    have k4 := h9'.k4
    have k5 := h9'.k5
    have k6 := h9'.k6
    have k7 := h9'.k7
    have k8 := h9'.k8
    simp only at k0 k1 k2 k3 k4 k5 k6 k7 k8 ZV ZL ZB XB ET IT
    have q2 : (0 : Int) ≤ (i : Int) := by omega
    have q3 : (i : Int) < (n : Int) := by omega
    obtain ⟨wb, hwb⟩ : ∃ wb, wb = wr.alloc (.cells #[.int .i64 xn, .int .i64 xk, .int .i64 xm, .int .i64 xl, .slice da dn dc, .string xt, .slice na nn nc, .slice za zn zc, .slice aa an ac] 38) := ⟨_, rfl⟩
    have bb : Below wr.heap.size wr wb := by rw [hwb]; exact (Below.refl _ wr).alloc (Nat.le_refl _) _
    have BX : Hid (Sh.Blk wb wr.heap.size [.int .i64 xn, .int .i64 xk, .int .i64 xm, .int .i64 xl, .slice da dn dc, .string xt, .slice na nn nc, .slice za zn zc, .slice aa an ac] 38) := by show Sh.Blk _ _ _ _; rw [hwb]; exact Sh.Blk.new wr [.int .i64 xn, .int .i64 xk, .int .i64 xm, .int .i64 xl, .slice da dn dc, .string xt, .slice na nn nc, .slice za zn zc, .slice aa an ac] 38 _ rfl
    have hB2 := Lib.hid (below_chain hB.out bb)
    have hO2 : Hid (wb.ownsMap Tryz.prog 3 plR w.heap.size cnt D) := by show World.ownsMap _ _ _ _ _ _ _; rw [hwb]; exact hO.out.alloc _
    obtain ⟨X, hX⟩ : ∃ X, X = wr.heap.size := ⟨_, rfl⟩
    rw [← hX] at BX
    have XM : Hid (w.heap.size < X) := by show _ < _; rw [hX]; exact hO.out.lt
    have HWB := Lib.hid hwb
    have HXX := Lib.hid hX
    have INL : Hid (i < l.length ∧ (l.take i).length = i) := ⟨by have := HL.out; omega, by rw [List.length_take]; have := HL.out; omega⟩
    clear hx h9 h9' hv hB hO bb hwb hX hmem
    go_wp2_with fail
    rw [← HWB.out, ← HXX.out]
    have j7 := BX.out.cell 7
    simp only [List.getElem?_cons_zero, List.getElem?_cons_succ] at j7
    clear k0 k1 k2 k3 k4 k5 k6 k7 k8 q2 q3
    go_wp2_with fail
    clear j7 HWB HXX
    go_loopw [20] (fun vi wr => ∃ (j cn : Nat) (D : DataW Unit), j ≤ zn ∧ vi = .int .i64 j ∧ Hid (PlM D (enL (l.take i) ++ (xz.take j).map fun n => (n, xn))) ∧ Hid (wr.ownsMap Tryz.prog 3 plR w.heap.size cn D) ∧ Hid (cn ≤ 128 * i + j) ∧ Hid (Below w.heap.size w wr) ∧ Hid (Sh.Blk wr X [.int .i64 xn, .int .i64 xk, .int .i64 xm, .int .i64 xl, .slice da dn dc, .string xt, .slice na nn nc, .slice za zn zc, .slice aa an ac] 38)) (fun vi _ => zn - (RowKit.intOf vi).toNat)
    case atStart => exact ⟨0, cnt, D, Nat.zero_le _, rfl, (by simpa using hP.out : PlM D (enL (l.take i) ++ (xz.take 0).map fun n => (n, xn))), hO2.out, hcn.out, hB2.out, BX.out⟩
    case round =>
      clear hP hO2 hcn hB2 BX D cnt
      obtain ⟨j, cn, D, hj, rfl, hP, hO, hcn, hB, hX⟩ := hrel
      by_cases hjz : j < zn
      rotate_left
      · obtain rfl : j = zn := by omega
        have PF : Hid (PlM D (enL (l.take (i + 1)))) := by
          show PlM _ _
          have := hP.out
          rw [show xz.take j = xz from List.take_of_length_le (by have := ZL.out; omega)] at this
          rw [ET.out]
          exact this
        have hwi : IntKind.i64.wrap ((i : Int) + 1) = (i : Int) + 1 := by rw [IntKind.wrap]; simp [IntKind.bits, IntKind.signed]; omega
        clear hP
        go_wp2_with fail
        go_roundw
        case rel => exact ⟨i + 1, cn, D, by omega, by go_num, PF.out, hO.out, (by have := hcn.out; have := Z128.out; omega : cn ≤ 128 * (i + 1)), hB.out⟩
        case measure => simp [RowKit.intOf]; omega
      have hjl : j < xz.length := by have := ZL.out; omega
      obtain ⟨zb, zo, hza, hzb, hz⟩ := zrw_cell ZV.out j hjl
      subst hza
      obtain ⟨z, hzz⟩ : ∃ z, xz[j]? = some z := ⟨_, List.getElem?_eq_getElem hjl⟩
      have e7 := (hB.out.cell (p := ⟨zb, zo + j, none⟩) hzb).trans (hz j z hzz)
      have zr := ZB.out z (List.mem_of_getElem? hzz)
      have PN := hP.out.put z xn
      rw [List.append_assoc, ← IT.out j z hzz] at PN
      have j0 := hX.out.cell 0
      have j7 := hX.out.cell 7
      simp only [List.getElem?_cons_zero, List.getElem?_cons_succ] at j0 j7
      have hrun := look_pl hP.out hO.out z zr.1 zr.2
      obtain ⟨E, hE⟩ : ∃ E, E = enL (l.take i) ++ (xz.take j).map fun n => (n, xn) := ⟨_, rfl⟩
      rw [← hE] at hrun PN
      have tl : times E z ≤ 66000 := by
        have h1 := times_le E z
        have h2 := TL.out
        have h3 := INL.out.2
        have h4 : ((xz.take j).map fun n => (n, xn)).length ≤ 128 := by rw [List.length_map, List.length_take]; have := Z128.out; omega
        have h5 : E.length = (enL (l.take i)).length + ((xz.take j).map fun n => (n, xn)).length := by rw [hE, List.length_append]
        rw [h3] at h2
        omega
      obtain ⟨t, ht⟩ : ∃ t, t = times E z := ⟨_, rfl⟩
      rw [← ht] at tl hrun PN
      have hwt : IntKind.i64.wrap ((t : Int) + 1) = (t : Int) + 1 := by rw [IntKind.wrap]; simp [IntKind.bits, IntKind.signed]; omega
      have hwj : IntKind.i64.wrap ((j : Int) + 1) = (j : Int) + 1 := by have := Z128.out; rw [IntKind.wrap]; simp [IntKind.bits, IntKind.signed]; omega
      have keyZ := keyI z zr.1 zr.2
      have val : plR (.agg #[.int .i64 ((t : Int) + 1), .int .i64 xn]) = some (plD (t + 1) xn, []) := by have := plR_of (t + 1) xn; rw [← this]; unfold plV; simp
      have PNH := Lib.hid PN
      have CN : Hid (cn < maxLen) := by show _ < _; have := hcn.out; have := Z128.out; unfold maxLen; omega
      have q2 : (0 : Int) ≤ (j : Int) := by omega
      have q3 : (j : Int) < (zn : Int) := by omega
      clear hz hzz hzb hjl PN hE ht tl zr
      generalize dirOf E z = dz at *
      go_wp2_with (at_mapUpdate; refine wpList_mapUpdate_own _ rfl _ _ _ 67 rfl 3 66 plaw3 Tryz.underlying67 plR w.heap.size cn D rfl hO.out CN.out _ _ _ rfl rfl keyZ _ [] val ?_; intro w5 hown1 hgrow1)
      have BN : Hid (Below w.heap.size w w5) := hB.out.grown hgrow1 hB.out.size (fun k hk => by injection hk with hk; omega)
      have XN := Lib.hid (blk_grown hX.out hgrow1 (by have := XM.out; omega))
      have ON := Lib.hid hown1
      clear hown1 hgrow1 e7 j0 j7 hrun keyZ val hX hB hO hP
      go_wp2_with fail
      go_roundw
      case rel => exact ⟨j + 1, cn + 1, _, by omega, by go_num, PNH.out, ON.out, (by have := hcn.out; omega : cn + 1 ≤ 128 * i + (j + 1)), BN.out, XN.out⟩
      case measure => simp [RowKit.intOf]; omega
end Go.Proofs.YtcgbaiogbcodcaaGreatDoor.Lw
namespace Go.Proofs.YtcgbaiogbcodcaaGreatDoor.Lw
open Go.RowKit Go.Lib Go.Proofs.YtcgbaiogbcodcaaGreatDoor.Sh Go.Proofs.YtcgbaiogbcodcaaGreatDoor.Lb Go.Proofs.YtcgbaiogbcodcaaGreatDoor.Pf
open Go.Maps

theorem dirOf_in (l : List InoP) (x : Int) : dirOf (enL l) x = 0 ∨ dirOf (enL l) x ∈ l.map (·.num) := by
  by_cases h : times (enL l) x = 0
  · exact .inl (dirOf_zero _ _ h)
  · obtain ⟨g, hg, e, _⟩ := ents_mem.1 (dirOf_mem _ _ h)
    obtain ⟨y, hy, rfl⟩ := List.mem_map.1 hg
    exact .inr (List.mem_map.2 ⟨y, hy, e⟩)
theorem upN_in {l : List InoP} {x : Int} (hx : x ∈ l.map (·.num)) : ∀ k, upN (enL l) k x = 0 ∨ upN (enL l) k x ∈ l.map (·.num)
  | 0 => .inr hx
  | _ + 1 => dirOf_in l _
theorem map_below {H : Type} {w w' : World} {k : TypeId} {R : Value → Option (DataW H × List MemPlace)} {b n : Nat} {D : DataW H} (h : w.ownsMap Tryz.prog k R b n D) (hb : Below w.heap.size w w') : w'.ownsMap Tryz.prog k R b n D :=
  h.kept (row := none) ⟨hb.os, hb.tape, hb.output, hb.size, fun i hi _ => hb.block i hi⟩ (by simp)
theorem look_i {w : World} {mb cnt : Nat} {C : DataW Unit} {m : Int → Int} (hm : MapI C m) (ho : w.ownsMap Tryz.prog 3 (plainElem Tryz.prog 3) mb cnt C) (x : Int) (h0 : -9223372036854775808 ≤ x) (h1 : x ≤ 9223372036854775807) :
    (Instr.lookup 131 (.map (some mb)) (.int .i64 x) false).run Tryz.prog w = .ok (.int .i64 (m x)) w := by
  obtain ⟨c, hr, hc, _⟩ := ho.lookup_int plaw3 Tryz.underlying131 Tryz.underlying3 (pzero3 w) (keyI x h0 h1)
  rw [hm x] at hc
  rw [hr, (Lit.int.inj (DataW.lit.inj hc)).2]
set_option maxHeartbeats 8000000 in
set_option maxRecDepth 100000 in
theorem ended_any (ao : Option Addr) (l : List InoP) (n c mb cnt : Nat) (next : Int) (D : DataW Unit) (w : World) (h : Irw w ao l) (hl : l.length = n) (hok : FewP l) (hnu : OkNums l next) (hP : PlM D (enL l)) (hO : w.ownsMap Tryz.prog 3 plR mb cnt D) :
    Calls Tryz.prog 55 #[.slice ao n c, .map (some mb)] w (AnsB (∀ x ∈ l, UpEnds (enL l) x.num) w) := by
  have hmm := fun W => make_map131 n W
  have hf1 := f66_1
  have HI := Lib.hid h
  have HL := Lib.hid hl
  have HK := Lib.hid hok
  have HP := Lib.hid hP
  have HO := Lib.hid hO
  have MB : Hid (mb < w.heap.size) := hO.lt
  have ND : Hid ((l.map (·.num)).Nodup) := hnu.nodup
  have POS : Hid (∀ x ∈ l.map (·.num), 1 ≤ x ∧ x ≤ 1024) := fun x hx => by
    obtain ⟨y, hy, rfl⟩ := List.mem_map.1 hx
    obtain ⟨i, hi⟩ := List.getElem?_of_mem hy
    exact ⟨hnu.pos hi, hnu.top hi⟩
  have O0 : Hid ((w.alloc (.map #[] 0)).ownsMap Tryz.prog 3 (plainElem (H := Unit) Tryz.prog 3) w.heap.size 0 (.map [])) := World.ownsMap_made _ _ _ _
  have B0 : Hid (Below w.heap.size w (w.alloc (.map #[] 0))) := (Below.refl _ w).alloc (Nat.le_refl _) _
  have hn512 : n ≤ 512 := by rw [← hl]; exact hok.most
  have NL : Hid ((l.map (·.num)).length = n) := by show _ = _; rw [List.length_map]; exact hl
  clear h hl hok hP hO hnu
  go_enter Tryz.func55, Tryz.ntmps55
  go_wp2_with fail
  clear hmm
  generalize w.alloc (.map #[] 0) = w1 at *
  go_loopw [14] (fun vi wr => ∃ (i cn : Nat) (C : DataW Unit) (m : Int → Int), i ≤ n ∧ vi = .int .i64 i ∧ Hid (WaysUp (enL l) (l.map (·.num)) i m) ∧ Hid (MapI C m) ∧ Hid (wr.ownsMap Tryz.prog 3 (plainElem Tryz.prog 3) w.heap.size cn C) ∧ Hid (cn + unmet (l.map (·.num)) m ≤ n) ∧ Hid (Below w.heap.size w wr)) (fun vi _ => n - (RowKit.intOf vi).toNat)
  case atStart => exact ⟨0, 0, _, fun _ => 0, Nat.zero_le _, rfl, WaysUp.start _ _, (fun x => rfl : MapI (.map []) fun _ => 0), O0.out, (by have := unmet_le (l.map (·.num)) (fun _ => 0); have := NL.out; omega : 0 + unmet (l.map (·.num)) (fun _ => 0) ≤ n), B0.out⟩
  case round =>
    clear O0 B0
    obtain ⟨i, cn, C, m, hi, rfl, hW, hM, hO, hcn, hB⟩ := hrel
    by_cases hin : i < n
    rotate_left
    · obtain rfl : i = n := by omega
      have FIN : Hid (∀ x ∈ l, UpEnds (enL l) x.num) := fun x hx => hW.out.done x.num (by
        rw [List.take_of_length_le (by have := NL.out; omega)]
        exact List.mem_map.2 ⟨x, hx, rfl⟩)
      clear hW hM hO hcn
      go_wp2_with fail
      go_ret
      exact ⟨true, rfl, ⟨fun _ => FIN.out, fun _ => rfl⟩, hB.out⟩
    obtain ⟨x, hx⟩ : ∃ x, l[i]? = some x := ⟨_, List.getElem?_eq_getElem (by have := HL.out; omega)⟩
    obtain ⟨fb, fo, e, hfbl, da, dn, dc, na, nn, nc, za, zn, zc, aa, an, ac, h9, hv⟩ := irw_at HI.out i x hx
    subst e
    have hmem := List.mem_of_getElem? hx
    have h9' := h9.below hB.out hfbl
    have NI : Hid ((l.map (·.num))[i]? = some x.num) := by show _ = _; rw [List.getElem?_map, hx]; rfl
    have NM : Hid (x.num ∈ l.map (·.num)) := List.mem_map.2 ⟨x, hmem, rfl⟩
    have XNOT : Hid (¬ UpEnds (enL l) x.num → ¬ ∀ x ∈ l, UpEnds (enL l) x.num) := fun h1 h2 => h1 (h2 x hmem)
    obtain ⟨xn, xk, xm, xl, xd, xt, xs, xz, xa⟩ := x
    have k0 := h9'.k0
    have k1 := h9'.k1
    have k2 := h9'.k2
    have k3 := h9'.k3
    have k4 := h9'.k4
    have k5 := h9'.k5
    have k6 := h9'.k6
    have k7 := h9'.k7
    have k8 := h9'.k8
    simp only at k0 k1 k2 k3 k4 k5 k6 k7 k8 NI NM XNOT
    have q2 : (0 : Int) ≤ (i : Int) := by omega
    have q3 : (i : Int) < (n : Int) := by omega
    have X0 : Hid (xn ≠ 0) := by have := (POS.out xn NM.out).1; show _ ≠ _; omega
    obtain ⟨wb, hwb⟩ : ∃ wb, wb = wr.alloc (.cells #[.int .i64 xn, .int .i64 xk, .int .i64 xm, .int .i64 xl, .slice da dn dc, .string xt, .slice na nn nc, .slice za zn zc, .slice aa an ac] 38) := ⟨_, rfl⟩
    have bb : Below wr.heap.size wr wb := by rw [hwb]; exact (Below.refl _ wr).alloc (Nat.le_refl _) _
    have BX : Hid (Sh.Blk wb wr.heap.size [.int .i64 xn, .int .i64 xk, .int .i64 xm, .int .i64 xl, .slice da dn dc, .string xt, .slice na nn nc, .slice za zn zc, .slice aa an ac] 38) := by show Sh.Blk _ _ _ _; rw [hwb]; exact Sh.Blk.new wr [.int .i64 xn, .int .i64 xk, .int .i64 xm, .int .i64 xl, .slice da dn dc, .string xt, .slice na nn nc, .slice za zn zc, .slice aa an ac] 38 _ rfl
    have hB2 := Lib.hid (below_chain hB.out bb)
    have hO2 : Hid (wb.ownsMap Tryz.prog 3 (plainElem Tryz.prog 3) w.heap.size cn C) := by show World.ownsMap _ _ _ _ _ _ _; rw [hwb]; exact hO.out.alloc _
    obtain ⟨X, hX⟩ : ∃ X, X = wr.heap.size := ⟨_, rfl⟩
    rw [← hX] at BX
    have XM : Hid (w.heap.size < X) := by show _ < _; rw [hX]; exact hO.out.lt
    have HWB := Lib.hid hwb
    have HXX := Lib.hid hX
    have WE := Lib.hid (hW.out.enter ND.out NI.out X0.out)
    have DN := Lib.hid hW.out.done
    clear hx h9 h9' hv hB hO bb hwb hX hmem hW
    go_wp2_with fail
    rw [← HWB.out, ← HXX.out]
    have j0 := BX.out.cell 0
    simp only [List.getElem?_cons_zero] at j0
    clear k0 k1 k2 k3 k4 k5 k6 k7 k8 q2 q3
    go_wp2_with fail
    clear j0 HWB HXX
    go_loopg [8] n (fun gk s8 wr => ∃ (k cn : Nat) (C : DataW Unit) (m : Int → Int), s8 = .int .i64 (upN (enL l) k xn) ∧ Hid (WayUp (enL l) (l.map (·.num)) i xn k m) ∧ Hid (MapI C m) ∧ Hid (wr.ownsMap Tryz.prog 3 (plainElem Tryz.prog 3) w.heap.size cn C) ∧ Hid (cn + unmet (l.map (·.num)) m ≤ n) ∧ Hid (Below w.heap.size w wr) ∧ Hid (Sh.Blk wr X [.int .i64 xn, .int .i64 xk, .int .i64 xm, .int .i64 xl, .slice da dn dc, .string xt, .slice na nn nc, .slice za zn zc, .slice aa an ac] 38) ∧ unmet (l.map (·.num)) m ≤ gk)
    case atStart => exact ⟨0, cn, C, m, rfl, WE.out, hM.out, hO2.out, hcn.out, hB2.out, BX.out, by have := hcn.out; omega⟩
    case round =>
      clear WE hM hO2 hcn hB2 BX C m cn
      obtain ⟨k, cn, C, m, rfl, hW, hM, hO, hcn, hB, hX, hgk⟩ := hrel
      have UIN := Lib.hid (upN_in NM.out k)
      obtain ⟨u, hu⟩ : ∃ u, u = upN (enL l) k xn := ⟨_, rfl⟩
      rw [← hu] at UIN ⊢
      have HU := Lib.hid hu
      clear hu
      have hwi : IntKind.i64.wrap ((i : Int) + 1) = (i : Int) + 1 := by rw [IntKind.wrap]; simp [IntKind.bits, IntKind.signed]; omega
      by_cases hu0 : u = 0
      · subst hu0
        have NX := Lib.hid (hW.out.leave NI.out DN.out ⟨0, HU.out.symm⟩)
        clear hW hX UIN
        go_wp2_with fail
        go_roundw
        case rel => exact ⟨i + 1, cn, C, m, by omega, by go_num, NX.out, hM.out, hO.out, hcn.out, hB.out⟩
        case measure => simp [RowKit.intOf]; omega
      have t1 : (u == 0) = false := by simpa using hu0
      have t1' : (u != 0) = true := by simpa using hu0
      have UM : Hid (u ∈ l.map (·.num)) := UIN.out.resolve_left hu0
      have ub := POS.out u UM.out
      have j0 := hX.out.cell 0
      simp only [List.getElem?_cons_zero] at j0
      have hrun := look_i hM.out hO.out u (by omega) (by omega)
      obtain ⟨v, hv⟩ : ∃ v, v = m u := ⟨_, rfl⟩
      rw [← hv] at hrun
      have HV := Lib.hid hv
      clear hv UIN
      by_cases hvx : v = xn
      · have t2 : (v == xn) = true := by simpa using hvx
        have NO : Hid (¬ ∀ x ∈ l, UpEnds (enL l) x.num) := XNOT.out (hW.out.ring (by rw [← HU.out, ← HV.out]; exact hvx))
        clear hW hM hO hcn hX hvx ub
        go_wp2_with fail
        go_ret
        exact ⟨false, rfl, ⟨fun h => (by cases h), fun h => absurd h NO.out⟩, hB.out⟩
      have t2 : (v == xn) = false := by simpa using hvx
      by_cases hv0 : v = 0
      rotate_left
      · have t3 : (v == 0) = false := by simpa using hv0
        have t3' : (v != 0) = true := by simpa using hv0
        have NX := Lib.hid (hW.out.leave NI.out DN.out (by
          rw [← HU.out]
          exact ((hW.out.old u (by rw [← HV.out]; exact hv0)).resolve_left (by rw [← HV.out]; exact hvx)).1))
        clear hW hX hvx hv0 ub
        go_wp2_with fail
        go_roundw
        case rel => exact ⟨i + 1, cn, C, m, by omega, by go_num, NX.out, hM.out, hO.out, hcn.out, hB.out⟩
        case measure => simp [RowKit.intOf]; omega
      have WN := Lib.hid (hW.out.next (by rw [← HU.out]; exact hu0) (by rw [← HU.out]; exact UM.out))
      rw [← HU.out] at WN
      have UL := unmet_lt (m := m) UM.out (HV.out.symm.trans hv0) X0.out
      have MN := Lib.hid (mapI_put hO.out.isMap hM.out u xn)
      have CB := hcn.out
      have CN : Hid (cn < maxLen) := by show _ < _; unfold maxLen; omega
      have CN2 : Hid (cn + 1 + unmet (l.map (·.num)) (fun n => if n = u then xn else m n) ≤ n) := by show _ ≤ _; omega
      have GK : Hid (unmet (l.map (·.num)) (fun n => if n = u then xn else m n) < gk) := by show _ < _; omega
      have keyU := keyI u (by omega) (by omega)
      have xb := POS.out xn NM.out
      have val : plainElem (H := Unit) Tryz.prog 3 (.int .i64 xn) = some (.lit (.int .i64 xn), []) := plainElem_int Tryz.underlying3 (WalkArith.wf_i64 (by omega))
      obtain ⟨tt, htt⟩ : ∃ tt : Int, tt = (times (enL l) u : Int) := ⟨_, rfl⟩
      obtain ⟨dd, hdd⟩ : ∃ dd, dd = dirOf (enL l) u := ⟨_, rfl⟩
      have LK : Hid (∀ W, Below w.heap.size w W → (Instr.lookup 67 (.map (some mb)) (.int .i64 u) false).run Tryz.prog W = .ok (.agg #[.int .i64 tt, .int .i64 dd]) W) := fun W hb => by rw [htt, hdd]; exact look_pl HP.out (map_below HO.out hb) u (by omega) (by omega)
      have DD : Hid (dd = upN (enL l) (k + 1) xn) := by show _ = dirOf _ (upN (enL l) k xn); rw [← HU.out]; exact hdd
      subst hv0
      clear hW hvx ub xb UL CB hgk htt hdd
      go_wp2_with (at_mapUpdate; refine wpList_mapUpdate_own _ rfl _ _ _ 131 rfl 3 3 plaw3 Tryz.underlying131 _ w.heap.size cn C rfl hO.out CN.out _ _ _ rfl rfl keyU _ [] val ?_; intro w5 hown1 hgrow1; have BN := Lib.hid (hB.out.grown hgrow1 hB.out.size (fun k hk => by injection hk with hk; omega)); have lk := LK.out w5 BN.out)
      have XN := Lib.hid (blk_grown hX.out hgrow1 (by have := XM.out; omega))
      have ON := Lib.hid hown1
      clear hown1 hgrow1 j0 hrun keyU val hX hB hO hM lk
      go_roundg (unmet (l.map (·.num)) (fun n => if n = u then xn else m n))
      case measure => exact GK.out
      case rel => exact ⟨k + 1, cn + 1, _, _, congrArg (Value.int .i64) DD.out, WN.out, MN.out, ON.out, CN2.out, BN.out, XN.out, Nat.le_refl _⟩
end Go.Proofs.YtcgbaiogbcodcaaGreatDoor.Lw
namespace Go.Proofs.YtcgbaiogbcodcaaGreatDoor.Lw
open Go.RowKit Go.Lib Go.Proofs.YtcgbaiogbcodcaaGreatDoor.Sh Go.Proofs.YtcgbaiogbcodcaaGreatDoor.Lb Go.Proofs.YtcgbaiogbcodcaaGreatDoor.Pf
open Go.Maps

/-- may the places of an inode be? -/
def okEach (l : List InoP) (x : InoP) : Prop := (times (enL l) x.num : Int) ≤ x.links ∧ (x.kind ≠ 2 → (times (enL l) x.num : Int) = x.links)
theorem cnt_take {l : List InoP} {i : Nat} {x : InoP} (p : Int → Bool) (h : l[i]? = some x) : ((l.take (i + 1)).map (·.num)).countP p = ((l.take i).map (·.num)).countP p + (if p x.num then 1 else 0) := by
  rw [List.take_add_one, h]
  simp [List.countP_append, List.countP_cons]
theorem cnt_le (l : List InoP) (p : Int → Bool) (i : Nat) : ((l.take i).map (·.num)).countP p ≤ i := by
  have h := List.countP_le_length (p := p) (l := (l.take i).map (·.num))
  rw [List.length_map, List.length_take] at h
  omega
theorem mem_take_succ {l : List InoP} {i : Nat} {x y : InoP} (h : l[i]? = some x) (hy : y ∈ l.take (i + 1)) : y ∈ l.take i ∨ y = x := by
  rw [List.take_add_one, h] at hy
  rcases List.mem_append.1 hy with h1 | h1
  · exact .inl h1
  · right
    simpa using h1
set_option maxHeartbeats 8000000 in
set_option maxRecDepth 100000 in
theorem rplaces_any (ao : Option Addr) (l : List InoP) (n c : Nat) (next : Int) (w : World) (h : Irw w ao l) (hl : l.length = n) (hok : FewP l) (hnu : OkNums l next) :
    Calls Tryz.prog 35 #[.slice ao n c] w (AnsB (OkPlaces l) w) := by
  have hf0 := f66_0
  have HI := Lib.hid h
  have HL := Lib.hid hl
  have HK := Lib.hid hok
  have HN := Lib.hid hnu
  have hn512 : n ≤ 512 := by rw [← hl]; exact hok.most
  have C1 := Lib.hid (places_any ao l n c w h hl hok)
  have CE := Lib.hid (fun (mb cnt : Nat) (D : DataW Unit) (W : World) (hb : Below w.heap.size w W) (hP : PlM D (enL l)) (hO : W.ownsMap Tryz.prog 3 plR mb cnt D) => ended_any ao l n c mb cnt next D W (h.below hb) hl hok hnu hP hO)
  clear h hl hok hnu
  go_enter Tryz.func35, Tryz.ntmps35
  go_wp2_with fail
  refine C1.out.mono ?_
  clear C1
  rintro e w1 ⟨hb, mb, D, cnt, rfl, hP, hO, hmb⟩
  have B1 := Lib.hid hb
  have P1 := Lib.hid hP
  have O1 := Lib.hid hO
  clear hb hP hO
  have hr1 := look_pl P1.out O1.out 1 (by omega) (by omega)
  obtain ⟨t, ht⟩ : ∃ t, t = times (enL l) 1 := ⟨_, rfl⟩
  rw [← ht] at hr1
  have HT := Lib.hid ht
  clear ht
  generalize dirOf (enL l) 1 = d1 at *
  by_cases ht0 : 0 < t
  · have t1 : decide ((0 : Int) < (t : Int)) = true := by simp; omega
    have t2 : decide (0 < t) = true := by simp; omega
    go_wp2_with fail
    go_ret
    exact ⟨false, rfl, ⟨fun h => (by cases h), fun h => by have := h.first; have := HT.out; omega⟩, B1.out⟩
  have t1 : decide ((0 : Int) < (t : Int)) = false := by simp; omega
  have t2 : decide (0 < t) = false := by simp; omega
  have F0 : Hid (times (enL l) 1 = 0) := by show _ = _; have := HT.out; omega
  go_wp2_with fail
  clear hr1 t1 t2 ht0
  go_loopw [4, 16] (fun vs vi wr => ∃ (i s : Nat), i ≤ n ∧ vi = .int .i64 i ∧ vs = .int .i64 s ∧ Hid (s = ((l.take i).map (·.num)).countP fun x => decide (0 < times (enL l) x)) ∧ Hid (∀ x ∈ l.take i, okEach l x) ∧ Hid (Below w1.heap.size w1 wr)) (fun _ vi _ => n - (RowKit.intOf vi).toNat)
  case atStart => exact ⟨0, 0, Nat.zero_le _, rfl, rfl, (by simp : 0 = ((l.take 0).map (·.num)).countP fun x => decide (0 < times (enL l) x)), (fun x hx => by simp at hx : ∀ x ∈ l.take 0, okEach l x), Below.refl _ _⟩
  case round =>
    obtain ⟨i, s, hi, rfl, rfl, hs, hE, hB⟩ := hrel
    have BB := Lib.hid (below_chain B1.out hB.out)
    have OB := Lib.hid (map_below O1.out hB.out)
    by_cases hin : i < n
    rotate_left
    · obtain rfl : i = n := by omega
      have ALL : Hid (∀ x ∈ l, okEach l x) := fun x hx => hE.out x (by rw [List.take_of_length_le (by have := HL.out; omega)]; exact hx)
      have SS : Hid (s = (l.map (·.num)).countP fun x => decide (0 < times (enL l) x)) := by
        show _ = _
        have := hs.out
        rw [List.take_of_length_le (by have := HL.out; omega)] at this
        exact this
      have hlen := fun ty => len_pl P1.out OB.out ty
      obtain ⟨kl, hk⟩ : ∃ kl, kl = (keysL (enL l)).length := ⟨_, rfl⟩
      rw [← hk] at hlen
      have HKL := Lib.hid hk
      clear hs hE hB hk
      by_cases hsk : s = kl
      · have t1 : ((s : Int) == (kl : Int)) = true := by simp; omega
        have t2 : (s == kl) = true := by simpa using hsk
        go_wp2_with fail
        refine (CE.out mb cnt D _ BB.out P1.out OB.out).mono ?_
        rintro e w3 ⟨b, rfl, hb, hbl⟩
        have B3 := Lib.hid (below_chain BB.out hbl)
        have HB := Lib.hid hb
        clear hb hbl hlen
        go_wp2_with fail
        go_ret
        exact ⟨b, rfl, ⟨fun h => ⟨F0.out, ALL.out, by rw [← SS.out, ← HKL.out]; exact hsk, HB.out.1 h⟩, fun h => HB.out.2 h.ends⟩, B3.out⟩
      · have t1 : ((s : Int) == (kl : Int)) = false := by simp; omega
        have t2 : (s == kl) = false := by simpa using hsk
        go_wp2_with fail
        go_ret
        exact ⟨false, rfl, ⟨fun h => (by cases h), fun h => by have h1 := h.keys; have := SS.out; have := HKL.out; omega⟩, BB.out⟩
    obtain ⟨x, hx⟩ : ∃ x, l[i]? = some x := ⟨_, List.getElem?_eq_getElem (by have := HL.out; omega)⟩
    obtain ⟨fb, fo, e, hfbl, da, dn, dc, na, nn, nc, za, zn, zc, aa, an, ac, h9, hv⟩ := irw_at HI.out i x hx
    subst e
    have hmem := List.mem_of_getElem? hx
    have h9' := h9.below BB.out hfbl
    have CT := Lib.hid (cnt_take (fun x => decide (0 < times (enL l) x)) hx)
    have MT := Lib.hid (fun y => @mem_take_succ l i x y hx)
    have XM : Hid (x ∈ l) := hmem
    have xb := HK.out.num x hmem
    obtain ⟨xn, xk, xm, xl, xd, xt, xs, xz, xa⟩ := x
    have k0 := h9'.k0
    have k1 := h9'.k1
    have k2 := h9'.k2
    have k3 := h9'.k3
    have k4 := h9'.k4
    have k5 := h9'.k5
    have k6 := h9'.k6
    have k7 := h9'.k7
    have k8 := h9'.k8
    simp only at k0 k1 k2 k3 k4 k5 k6 k7 k8 CT xb
    have q2 : (0 : Int) ≤ (i : Int) := by omega
    have q3 : (i : Int) < (n : Int) := by omega
    obtain ⟨wb, hwb⟩ : ∃ wb, wb = wr.alloc (.cells #[.int .i64 xn, .int .i64 xk, .int .i64 xm, .int .i64 xl, .slice da dn dc, .string xt, .slice na nn nc, .slice za zn zc, .slice aa an ac] 38) := ⟨_, rfl⟩
    have bb : Below wr.heap.size wr wb := by rw [hwb]; exact (Below.refl _ wr).alloc (Nat.le_refl _) _
    have BX : Hid (Sh.Blk wb wr.heap.size [.int .i64 xn, .int .i64 xk, .int .i64 xm, .int .i64 xl, .slice da dn dc, .string xt, .slice na nn nc, .slice za zn zc, .slice aa an ac] 38) := by show Sh.Blk _ _ _ _; rw [hwb]; exact Sh.Blk.new wr [.int .i64 xn, .int .i64 xk, .int .i64 xm, .int .i64 xl, .slice da dn dc, .string xt, .slice na nn nc, .slice za zn zc, .slice aa an ac] 38 _ rfl
    have hB2 := Lib.hid (below_chain hB.out bb)
    have OB2 := Lib.hid (map_below OB.out bb)
    have hr := look_pl P1.out OB2.out xn xb.1 xb.2
    obtain ⟨t, ht⟩ : ∃ t, t = times (enL l) xn := ⟨_, rfl⟩
    rw [← ht] at hr
    have HT := Lib.hid ht
    rw [hwb] at hr
    have j0 := BX.out.cell 0
    have j1 := BX.out.cell 1
    have j3 := BX.out.cell 3
    simp only [List.getElem?_cons_zero, List.getElem?_cons_succ] at j0 j1 j3
    rw [hwb] at j0 j1 j3
    have BB2 := Lib.hid (below_chain B1.out hB2.out)
    have HWB := Lib.hid hwb
    have hsi : s ≤ i := by have := cnt_le l (fun x => decide (0 < times (enL l) x)) i; rw [← hs.out] at this; exact this
    clear hx h9 h9' hv hB bb hwb hmem ht xb
    generalize dirOf (enL l) xn = dx at *
    by_cases g1 : xl < (t : Int)
    · have u1 : decide (xl < (t : Int)) = true := by simpa using g1
      go_wp2_with fail
      rw [← HWB.out]
      go_ret
      exact ⟨false, rfl, ⟨fun h => (by cases h), fun h => by have h1 := (h.each _ XM.out).1; have := HT.out; simp only at h1; omega⟩, BB2.out⟩
    have u1 : decide (xl < (t : Int)) = false := by simpa using g1
    by_cases g2 : (t : Int) < xl
    · have u2 : decide ((t : Int) < xl) = true := by simpa using g2
      by_cases g3 : xk = 2
      rotate_left
      · have u3 : (xk != 2) = true := by simpa using g3
        have u3' : (xk == 2) = false := by simpa using g3
        go_wp2_with fail
        rw [← HWB.out]
        go_ret
        exact ⟨false, rfl, ⟨fun h => (by cases h), fun h => by have h1 := (h.each _ XM.out).2 g3; have := HT.out; simp only at h1; omega⟩, BB2.out⟩
      · subst g3
        have EN : Hid (∀ y ∈ l.take (i + 1), okEach l y) := fun y hy => by
          rcases MT.out y hy with h1 | h1
          · exact hE.out y h1
          · rw [h1]
            exact ⟨by have := HT.out; show (times (enL l) xn : Int) ≤ xl; omega, fun h => absurd rfl h⟩
        clear hE
        have hwi : IntKind.i64.wrap ((i : Int) + 1) = (i : Int) + 1 := by rw [IntKind.wrap]; simp [IntKind.bits, IntKind.signed]; omega
        have hws : IntKind.i64.wrap ((s : Int) + 1) = (s : Int) + 1 := by rw [IntKind.wrap]; simp [IntKind.bits, IntKind.signed]; omega
        by_cases g4 : 0 < t
        · have u4 : decide ((0 : Int) < (t : Int)) = true := by simp; omega
          have u4' : decide (0 < t) = true := by simp; omega
          have SN : Hid (s + 1 = ((l.take (i + 1)).map (·.num)).countP fun x => decide (0 < times (enL l) x)) := by
            show _ = _
            rw [CT.out, ← hs.out, if_pos (by rw [← HT.out]; simpa using g4)]
          clear hs
          go_wp2_with fail
          rw [← HWB.out]
          go_roundw
          case rel => exact ⟨i + 1, s + 1, by omega, by go_num, by go_num, SN.out, EN.out, hB2.out⟩
          case measure => simp [RowKit.intOf]; omega
        · have u4 : decide ((0 : Int) < (t : Int)) = false := by simp; omega
          have u4' : decide (0 < t) = false := by simp; omega
          have SN : Hid (s = ((l.take (i + 1)).map (·.num)).countP fun x => decide (0 < times (enL l) x)) := by
            show _ = _
            rw [CT.out, ← hs.out, if_neg (by rw [← HT.out]; simpa using g4)]
            rfl
          clear hs
          go_wp2_with fail
          rw [← HWB.out]
          go_roundw
          case rel => exact ⟨i + 1, s, by omega, by go_num, rfl, SN.out, EN.out, hB2.out⟩
          case measure => simp [RowKit.intOf]; omega
    · have u2 : decide ((t : Int) < xl) = false := by simpa using g2
      have EN : Hid (∀ y ∈ l.take (i + 1), okEach l y) := fun y hy => by
        rcases MT.out y hy with h1 | h1
        · exact hE.out y h1
        · rw [h1]
          exact ⟨by have := HT.out; show (times (enL l) xn : Int) ≤ xl; omega, fun _ => by have := HT.out; show (times (enL l) xn : Int) = xl; omega⟩
      clear hE
      have hwi : IntKind.i64.wrap ((i : Int) + 1) = (i : Int) + 1 := by rw [IntKind.wrap]; simp [IntKind.bits, IntKind.signed]; omega
      have hws : IntKind.i64.wrap ((s : Int) + 1) = (s : Int) + 1 := by rw [IntKind.wrap]; simp [IntKind.bits, IntKind.signed]; omega
      by_cases g4 : 0 < t
      · have u4 : decide ((0 : Int) < (t : Int)) = true := by simp; omega
        have u4' : decide (0 < t) = true := by simp; omega
        have SN : Hid (s + 1 = ((l.take (i + 1)).map (·.num)).countP fun x => decide (0 < times (enL l) x)) := by
          show _ = _
          rw [CT.out, ← hs.out, if_pos (by rw [← HT.out]; simpa using g4)]
        clear hs
        go_wp2_with fail
        rw [← HWB.out]
        go_roundw
        case rel => exact ⟨i + 1, s + 1, by omega, by go_num, by go_num, SN.out, EN.out, hB2.out⟩
        case measure => simp [RowKit.intOf]; omega
      · have u4 : decide ((0 : Int) < (t : Int)) = false := by simp; omega
        have u4' : decide (0 < t) = false := by simp; omega
        have SN : Hid (s = ((l.take (i + 1)).map (·.num)).countP fun x => decide (0 < times (enL l) x)) := by
          show _ = _
          rw [CT.out, ← hs.out, if_neg (by rw [← HT.out]; simpa using g4)]
          rfl
        clear hs
        go_wp2_with fail
        rw [← HWB.out]
        go_roundw
        case rel => exact ⟨i + 1, s, by omega, by go_num, rfl, SN.out, EN.out, hB2.out⟩
        case measure => simp [RowKit.intOf]; omega
end Go.Proofs.YtcgbaiogbcodcaaGreatDoor.Lw
namespace Go.Proofs.YtcgbaiogbcodcaaGreatDoor.Lw
open Go.RowKit Go.Lib Go.Proofs.YtcgbaiogbcodcaaGreatDoor.Sh Go.Proofs.YtcgbaiogbcodcaaGreatDoor.Lb Go.Proofs.YtcgbaiogbcodcaaGreatDoor.Pf
open Go.Maps

set_option maxHeartbeats 8000000 in
set_option maxRecDepth 100000 in
theorem check_any (ao : Option Addr) (l : List InoP) (n c : Nat) (next : Int) (w : World) (h : Irw w ao l) (hl : l.length = n) :
    Calls Tryz.prog 16 #[.agg #[.slice ao n c, .int .i64 next]] w (AnsB (OkP l next) w) := by
  obtain ⟨w1, hw1⟩ : ∃ w1, w1 = w.alloc (.cells #[.slice ao n c, .int .i64 next] 24) := ⟨_, rfl⟩
  have b1 : Below w.heap.size w w1 := by rw [hw1]; exact (Below.refl _ w).alloc (Nat.le_refl _) _
  have x1 : Sh.Blk w1 w.heap.size [.slice ao n c, .int .i64 next] 24 := by rw [hw1]; exact Sh.Blk.new w [.slice ao n c, .int .i64 next] 24 _ rfl
  have I1 := Lib.hid (h.below b1)
  have HL := Lib.hid hl
  have B1 := Lib.hid b1
  have X1 := Lib.hid x1
  have HW1 := Lib.hid hw1
  have C := Lib.hid (nums_any ao l n c next w1 I1.out hl)
  have c0 := x1.cell 0
  have c1 := x1.cell 1
  simp only [List.getElem?_cons_zero, List.getElem?_cons_succ] at c0 c1
  rw [hw1] at c0 c1
  clear h hl x1 b1 hw1
  go_enter Tryz.func16, Tryz.ntmps16
  go_wp2_with fail
  rw [← HW1.out]
  refine C.out.mono ?_
  clear C c0 c1 HW1
  rintro e w2 ⟨b, rfl, hb, hbl⟩
  have B2 := Lib.hid (below_chain B1.out hbl)
  have X2 := Lib.hid (X1.out.low hbl)
  have I2 := Lib.hid (I1.out.below hbl)
  cases b with
  | false =>
    have NO : Hid (¬ OkNums l next) := fun h => by have := hb.2 h; cases this
    clear hb hbl
    go_wp2_with fail
    go_ret
    exact ⟨false, rfl, ⟨fun h => (by cases h), fun h => absurd h.nums NO.out⟩, B2.out⟩
  | true =>
    have ON := Lib.hid (hb.1 rfl)
    have c0 := X2.out.cell 0
    simp only [List.getElem?_cons_zero] at c0
    have hn512 : n ≤ 512 := by have := ON.out.most; have := HL.out; omega
    clear hb hbl X1 I1 B1
    go_wp2_with fail
    clear c0
    go_loopw [11] (fun vi wr => ∃ i : Nat, i ≤ n ∧ vi = .int .i64 i ∧ Hid (∀ x ∈ l.take i, OkNode x ∧ OkCont x) ∧ Hid (Below w2.heap.size w2 wr)) (fun vi _ => n - (RowKit.intOf vi).toNat)
    case atStart => exact ⟨0, Nat.zero_le _, rfl, (fun x hx => by simp at hx : ∀ x ∈ l.take 0, OkNode x ∧ OkCont x), Below.refl _ _⟩
    case round =>
      obtain ⟨i, hi, rfl, hE, hB⟩ := hrel
      have BB := Lib.hid (below_chain B2.out hB.out)
      by_cases hin : i < n
      rotate_left
      · obtain rfl : i = n := by omega
        have ALL : Hid (∀ x ∈ l, OkNode x ∧ OkCont x) := fun x hx => hE.out x (by rw [List.take_of_length_le (by have := HL.out; omega)]; exact hx)
        have C := Lib.hid (rplaces_any ao l i c next wr (I2.out.below hB.out) HL.out (few_of ON.out (fun x hx => (ALL.out x hx).2)) ON.out)
        have c0 := (X2.out.low hB.out).cell 0
        simp only [List.getElem?_cons_zero] at c0
        clear hE hB
        go_wp2_with fail
        refine C.out.mono ?_
        clear C c0
        rintro e w3 ⟨b, rfl, hb, hbl⟩
        have B3 := Lib.hid (below_chain BB.out hbl)
        have HB := Lib.hid hb
        clear hb hbl
        go_wp2_with fail
        go_ret
        exact ⟨b, rfl, ⟨fun h => ⟨ON.out, ALL.out, HB.out.1 h⟩, fun h => HB.out.2 h.places⟩, B3.out⟩
      obtain ⟨x, hx⟩ : ∃ x, l[i]? = some x := ⟨_, List.getElem?_eq_getElem (by have := HL.out; omega)⟩
      obtain ⟨fb, fo, e, hfbl, da, dn, dc, na, nn, nc, za, zn, zc, aa, an, ac, h9, hv⟩ := irw_at I2.out i x hx
      subst e
      have h9' := h9.below hB.out hfbl
      have MT := Lib.hid (fun y => @mem_take_succ l i x y hx)
      have XM : Hid (x ∈ l) := List.mem_of_getElem? hx
      have V0 := Lib.hid (hv.below hB.out)
      obtain ⟨xn, xk, xm, xl, xd, xt, xs, xz, xa⟩ := x
      have k0 := h9'.k0
      have k1 := h9'.k1
      have k2 := h9'.k2
      have k3 := h9'.k3
      have k4 := h9'.k4
      have k5 := h9'.k5
      have k6 := h9'.k6
      have k7 := h9'.k7
      have k8 := h9'.k8
      simp only at k0 k1 k2 k3 k4 k5 k6 k7 k8
      have q2 : (0 : Int) ≤ (i : Int) := by omega
      have q3 : (i : Int) < (n : Int) := by omega
      obtain ⟨wb, hwb⟩ : ∃ wb, wb = wr.alloc (.cells #[.int .i64 xn, .int .i64 xk, .int .i64 xm, .int .i64 xl, .slice da dn dc, .string xt, .slice na nn nc, .slice za zn zc, .slice aa an ac] 38) := ⟨_, rfl⟩
      have bb : Below wr.heap.size wr wb := by rw [hwb]; exact (Below.refl _ wr).alloc (Nat.le_refl _) _
      have BX : Hid (Sh.Blk wb wr.heap.size [.int .i64 xn, .int .i64 xk, .int .i64 xm, .int .i64 xl, .slice da dn dc, .string xt, .slice na nn nc, .slice za zn zc, .slice aa an ac] 38) := by show Sh.Blk _ _ _ _; rw [hwb]; exact Sh.Blk.new wr [.int .i64 xn, .int .i64 xk, .int .i64 xm, .int .i64 xl, .slice da dn dc, .string xt, .slice na nn nc, .slice za zn zc, .slice aa an ac] 38 _ rfl
      have hB2 := Lib.hid (below_chain hB.out bb)
      have V1 := Lib.hid (V0.out.below bb)
      have CN := Lib.hid (node_any xn xk xm xl xd xt xs xz xa da na za aa dn dc nn nc zn zc an ac wb V1.out)
      have HWB := Lib.hid hwb
      have j := fun q => BX.out.cell q
      have j0 := j 0
      have j1 := j 1
      have j2 := j 2
      have j3 := j 3
      have j4 := j 4
      have j5 := j 5
      have j6 := j 6
      have j7 := j 7
      have j8 := j 8
      simp only [List.getElem?_cons_zero, List.getElem?_cons_succ] at j0 j1 j2 j3 j4 j5 j6 j7 j8
      rw [hwb] at j0 j1 j2 j3 j4 j5 j6 j7 j8
      clear hx h9 h9' hv hB bb hwb j V0
      go_wp2_with fail
      rw [← HWB.out]
      refine CN.out.mono ?_
      clear CN k0 k1 k2 k3 k4 k5 k6 k7 k8 j0 j1 j2 j3 j4 j5 j6 j7 j8 HWB q2 q3
      rintro e w3 ⟨b, rfl, hb, hbl⟩
      have hB3 := Lib.hid (below_chain hB2.out hbl)
      have BB3 := Lib.hid (below_chain B2.out hB3.out)
      cases b with
      | false =>
        have NO : Hid (¬ OkNode ⟨xn, xk, xm, xl, xd, xt, xs, xz, xa⟩) := fun h => by have := hb.2 h; cases this
        clear hb hbl
        go_wp2_with fail
        go_ret
        exact ⟨false, rfl, ⟨fun h => (by cases h), fun h => absurd (h.each _ XM.out).1 NO.out⟩, BB3.out⟩
      | true =>
        have NODE := Lib.hid (hb.1 rfl)
        have V3 := Lib.hid (V1.out.below hbl)
        have CC := Lib.hid (content_any xn xk xm xl xd xt xs xz xa da na za aa dn dc nn nc zn zc an ac w3 V3.out)
        have j := fun q => (BX.out.low hbl).cell q
        have j0 := j 0
        have j1 := j 1
        have j2 := j 2
        have j3 := j 3
        have j4 := j 4
        have j5 := j 5
        have j6 := j 6
        have j7 := j 7
        have j8 := j 8
        simp only [List.getElem?_cons_zero, List.getElem?_cons_succ] at j0 j1 j2 j3 j4 j5 j6 j7 j8
        clear hb hbl j V1
        go_wp2_with fail
        refine CC.out.mono ?_
        clear CC j0 j1 j2 j3 j4 j5 j6 j7 j8
        rintro e w4 ⟨b, rfl, hb, hbl⟩
        have hB4 := Lib.hid (below_chain hB3.out hbl)
        have BB4 := Lib.hid (below_chain B2.out hB4.out)
        cases b with
        | false =>
          have NO : Hid (¬ OkCont ⟨xn, xk, xm, xl, xd, xt, xs, xz, xa⟩) := fun h => by have := hb.2 h; cases this
          clear hb hbl
          go_wp2_with fail
          go_ret
          exact ⟨false, rfl, ⟨fun h => (by cases h), fun h => absurd (h.each _ XM.out).2 NO.out⟩, BB4.out⟩
        | true =>
          have CONT := Lib.hid (hb.1 rfl)
          have EN : Hid (∀ y ∈ l.take (i + 1), OkNode y ∧ OkCont y) := fun y hy => by
            rcases MT.out y hy with h1 | h1
            · exact hE.out y h1
            · rw [h1]
              exact ⟨NODE.out, CONT.out⟩
          have hwi : IntKind.i64.wrap ((i : Int) + 1) = (i : Int) + 1 := by rw [IntKind.wrap]; simp [IntKind.bits, IntKind.signed]; omega
          clear hb hbl hE BX
          go_wp2_with fail
          go_roundw
          case rel => exact ⟨i + 1, by omega, by go_num, EN.out, hB4.out⟩
          case measure => simp [RowKit.intOf]; omega
/-- check's answer -/
def cerr : Value := Ref ⟨#[102, 105, 108, 101, 32, 115, 121, 115, 116, 101, 109]⟩ 2
set_option maxRecDepth 100000 in
theorem checkerr_any (ao : Option Addr) (l : List InoP) (n c : Nat) (next : Int) (w : World) (h : Irw w ao l) (hl : l.length = n) :
    Calls Tryz.prog 36 #[.agg #[.slice ao n c, .int .i64 next]] w fun e w' => ((OkP l next ∧ e = .returned .nilIface) ∨ (¬ OkP l next ∧ e = .returned cerr)) ∧ Below w.heap.size w w' := by
  obtain ⟨w1, hw1⟩ : ∃ w1, w1 = w.alloc (.cells #[.slice ao n c, .int .i64 next] 24) := ⟨_, rfl⟩
  have b1 : Below w.heap.size w w1 := by rw [hw1]; exact (Below.refl _ w).alloc (Nat.le_refl _) _
  have x1 : Sh.Blk w1 w.heap.size [.slice ao n c, .int .i64 next] 24 := by rw [hw1]; exact Sh.Blk.new w [.slice ao n c, .int .i64 next] 24 _ rfl
  have B1 := Lib.hid b1
  have HW1 := Lib.hid hw1
  have C := Lib.hid (check_any ao l n c next w1 (h.below b1) hl)
  have c0 := x1.cell 0
  have c1 := x1.cell 1
  simp only [List.getElem?_cons_zero, List.getElem?_cons_succ] at c0 c1
  rw [hw1] at c0 c1
  clear h hl x1 b1 hw1
  unfold cerr Ref
  go_enter Tryz.func36, Tryz.ntmps36
  go_wp2_with fail
  rw [← HW1.out]
  refine C.out.mono ?_
  clear C c0 c1 HW1
  rintro e w2 ⟨b, rfl, hb, hbl⟩
  have B2 := Lib.hid (below_chain B1.out hbl)
  cases b with
  | false =>
    have NO : Hid (¬ OkP l next) := fun h => by have := hb.2 h; cases this
    clear hb hbl
    go_wp2_with fail
    go_ret
    exact ⟨.inr ⟨NO.out, rfl⟩, B2.out⟩
  | true =>
    have YES := Lib.hid (hb.1 rfl)
    clear hb hbl
    go_wp2_with fail
    go_ret
    exact ⟨.inl ⟨YES.out, rfl⟩, B2.out⟩
end Go.Proofs.YtcgbaiogbcodcaaGreatDoor.Lw
namespace Go.Proofs.YtcgbaiogbcodcaaGreatDoor.Lw
open Go.RowKit Go.Lib Go.Proofs.YtcgbaiogbcodcaaGreatDoor.Sh Go.Proofs.YtcgbaiogbcodcaaGreatDoor.Lb Go.Proofs.YtcgbaiogbcodcaaGreatDoor.Pf
open Go.Maps

/-- numbers rise -/
def Rise (l : List InoP) : Prop := ∀ (i j : Nat) (x y : InoP), i < j → l[i]? = some x → l[j]? = some y → x.num < y.num
theorem OkNums.risen {l : List InoP} {next : Int} (h : OkNums l next) : Rise l := fun _ _ _ _ hij hx hy => h.lt' hx hy hij
/-- a number's place, and whether it is there -/
structure Sk (l : List InoP) (k : Int) (i : Nat) (b : Bool) : Prop where
  le : i ≤ l.length
  low : ∀ (j : Nat) (x : InoP), j < i → l[j]? = some x → x.num < k
  high : ∀ (j : Nat) (x : InoP), i ≤ j → l[j]? = some x → k ≤ x.num
  has : b = true ↔ ∃ x, l[i]? = some x ∧ x.num = k
theorem Sk.yes {l : List InoP} {k : Int} {i : Nat} {b : Bool} (h : Sk l k i b) {j : Nat} {x : InoP} (hx : l[j]? = some x) (he : x.num = k) (hr : Rise l) : i = j ∧ b = true := by
  have hij : i = j := by
    rcases Nat.lt_trichotomy i j with h1 | h1 | h1
    · obtain ⟨y, hy⟩ : ∃ y, l[i]? = some y := ⟨_, List.getElem?_eq_getElem (by have := (List.getElem?_eq_some_iff.1 hx).1; omega)⟩
      have h2 := h.high i y (Nat.le_refl _) hy
      have h3 := hr i j y x h1 hy hx
      omega
    · exact h1
    · have := h.low j x h1 hx
      omega
  subst hij
  exact ⟨rfl, h.has.2 ⟨x, hx, he⟩⟩
theorem Sk.no {l : List InoP} {k : Int} {i : Nat} {b : Bool} (h : Sk l k i b) (hr : Rise l) (hb : b = false) : ∀ x ∈ l, x.num ≠ k := fun x hx he => by
  obtain ⟨j, hj⟩ := List.getElem?_of_mem hx
  have := (h.yes hj he hr).2
  rw [hb] at this
  cases this
/-- what is sought -/
def AnsS (l : List InoP) (k : Int) (w : World) (e : Ending) (w' : World) : Prop := ∃ (i : Nat) (b : Bool), e = .returned (.tuple #[.int .i64 (i : Int), .bool b]) ∧ Sk l k i b ∧ Below w.heap.size w w'
def cmpI (a b : Int) : Int := if a < b then -1 else if b < a then 1 else 0
set_option maxRecDepth 100000 in
theorem isnan_int (a : Int) (w : World) : Calls Tryz.prog 59 #[.int .i64 a] w fun e w' => e = .returned (.bool false) ∧ w' = w := by
  go_enter Tryz.func59, Tryz.ntmps59
  go_wp2_with fail
  go_ret
  exact ⟨rfl, rfl⟩
set_option maxRecDepth 100000 in
theorem compare_int (a b : Int) (w : World) : Calls Tryz.prog 42 #[.int .i64 a, .int .i64 b] w fun e w' => e = .returned (.int .i64 (cmpI a b)) ∧ w' = w := by
  have C := Lib.hid (fun (x : Int) (W : World) => isnan_int x W)
  unfold cmpI
  by_cases h1 : a < b
  · have t1 : decide (a < b) = true := by simpa using h1
    rw [if_pos h1]
    go_enter Tryz.func42, Tryz.ntmps42
    go_wp2_with (go_at_call 59; refine (C.out _ _).mono ?_; rintro e w' ⟨rfl, rfl⟩)
    go_ret
    exact ⟨rfl, rfl⟩
  · have t1 : decide (a < b) = false := by simpa using h1
    rw [if_neg h1]
    by_cases h2 : b < a
    · have t2 : decide (b < a) = true := by simpa using h2
      rw [if_pos h2]
      go_enter Tryz.func42, Tryz.ntmps42
      go_wp2_with (go_at_call 59; refine (C.out _ _).mono ?_; rintro e w' ⟨rfl, rfl⟩)
      go_ret
      exact ⟨rfl, rfl⟩
    · have t2 : decide (b < a) = false := by simpa using h2
      rw [if_neg h2]
      go_enter Tryz.func42, Tryz.ntmps42
      go_wp2_with (go_at_call 59; refine (C.out _ _).mono ?_; rintro e w' ⟨rfl, rfl⟩)
      go_ret
      exact ⟨rfl, rfl⟩
set_option maxRecDepth 100000 in
theorem closure41 (xn xk xm xl : Int) (xt : ByteArray) (da na za aa : Option Addr) (dn dc nn nc zn zc an ac : Nat) (k : Int) (w : World) : Calls Tryz.prog 41 #[.agg #[.int .i64 xn, .int .i64 xk, .int .i64 xm, .int .i64 xl, .slice da dn dc, .string xt, .slice na nn nc, .slice za zn zc, .slice aa an ac], .int .i64 k] w fun e w' => e = .returned (.int .i64 (cmpI xn k)) ∧ Below w.heap.size w w' := by
  obtain ⟨w1, hw1⟩ : ∃ w1, w1 = w.alloc (.cells #[.int .i64 xn, .int .i64 xk, .int .i64 xm, .int .i64 xl, .slice da dn dc, .string xt, .slice na nn nc, .slice za zn zc, .slice aa an ac] 38) := ⟨_, rfl⟩
  have b1 : Below w.heap.size w w1 := by rw [hw1]; exact (Below.refl _ w).alloc (Nat.le_refl _) _
  have B1 := Lib.hid b1
  have C := Lib.hid (compare_int xn k w1)
  have HW1 := Lib.hid hw1
  clear b1 hw1
  go_enter Tryz.func41, Tryz.ntmps41
  go_wp2_with fail
  rw [← HW1.out]
  refine C.out.mono ?_
  rintro e w' ⟨rfl, rfl⟩
  go_wp2_with fail
  go_ret
  exact ⟨rfl, B1.out⟩
theorem cmpI_lt (a b : Int) : decide (cmpI a b < 0) = decide (a < b) := by
  unfold cmpI
  by_cases h : a < b
  · simp [h]
  · rw [if_neg h]
    by_cases h2 : b < a <;> simp [h, h2]
theorem cmpI_eq (a b : Int) : (cmpI a b == 0) = decide (a = b) := by
  unfold cmpI
  by_cases h : a < b
  · have : ¬ a = b := by omega
    simp [h, this]
  · rw [if_neg h]
    by_cases h2 : b < a
    · have : ¬ a = b := by omega
      simp [h2, this]
    · have : a = b := by omega
      simp [this]
set_option maxHeartbeats 8000000 in
set_option maxRecDepth 100000 in
theorem search_any (ao : Option Addr) (l : List InoP) (n c : Nat) (k : Int) (w : World) (h : Irw w ao l) (hl : l.length = n) (hbig : n ≤ 1099511627776) (hr : Rise l) :
    Calls Tryz.prog 40 #[.slice ao n c, .int .i64 k, .func (.func 41) #[] #[]] w (AnsS l k w) := by
  have eg : ∀ args w, (callFunc 41 args).run Tryz.prog w = .ok (.enter 41 args) w := enters_of Tryz.func41 (by decide) rfl
  have HI := Lib.hid h
  have HL := Lib.hid hl
  have HR := Lib.hid hr
  have CC := Lib.hid @closure41
  have L0 : Hid (∀ (j : Nat) (x : InoP), j < 0 → l[j]? = some x → x.num < k) := fun j x hj => absurd hj (Nat.not_lt_zero _)
  have R0 : Hid (∀ (j : Nat) (x : InoP), n ≤ j → l[j]? = some x → k ≤ x.num) := fun j x hj hx => by have := (List.getElem?_eq_some_iff.1 hx).1; omega
  have G0 : Hid (Below w.heap.size w w) := Below.refl _ w
  clear h hl hr
  go_enter Tryz.func40, Tryz.ntmps40
  go_wp2_with fail
  go_loopg [9, 10] n (fun kx s9 s10 wr => ∃ (i j : Nat), s9 = .int .i64 i ∧ s10 = .int .i64 j ∧ i ≤ j ∧ j ≤ n ∧ j - i ≤ kx ∧ Hid (Below w.heap.size w wr) ∧ Hid (∀ (q : Nat) (x : InoP), q < i → l[q]? = some x → x.num < k) ∧ Hid (∀ (q : Nat) (x : InoP), j ≤ q → l[q]? = some x → k ≤ x.num))
  case atStart => exact ⟨0, n, rfl, rfl, Nat.zero_le _, Nat.le_refl _, by omega, G0, L0, R0⟩
  case round =>
    clear G0 L0 R0
    obtain ⟨i, j, rfl, rfl, hij, hjn, hkx, G1, L1, R1⟩ := hrel
    by_cases hlt : i < j
    · have hltz : (i : Int) < (j : Int) := by omega
      obtain ⟨m, hm⟩ : ∃ m, m = (i + j) / 2 := ⟨_, rfl⟩
      have hI : ((i : Int) + (j : Int)) / 2 = (m : Int) := by omega
      have hw0 : IntKind.i64.wrap ((i : Int) + (j : Int)) = (i : Int) + (j : Int) := by rw [IntKind.wrap_i64]; omega
      have hw1 : IntKind.u64.wrap ((i : Int) + (j : Int)) = (i : Int) + (j : Int) := by rw [IntKind.wrap]; simp [IntKind.bits, IntKind.signed]; omega
      have hw2 : IntKind.i64.wrap (m : Int) = (m : Int) := by rw [IntKind.wrap_i64]; omega
      have hb1 : i ≤ m := by omega
      have hb2 : m < j := by omega
      have hmn : m < n := by omega
      have pa1 : (0 : Int) ≤ (m : Int) := by omega
      have pa2 : (m : Int) < (n : Int) := by omega
      have ea1 : ((m : Int)).toNat = m := by omega
      obtain ⟨x, hx⟩ : ∃ x, l[m]? = some x := ⟨_, List.getElem?_eq_getElem (by have := HL.out; omega)⟩
      obtain ⟨fb, fo, e, hfbl, da, dn, dc, na, nn, nc, za, zn, zc, aa, an, ac, h9, hv⟩ := irw_at HI.out m x hx
      subst e
      have h9' := h9.below G1.out hfbl
      have LO : Hid (x.num < k → ∀ (q : Nat) (y : InoP), q < m + 1 → l[q]? = some y → y.num < k) := fun h1 q y hq hy => by
        rcases Nat.lt_or_ge q m with h2 | h2
        · have := HR.out q m y x h2 hy hx
          omega
        · obtain rfl : q = m := by omega
          rw [hx] at hy
          injection hy with hy
          subst hy
          exact h1
      have HIG : Hid (¬ x.num < k → ∀ (q : Nat) (y : InoP), m ≤ q → l[q]? = some y → k ≤ y.num) := fun h1 q y hq hy => by
        rcases Nat.lt_or_ge m q with h2 | h2
        · have := HR.out m q x y h2 hx hy
          omega
        · obtain rfl : q = m := by omega
          rw [hx] at hy
          injection hy with hy
          subst hy
          omega
      obtain ⟨xn, xk, xm, xl, xd, xt, xs, xz, xa⟩ := x
      have k0 := h9'.k0
      have k1 := h9'.k1
      have k2 := h9'.k2
      have k3 := h9'.k3
      have k4 := h9'.k4
      have k5 := h9'.k5
      have k6 := h9'.k6
      have k7 := h9'.k7
      have k8 := h9'.k8
      simp only at k0 k1 k2 k3 k4 k5 k6 k7 k8 LO HIG
      have CH := Lib.hid (CC.out xn xk xm xl xt da na za aa dn dc nn nc zn zc an ac k wr)
      have hcl := cmpI_lt xn k
      have HM := Lib.hid hm
      clear hm hx h9 h9' hv hfbl
      obtain ⟨v, hv⟩ : ∃ v, v = cmpI xn k := ⟨_, rfl⟩
      rw [← hv] at CH hcl
      clear hv
      by_cases hkl : xn < k
      · rw [decide_eq_true hkl] at hcl
        have L2 := Lib.hid (LO.out hkl)
        clear LO HIG L1 hkl
        go_wp2_with (go_at_fn 41; refine CH.out.mono ?_; rintro e w2 ⟨rfl, g2⟩)
        have G2 : Hid (Below w.heap.size w w2) := below_chain G1.out g2
        clear g2 CH k0 k1 k2 k3 k4 k5 k6 k7 k8
        go_wp2_with fail
        go_roundg (j - (m + 1))
        case measure => omega
        case rel => exact ⟨m + 1, j, by go_num, rfl, by omega, by omega, Nat.le_refl _, G2, L2, R1⟩
      · rw [decide_eq_false hkl] at hcl
        have R2 := Lib.hid (HIG.out hkl)
        clear LO HIG R1 hkl
        go_wp2_with (go_at_fn 41; refine CH.out.mono ?_; rintro e w2 ⟨rfl, g2⟩)
        have G2 : Hid (Below w.heap.size w w2) := below_chain G1.out g2
        clear g2 CH k0 k1 k2 k3 k4 k5 k6 k7 k8
        go_wp2_with fail
        go_roundg (m - i)
        case measure => omega
        case rel => exact ⟨i, m, rfl, rfl, by omega, by omega, Nat.le_refl _, G2, L1, R2⟩
    · obtain rfl : i = j := by omega
      have u0 : decide ((i : Int) < (i : Int)) = false := by simp
      by_cases hin : i < n
      · have u1 : decide ((i : Int) < (n : Int)) = true := by simp; omega
        have u2 : decide (i < n) = true := by simp; omega
        obtain ⟨x, hx⟩ : ∃ x, l[i]? = some x := ⟨_, List.getElem?_eq_getElem (by have := HL.out; omega)⟩
        obtain ⟨fb, fo, e, hfbl, da, dn, dc, na, nn, nc, za, zn, zc, aa, an, ac, h9, hv⟩ := irw_at HI.out i x hx
        subst e
        have h9' := h9.below G1.out hfbl
        have SK : Hid (∀ b : Bool, b = decide (x.num = k) → Sk l k i b) := fun b hb => ⟨by have := HL.out; omega, L1.out, R1.out, by
          rw [hb, decide_eq_true_iff]
          constructor
          · intro h1
            exact ⟨x, hx, h1⟩
          · rintro ⟨y, hy, h1⟩
            rw [hx] at hy
            injection hy with hy
            subst hy
            exact h1⟩
        obtain ⟨xn, xk, xm, xl, xd, xt, xs, xz, xa⟩ := x
        have k0 := h9'.k0
        have k1 := h9'.k1
        have k2 := h9'.k2
        have k3 := h9'.k3
        have k4 := h9'.k4
        have k5 := h9'.k5
        have k6 := h9'.k6
        have k7 := h9'.k7
        have k8 := h9'.k8
        simp only at k0 k1 k2 k3 k4 k5 k6 k7 k8 SK
        have pa1 : (0 : Int) ≤ (i : Int) := by omega
        have pa2 : (i : Int) < (n : Int) := by omega
        have ea1 : ((i : Int)).toNat = i := by omega
        have CH := Lib.hid (CC.out xn xk xm xl xt da na za aa dn dc nn nc zn zc an ac k wr)
        have hce := cmpI_eq xn k
        obtain ⟨v, hv⟩ : ∃ v, v = cmpI xn k := ⟨_, rfl⟩
        rw [← hv] at CH hce
        obtain ⟨bb, hbb⟩ : ∃ bb, bb = decide (xn = k) := ⟨_, rfl⟩
        rw [← hbb] at hce
        have SB := Lib.hid (SK.out bb hbb)
        clear hv hx h9 h9' hfbl L1 R1 hbb SK
        go_wp2_with (go_at_fn 41; refine CH.out.mono ?_; rintro e w2 ⟨rfl, g2⟩)
        go_ret2
        exact ⟨i, bb, rfl, SB.out, below_chain G1.out g2⟩
      · obtain rfl : i = n := by omega
        have SK : Hid (Sk l k i false) := ⟨by have := HL.out; omega, L1.out, R1.out, ⟨fun h => (by cases h), fun ⟨y, hy, _⟩ => by have := (List.getElem?_eq_some_iff.1 hy).1; have := HL.out; omega⟩⟩
        clear L1 R1
        go_wp2_with fail
        go_ret2
        exact ⟨i, false, rfl, SK.out, G1.out⟩
set_option maxRecDepth 100000 in
theorem sought_any (ao : Option Addr) (l : List InoP) (n c : Nat) (k : Int) (w : World) (h : Irw w ao l) (hl : l.length = n) (hbig : n ≤ 1099511627776) (hr : Rise l) :
    Calls Tryz.prog 21 #[.slice ao n c, .int .i64 k] w (AnsS l k w) := by
  have C := Lib.hid (search_any ao l n c k w h hl hbig hr)
  clear h hl hr
  go_enter Tryz.func21, Tryz.ntmps21
  go_wp2_with fail
  refine C.out.mono ?_
  rintro e w2 ⟨i, b, rfl, hs, hb⟩
  have S := Lib.hid hs
  have B := Lib.hid hb
  clear hs hb
  go_wp2_with fail
  go_ret2
  exact ⟨i, b, rfl, S.out, B.out⟩
end Go.Proofs.YtcgbaiogbcodcaaGreatDoor.Lw
namespace Go.Proofs.YtcgbaiogbcodcaaGreatDoor.Lw
open Go.RowKit Go.Lib Go.Proofs.YtcgbaiogbcodcaaGreatDoor.Sh Go.Proofs.YtcgbaiogbcodcaaGreatDoor.Lb Go.Proofs.YtcgbaiogbcodcaaGreatDoor.Pf
open Go.Maps

theorem size9 (a b c d e f g h i : Value) : (Tryz.prog.info? 38).map (·.size) = some (#[a, b, c, d, e, f, g, h, i] : Array Value).size := by
  show _ = some 9
  kernel_rfl
theorem size24 (a b : Value) : (Tryz.prog.info? 24).map (·.size) = some (#[a, b] : Array Value).size := by
  show _ = some 2
  kernel_rfl
theorem sz9 (a b c d e f g h i a' b' c' d' e' f' g' h' i' : Value) : (#[a, b, c, d, e, f, g, h, i] : Array Value).size = (#[a', b', c', d', e', f', g', h', i'] : Array Value).size := rfl
theorem all9 (xn xk xm xl : Int) (xt : ByteArray) (da na za aa : Option Addr) (dn dc nn nc zn zc an ac : Nat) : (#[.int .i64 xn, .int .i64 xk, .int .i64 xm, .int .i64 xl, .slice da dn dc, .string xt, .slice na nn nc, .slice za zn zc, .slice aa an ac] : Array Value).all (·.oneCell') = true := by simp [Value.oneCell']
theorem below_row {B : Nat} {a w : World} (h : Below B a w) {g : Nat} (hg : B ≤ g) (cs : Array Value) : Below B a (w.setRow g cs) :=
  h.trans ⟨rfl, rfl, rfl, by simp, fun k hk => by simp only [World.setRow, Array.getElem?_modify]; rw [if_neg (by omega)]⟩
/-- the zero inode's cells -/
def z9 : List Value := [.int .i64 0, .int .i64 0, .int .i64 0, .int .i64 0, .slice none 0 0, .string ⟨#[]⟩, .slice none 0 0, .slice none 0 0, .slice none 0 0]
/-- what inode and directory answer: whom, and where he stands; or why not -/
def AnsI (l : List InoP) (k : Int) (dir : Bool) (W0 w : World) (e : Ending) (w' : World) : Prop :=
  Below w.heap.size w w' ∧ ((∃ (j : Nat) (x : InoP) (da : Option Addr) (dn dc : Nat) (na : Option Addr) (nn nc : Nat) (za : Option Addr) (zn zc : Nat) (aa : Option Addr) (an ac : Nat), l[j]? = some x ∧ x.num = k ∧ (dir = true → x.kind = 2) ∧ IvP W0 x da dn dc na nn nc za zn zc aa an ac ∧ e = .returned (.tuple #[.agg (ivC x da dn dc na nn nc za zn zc aa an ac).toArray, .nilIface])) ∨
    (∃ (s : ByteArray) (m : Int), (m = 201 ∧ (∀ x ∈ l, x.num ≠ k) ∨ m = 203 ∧ dir = true ∧ ∃ x ∈ l, x.num = k ∧ x.kind ≠ 2) ∧ e = .returned (.tuple #[.agg #[.int .i64 0, .int .i64 0, .int .i64 0, .int .i64 0, .slice none 0 0, .string ⟨#[]⟩, .slice none 0 0, .slice none 0 0, .slice none 0 0], Ref s m])))
set_option maxHeartbeats 8000000 in
set_option maxRecDepth 100000 in
theorem inode_any (ao : Option Addr) (l : List InoP) (n c : Nat) (k : Int) (W0 w : World) (h0 : Irw W0 ao l) (hW : Below W0.heap.size W0 w) (hl : l.length = n) (hbig : n ≤ 1099511627776) (hr : Rise l) :
    Calls Tryz.prog 43 #[.slice ao n c, .int .i64 k] w (AnsI l k false W0 w) := by
  have h := h0.below hW
  have HI := Lib.hid h0
  have HW := Lib.hid hW
  obtain ⟨w1, hw1⟩ : ∃ w1, w1 = w.alloc (.cells #[.int .i64 0, .int .i64 0, .int .i64 0, .int .i64 0, .slice none 0 0, .string ⟨#[]⟩, .slice none 0 0, .slice none 0 0, .slice none 0 0] 38) := ⟨_, rfl⟩
  have b1 : Below w.heap.size w w1 := by rw [hw1]; exact (Below.refl _ w).alloc (Nat.le_refl _) _
  have x1 : Sh.Blk w1 w.heap.size [.int .i64 0, .int .i64 0, .int .i64 0, .int .i64 0, .slice none 0 0, .string ⟨#[]⟩, .slice none 0 0, .slice none 0 0, .slice none 0 0] 38 := by rw [hw1]; exact Sh.Blk.new w [.int .i64 0, .int .i64 0, .int .i64 0, .int .i64 0, .slice none 0 0, .string ⟨#[]⟩, .slice none 0 0, .slice none 0 0, .slice none 0 0] 38 _ rfl
  have B1 := Lib.hid b1
  have X1 := Lib.hid x1
  have HW1 := Lib.hid hw1
  have I1 := Lib.hid (h.below b1)
  have HL := Lib.hid hl
  have HR := Lib.hid hr
  have C := Lib.hid (sought_any ao l n c k w1 I1.out hl hbig hr)
  clear h h0 hW hl hr b1 x1 hw1
  go_enter Tryz.func43, Tryz.ntmps43
  go_wp2_with fail
  rw [← HW1.out]
  refine C.out.mono ?_
  clear C HW1
  rintro e w2 ⟨i, b, rfl, hs, hb⟩
  have S := Lib.hid hs
  have B2 := Lib.hid (below_chain B1.out hb)
  have G2 : w2.heap[w.heap.size]? = some (.cells #[.int .i64 0, .int .i64 0, .int .i64 0, .int .i64 0, .slice none 0 0, .string ⟨#[]⟩, .slice none 0 0, .slice none 0 0, .slice none 0 0] 38 (0, 0)) := X1.out.low hb
  cases b with
  | false =>
    have NO : Hid (∀ x ∈ l, x.num ≠ k) := S.out.no HR.out rfl
    have K4 : Sh.Blk (w2.setRow w.heap.size #[.int .i64 0, .int .i64 0, .int .i64 0, .int .i64 0, .slice none 0 0, .string ⟨#[]⟩, .slice none 0 0, .slice none 0 0, .slice none 0 0]) w.heap.size [.int .i64 0, .int .i64 0, .int .i64 0, .int .i64 0, .slice none 0 0, .string ⟨#[]⟩, .slice none 0 0, .slice none 0 0, .slice none 0 0] 38 := setRow_heap w2 w.heap.size _ #[.int .i64 0, .int .i64 0, .int .i64 0, .int .i64 0, .slice none 0 0, .string ⟨#[]⟩, .slice none 0 0, .slice none 0 0, .slice none 0 0] 38 (0, 0) G2
    have KH := Lib.hid K4
    have B4 : Hid (Below w.heap.size w (w2.setRow w.heap.size #[.int .i64 0, .int .i64 0, .int .i64 0, .int .i64 0, .slice none 0 0, .string ⟨#[]⟩, .slice none 0 0, .slice none 0 0, .slice none 0 0])) := below_row B2.out (Nat.le_refl _) _
    clear hs hb K4
    go_wp2_with (with_reducible refine wpList_store_row rfl 38 (.tmp 4) (.tmp 16) rfl w.heap.size #[.int .i64 0, .int .i64 0, .int .i64 0, .int .i64 0, .slice none 0 0, .string ⟨#[]⟩, .slice none 0 0, .slice none 0 0, .slice none 0 0] rfl rfl 38 #[.int .i64 0, .int .i64 0, .int .i64 0, .int .i64 0, .slice none 0 0, .string ⟨#[]⟩, .slice none 0 0, .slice none 0 0, .slice none 0 0] G2 (size9 _ _ _ _ _ _ _ _ _) (sz9 _ _ _ _ _ _ _ _ _ _ _ _ _ _ _ _ _ _) (all9 _ _ _ _ _ _ _ _ _ _ _ _ _ _ _ _ _) ?_)
    exact bodyPost_ret (results_row_tmp rfl _ _ w.heap.size 38 _ _ _ rfl rfl KH.out Tryz.underlying38 rfl (size9 _ _ _ _ _ _ _ _ _)) rfl ⟨B4.out, .inr ⟨_, 201, .inl ⟨rfl, NO.out⟩, rfl⟩⟩
  | true =>
    obtain ⟨x, hx, hxk⟩ := hs.has.1 rfl
    obtain ⟨fb, fo, e, hfbl, da, dn, dc, na, nn, nc, za, zn, zc, aa, an, ac, h9, hv⟩ := irw_at HI.out i x hx
    subst e
    have hin : i < n := by have := (List.getElem?_eq_some_iff.1 hx).1; have := HL.out; omega
    have h9' := h9.below (below_chain HW.out B2.out) hfbl
    have HX := Lib.hid hx
    have HXK := Lib.hid hxk
    have HV := Lib.hid hv
    obtain ⟨xn, xk, xm, xl, xd, xt, xs, xz, xa⟩ := x
    have k0 := h9'.k0
    have k1 := h9'.k1
    have k2 := h9'.k2
    have k3 := h9'.k3
    have k4 := h9'.k4
    have k5 := h9'.k5
    have k6 := h9'.k6
    have k7 := h9'.k7
    have k8 := h9'.k8
    simp only at k0 k1 k2 k3 k4 k5 k6 k7 k8
    have q2 : (0 : Int) ≤ (i : Int) := by omega
    have q3 : (i : Int) < (n : Int) := by omega
    have K4 : Sh.Blk (w2.setRow w.heap.size #[.int .i64 xn, .int .i64 xk, .int .i64 xm, .int .i64 xl, .slice da dn dc, .string xt, .slice na nn nc, .slice za zn zc, .slice aa an ac]) w.heap.size [.int .i64 xn, .int .i64 xk, .int .i64 xm, .int .i64 xl, .slice da dn dc, .string xt, .slice na nn nc, .slice za zn zc, .slice aa an ac] 38 := setRow_heap w2 w.heap.size _ #[.int .i64 xn, .int .i64 xk, .int .i64 xm, .int .i64 xl, .slice da dn dc, .string xt, .slice na nn nc, .slice za zn zc, .slice aa an ac] 38 (0, 0) G2
    have KH := Lib.hid K4
    have B4 : Hid (Below w.heap.size w (w2.setRow w.heap.size #[.int .i64 xn, .int .i64 xk, .int .i64 xm, .int .i64 xl, .slice da dn dc, .string xt, .slice na nn nc, .slice za zn zc, .slice aa an ac])) := below_row B2.out (Nat.le_refl _) _
    clear hs hb K4 hx hxk hv h9 h9' hfbl
    go_wp2_with (with_reducible refine wpList_store_row rfl 38 (.tmp 4) (.tmp 22) rfl w.heap.size #[.int .i64 xn, .int .i64 xk, .int .i64 xm, .int .i64 xl, .slice da dn dc, .string xt, .slice na nn nc, .slice za zn zc, .slice aa an ac] rfl rfl 38 #[.int .i64 0, .int .i64 0, .int .i64 0, .int .i64 0, .slice none 0 0, .string ⟨#[]⟩, .slice none 0 0, .slice none 0 0, .slice none 0 0] G2 (size9 _ _ _ _ _ _ _ _ _) (sz9 _ _ _ _ _ _ _ _ _ _ _ _ _ _ _ _ _ _) (all9 _ _ _ _ _ _ _ _ _ _ _ _ _ _ _ _ _) ?_)
    exact bodyPost_ret (results_row_tmp rfl _ _ w.heap.size 38 _ _ _ rfl rfl KH.out Tryz.underlying38 rfl (size9 _ _ _ _ _ _ _ _ _)) rfl ⟨B4.out, .inl ⟨i, ⟨xn, xk, xm, xl, xd, xt, xs, xz, xa⟩, da, dn, dc, na, nn, nc, za, zn, zc, aa, an, ac, HX.out, HXK.out, fun h => (by cases h), HV.out, rfl⟩⟩
end Go.Proofs.YtcgbaiogbcodcaaGreatDoor.Lw
namespace Go.Proofs.YtcgbaiogbcodcaaGreatDoor.Lw
open Go.RowKit Go.Lib Go.Proofs.YtcgbaiogbcodcaaGreatDoor.Sh Go.Proofs.YtcgbaiogbcodcaaGreatDoor.Lb Go.Proofs.YtcgbaiogbcodcaaGreatDoor.Pf
open Go.Maps

/-- a name's place, and whether it is there -/
structure St (l : List ByteArray) (s : ByteArray) (i : Nat) (b : Bool) : Prop where
  le : i ≤ l.length
  low : ∀ (j : Nat) (y : ByteArray), j < i → l[j]? = some y → ltB y s = true
  high : ∀ (j : Nat) (y : ByteArray), i ≤ j → l[j]? = some y → ltB y s = false
  has : b = true ↔ l[i]? = some s
/-- what is sought -/
def AnsT2 (l : List ByteArray) (s : ByteArray) (w : World) (e : Ending) (w' : World) : Prop := ∃ (i : Nat) (b : Bool), e = .returned (.tuple #[.int .i64 (i : Int), .bool b]) ∧ St l s i b ∧ Below w.heap.size w w'
theorem su_lt {l : List ByteArray} (h : SU ltB l) {i j : Nat} {x y : ByteArray} (hij : i < j) (hx : l[i]? = some x) (hy : l[j]? = some y) : ltB x y = true := by
  obtain ⟨hi, rfl⟩ := List.getElem?_eq_some_iff.1 hx
  obtain ⟨hj, rfl⟩ := List.getElem?_eq_some_iff.1 hy
  exact List.pairwise_iff_getElem.1 h i j hi hj hij
set_option maxRecDepth 100000 in
theorem isnan_text (a : ByteArray) (w : World) : Calls Tryz.prog 81 #[.string a] w fun e w' => e = .returned (.bool false) ∧ w' = w := by
  have t : (a.toList == a.toList) = true := by simp
  go_enter Tryz.func81, Tryz.ntmps81
  go_wp2_with fail
  go_ret
  exact ⟨rfl, rfl⟩
set_option maxRecDepth 100000 in
theorem isnan_text2 (a : ByteArray) (w : World) : Calls Tryz.prog 62 #[.string a] w fun e w' => e = .returned (.bool false) ∧ w' = w := by
  have t : (a.toList == a.toList) = true := by simp
  go_enter Tryz.func62, Tryz.ntmps62
  go_wp2_with fail
  go_ret
  exact ⟨rfl, rfl⟩
set_option maxRecDepth 100000 in
theorem less_text (a b : ByteArray) (w : World) : Calls Tryz.prog 61 #[.string a, .string b] w fun e w' => e = .returned (.bool (ltB a b)) ∧ w' = w := by
  have C := Lib.hid (fun (x : ByteArray) (W : World) => isnan_text x W)
  obtain ⟨v, hv⟩ : ∃ v, v = Op.bytesLess a.toList b.toList := ⟨_, rfl⟩
  show Calls _ _ _ _ fun e w' => e = .returned (.bool (Op.bytesLess a.toList b.toList)) ∧ w' = w
  rw [← hv]
  have hv' := hv.symm
  clear hv
  go_enter Tryz.func61, Tryz.ntmps61
  go_wp2_with (go_at_call 81; refine (C.out _ _).mono ?_; rintro e w' ⟨rfl, rfl⟩)
  go_ret
  exact ⟨rfl, rfl⟩
set_option maxHeartbeats 8000000 in
set_option maxRecDepth 100000 in
theorem search_text (ao : Option Addr) (l : List ByteArray) (n c : Nat) (s : ByteArray) (w : World) (h : Srw w ao l) (hl : l.length = n) (hbig : n ≤ 1099511627776) (hr : SU ltB l) :
    Calls Tryz.prog 45 #[.slice ao n c, .string s] w (AnsT2 l s w) := by
  have HI := Lib.hid h
  have HL := Lib.hid hl
  have HR := Lib.hid hr
  have CL := Lib.hid (fun (a b : ByteArray) (W : World) => less_text a b W)
  have CN := Lib.hid (fun (x : ByteArray) (W : World) => isnan_text2 x W)
  have L0 : Hid (∀ (j : Nat) (y : ByteArray), j < 0 → l[j]? = some y → ltB y s = true) := fun j x hj => absurd hj (Nat.not_lt_zero _)
  have R0 : Hid (∀ (j : Nat) (y : ByteArray), n ≤ j → l[j]? = some y → ltB y s = false) := fun j x hj hx => by have := (List.getElem?_eq_some_iff.1 hx).1; omega
  have G0 : Hid (Below w.heap.size w w) := Below.refl _ w
  clear h hl hr
  go_enter Tryz.func45, Tryz.ntmps45
  go_wp2_with fail
  go_loopg [7, 8] n (fun kx s9 s10 wr => ∃ (i j : Nat), s9 = .int .i64 i ∧ s10 = .int .i64 j ∧ i ≤ j ∧ j ≤ n ∧ j - i ≤ kx ∧ Hid (Below w.heap.size w wr) ∧ Hid (∀ (q : Nat) (y : ByteArray), q < i → l[q]? = some y → ltB y s = true) ∧ Hid (∀ (q : Nat) (y : ByteArray), j ≤ q → l[q]? = some y → ltB y s = false))
  case atStart => exact ⟨0, n, rfl, rfl, Nat.zero_le _, Nat.le_refl _, by omega, G0, L0, R0⟩
  case round =>
    clear G0 L0 R0
    obtain ⟨i, j, rfl, rfl, hij, hjn, hkx, G1, L1, R1⟩ := hrel
    by_cases hlt : i < j
    · have hltz : (i : Int) < (j : Int) := by omega
      obtain ⟨m, hm⟩ : ∃ m, m = (i + j) / 2 := ⟨_, rfl⟩
      have hI : ((i : Int) + (j : Int)) / 2 = (m : Int) := by omega
      have hw0 : IntKind.i64.wrap ((i : Int) + (j : Int)) = (i : Int) + (j : Int) := by rw [IntKind.wrap_i64]; omega
      have hw1 : IntKind.u64.wrap ((i : Int) + (j : Int)) = (i : Int) + (j : Int) := by rw [IntKind.wrap]; simp [IntKind.bits, IntKind.signed]; omega
      have hw2 : IntKind.i64.wrap (m : Int) = (m : Int) := by rw [IntKind.wrap_i64]; omega
      have hb1 : i ≤ m := by omega
      have hb2 : m < j := by omega
      have hmn : m < n := by omega
      have pa1 : (0 : Int) ≤ (m : Int) := by omega
      have pa2 : (m : Int) < (n : Int) := by omega
      have ea1 : ((m : Int)).toNat = m := by omega
      obtain ⟨fb, fo, x, e, hfbl, hx, h9⟩ := srw_cell HI.out m (by have := HL.out; omega)
      subst e
      have k0 := (G1.out.cell (p := ⟨fb, fo + m, none⟩) hfbl).trans h9
      have LO : Hid (ltB x s = true → ∀ (q : Nat) (y : ByteArray), q < m + 1 → l[q]? = some y → ltB y s = true) := fun h1 q y hq hy => by
        rcases Nat.lt_or_ge q m with h2 | h2
        · exact ords_B.tr _ _ _ (su_lt HR.out h2 hy hx) h1
        · obtain rfl : q = m := by omega
          rw [hx] at hy
          injection hy with hy
          subst hy
          exact h1
      have HIG : Hid (ltB x s = false → ∀ (q : Nat) (y : ByteArray), m ≤ q → l[q]? = some y → ltB y s = false) := fun h1 q y hq hy => by
        rcases Nat.lt_or_ge m q with h2 | h2
        · cases h3 : ltB y s with
          | false => rfl
          | true =>
            have h4 := ords_B.tr _ _ _ (su_lt HR.out h2 hx hy) h3
            rw [h1] at h4
            cases h4
        · obtain rfl : q = m := by omega
          rw [hx] at hy
          injection hy with hy
          subst hy
          exact h1
      have HM := Lib.hid hm
      clear hm hx h9 hfbl
      cases hkl : ltB x s with
      | true =>
        have L2 := Lib.hid (LO.out hkl)
        have CH := Lib.hid (CL.out x s wr)
        rw [hkl] at CH
        clear LO HIG L1 hkl
        go_wp2_with (go_at_call 61; refine CH.out.mono ?_; rintro e w2 ⟨rfl, rfl⟩)
        clear CH k0
        go_roundg (j - (m + 1))
        case measure => omega
        case rel => exact ⟨m + 1, j, by go_num, rfl, by omega, by omega, Nat.le_refl _, G1, L2, R1⟩
      | false =>
        have R2 := Lib.hid (HIG.out hkl)
        have CH := Lib.hid (CL.out x s wr)
        rw [hkl] at CH
        clear LO HIG R1 hkl
        go_wp2_with (go_at_call 61; refine CH.out.mono ?_; rintro e w2 ⟨rfl, rfl⟩)
        clear CH k0
        go_roundg (m - i)
        case measure => omega
        case rel => exact ⟨i, m, rfl, rfl, by omega, by omega, Nat.le_refl _, G1, L1, R2⟩
    · obtain rfl : i = j := by omega
      have u0 : decide ((i : Int) < (i : Int)) = false := by simp
      by_cases hin : i < n
      · have u1 : decide ((i : Int) < (n : Int)) = true := by simp; omega
        have u2 : decide (i < n) = true := by simp; omega
        obtain ⟨fb, fo, x, e, hfbl, hx, h9⟩ := srw_cell HI.out i (by have := HL.out; omega)
        subst e
        have k0 := (G1.out.cell (p := ⟨fb, fo + i, none⟩) hfbl).trans h9
        have SK : Hid (∀ b : Bool, (b = true ↔ x = s) → St l s i b) := fun b hb => ⟨by have := HL.out; omega, L1.out, R1.out, by
          rw [hb, hx]
          exact ⟨fun h => by rw [h], fun h => by injection h⟩⟩
        have pa1 : (0 : Int) ≤ (i : Int) := by omega
        have pa2 : (i : Int) < (n : Int) := by omega
        have ea1 : ((i : Int)).toNat = i := by omega
        clear hx h9 hfbl L1 R1
        cases hbb : (x.toList == s.toList) with
        | true =>
          have SB := Lib.hid (SK.out true ⟨fun _ => toList_inj (by simpa using hbb), fun _ => rfl⟩)
          clear SK
          go_wp2_with fail
          go_ret2
          exact ⟨i, true, rfl, SB.out, G1.out⟩
        | false =>
          have SB := Lib.hid (SK.out false ⟨fun h => (by cases h), fun h => by rw [h] at hbb; simp at hbb⟩)
          clear SK
          go_wp2_with (go_at_call 62; refine (CN.out _ _).mono ?_; rintro e w2 ⟨rfl, rfl⟩)
          go_ret2
          exact ⟨i, false, rfl, SB.out, G1.out⟩
      · obtain rfl : i = n := by omega
        have SK : Hid (St l s i false) := ⟨by have := HL.out; omega, L1.out, R1.out, ⟨fun h => (by cases h), fun h => by have := (List.getElem?_eq_some_iff.1 h).1; have := HL.out; omega⟩⟩
        clear L1 R1
        go_wp2_with fail
        go_ret2
        exact ⟨i, false, rfl, SK.out, G1.out⟩
set_option maxHeartbeats 8000000 in
set_option maxRecDepth 100000 in
theorem directory_any (ao : Option Addr) (l : List InoP) (n c : Nat) (k : Int) (W0 w : World) (h : Irw W0 ao l) (hW : Below W0.heap.size W0 w) (hl : l.length = n) (hbig : n ≤ 1099511627776) (hr : Rise l) :
    Calls Tryz.prog 26 #[.slice ao n c, .int .i64 k] w (AnsI l k true W0 w) := by
  obtain ⟨w1, hw1⟩ : ∃ w1, w1 = w.alloc (.cells #[.int .i64 0, .int .i64 0, .int .i64 0, .int .i64 0, .slice none 0 0, .string ⟨#[]⟩, .slice none 0 0, .slice none 0 0, .slice none 0 0] 38) := ⟨_, rfl⟩
  have b1 : Below w.heap.size w w1 := by rw [hw1]; exact (Below.refl _ w).alloc (Nat.le_refl _) _
  have x1 : Sh.Blk w1 w.heap.size [.int .i64 0, .int .i64 0, .int .i64 0, .int .i64 0, .slice none 0 0, .string ⟨#[]⟩, .slice none 0 0, .slice none 0 0, .slice none 0 0] 38 := by rw [hw1]; exact Sh.Blk.new w [.int .i64 0, .int .i64 0, .int .i64 0, .int .i64 0, .slice none 0 0, .string ⟨#[]⟩, .slice none 0 0, .slice none 0 0, .slice none 0 0] 38 _ rfl
  have B1 := Lib.hid b1
  have X1 := Lib.hid x1
  have HW1 := Lib.hid hw1
  have C := Lib.hid (inode_any ao l n c k W0 w1 h (below_chain hW b1) hl hbig hr)
  clear h hW hl hr b1 x1 hw1
  go_enter Tryz.func26, Tryz.ntmps26
  go_wp2_with fail
  rw [← HW1.out]
  refine C.out.mono ?_
  clear C HW1
  rintro e w2 ⟨hb, ⟨i, x, da, dn, dc, na, nn, nc, za, zn, zc, aa, an, ac, hx, hxk, _, hv, rfl⟩ | ⟨s, m, hm, rfl⟩⟩
  rotate_left
  · have B2 : Hid (Below w.heap.size w (w2.alloc (.cells #[.int .i64 0, .int .i64 0, .int .i64 0, .int .i64 0, .slice none 0 0, .string ⟨#[]⟩, .slice none 0 0, .slice none 0 0, .slice none 0 0] 38))) := (below_chain B1.out hb).alloc (below_chain B1.out hb).size _
    have X3 : Sh.Blk (w2.alloc (.cells #[.int .i64 0, .int .i64 0, .int .i64 0, .int .i64 0, .slice none 0 0, .string ⟨#[]⟩, .slice none 0 0, .slice none 0 0, .slice none 0 0] 38)) w2.heap.size [.int .i64 0, .int .i64 0, .int .i64 0, .int .i64 0, .slice none 0 0, .string ⟨#[]⟩, .slice none 0 0, .slice none 0 0, .slice none 0 0] 38 := Sh.Blk.new w2 [.int .i64 0, .int .i64 0, .int .i64 0, .int .i64 0, .slice none 0 0, .string ⟨#[]⟩, .slice none 0 0, .slice none 0 0, .slice none 0 0] 38 _ rfl
    have G2 : (w2.alloc (.cells #[.int .i64 0, .int .i64 0, .int .i64 0, .int .i64 0, .slice none 0 0, .string ⟨#[]⟩, .slice none 0 0, .slice none 0 0, .slice none 0 0] 38)).heap[w.heap.size]? = some (.cells #[.int .i64 0, .int .i64 0, .int .i64 0, .int .i64 0, .slice none 0 0, .string ⟨#[]⟩, .slice none 0 0, .slice none 0 0, .slice none 0 0] 38 (0, 0)) := Sh.Blk.alloc (X1.out.low hb) _
    have K4 : Sh.Blk ((w2.alloc (.cells #[.int .i64 0, .int .i64 0, .int .i64 0, .int .i64 0, .slice none 0 0, .string ⟨#[]⟩, .slice none 0 0, .slice none 0 0, .slice none 0 0] 38)).setRow w.heap.size #[.int .i64 0, .int .i64 0, .int .i64 0, .int .i64 0, .slice none 0 0, .string ⟨#[]⟩, .slice none 0 0, .slice none 0 0, .slice none 0 0]) w.heap.size [.int .i64 0, .int .i64 0, .int .i64 0, .int .i64 0, .slice none 0 0, .string ⟨#[]⟩, .slice none 0 0, .slice none 0 0, .slice none 0 0] 38 := setRow_heap _ w.heap.size _ #[.int .i64 0, .int .i64 0, .int .i64 0, .int .i64 0, .slice none 0 0, .string ⟨#[]⟩, .slice none 0 0, .slice none 0 0, .slice none 0 0] 38 (0, 0) G2
    have KH := Lib.hid K4
    have B4 := Lib.hid (below_row B2.out (Nat.le_refl _) #[.int .i64 0, .int .i64 0, .int .i64 0, .int .i64 0, .slice none 0 0, .string ⟨#[]⟩, .slice none 0 0, .slice none 0 0, .slice none 0 0])
    have hm2 : m = 201 ∧ (∀ x ∈ l, x.num ≠ k) := by
      rcases hm with h1 | ⟨_, h1, _⟩
      · exact h1
      · cases h1
    have HM := Lib.hid hm2
    obtain ⟨y, hy⟩ : ∃ y, Ref s m = .iface 76 y := ⟨_, rfl⟩
    rw [hy]
    have HY := Lib.hid hy
    have j := fun q => X3.cell q
    have j0 := j 0
    have j1 := j 1
    have j2 := j 2
    have j3 := j 3
    have j4 := j 4
    have j5 := j 5
    have j6 := j 6
    have j7 := j 7
    have j8 := j 8
    simp only [List.getElem?_cons_zero, List.getElem?_cons_succ] at j0 j1 j2 j3 j4 j5 j6 j7 j8
    clear hb hm hm2 K4 hy X3 j
    go_wp2_with (with_reducible refine wpList_store_row rfl 38 (.tmp 4) (.tmp 24) rfl w.heap.size #[.int .i64 0, .int .i64 0, .int .i64 0, .int .i64 0, .slice none 0 0, .string ⟨#[]⟩, .slice none 0 0, .slice none 0 0, .slice none 0 0] rfl rfl 38 #[.int .i64 0, .int .i64 0, .int .i64 0, .int .i64 0, .slice none 0 0, .string ⟨#[]⟩, .slice none 0 0, .slice none 0 0, .slice none 0 0] G2 (size9 _ _ _ _ _ _ _ _ _) (sz9 _ _ _ _ _ _ _ _ _ _ _ _ _ _ _ _ _ _) (all9 _ _ _ _ _ _ _ _ _ _ _ _ _ _ _ _ _) ?_)
    exact bodyPost_ret (results_row_tmp rfl _ _ w.heap.size 38 _ _ _ rfl rfl KH.out Tryz.underlying38 rfl (size9 _ _ _ _ _ _ _ _ _)) rfl ⟨B4.out, .inr ⟨s, m, .inl HM.out, by rw [HY.out]; rfl⟩⟩
  have HX := Lib.hid hx
  have HXK := Lib.hid hxk
  obtain ⟨xn, xk, xm, xl, xd, xt, xs, xz, xa⟩ := x
  have B3 : Hid (Below w.heap.size w (w2.alloc (.cells #[.int .i64 xn, .int .i64 xk, .int .i64 xm, .int .i64 xl, .slice da dn dc, .string xt, .slice na nn nc, .slice za zn zc, .slice aa an ac] 38))) := (below_chain B1.out hb).alloc (below_chain B1.out hb).size _
  have HV := Lib.hid hv
  have X3 : Sh.Blk (w2.alloc (.cells #[.int .i64 xn, .int .i64 xk, .int .i64 xm, .int .i64 xl, .slice da dn dc, .string xt, .slice na nn nc, .slice za zn zc, .slice aa an ac] 38)) w2.heap.size [.int .i64 xn, .int .i64 xk, .int .i64 xm, .int .i64 xl, .slice da dn dc, .string xt, .slice na nn nc, .slice za zn zc, .slice aa an ac] 38 := Sh.Blk.new w2 [.int .i64 xn, .int .i64 xk, .int .i64 xm, .int .i64 xl, .slice da dn dc, .string xt, .slice na nn nc, .slice za zn zc, .slice aa an ac] 38 _ rfl
  have G2 : (w2.alloc (.cells #[.int .i64 xn, .int .i64 xk, .int .i64 xm, .int .i64 xl, .slice da dn dc, .string xt, .slice na nn nc, .slice za zn zc, .slice aa an ac] 38)).heap[w.heap.size]? = some (.cells #[.int .i64 0, .int .i64 0, .int .i64 0, .int .i64 0, .slice none 0 0, .string ⟨#[]⟩, .slice none 0 0, .slice none 0 0, .slice none 0 0] 38 (0, 0)) := Sh.Blk.alloc (X1.out.low hb) _
  have j := fun q => X3.cell q
  have j0 := j 0
  have j1 := j 1
  have j2 := j 2
  have j3 := j 3
  have j4 := j 4
  have j5 := j 5
  have j6 := j 6
  have j7 := j 7
  have j8 := j 8
  simp only [List.getElem?_cons_zero, List.getElem?_cons_succ] at j0 j1 j2 j3 j4 j5 j6 j7 j8
  simp only [ivC]
  by_cases hk2 : xk = 2
  · have t1 : (xk == 2) = true := by simpa using hk2
    have K2 := Lib.hid hk2
    have K4 : Sh.Blk ((w2.alloc (.cells #[.int .i64 xn, .int .i64 xk, .int .i64 xm, .int .i64 xl, .slice da dn dc, .string xt, .slice na nn nc, .slice za zn zc, .slice aa an ac] 38)).setRow w.heap.size #[.int .i64 xn, .int .i64 xk, .int .i64 xm, .int .i64 xl, .slice da dn dc, .string xt, .slice na nn nc, .slice za zn zc, .slice aa an ac]) w.heap.size [.int .i64 xn, .int .i64 xk, .int .i64 xm, .int .i64 xl, .slice da dn dc, .string xt, .slice na nn nc, .slice za zn zc, .slice aa an ac] 38 := setRow_heap _ w.heap.size _ #[.int .i64 xn, .int .i64 xk, .int .i64 xm, .int .i64 xl, .slice da dn dc, .string xt, .slice na nn nc, .slice za zn zc, .slice aa an ac] 38 (0, 0) G2
    have KH := Lib.hid K4
    have B4 := Lib.hid (below_row B3.out (Nat.le_refl _) #[.int .i64 xn, .int .i64 xk, .int .i64 xm, .int .i64 xl, .slice da dn dc, .string xt, .slice na nn nc, .slice za zn zc, .slice aa an ac])
    clear hb hx hxk hv K4 X3 j hk2
    go_wp2_with (with_reducible refine wpList_store_row rfl 38 (.tmp 4) (.tmp 24) rfl w.heap.size #[.int .i64 xn, .int .i64 xk, .int .i64 xm, .int .i64 xl, .slice da dn dc, .string xt, .slice na nn nc, .slice za zn zc, .slice aa an ac] rfl rfl 38 #[.int .i64 0, .int .i64 0, .int .i64 0, .int .i64 0, .slice none 0 0, .string ⟨#[]⟩, .slice none 0 0, .slice none 0 0, .slice none 0 0] G2 (size9 _ _ _ _ _ _ _ _ _) (sz9 _ _ _ _ _ _ _ _ _ _ _ _ _ _ _ _ _ _) (all9 _ _ _ _ _ _ _ _ _ _ _ _ _ _ _ _ _) ?_)
    exact bodyPost_ret (results_row_tmp rfl _ _ w.heap.size 38 _ _ _ rfl rfl KH.out Tryz.underlying38 rfl (size9 _ _ _ _ _ _ _ _ _)) rfl ⟨B4.out, .inl ⟨i, ⟨xn, xk, xm, xl, xd, xt, xs, xz, xa⟩, da, dn, dc, na, nn, nc, za, zn, zc, aa, an, ac, HX.out, HXK.out, fun _ => K2.out, HV.out, rfl⟩⟩
  · have t1 : (xk == 2) = false := by simpa using hk2
    have K2 := Lib.hid hk2
    have K4 : Sh.Blk ((w2.alloc (.cells #[.int .i64 xn, .int .i64 xk, .int .i64 xm, .int .i64 xl, .slice da dn dc, .string xt, .slice na nn nc, .slice za zn zc, .slice aa an ac] 38)).setRow w.heap.size #[.int .i64 0, .int .i64 0, .int .i64 0, .int .i64 0, .slice none 0 0, .string ⟨#[]⟩, .slice none 0 0, .slice none 0 0, .slice none 0 0]) w.heap.size [.int .i64 0, .int .i64 0, .int .i64 0, .int .i64 0, .slice none 0 0, .string ⟨#[]⟩, .slice none 0 0, .slice none 0 0, .slice none 0 0] 38 := setRow_heap _ w.heap.size _ #[.int .i64 0, .int .i64 0, .int .i64 0, .int .i64 0, .slice none 0 0, .string ⟨#[]⟩, .slice none 0 0, .slice none 0 0, .slice none 0 0] 38 (0, 0) G2
    have KH := Lib.hid K4
    have B4 := Lib.hid (below_row B3.out (Nat.le_refl _) #[.int .i64 0, .int .i64 0, .int .i64 0, .int .i64 0, .slice none 0 0, .string ⟨#[]⟩, .slice none 0 0, .slice none 0 0, .slice none 0 0])
    clear hb hx hxk hv K4 X3 j hk2
    go_wp2_with (with_reducible refine wpList_store_row rfl 38 (.tmp 4) (.tmp 21) rfl w.heap.size #[.int .i64 0, .int .i64 0, .int .i64 0, .int .i64 0, .slice none 0 0, .string ⟨#[]⟩, .slice none 0 0, .slice none 0 0, .slice none 0 0] rfl rfl 38 #[.int .i64 0, .int .i64 0, .int .i64 0, .int .i64 0, .slice none 0 0, .string ⟨#[]⟩, .slice none 0 0, .slice none 0 0, .slice none 0 0] G2 (size9 _ _ _ _ _ _ _ _ _) (sz9 _ _ _ _ _ _ _ _ _ _ _ _ _ _ _ _ _ _) (all9 _ _ _ _ _ _ _ _ _ _ _ _ _ _ _ _ _) ?_)
    exact bodyPost_ret (results_row_tmp rfl _ _ w.heap.size 38 _ _ _ rfl rfl KH.out Tryz.underlying38 rfl (size9 _ _ _ _ _ _ _ _ _)) rfl ⟨B4.out, .inr ⟨_, 203, .inr ⟨rfl, rfl, _, List.mem_of_getElem? HX.out, HXK.out, K2.out⟩, rfl⟩⟩
end Go.Proofs.YtcgbaiogbcodcaaGreatDoor.Lw
namespace Go.Proofs.YtcgbaiogbcodcaaGreatDoor.Lw
open Go.RowKit Go.Lib Go.Proofs.YtcgbaiogbcodcaaGreatDoor.Sh Go.Proofs.YtcgbaiogbcodcaaGreatDoor.Lb Go.Proofs.YtcgbaiogbcodcaaGreatDoor.Pf
open Go.Maps

theorem results_cell_tmp2 {fn : Func} {p u v : Tmp} {ty : TypeId} (h : fn.results = #[.cell p ty, .tmp u, .tmp v]) (tmps : Array Value) (P : Program) (w : World) :
    (results fn tmps).run P w =
      ((asAddr (tmps.getD p undef)).run P w).andThen fun a w₁ => ((loadVar ty a).run P w₁).andThen fun x w₂ => .ok (.tuple #[x, tmps.getD u undef, tmps.getD v undef]) w₂ := by
  simp only [results, h]
  simp [Sem.run_bind, Result.andThen]
theorem results_row_tmp2 {P : Program} {fn : Func} {p u v : Tmp} {ty : TypeId} (h : fn.results = #[.cell p ty, .tmp u, .tmp v]) (tmps : Array Value) (w : World) (g : Nat) (t : TypeId) (cs : List Value) (d : TypeDesc) (y z : Value)
    (hp : tmps.getD p undef = .pointer (some ⟨g, 0, none⟩)) (hy : tmps.getD u undef = y) (hz : tmps.getD v undef = z) (hg : Sh.Blk w g cs t)
    (hu : P.underlying ty = some d) (hd : (match d with | .struct _ | .array _ _ => true | _ => false) = true) (hi : (P.info? ty).map (·.size) = some cs.toArray.size) :
    (results fn tmps).run P w = .ok (.tuple #[.agg cs.toArray, y, z]) w := by
  rw [results_cell_tmp2 h, hp, hy, hz]
  simp [asAddr, Result.andThen, run_loadVar_row w g t ty cs.toArray (0, 0) d hg hu hd hi]
/-- rows of names that rise, in each directory -/
def Names (l : List InoP) : Prop := ∀ x ∈ l, x.kind = 2 → SU ltB x.names ∧ x.nums.length = x.names.length ∧ x.names.length ≤ 128
theorem OkP.namesOk {l : List InoP} {next : Int} (h : OkP l next) : Names l := fun x hx hk => by
  obtain ⟨h1, h2, _⟩ := (h.each x hx).2.dir hk
  exact ⟨h1.rising, h1.same, h2⟩
/-- what entry answers: the directory, the name's place; or why not -/
def AnsE (l : List InoP) (k : Int) (s : ByteArray) (W0 w : World) (e : Ending) (w' : World) : Prop :=
  Below w.heap.size w w' ∧ ((∃ (j i : Nat) (x : InoP) (da : Option Addr) (dn dc : Nat) (na : Option Addr) (nn nc : Nat) (za : Option Addr) (zn zc : Nat) (aa : Option Addr) (an ac : Nat), l[j]? = some x ∧ x.num = k ∧ x.kind = 2 ∧ St x.names s i true ∧ IvP W0 x da dn dc na nn nc za zn zc aa an ac ∧ e = .returned (.tuple #[.agg (ivC x da dn dc na nn nc za zn zc aa an ac).toArray, .int .i64 (i : Int), .nilIface])) ∨
    (∃ (t : ByteArray) (m : Int), (m = 201 ∧ (∀ x ∈ l, x.num ≠ k) ∨ m = 203 ∧ (∃ x ∈ l, x.num = k ∧ x.kind ≠ 2) ∨ m = 201 ∧ ∃ x ∈ l, x.num = k ∧ x.kind = 2 ∧ s ∉ x.names) ∧ e = .returned (.tuple #[.agg #[.int .i64 0, .int .i64 0, .int .i64 0, .int .i64 0, .slice none 0 0, .string ⟨#[]⟩, .slice none 0 0, .slice none 0 0, .slice none 0 0], .int .i64 0, Ref t m])))
theorem St.not_mem {l : List ByteArray} {s : ByteArray} {i : Nat} {b : Bool} (h : St l s i b) (hr : SU ltB l) (hb : b = false) : s ∉ l := fun hm => by
  obtain ⟨j, hj⟩ := List.getElem?_of_mem hm
  have hij : i = j := by
    rcases Nat.lt_trichotomy i j with h1 | h1 | h1
    · obtain ⟨y, hy⟩ : ∃ y, l[i]? = some y := ⟨_, List.getElem?_eq_getElem (by have := (List.getElem?_eq_some_iff.1 hj).1; omega)⟩
      have h2 := h.high i y (Nat.le_refl _) hy
      have h3 := su_lt hr h1 hy hj
      rw [h2] at h3
      cases h3
    · exact h1
    · have := h.low j s h1 hj
      rw [ords_B.irr] at this
      cases this
  subst hij
  have := h.has.2 hj
  rw [hb] at this
  cases this
set_option maxHeartbeats 8000000 in
set_option maxRecDepth 100000 in
theorem entry_any (ao : Option Addr) (l : List InoP) (n c : Nat) (k : Int) (s : ByteArray) (W0 w : World) (h : Irw W0 ao l) (hW : Below W0.heap.size W0 w) (hl : l.length = n) (hbig : n ≤ 1099511627776) (hr : Rise l) (hN : Names l) :
    Calls Tryz.prog 24 #[.slice ao n c, .int .i64 k, .string s] w (AnsE l k s W0 w) := by
  obtain ⟨w1, hw1⟩ : ∃ w1, w1 = w.alloc (.cells #[.int .i64 0, .int .i64 0, .int .i64 0, .int .i64 0, .slice none 0 0, .string ⟨#[]⟩, .slice none 0 0, .slice none 0 0, .slice none 0 0] 38) := ⟨_, rfl⟩
  have b1 : Below w.heap.size w w1 := by rw [hw1]; exact (Below.refl _ w).alloc (Nat.le_refl _) _
  have x1 : Sh.Blk w1 w.heap.size [.int .i64 0, .int .i64 0, .int .i64 0, .int .i64 0, .slice none 0 0, .string ⟨#[]⟩, .slice none 0 0, .slice none 0 0, .slice none 0 0] 38 := by rw [hw1]; exact Sh.Blk.new w [.int .i64 0, .int .i64 0, .int .i64 0, .int .i64 0, .slice none 0 0, .string ⟨#[]⟩, .slice none 0 0, .slice none 0 0, .slice none 0 0] 38 _ rfl
  have B1 := Lib.hid b1
  have X1 := Lib.hid x1
  have HW1 := Lib.hid hw1
  have HW := Lib.hid hW
  have HN := Lib.hid hN
  have C := Lib.hid (directory_any ao l n c k W0 w1 h (below_chain hW b1) hl hbig hr)
  clear h hW hl hr hN b1 x1 hw1
  go_enter Tryz.func24, Tryz.ntmps24
  go_wp2_with fail
  rw [← HW1.out]
  refine C.out.mono ?_
  clear C HW1
  rintro e w2 ⟨hb, ⟨q, x, da, dn, dc, na, nn, nc, za, zn, zc, aa, an, ac, hx, hxk, hk2, hv, rfl⟩ | ⟨t, m, hm, rfl⟩⟩
  rotate_left
  · have B2 : Hid (Below w.heap.size w (w2.alloc (.cells #[.int .i64 0, .int .i64 0, .int .i64 0, .int .i64 0, .slice none 0 0, .string ⟨#[]⟩, .slice none 0 0, .slice none 0 0, .slice none 0 0] 38))) := (below_chain B1.out hb).alloc (below_chain B1.out hb).size _
    have G2 : (w2.alloc (.cells #[.int .i64 0, .int .i64 0, .int .i64 0, .int .i64 0, .slice none 0 0, .string ⟨#[]⟩, .slice none 0 0, .slice none 0 0, .slice none 0 0] 38)).heap[w.heap.size]? = some (.cells #[.int .i64 0, .int .i64 0, .int .i64 0, .int .i64 0, .slice none 0 0, .string ⟨#[]⟩, .slice none 0 0, .slice none 0 0, .slice none 0 0] 38 (0, 0)) := Sh.Blk.alloc (X1.out.low hb) _
    have K4 : Sh.Blk ((w2.alloc (.cells #[.int .i64 0, .int .i64 0, .int .i64 0, .int .i64 0, .slice none 0 0, .string ⟨#[]⟩, .slice none 0 0, .slice none 0 0, .slice none 0 0] 38)).setRow w.heap.size #[.int .i64 0, .int .i64 0, .int .i64 0, .int .i64 0, .slice none 0 0, .string ⟨#[]⟩, .slice none 0 0, .slice none 0 0, .slice none 0 0]) w.heap.size [.int .i64 0, .int .i64 0, .int .i64 0, .int .i64 0, .slice none 0 0, .string ⟨#[]⟩, .slice none 0 0, .slice none 0 0, .slice none 0 0] 38 := setRow_heap _ w.heap.size _ #[.int .i64 0, .int .i64 0, .int .i64 0, .int .i64 0, .slice none 0 0, .string ⟨#[]⟩, .slice none 0 0, .slice none 0 0, .slice none 0 0] 38 (0, 0) G2
    have KH := Lib.hid K4
    have B4 := Lib.hid (below_row B2.out (Nat.le_refl _) #[.int .i64 0, .int .i64 0, .int .i64 0, .int .i64 0, .slice none 0 0, .string ⟨#[]⟩, .slice none 0 0, .slice none 0 0, .slice none 0 0])
    have HM : Hid (m = 201 ∧ (∀ x ∈ l, x.num ≠ k) ∨ m = 203 ∧ (∃ x ∈ l, x.num = k ∧ x.kind ≠ 2) ∨ m = 201 ∧ ∃ x ∈ l, x.num = k ∧ x.kind = 2 ∧ s ∉ x.names) := by
      rcases hm with h1 | ⟨h1, _, h2⟩
      · exact .inl h1
      · exact .inr (.inl ⟨h1, h2⟩)
    obtain ⟨y, hy⟩ : ∃ y, Ref t m = .iface 76 y := ⟨_, rfl⟩
    rw [hy]
    have HY := Lib.hid hy
    clear hb hm K4 hy
    go_wp2_with (with_reducible refine wpList_store_row rfl 38 (.tmp 6) (.tmp 21) rfl w.heap.size #[.int .i64 0, .int .i64 0, .int .i64 0, .int .i64 0, .slice none 0 0, .string ⟨#[]⟩, .slice none 0 0, .slice none 0 0, .slice none 0 0] rfl rfl 38 #[.int .i64 0, .int .i64 0, .int .i64 0, .int .i64 0, .slice none 0 0, .string ⟨#[]⟩, .slice none 0 0, .slice none 0 0, .slice none 0 0] G2 (size9 _ _ _ _ _ _ _ _ _) (sz9 _ _ _ _ _ _ _ _ _ _ _ _ _ _ _ _ _ _) (all9 _ _ _ _ _ _ _ _ _ _ _ _ _ _ _ _ _) ?_)
    exact bodyPost_ret (results_row_tmp2 rfl _ _ w.heap.size 38 _ _ _ _ rfl rfl rfl KH.out Tryz.underlying38 rfl (size9 _ _ _ _ _ _ _ _ _)) rfl ⟨B4.out, .inr ⟨t, m, HM.out, by rw [HY.out]; rfl⟩⟩
  have HX := Lib.hid hx
  have HXK := Lib.hid hxk
  have HK2 := Lib.hid (hk2 rfl)
  have XM : Hid (x ∈ l) := List.mem_of_getElem? hx
  have NM := Lib.hid (HN.out x XM.out HK2.out)
  obtain ⟨xn, xk, xm, xl, xd, xt, xs, xz, xa⟩ := x
  simp only at NM HK2 HXK
  have B3 : Hid (Below w.heap.size w (w2.alloc (.cells #[.int .i64 xn, .int .i64 xk, .int .i64 xm, .int .i64 xl, .slice da dn dc, .string xt, .slice na nn nc, .slice za zn zc, .slice aa an ac] 38))) := (below_chain B1.out hb).alloc (below_chain B1.out hb).size _
  have HV := Lib.hid hv
  have X3 : Sh.Blk (w2.alloc (.cells #[.int .i64 xn, .int .i64 xk, .int .i64 xm, .int .i64 xl, .slice da dn dc, .string xt, .slice na nn nc, .slice za zn zc, .slice aa an ac] 38)) w2.heap.size [.int .i64 xn, .int .i64 xk, .int .i64 xm, .int .i64 xl, .slice da dn dc, .string xt, .slice na nn nc, .slice za zn zc, .slice aa an ac] 38 := Sh.Blk.new w2 [.int .i64 xn, .int .i64 xk, .int .i64 xm, .int .i64 xl, .slice da dn dc, .string xt, .slice na nn nc, .slice za zn zc, .slice aa an ac] 38 _ rfl
  have X4 : Sh.Blk (w2.alloc (.cells #[.int .i64 xn, .int .i64 xk, .int .i64 xm, .int .i64 xl, .slice da dn dc, .string xt, .slice na nn nc, .slice za zn zc, .slice aa an ac] 38)) w.heap.size [.int .i64 0, .int .i64 0, .int .i64 0, .int .i64 0, .slice none 0 0, .string ⟨#[]⟩, .slice none 0 0, .slice none 0 0, .slice none 0 0] 38 := Sh.Blk.alloc (X1.out.low hb) _
  have hvw := hv.below (below_chain HW.out B3.out)
  have hn1 := hvw.n1
  have hn2 := hvw.n2
  have hn3 := hvw.n3
  have hn4 := hvw.n4
  have CS := Lib.hid (search_text na xs nn nc s _ hn4 hn1 (by have h1 := NM.out.2.2; have h2 := hn1; simp only at h2; omega) NM.out.1)
  simp only [ivC]
  have XH3 := Lib.hid X3
  have XH4 := Lib.hid X4
  have j6 := X3.cell 6
  simp only [List.getElem?_cons_zero, List.getElem?_cons_succ] at j6
  clear hb hx hxk hk2 hv X3 X4 hvw hn1 hn2 hn3 hn4
  generalize hwa : w2.alloc (.cells #[.int .i64 xn, .int .i64 xk, .int .i64 xm, .int .i64 xl, .slice da dn dc, .string xt, .slice na nn nc, .slice za zn zc, .slice aa an ac] 38) = wa at *
  have HWA := Lib.hid hwa
  obtain ⟨X, hXX⟩ : ∃ X, X = w2.heap.size := ⟨_, rfl⟩
  rw [← hXX] at XH3 j6
  have HXX := Lib.hid hXX
  rw [← hwa, hXX] at j6
  clear hwa hXX
  go_wp2_with fail
  rw [HWA.out, ← HXX.out]
  refine CS.out.mono ?_
  clear CS j6
  rintro e w4 ⟨i, b, rfl, hst, hb⟩
  have ST := Lib.hid hst
  have B5 := Lib.hid (below_chain B3.out hb)
  have G2 : w4.heap[w.heap.size]? = some (.cells #[.int .i64 0, .int .i64 0, .int .i64 0, .int .i64 0, .slice none 0 0, .string ⟨#[]⟩, .slice none 0 0, .slice none 0 0, .slice none 0 0] 38 (0, 0)) := XH4.out.low hb
  have X5 := XH3.out.low hb
  have j := fun q => X5.cell q
  have j0 := j 0
  have j1 := j 1
  have j2 := j 2
  have j3 := j 3
  have j4 := j 4
  have j5 := j 5
  have j6 := j 6
  have j7 := j 7
  have j8 := j 8
  simp only [List.getElem?_cons_zero, List.getElem?_cons_succ] at j0 j1 j2 j3 j4 j5 j6 j7 j8
  cases b with
  | false =>
    have K4 : Sh.Blk (w4.setRow w.heap.size #[.int .i64 0, .int .i64 0, .int .i64 0, .int .i64 0, .slice none 0 0, .string ⟨#[]⟩, .slice none 0 0, .slice none 0 0, .slice none 0 0]) w.heap.size [.int .i64 0, .int .i64 0, .int .i64 0, .int .i64 0, .slice none 0 0, .string ⟨#[]⟩, .slice none 0 0, .slice none 0 0, .slice none 0 0] 38 := setRow_heap _ w.heap.size _ #[.int .i64 0, .int .i64 0, .int .i64 0, .int .i64 0, .slice none 0 0, .string ⟨#[]⟩, .slice none 0 0, .slice none 0 0, .slice none 0 0] 38 (0, 0) G2
    have KH := Lib.hid K4
    have B6 := Lib.hid (below_row B5.out (Nat.le_refl _) #[.int .i64 0, .int .i64 0, .int .i64 0, .int .i64 0, .slice none 0 0, .string ⟨#[]⟩, .slice none 0 0, .slice none 0 0, .slice none 0 0])
    have NO := Lib.hid (ST.out.not_mem NM.out.1 rfl)
    clear hst hb K4 X5 j
    go_wp2_with (with_reducible refine wpList_store_row rfl 38 (.tmp 6) (.tmp 32) rfl w.heap.size #[.int .i64 0, .int .i64 0, .int .i64 0, .int .i64 0, .slice none 0 0, .string ⟨#[]⟩, .slice none 0 0, .slice none 0 0, .slice none 0 0] rfl rfl 38 #[.int .i64 0, .int .i64 0, .int .i64 0, .int .i64 0, .slice none 0 0, .string ⟨#[]⟩, .slice none 0 0, .slice none 0 0, .slice none 0 0] G2 (size9 _ _ _ _ _ _ _ _ _) (sz9 _ _ _ _ _ _ _ _ _ _ _ _ _ _ _ _ _ _) (all9 _ _ _ _ _ _ _ _ _ _ _ _ _ _ _ _ _) ?_)
    exact bodyPost_ret (results_row_tmp2 rfl _ _ w.heap.size 38 _ _ _ _ rfl rfl rfl KH.out Tryz.underlying38 rfl (size9 _ _ _ _ _ _ _ _ _)) rfl ⟨B6.out, .inr ⟨_, 201, .inr (.inr ⟨rfl, _, XM.out, HXK.out, HK2.out, NO.out⟩), rfl⟩⟩
  | true =>
    have K4 : Sh.Blk (w4.setRow w.heap.size #[.int .i64 xn, .int .i64 xk, .int .i64 xm, .int .i64 xl, .slice da dn dc, .string xt, .slice na nn nc, .slice za zn zc, .slice aa an ac]) w.heap.size [.int .i64 xn, .int .i64 xk, .int .i64 xm, .int .i64 xl, .slice da dn dc, .string xt, .slice na nn nc, .slice za zn zc, .slice aa an ac] 38 := setRow_heap _ w.heap.size _ #[.int .i64 xn, .int .i64 xk, .int .i64 xm, .int .i64 xl, .slice da dn dc, .string xt, .slice na nn nc, .slice za zn zc, .slice aa an ac] 38 (0, 0) G2
    have KH := Lib.hid K4
    have B6 := Lib.hid (below_row B5.out (Nat.le_refl _) #[.int .i64 xn, .int .i64 xk, .int .i64 xm, .int .i64 xl, .slice da dn dc, .string xt, .slice na nn nc, .slice za zn zc, .slice aa an ac])
    clear hst hb K4 X5 j
    go_wp2_with (with_reducible refine wpList_store_row rfl 38 (.tmp 6) (.tmp 35) rfl w.heap.size #[.int .i64 xn, .int .i64 xk, .int .i64 xm, .int .i64 xl, .slice da dn dc, .string xt, .slice na nn nc, .slice za zn zc, .slice aa an ac] rfl rfl 38 #[.int .i64 0, .int .i64 0, .int .i64 0, .int .i64 0, .slice none 0 0, .string ⟨#[]⟩, .slice none 0 0, .slice none 0 0, .slice none 0 0] G2 (size9 _ _ _ _ _ _ _ _ _) (sz9 _ _ _ _ _ _ _ _ _ _ _ _ _ _ _ _ _ _) (all9 _ _ _ _ _ _ _ _ _ _ _ _ _ _ _ _ _) ?_)
    exact bodyPost_ret (results_row_tmp2 rfl _ _ w.heap.size 38 _ _ _ _ rfl rfl rfl KH.out Tryz.underlying38 rfl (size9 _ _ _ _ _ _ _ _ _)) rfl ⟨B6.out, .inl ⟨q, i, ⟨xn, xk, xm, xl, xd, xt, xs, xz, xa⟩, da, dn, dc, na, nn, nc, za, zn, zc, aa, an, ac, HX.out, HXK.out, HK2.out, ST.out, HV.out, rfl⟩⟩
/-- what Find answers -/
def AnsF2 (l : List InoP) (next k : Int) (w : World) (e : Ending) (w' : World) : Prop :=
  Below w.heap.size w w' ∧ ((¬ OkP l next ∧ e = .returned (.int .i64 0)) ∨ (OkP l next ∧ (∃ (i : Nat) (x : InoP), l[i]? = some x ∧ x.num = k ∧ e = .returned (.int .i64 (i : Int)))) ∨ (OkP l next ∧ (∀ x ∈ l, x.num ≠ k) ∧ e = .returned (.int .i64 (-1))))
set_option maxHeartbeats 4000000 in
set_option maxRecDepth 100000 in
theorem find_any (ao : Option Addr) (l : List InoP) (n c : Nat) (next k : Int) (w : World) (h : Irw w ao l) (hl : l.length = n) :
    Calls Tryz.prog 9 #[.agg #[.slice ao n c, .int .i64 next], .int .i64 k] w (AnsF2 l next k w) := by
  obtain ⟨w1, hw1⟩ : ∃ w1, w1 = w.alloc (.cells #[.slice ao n c, .int .i64 next] 24) := ⟨_, rfl⟩
  have b1 : Below w.heap.size w w1 := by rw [hw1]; exact (Below.refl _ w).alloc (Nat.le_refl _) _
  have x1 : Sh.Blk w1 w.heap.size [.slice ao n c, .int .i64 next] 24 := by rw [hw1]; exact Sh.Blk.new w [.slice ao n c, .int .i64 next] 24 _ rfl
  have I1 := Lib.hid (h.below b1)
  have HL := Lib.hid hl
  have B1 := Lib.hid b1
  have X1 := Lib.hid x1
  have HW1 := Lib.hid hw1
  have C := Lib.hid (check_any ao l n c next w1 I1.out hl)
  have c0 := x1.cell 0
  have c1 := x1.cell 1
  simp only [List.getElem?_cons_zero, List.getElem?_cons_succ] at c0 c1
  rw [hw1] at c0 c1
  clear h hl x1 b1 hw1
  go_enter Tryz.func9, Tryz.ntmps9
  go_wp2_with fail
  rw [← HW1.out]
  refine C.out.mono ?_
  clear C c0 c1 HW1
  rintro e w2 ⟨b, rfl, hb, hbl⟩
  have B2 := Lib.hid (below_chain B1.out hbl)
  cases b with
  | false =>
    have NO : Hid (¬ OkP l next) := fun h => by have := hb.2 h; cases this
    clear hb hbl
    go_wp2_with fail
    go_ret
    exact ⟨B2.out, .inl ⟨NO.out, rfl⟩⟩
  | true =>
    have YES := Lib.hid (hb.1 rfl)
    have X2 := Lib.hid (X1.out.low hbl)
    have c0 := X2.out.cell 0
    simp only [List.getElem?_cons_zero] at c0
    have C := Lib.hid (sought_any ao l n c k w2 (I1.out.below hbl) HL.out (by have := YES.out.nums.most; have := HL.out; omega) YES.out.nums.risen)
    clear hb hbl
    go_wp2_with fail
    refine C.out.mono ?_
    clear C c0
    rintro e w3 ⟨i, b, rfl, hs, hb⟩
    have B3 := Lib.hid (below_chain B2.out hb)
    have S := Lib.hid hs
    clear hs hb
    cases b with
    | true =>
      obtain ⟨x, hx, hxk⟩ := S.out.has.1 rfl
      have HX := Lib.hid hx
      have HXK := Lib.hid hxk
      clear hx hxk
      go_wp2_with fail
      go_ret
      exact ⟨B3.out, .inr (.inl ⟨YES.out, i, x, HX.out, HXK.out, rfl⟩)⟩
    | false =>
      have NO := Lib.hid (S.out.no YES.out.nums.risen rfl)
      go_wp2_with fail
      go_ret
      exact ⟨B3.out, .inr (.inr ⟨YES.out, NO.out, rfl⟩)⟩
end Go.Proofs.YtcgbaiogbcodcaaGreatDoor.Lw
namespace Go.Proofs.YtcgbaiogbcodcaaGreatDoor.Lw
open Go.RowKit Go.Lib Go.Proofs.YtcgbaiogbcodcaaGreatDoor.Sh Go.Proofs.YtcgbaiogbcodcaaGreatDoor.Lb Go.Proofs.YtcgbaiogbcodcaaGreatDoor.Pf
open Go.Maps

/-- what Lookup answers -/
def AnsL (l : List InoP) (next k : Int) (s : ByteArray) (w : World) (e : Ending) (w' : World) : Prop :=
  Below w.heap.size w w' ∧ ((¬ OkP l next ∧ e = .returned (.tuple #[.int .i64 0, .int .i64 2])) ∨ (OkP l next ∧ (∃ (d : InoP) (i : Nat) (z : Int), d ∈ l ∧ d.num = k ∧ d.kind = 2 ∧ d.names[i]? = some s ∧ d.nums[i]? = some z ∧ e = .returned (.tuple #[.int .i64 z, .int .i64 0]))) ∨
    (OkP l next ∧ ∃ m : Int, (m = 201 ∧ (∀ x ∈ l, x.num ≠ k) ∨ m = 203 ∧ (∃ x ∈ l, x.num = k ∧ x.kind ≠ 2) ∨ m = 201 ∧ ∃ x ∈ l, x.num = k ∧ x.kind = 2 ∧ s ∉ x.names) ∧ e = .returned (.tuple #[.int .i64 0, .int .i64 m])))
set_option maxHeartbeats 8000000 in
set_option maxRecDepth 100000 in
theorem lookup_any (ao : Option Addr) (l : List InoP) (n c : Nat) (next k : Int) (s : ByteArray) (w : World) (hE : ErrT w) (h : Irw w ao l) (hl : l.length = n) :
    Calls Tryz.prog 11 #[.agg #[.slice ao n c, .int .i64 next], .int .i64 k, .string s] w (AnsL l next k s w) := by
  obtain ⟨w1, hw1⟩ : ∃ w1, w1 = w.alloc (.cells #[.slice ao n c, .int .i64 next] 24) := ⟨_, rfl⟩
  have b1 : Below w.heap.size w w1 := by rw [hw1]; exact (Below.refl _ w).alloc (Nat.le_refl _) _
  have x1 : Sh.Blk w1 w.heap.size [.slice ao n c, .int .i64 next] 24 := by rw [hw1]; exact Sh.Blk.new w [.slice ao n c, .int .i64 next] 24 _ rfl
  have HI := Lib.hid h
  have HL := Lib.hid hl
  have B1 := Lib.hid b1
  have X1 := Lib.hid x1
  have HW1 := Lib.hid hw1
  have ET := Lib.hid hE
  have C := Lib.hid (check_any ao l n c next w1 (h.below b1) hl)
  have c0 := x1.cell 0
  have c1 := x1.cell 1
  simp only [List.getElem?_cons_zero, List.getElem?_cons_succ] at c0 c1
  rw [hw1] at c0 c1
  clear h hl x1 b1 hw1 hE
  go_enter Tryz.func11, Tryz.ntmps11
  go_wp2_with fail
  rw [← HW1.out]
  refine C.out.mono ?_
  clear C c0 c1 HW1
  rintro e w2 ⟨b, rfl, hb, hbl⟩
  have B2 := Lib.hid (below_chain B1.out hbl)
  cases b with
  | false =>
    have NO : Hid (¬ OkP l next) := fun h => by have := hb.2 h; cases this
    clear hb hbl
    go_wp2_with fail
    go_ret2
    exact ⟨B2.out, .inl ⟨NO.out, rfl⟩⟩
  | true =>
    have YES := Lib.hid (hb.1 rfl)
    have X2 := Lib.hid (X1.out.low hbl)
    have c0 := X2.out.cell 0
    simp only [List.getElem?_cons_zero] at c0
    have C := Lib.hid (entry_any ao l n c k s w w2 HI.out B2.out HL.out (by have := YES.out.nums.most; have := HL.out; omega) YES.out.nums.risen YES.out.namesOk)
    clear hb hbl
    go_wp2_with fail
    refine C.out.mono ?_
    clear C c0
    rintro e w3 ⟨hb, ⟨q, i, x, da, dn, dc, na, nn, nc, za, zn, zc, aa, an, ac, hx, hxk, hk2, hst, hv, rfl⟩ | ⟨t, m, hm, rfl⟩⟩
    rotate_left
    · have B3 : Hid (Below w.heap.size w (w3.alloc (.cells #[.int .i64 0, .int .i64 0, .int .i64 0, .int .i64 0, .slice none 0 0, .string ⟨#[]⟩, .slice none 0 0, .slice none 0 0, .slice none 0 0] 38))) := (below_chain B2.out hb).alloc (below_chain B2.out hb).size _
      have HM := Lib.hid hm
      have CE := Lib.hid (errno_ref t m (w3.alloc (.cells #[.int .i64 0, .int .i64 0, .int .i64 0, .int .i64 0, .slice none 0 0, .string ⟨#[]⟩, .slice none 0 0, .slice none 0 0, .slice none 0 0] 38)) (ET.out.below B3.out))
      obtain ⟨y, hy⟩ : ∃ y, Ref t m = .iface 76 y := ⟨_, rfl⟩
      rw [hy] at CE ⊢
      clear hb hm hy
      go_wp2_with fail
      refine CE.out.mono ?_
      clear CE
      rintro e w4 ⟨rfl, hb⟩
      have B4 := Lib.hid (below_chain B3.out hb)
      clear hb
      go_wp2_with fail
      go_ret2
      exact ⟨B4.out, .inr (.inr ⟨YES.out, m, HM.out, rfl⟩)⟩
    have B3 : Hid (Below w.heap.size w (w3.alloc (.cells (ivC x da dn dc na nn nc za zn zc aa an ac).toArray 38))) := (below_chain B2.out hb).alloc (below_chain B2.out hb).size _
    have X3 : Sh.Blk (w3.alloc (.cells (ivC x da dn dc na nn nc za zn zc aa an ac).toArray 38)) w3.heap.size (ivC x da dn dc na nn nc za zn zc aa an ac) 38 := Sh.Blk.new w3 _ 38 _ rfl
    have XM : Hid (x ∈ l) := List.mem_of_getElem? hx
    have hnm := YES.out.namesOk x XM.out hk2
    have hsi := hst.has.1 rfl
    have hil : i < x.nums.length := by have := (List.getElem?_eq_some_iff.1 hsi).1; omega
    have hzn := hv.z1
    obtain ⟨zb, zo, hza, hzb, hz⟩ := zrw_cell hv.z4 i hil
    subst hza
    obtain ⟨z, hzz⟩ : ∃ z, x.nums[i]? = some z := ⟨_, List.getElem?_eq_getElem hil⟩
    have e7 := (B3.out.cell (p := ⟨zb, zo + i, none⟩) hzb).trans (hz i z hzz)
    have q2 : (0 : Int) ≤ (i : Int) := by omega
    have q3 : (i : Int) < (zn : Int) := by omega
    have HXK := Lib.hid hxk
    have HK2 := Lib.hid hk2
    have HSI := Lib.hid hsi
    have HZZ := Lib.hid hzz
    obtain ⟨xn, xk, xm, xl, xd, xt, xs, xz, xa⟩ := x
    simp only [ivC] at X3 B3 e7 ⊢
    have j7 := X3.cell 7
    simp only [List.getElem?_cons_zero, List.getElem?_cons_succ] at j7
    clear hb hx hxk hk2 hst hv X3 hnm hsi hil hzn hz hzz hzb
    go_wp2_with fail
    go_ret2
    exact ⟨B3.out, .inr (.inl ⟨YES.out, _, i, z, XM.out, HXK.out, HK2.out, HSI.out, HZZ.out, rfl⟩)⟩
/-- what Parent answers -/
def AnsP2 (l : List InoP) (next k : Int) (w : World) (e : Ending) (w' : World) : Prop :=
  Below w.heap.size w w' ∧ ((¬ OkP l next ∧ e = .returned (.int .i64 0)) ∨ (OkP l next ∧ (∃ x ∈ l, x.num = k ∧ x.kind = 2) ∧ e = .returned (.int .i64 (dirOf (enL l) k))) ∨
    (OkP l next ∧ ((∀ x ∈ l, x.num ≠ k) ∨ ∃ x ∈ l, x.num = k ∧ x.kind ≠ 2) ∧ e = .returned (.int .i64 0)))
set_option maxHeartbeats 8000000 in
set_option maxRecDepth 100000 in
theorem parent_any (ao : Option Addr) (l : List InoP) (n c : Nat) (next k : Int) (w : World) (h : Irw w ao l) (hl : l.length = n) :
    Calls Tryz.prog 12 #[.agg #[.slice ao n c, .int .i64 next], .int .i64 k] w (AnsP2 l next k w) := by
  have hf1 := f66_1
  obtain ⟨w1, hw1⟩ : ∃ w1, w1 = w.alloc (.cells #[.slice ao n c, .int .i64 next] 24) := ⟨_, rfl⟩
  have b1 : Below w.heap.size w w1 := by rw [hw1]; exact (Below.refl _ w).alloc (Nat.le_refl _) _
  have x1 : Sh.Blk w1 w.heap.size [.slice ao n c, .int .i64 next] 24 := by rw [hw1]; exact Sh.Blk.new w [.slice ao n c, .int .i64 next] 24 _ rfl
  have HI := Lib.hid h
  have HL := Lib.hid hl
  have B1 := Lib.hid b1
  have X1 := Lib.hid x1
  have HW1 := Lib.hid hw1
  have C := Lib.hid (check_any ao l n c next w1 (h.below b1) hl)
  have c0 := x1.cell 0
  have c1 := x1.cell 1
  simp only [List.getElem?_cons_zero, List.getElem?_cons_succ] at c0 c1
  rw [hw1] at c0 c1
  clear h hl x1 b1 hw1
  go_enter Tryz.func12, Tryz.ntmps12
  go_wp2_with fail
  rw [← HW1.out]
  refine C.out.mono ?_
  clear C c0 c1 HW1
  rintro e w2 ⟨b, rfl, hb, hbl⟩
  have B2 := Lib.hid (below_chain B1.out hbl)
  cases b with
  | false =>
    have NO : Hid (¬ OkP l next) := fun h => by have := hb.2 h; cases this
    clear hb hbl
    go_wp2_with fail
    go_ret
    exact ⟨B2.out, .inl ⟨NO.out, rfl⟩⟩
  | true =>
    have YES := Lib.hid (hb.1 rfl)
    have X2 := Lib.hid (X1.out.low hbl)
    have c0 := X2.out.cell 0
    simp only [List.getElem?_cons_zero] at c0
    have C := Lib.hid (directory_any ao l n c k w w2 HI.out B2.out HL.out (by have := YES.out.nums.most; have := HL.out; omega) YES.out.nums.risen)
    clear hb hbl
    go_wp2_with fail
    refine C.out.mono ?_
    clear C c0
    rintro e w3 ⟨hb, ⟨q, x, da, dn, dc, na, nn, nc, za, zn, zc, aa, an, ac, hx, hxk, hk2, hv, rfl⟩ | ⟨t, m, hm, rfl⟩⟩
    rotate_left
    · have B3 : Hid (Below w.heap.size w (w3.alloc (.cells #[.int .i64 0, .int .i64 0, .int .i64 0, .int .i64 0, .slice none 0 0, .string ⟨#[]⟩, .slice none 0 0, .slice none 0 0, .slice none 0 0] 38))) := (below_chain B2.out hb).alloc (below_chain B2.out hb).size _
      have HM : Hid ((∀ x ∈ l, x.num ≠ k) ∨ ∃ x ∈ l, x.num = k ∧ x.kind ≠ 2) := by
        rcases hm with h1 | ⟨_, _, h1⟩
        · exact .inl h1.2
        · exact .inr h1
      obtain ⟨y, hy⟩ : ∃ y, Ref t m = .iface 76 y := ⟨_, rfl⟩
      rw [hy]
      clear hb hm hy
      go_wp2_with fail
      go_ret
      exact ⟨B3.out, .inr (.inr ⟨YES.out, HM.out, rfl⟩)⟩
    have B3 : Hid (Below w.heap.size w (w3.alloc (.cells (ivC x da dn dc na nn nc za zn zc aa an ac).toArray 38))) := (below_chain B2.out hb).alloc (below_chain B2.out hb).size _
    have XM : Hid (x ∈ l) := List.mem_of_getElem? hx
    have XI := Lib.hid hx
    have HXK := Lib.hid hxk
    have HK2 := Lib.hid (hk2 rfl)
    have X4 : Hid (Sh.Blk (w3.alloc (.cells (ivC x da dn dc na nn nc za zn zc aa an ac).toArray 38)) w.heap.size [.slice ao n c, .int .i64 next] 24) := Sh.Blk.alloc (X2.out.low hb) _
    have c0 := X4.out.cell 0
    simp only [List.getElem?_cons_zero] at c0
    have C := Lib.hid (places_any ao l n c (w3.alloc (.cells (ivC x da dn dc na nn nc za zn zc aa an ac).toArray 38)) (HI.out.below B3.out) HL.out (few_of YES.out.nums (fun y hy => (YES.out.each y hy).2)))
    have kb0 := YES.out.nums.pos hx
    have kb1 := YES.out.nums.top hx
    rw [hxk] at kb0 kb1
    simp only [ivC] at c0 B3 C ⊢
    clear hb hx hxk hk2 hv
    go_wp2_with fail
    refine C.out.mono ?_
    clear C c0
    rintro e w4 ⟨hb, mb, D, cnt, rfl, hP, hO, _⟩
    have B4 := Lib.hid (below_chain B3.out hb)
    have hr := look_pl hP hO k (by omega) (by omega)
    obtain ⟨dd, hdd⟩ : ∃ dd, dd = dirOf (enL l) k := ⟨_, rfl⟩
    obtain ⟨tt, htt⟩ : ∃ tt : Int, tt = (times (enL l) k : Int) := ⟨_, rfl⟩
    rw [← hdd, ← htt] at hr
    have HD := Lib.hid hdd
    clear hb hP hO hdd htt kb0 kb1
    go_wp2_with fail
    go_ret
    exact ⟨B4.out, .inr (.inl ⟨YES.out, ⟨x, XM.out, HXK.out, HK2.out⟩, congrArg (fun v => Ending.returned (Value.int .i64 v)) HD.out⟩)⟩
end Go.Proofs.YtcgbaiogbcodcaaGreatDoor.Lw
