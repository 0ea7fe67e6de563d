/-
  Rows of records read; the contracts of the document's own Ints and Same where both rows are the same. Conditions: each law's own.
-/
import Derived.Test.YtekaboomhljdoaaGreatDoorGa
import Derived.Test.YtekaboomhljdoaaGreatDoorKg
import Derived.RegionTactic
namespace Go.Proofs.YtekaboomhljdoaaGreatDoor.Sh
open Lb Go.RowKit Go.Lib

set_option maxHeartbeats 2000000 in
set_option maxRecDepth 100000 in
theorem next_no (ao : Option Addr) (b : List UInt8) (n c : Nat) (a0 a1 : Addr) (w : World) (hE : Env w a0 a1) (h : Byt w ao b) (hn : ao = none → c = 0) (hb : b.length = n) (hc : n ≤ c) (hc2 : c ≤ 9223372036854775807) (hno : (Fr.nextL b).1 ≠ 0) :
    Calls Tryz.prog 48 #[.slice ao n c] w fun e w' => Below w.heap.size w w' ∧ e = .returned (.tuple #[.agg #[.int .i64 0, .string ⟨#[]⟩, .slice none 0 0], .int .i64 0, .int .i64 ((Fr.nextL b).1 : Nat)]) := by
  have B0 := al1 w (.cells #[.int .i64 0, .string ⟨#[]⟩, .slice none 0 0] 29)
  have YB : Hid (Blk (w.alloc (.cells #[.int .i64 0, .string ⟨#[]⟩, .slice none 0 0] 29)) w.heap.size [.int .i64 0, .string ⟨#[]⟩, .slice none 0 0] 29) := Blk.new w [.int .i64 0, .string ⟨#[]⟩, .slice none 0 0] 29 w.heap.size rfl
  have CB := Lib.hid (first_any ao b n c a0 a1 _ (hE.below B0) (h.below B0) hn hb hc hc2)
  have E0 := Lib.hid (hE.below B0)
  have BB := Lib.hid B0
  have HNO := Lib.hid hno
  clear hE h hb B0 hno
  go_enter Tryz.func48, Tryz.ntmps48
  go_wp2_with fail
  generalize w.alloc (.cells #[.int .i64 0, .string ⟨#[]⟩, .slice none 0 0] 29) = W1 at *
  refine CB.out.mono ?_
  rintro e w1 ⟨b1, ⟨h0, _⟩ | ⟨_, v, rfl, hv⟩⟩
  · exact absurd h0 HNO.out
  obtain ⟨x, hx⟩ : ∃ x, x = (Fr.nextL b).1 := ⟨_, rfl⟩
  have HX := Lib.hid hx
  rw [← hx] at hv
  have Y1 := Lib.hid (YB.out.low b1)
  have E1 := Lib.hid (E0.out.below b1)
  have B1 := Lib.hid (BB.out.trans (b1.mono BB.out.size))
  have yl := Y1.out.lt
  have CE := Lib.hid (fun W (hb : Below w1.heap.size w1 W) => errno_fr x v a0 a1 W (E1.out.sen.below hb) hv)
  clear b1 CB hx hv
  have K2 : Hid (Blk (w1.alloc (.cells #[.int .i64 0, .string ⟨#[]⟩, .slice none 0 0] 29)) w1.heap.size [.int .i64 0, .string ⟨#[]⟩, .slice none 0 0] 29) := Blk.new w1 [.int .i64 0, .string ⟨#[]⟩, .slice none 0 0] 29 w1.heap.size rfl
  have bt := al1 w1 (.cells #[.int .i64 0, .string ⟨#[]⟩, .slice none 0 0] 29)
  have Y2 := Lib.hid (Y1.out.low bt)
  have BQ := Lib.hid bt.drew
  have B2 := Lib.hid (B1.out.trans (bt.mono B1.out.size))
  clear bt
  go_wp2_with fail
  obtain ⟨g, hg⟩ : ∃ g, g = w1.heap.size := ⟨_, rfl⟩
  rw [← hg] at K2 ⊢
  generalize w1.alloc (.cells #[.int .i64 0, .string ⟨#[]⟩, .slice none 0 0] 29) = W2 at *
  have YQ := Lib.hid Y2.out.drew
  have KQ := Lib.hid K2.out.drew
  have B3 := Lib.hid B2.out.drew
  have f0 := YQ.out.frozen 0
  have f1 := YQ.out.frozen 1
  have f2 := YQ.out.frozen 2
  have y0 := keep29 YQ.out
  have k0 := keep29 K2.out
  have ng : ¬ g = w.heap.size := by omega
  have ng' : ¬ w.heap.size = g := by omega
  clear hg
  go_region_held3 (fun w' => w'.cell? ⟨g, 0, none⟩ = some (.int .i64 0) ∧ w'.cell? ⟨g, 1, none⟩ = some (.string ⟨#[]⟩) ∧ w'.cell? ⟨g, 2, none⟩ = some (.slice none 0 0))
    (first | go_keep | exact keep29 KQ.out)
    ((go_at_call 57; (with_reducible refine (CE.out _ BQ.out).mono ?_); rintro e w5 ⟨rfl, b5⟩; have YQ := Lib.hid (YQ.out.low b5); have KQ := Lib.hid (KQ.out.low b5); have B3 := Lib.hid (B3.out.trans (b5.mono B3.out.size)); have f0 := YQ.out.frozen 0; have f1 := YQ.out.frozen 1; have f2 := YQ.out.frozen 2; have y0 := keep29 YQ.out; clear b5))
  all_goals
    go_wp2_with fail
    refine bodyPost_ret (results_row_tmp2 rfl _ _ w.heap.size 29 _ _ _ _ rfl rfl rfl (((YQ.out.set 0 (.int .i64 0)).set 1 (.string ⟨#[]⟩)).set 2 (.slice none 0 0)) Tryz.underlying29 rfl (size29 _ _ _)) rfl ?_
    exact ⟨((B3.out.setCell (Nat.le_refl _) _).setCell (Nat.le_refl _) _).setCell (Nat.le_refl _) _, by rw [← HX.out]; rfl⟩
end Go.Proofs.YtekaboomhljdoaaGreatDoor.Sh
namespace Go.Proofs.YtekaboomhljdoaaGreatDoor.Sh
open Lb Go.RowKit Go.Lib

/-- a kind and data -/
abbrev Rcd := UInt8 × List UInt8
def recC (r : Rcd) (u : Value) : List Value := [.int .i64 (r.1.toNat : Int), .string (keyS (r.1.toNat : Nat) r.2), u]
def recsC (l : List Rcd) (us : List Value) : List Value := (l.zip us).flatMap fun p => recC p.1 p.2
/-- data of the call's own, or older than B -/
def DatK (B : Nat) (w : World) (u : Value) (d : List UInt8) : Prop :=
  Own w B u d ∨ ∃ a c, u = .slice a d.length c ∧ Byt w a d ∧ (a = none → c = 0) ∧ d.length ≤ c ∧ c ≤ 9223372036854775807 ∧ (d ≠ [] → ∀ b o, a = some ⟨b, o, none⟩ → b < B)
/-- a row of records of the call's own -/
def OwnG (D B : Nat) (w : World) (l : List Rcd) (v : Value) : Prop :=
  ∃ us, us.length = l.length ∧ w.ownsRow B 29 3 v l.length (recsC l us) ∧ ∀ j (h : j < l.length), ∃ u, us[j]? = some u ∧ DatK D w u l[j].2
theorem ownf_nil (D B : Nat) (w : World) : OwnG D B w [] (.slice none 0 0) := ⟨[], rfl, World.ownsRow_nil _ _ _ _, fun _ h => absurd h (Nat.not_lt_zero _)⟩
theorem datK_read {B : Nat} {w : World} {u : Value} {d : List UInt8} (h : DatK B w u d) : ∃ a c, u = .slice a d.length c ∧ Byt w a d ∧ (a = none → c = 0) ∧ d.length ≤ c ∧ c ≤ 9223372036854775807 := by
  rcases h with h | ⟨a, c, h1, h2, h3, h4, h5, _⟩
  · obtain ⟨a, c, h1, h4, h5, h2, h3⟩ := own_byt h
    exact ⟨a, c, h1, h2, h3, h4, h5⟩
  · exact ⟨a, c, h1, h2, h3, h4, h5⟩
theorem block_of {w : World} {B : Nat} {e : TypeId} {s : Nat} {v : Value} {n : Nat} {xs : List Value} (h : w.ownsRow B e s v n xs) {g : Nat} (hg : v.ownBlock = some g) : ∃ cur, w.heap[g]? = some (.cells cur e (0, 0)) := by
  obtain ⟨_, ⟨rfl, _⟩ | ⟨g', cap, cur, rfl, _, hc, _⟩⟩ := h
  · cases hg
  · injection hg with hg
    subst hg
    exact ⟨cur, hc⟩
theorem apartT {w : World} {B B' : Nat} {e e' : TypeId} {s s' : Nat} {u v : Value} {n m : Nat} {xs ys : List Value} (h : w.ownsRow B e s u n xs) (h2 : w.ownsRow B' e' s' v m ys) (hne : e ≠ e') : u.ownBlock = none ∨ u.ownBlock ≠ v.ownBlock := by
  cases hu : u.ownBlock with
  | none => exact Or.inl rfl
  | some g =>
    refine Or.inr fun hv => ?_
    obtain ⟨c1, e1⟩ := block_of h hu
    obtain ⟨c2, e2⟩ := block_of h2 hv.symm
    rw [e1] at e2
    cases e2
    exact hne rfl
theorem byt_grown {w w' : World} {row : Option Nat} {a : Option Addr} {d : List UInt8} (h : Byt w a d) (hg : w.grownBy w' row) (hne : d ≠ [] → ∀ b o, a = some ⟨b, o, none⟩ → some b ≠ row) : Byt w' a d := fun hd => by
  obtain ⟨b, o, h1, h2, h3⟩ := h hd
  exact ⟨b, o, h1, Nat.lt_of_lt_of_le h2 hg.size, fun j hj => (World.cell?_of_block (hg.block b h2 (hne hd b o h1))).trans (h3 j hj)⟩
theorem datK_kept {D B : Nat} {w w' : World} {u v : Value} {d : List UInt8} {e : TypeId} {s n : Nat} {xs : List Value} (h : DatK D w u d) (hDB : D ≤ B) (ho : w.ownsRow B e s v n xs) (he : 5 ≠ e) (hg : w.grownBy w' v.ownBlock)   : DatK D w' u d := by
  rcases h with h | ⟨a, c, h1, h2, h3, h4, h5, h6⟩
  · exact Or.inl (World.ownsRow.kept h hg (apartT h ho he))
  · refine Or.inr ⟨a, c, h1, byt_grown h2 hg (fun hd b o hb hv => ?_), h3, h4, h5, h6⟩
    have := (World.ownsRow.lt ho b hv.symm).1
    have := h6 hd b o hb
    omega
theorem datK_below {B : Nat} {w w' : World} {u : Value} {d : List UInt8} (h : DatK B w u d) (hb : Below w.heap.size w w') : DatK B w' u d := by
  rcases h with h | ⟨a, c, h1, h2, h3, h4, h5, h6⟩
  · exact Or.inl (own_below h hb)
  · exact Or.inr ⟨a, c, h1, h2.below hb, h3, h4, h5, h6⟩
theorem row_below {w w' : World} {B : Nat} {e : TypeId} {s : Nat} {v : Value} {n : Nat} {xs : List Value} (h : w.ownsRow B e s v n xs) (hb : Below w.heap.size w w') : w'.ownsRow B e s v n xs := by
  obtain ⟨h1, h2 | ⟨g, cap, cur, e, hB, hg, rest⟩⟩ := h
  · exact ⟨h1, Or.inl h2⟩
  · exact ⟨h1, Or.inr ⟨g, cap, cur, e, hB, (hb.block g (Array.getElem?_eq_some_iff.1 hg).1).trans hg, rest⟩⟩
theorem ownf_below {D B : Nat} {w w' : World} {l : List Rcd} {v : Value} (h : OwnG D B w l v) (hb : Below w.heap.size w w') : OwnG D B w' l v := by
  obtain ⟨us, h1, h2, h3⟩ := h
  exact ⟨us, h1, row_below h2 hb, fun j hj => by obtain ⟨u, hu, hd⟩ := h3 j hj; exact ⟨u, hu, datK_below hd hb⟩⟩
theorem datK_low {B B' : Nat} {w : World} {u : Value} {d : List UInt8} (h : Own w B' u d) (hb : B ≤ B') : DatK B w u d := Or.inl (h.low hb)
/-- another row of the call's own has grown -/
theorem ownf_kept {D B : Nat} {w w' : World} {l : List Rcd} {v u : Value} {e : TypeId} {s n : Nat} {xs : List Value} (h : OwnG D B w l v) (hDB : D ≤ B) (ho : w.ownsRow B e s u n xs) (he : 29 ≠ e) (he5 : 5 ≠ e) (hg : w.grownBy w' u.ownBlock) : OwnG D B w' l v := by
  obtain ⟨us, h1, h2, h3⟩ := h
  exact ⟨us, h1, World.ownsRow.kept h2 hg (apartT h2 ho he), fun j hj => by obtain ⟨x, hx, hd⟩ := h3 j hj; exact ⟨x, hx, datK_kept hd hDB ho he5 hg⟩⟩
theorem recsC_snoc {l : List Rcd} {us : List Value} (h : us.length = l.length) (x : Rcd) (u : Value) : recsC (l ++ [x]) (us ++ [u]) = recsC l us ++ recC x u := by
  unfold recsC
  rw [List.zip_append h.symm]
  simp
theorem dat_one {B : Nat} {w : World} {u : Value} {d : List UInt8} (h : DatK B w u d) : u.oneCell' = true := by
  obtain ⟨a, c, rfl, _⟩ := datK_read h
  rfl
/-- one record more -/
theorem ownf_app {D B : Nat} {w w' : World} {l : List Rcd} {v v' u : Value} {us : List Value} {x : Rcd} (hDB : D ≤ B) (h1 : us.length = l.length) (ho : w.ownsRow B 29 3 v l.length (recsC l us)) (h3 : ∀ j (h : j < l.length), ∃ u, us[j]? = some u ∧ DatK D w u l[j].2) (hu : DatK D w u x.2)
    (hown : w'.ownsRow B 29 3 v' (l.length + 1) (recsC l us ++ recC x u)) (hg : w.grownBy w' v.ownBlock) : OwnG D B w' (l ++ [x]) v' := by
  refine ⟨us ++ [u], by simp [h1], ?_, fun j hj => ?_⟩
  · rw [recsC_snoc h1, List.length_append, List.length_singleton]
    exact hown
  · rw [List.length_append, List.length_singleton] at hj
    rcases Nat.lt_or_ge j l.length with h | h
    · obtain ⟨y, hy, hd⟩ := h3 j h
      refine ⟨y, by rw [List.getElem?_append_left (by omega)]; exact hy, ?_⟩
      rw [List.getElem_append_left h]
      exact datK_kept hd hDB ho (by decide) hg
    · obtain rfl : j = l.length := by omega
      refine ⟨u, by rw [← h1]; simp, ?_⟩
      rw [List.getElem_append_right (Nat.le_refl _)]
      simp only [Nat.sub_self, List.getElem_singleton]
      exact datK_kept hu hDB ho (by decide) hg
theorem info29z : (Tryz.prog.info? 29).map (fun i => (i.zero, i.size, i.bytes)) = some (some (.agg #[.int .i64 0, .string ⟨#[]⟩, .slice none 0 0]), 3, 48) := by kernel_rfl
/-- append of one record, as a step of a plain region -/
theorem wpl_appf {w : World} {ops : Array Oper} {rest : List Oper} {o : Oper} {a : Act} {Q : Exit → Act → World → Prop} (hgd : o.guard = none) (s x : Operand)
    (ho : o.op = .call { callee := .builtin .append, args := #[s, x], argTypes := #[38, 38] })
    (D B : Nat) (hDB : D ≤ B) (v u : Value) (l : List Rcd) (r : Rcd) (hs : a.eval s = v) (hown : OwnG D B w l v) (hu : DatK D w u r.2)
    (g : Nat) (hx : a.eval x = .slice (some ⟨g, 0, none⟩) 1 1) (hb : Blk w g (recC r u) 29) (hn : l.length + 1 ≤ 1000000000) (hbase : B ≤ w.heap.size)
    (h : ∀ v' w', OwnG D B w' (l ++ [r]) v' → w.grownBy w' v.ownBlock → wpList Tryz.prog ops Q rest (a.put o.dst v') w') : wpList Tryz.prog ops Q (o :: rest) a w := by
  obtain ⟨i0, hi, hz0, hz1, hz2⟩ := info_parts info29z
  obtain ⟨us, h1, h2, h3⟩ := hown
  refine wpList_append_own w hgd s x 38 ho B 29 i0 (.agg #[.int .i64 0, .string ⟨#[]⟩, .slice none 0 0]) 3 48 Tryz.underlying38 hi hz0 hz1 hz2 rfl (by decide) v l.length (recsC l us) hs h2 ⟨g, 0, none⟩ 1 1 (recC r u) hx (by rfl) (fun j y hj => ?_) ?_ (by unfold maxLen; omega) (by omega) hbase
    (fun v' w' k1 k2 _ => h v' w' (ownf_app hDB h1 h2 h3 hu k1 k2) k2)
  · rw [WideShapes.add_plain, Nat.zero_add, hb.cell]
    exact hj
  · intro y hy
    simp only [recC, List.mem_cons, List.not_mem_nil, or_false] at hy
    rcases hy with rfl | rfl | rfl
    · rfl
    · rfl
    · exact dat_one hu
end Go.Proofs.YtekaboomhljdoaaGreatDoor.Sh
namespace Go.Proofs.YtekaboomhljdoaaGreatDoor.Sh
open Lb Go.RowKit Go.Lib

/-- what Scan answers -/
def AnsS (b : List UInt8) (w : World) (e : Ending) (w' : World) : Prop :=
  Below w.heap.size w w' ∧ ∃ u v, e = .returned (.tuple #[u, v, .int .i64 ((Fr.scanL b).2.2 : Nat)]) ∧ OwnG 0 w.heap.size w' (Fr.scanL b).1 u ∧ OwnZ w' w.heap.size v (Fr.scanL b).2.1
theorem ansS {b : List UInt8} {w w' : World} {e : Ending} {rs : List Rcd} {ps : List Int} {p : Nat} (h : Fr.scanL b = (rs, ps, p)) (hb : Below w.heap.size w w') (u v : Value) (he : e = .returned (.tuple #[u, v, .int .i64 (p : Nat)])) (hu : OwnG 0 w.heap.size w' rs u) (hv : OwnZ w' w.heap.size v ps) : AnsS b w e w' := by
  unfold AnsS
  rw [h]
  exact ⟨hb, u, v, he, hu, hv⟩
/-- how far it has come -/
def Come (b : List UInt8) (rs : List Rcd) (ps : List Int) (p f : Nat) : Prop :=
  Fr.scanL b = (rs ++ (Fr.scanF f p (b.drop p)).1, ps ++ (Fr.scanF f p (b.drop p)).2.1, (Fr.scanF f p (b.drop p)).2.2) ∧ b.length < f + p ∧ p ≤ b.length ∧ rs.length ≤ p ∧ ps.length ≤ p
theorem come_start (b : List UInt8) : Come b [] [] 0 (b.length + 1) := ⟨by simp [Fr.scanL], by omega, by omega, by simp, by simp⟩
theorem come_end {b : List UInt8} {rs : List Rcd} {ps : List Int} {p f : Nat} (h : Come b rs ps p f) (h0 : (Fr.nextL (b.drop p)).1 ≠ 0) : Fr.scanL b = (rs, ps, p) := by
  obtain ⟨h1, _⟩ := h
  rw [Fr.scanF_stop f p _ h0] at h1
  simpa using h1
theorem come_next {b : List UInt8} {rs : List Rcd} {ps : List Int} {p f : Nat} (h : Come b rs ps p f) (h0 : (Fr.nextL (b.drop p)).1 = 0) :
    ∃ g, Come b (rs ++ [((Fr.nextL (b.drop p)).2.1, (Fr.nextL (b.drop p)).2.2.1)]) (ps ++ [(p : Int)]) (p + (Fr.nextL (b.drop p)).2.2.2) g ∧ 7 ≤ (Fr.nextL (b.drop p)).2.2.2 ∧ p + (Fr.nextL (b.drop p)).2.2.2 ≤ b.length := by
  obtain ⟨h1, h2, h3, h4, h5⟩ := h
  have hn := Fr.next_ok _ h0
  rw [List.length_drop] at hn
  obtain ⟨g, rfl⟩ : ∃ g, f = g + 1 := ⟨f - 1, by omega⟩
  rw [Fr.scanF_next g p _ h0, List.drop_drop] at h1
  refine ⟨g, ⟨by rw [h1]; simp, by omega, by omega, by simp; omega, by simp; omega⟩, hn.1, by omega⟩

/-- behind the append of a record -/
theorem scan_one {w W w2 : World} {u v v1 : Value} {rs rs' : List Rcd} {ps : List Int} (hF : OwnG 0 w.heap.size W rs u) (hZ : OwnZ W w.heap.size v ps) (hB : Below w.heap.size w W) (hs : w.heap.size ≤ W.heap.size) (hF2 : OwnG 0 w.heap.size w2 rs' v1) (hg : W.grownBy w2 u.ownBlock) (p : Int) :
    OwnG 0 w.heap.size (w2.alloc (.cells #[.int .i64 p] 3)) rs' v1 ∧ OwnZ (w2.alloc (.cells #[.int .i64 p] 3)) w.heap.size v ps ∧ Below w.heap.size w (w2.alloc (.cells #[.int .i64 p] 3)) ∧ Zrw (w2.alloc (.cells #[.int .i64 p] 3)) (some ⟨w2.heap.size, 0, none⟩) [p] ∧ w.heap.size ≤ (w2.alloc (.cells #[.int .i64 p] 3)).heap.size := by
  obtain ⟨us, _, ho, _⟩ := hF
  have hb2 := hB.grown hg hs (fun k hk => (World.ownsRow.lt ho k hk).1)
  have bt := al1 w2 (.cells #[.int .i64 p] 3)
  have hb3 := hb2.trans (bt.mono hb2.size)
  refine ⟨ownf_below hF2 bt, row_below (World.ownsRow.kept hZ hg (apartT hZ ho (by decide))) bt, hb3, fun _ => ⟨w2.heap.size, 0, rfl, by simp, fun j hj => ?_⟩, hb3.size⟩
  obtain rfl : j = 0 := by simp at hj; omega
  rw [World.cell?_alloc_new]
  rfl
/-- behind the append of a place -/
theorem scan_two {w W w2 : World} {u v : Value} {rs : List Rcd} {ps : List Int} (hF : OwnG 0 w.heap.size W rs u) (hZ : OwnZ W w.heap.size v ps) (hB : Below w.heap.size w W) (hs : w.heap.size ≤ W.heap.size) (hg : W.grownBy w2 v.ownBlock) : OwnG 0 w.heap.size w2 rs u ∧ Below w.heap.size w w2 :=
  ⟨ownf_kept hF (Nat.zero_le _) hZ (by decide) (by decide) hg, hB.grown hg hs (fun k hk => (World.ownsRow.lt hZ k hk).1)⟩

set_option maxHeartbeats 4000000 in
set_option maxRecDepth 100000 in
theorem scan_any (ao : Option Addr) (b : List UInt8) (n c : Nat) (a0 a1 : Addr) (w : World) (hE : Env w a0 a1) (h : Byt w ao b) (hn : ao = none → c = 0) (hb : b.length = n) (hc : n ≤ c) (hc2 : c ≤ 9223372036854775807) (hbig : n ≤ 1000000) :
    Calls Tryz.prog 41 #[.slice ao n c] w (AnsS b w) := by
  have E0 := Lib.hid hE
  have H0 := Lib.hid h
  have HN := Lib.hid hn
  have HB := Lib.hid hb
  have CM := Lib.hid (come_start b)
  clear hE h hn hb
  go_enter Tryz.func41, Tryz.ntmps41
  go_wp2_with fail
  go_loopw [5, 6, 7] (fun v5 v6 v7 wr => ∃ (rs : List Rcd) (ps : List Int) (p f : Nat), v7 = .int .i64 p ∧ p ≤ n ∧ Hid (OwnG 0 w.heap.size wr rs v5) ∧ Hid (OwnZ wr w.heap.size v6 ps) ∧ Hid (Below w.heap.size w wr) ∧ Hid (Come b rs ps p f)) (fun _ _ v7 _ => n - (RowKit.intOf v7).toNat)
  case atStart => exact ⟨[], [], 0, b.length + 1, rfl, by omega, ownf_nil _ _ _, World.ownsRow_nil _ _ _ _, Below.refl _ _, CM.out⟩
  case round =>
    obtain ⟨rs, ps, p, f, rfl, hp, hF, hZ, hB, hC⟩ := hrel
    obtain ⟨ao', sl, by', nn'⟩ := slice_from ao n c p b hp HB.out.symm HN.out hc
    have C21 := Lib.hid (first_any ao' (b.drop p) (n - p) (c - p) a0 a1 wr (E0.out.below hB.out) (by' wr (H0.out.below hB.out)) nn' (by rw [List.length_drop, HB.out]) (by omega) (by omega))
    clear by' nn'
    go_wp2_with fail
    refine C21.out.mono ?_
    rintro e w1 ⟨b1, ⟨h0, v, rfl, ho⟩ | ⟨h0, v, rfl, hv⟩⟩
    · obtain ⟨g, hcn, hq1, hq2⟩ := come_next hC.out h0
      rw [HB.out] at hq2
      obtain ⟨k, hk⟩ : ∃ k, k = (Fr.nextL (b.drop p)).2.1 := ⟨_, rfl⟩
      obtain ⟨d, hd⟩ : ∃ d, d = (Fr.nextL (b.drop p)).2.2.1 := ⟨_, rfl⟩
      obtain ⟨m, hm⟩ : ∃ m, m = (Fr.nextL (b.drop p)).2.2.2 := ⟨_, rfl⟩
      rw [← hk, ← hd, ← hm] at hcn
      rw [← hd] at ho
      rw [← hm] at hq1 hq2
      rw [← hk, ← hd, ← hm]
      have CN := Lib.hid hcn
      have O1 : Hid (Own w1 wr.heap.size v d) := ho
      obtain ⟨K, hK⟩ : ∃ K, K = keyS (k.toNat : Nat) d := ⟨_, rfl⟩
      rw [← hK]
      have HK := Lib.hid hK
      have F1 := Lib.hid (ownf_below hF.out b1)
      have Z1 : Hid (OwnZ w1 w.heap.size u6 ps) := row_below hZ.out b1
      have B1 := Lib.hid (hB.out.trans (b1.mono hB.out.size))
      obtain ⟨a3, c3, rfl, hc3, hcm3, hy3, hn3⟩ := own_byt O1.out
      obtain ⟨q, hq⟩ : ∃ q, q = d.length := ⟨_, rfl⟩
      have HQ := Lib.hid hq
      rw [← hq] at O1 ⊢
      have DK : Hid (DatK 0 w1 (.slice a3 q c3) d) := datK_low O1.out (Nat.zero_le _)
      have bt1 := al1 w1 (.cells #[.int .i64 (k.toNat : Int), .string K, .slice a3 q c3] 29)
      have bt2 := al1 (w1.alloc (.cells #[.int .i64 (k.toNat : Int), .string K, .slice a3 q c3] 29)) (.cells #[.int .i64 (k.toNat : Int), .string K, .slice a3 q c3] 29)
      have bt := below_chain bt1 bt2
      have F2 := Lib.hid (ownf_below F1.out bt)
      have Z2 : Hid (OwnZ ((w1.alloc (.cells #[.int .i64 (k.toNat : Int), .string K, .slice a3 q c3] 29)).alloc (.cells #[.int .i64 (k.toNat : Int), .string K, .slice a3 q c3] 29)) w.heap.size u6 ps) := row_below Z1.out bt
      have B2 := Lib.hid (below_chain B1.out bt)
      have D2 := Lib.hid (datK_below DK.out bt)
      have KB : Hid (Blk ((w1.alloc (.cells #[.int .i64 (k.toNat : Int), .string K, .slice a3 q c3] 29)).alloc (.cells #[.int .i64 (k.toNat : Int), .string K, .slice a3 q c3] 29)) (w1.heap.size + 1) (recC (k, d) (.slice a3 q c3)) 29) := by
        show Blk _ _ _ _
        have hc : recC (k, d) (.slice a3 q c3) = [.int .i64 (k.toNat : Int), .string K, .slice a3 q c3] := by rw [HK.out]; rfl
        rw [hc]
        exact Blk.new _ [.int .i64 (k.toNat : Int), .string K, .slice a3 q c3] 29 _ (by simp)
      have hrl := CN.out.2.2.2.1
      have hpl := CN.out.2.2.2.2
      rw [List.length_append, List.length_singleton] at hrl hpl
      have p1 : rs.length + 1 ≤ 1000000000 := by omega
      have p2 : (ps.length + 1) * 8 ≤ 140737488355328 := by omega
      have P3 := Lib.hid B2.out.size
      have Q1 := Lib.hid p1
      have Q2 := Lib.hid p2
      have i1 : (p : Int) + (m : Int) ≤ 1000000 := by omega
      clear hcn ho hk hd hm hK h0 C21 b1 hF hZ hB hC hq bt1 bt2 bt hy3 hn3 hc3 hcm3 hrl hpl p1 p2
      go_wp2_with (first
        | (at_builtin; refine wpl_appf rfl (.tmp 24) (.tmp 26) rfl 0 w.heap.size (Nat.zero_le _) u5 (.slice a3 q c3) rs (k, d) rfl F2.out D2.out (w1.heap.size + 1) (by rfl) KB.out Q1.out P3.out ?_; intro v1 w2 F3 g3
           have FF := Lib.hid (scan_one F2.out Z2.out B2.out P3.out F3 g3 (p : Int)); clear F3 g3)
        | (at_builtin; refine wpl_appz_len (t := 42) (e := 3) rfl (.tmp 28) (.tmp 30) rfl Tryz.underlying42 info3 w.heap.size u6 ps [(p : Int)] rfl FF.out.2.1 (some ⟨w2.heap.size, 0, none⟩) 1 1 (by rfl) FF.out.2.2.2.1 (fun h => by cases h) rfl Q2.out FF.out.2.2.2.2 ?_; intro v2 w3 Z3 g3
           have GG := Lib.hid (scan_two FF.out.1 FF.out.2.1 FF.out.2.2.1 FF.out.2.2.2.2 g3); clear g3))
      go_roundw
      case rel => exact ⟨_, _, p + m, g, by go_num, hq2, GG.out.1, Z3, GG.out.2, CN.out⟩
      case measure => simp [RowKit.intOf]; omega
    · have CE := Lib.hid (come_end hC.out h0)
      have F1 := Lib.hid (ownf_below hF.out b1)
      have Z1 : Hid (OwnZ w1 w.heap.size u6 ps) := row_below hZ.out b1
      have B1 := Lib.hid (hB.out.trans (b1.mono hB.out.size))
      rcases hv with ⟨h, _⟩ | ⟨_, s, rfl⟩ | ⟨_, s, rfl⟩
      · exact absurd h h0
      all_goals
        clear h0 C21 b1 hF hZ hB hC
        go_wp2_with fail
        go_ret3
        exact ansS CE.out (below_chain B1.out (al1 _ _)) u5 u6 rfl (ownf_below F1.out (al1 _ _)) (row_below Z1.out (al1 _ _))
end Go.Proofs.YtekaboomhljdoaaGreatDoor.Sh
namespace Go.Proofs.YtekaboomhljdoaaGreatDoor.Sh
open Lb Go.RowKit Go.Lib

theorem recsC_at : ∀ (l : List Rcd) (us : List Value) (j : Nat) (x : Rcd) (u : Value), l[j]? = some x → us[j]? = some u →
    (recsC l us)[j * 3]? = some (.int .i64 (x.1.toNat : Int)) ∧ (recsC l us)[j * 3 + 1]? = some (.string (keyS (x.1.toNat : Nat) x.2)) ∧ (recsC l us)[j * 3 + 2]? = some u := by
  intro l
  induction l with
  | nil => intro us j x u h _; simp at h
  | cons y r ih =>
    intro us j x u hx hu
    cases us with
    | nil => simp at hu
    | cons z us =>
      have e : recsC (y :: r) (z :: us) = recC y z ++ recsC r us := by simp [recsC]
      have hl : (recC y z).length = 3 := rfl
      rw [e]
      cases j with
      | zero =>
        simp only [List.getElem?_cons_zero, Option.some.injEq] at hx hu
        subst hx
        subst hu
        exact ⟨rfl, rfl, rfl⟩
      | succ j =>
        rw [List.getElem?_cons_succ] at hx hu
        obtain ⟨h1, h2, h3⟩ := ih us j x u hx hu
        refine ⟨?_, ?_, ?_⟩
        · rw [List.getElem?_append_right (by omega), hl, show (j + 1) * 3 - 3 = j * 3 by omega]; exact h1
        · rw [List.getElem?_append_right (by omega), hl, show (j + 1) * 3 + 1 - 3 = j * 3 + 1 by omega]; exact h2
        · rw [List.getElem?_append_right (by omega), hl, show (j + 1) * 3 + 2 - 3 = j * 3 + 2 by omega]; exact h3
/-- the cells at an address read as records -/
def Frw (w : World) (ao : Option Addr) (l : List Rcd) : Prop :=
  l ≠ [] → ∃ b o, ao = some ⟨b, o, none⟩ ∧ b < w.heap.size ∧ ∀ j x, l[j]? = some x → ∃ a c, w.cell? ⟨b, o + j * 3, none⟩ = some (.int .i64 (x.1.toNat : Int)) ∧ w.cell? ⟨b, o + j * 3 + 1, none⟩ = some (.string (keyS (x.1.toNat : Nat) x.2)) ∧ w.cell? ⟨b, o + j * 3 + 2, none⟩ = some (.slice a x.2.length c) ∧ Byt w a x.2 ∧ (a = none → c = 0) ∧ x.2.length ≤ c ∧ c ≤ 9223372036854775807
theorem Frw.below {w w' : World} {ao : Option Addr} {l : List Rcd} (h : Frw w ao l) (hb : Below w.heap.size w w') : Frw w' ao l := fun hne => by
  obtain ⟨b, o, h1, h2, h3⟩ := h hne
  refine ⟨b, o, h1, Nat.lt_of_lt_of_le h2 hb.size, fun j x hx => ?_⟩
  obtain ⟨a, c, k1, k2, k3, k4, k5⟩ := h3 j x hx
  exact ⟨a, c, (hb.cell (p := ⟨b, o + j * 3, none⟩) h2).trans k1, (hb.cell (p := ⟨b, o + j * 3 + 1, none⟩) h2).trans k2, (hb.cell (p := ⟨b, o + j * 3 + 2, none⟩) h2).trans k3, k4.below hb, k5⟩
theorem Frw.take {w : World} {ao : Option Addr} {l : List Rcd} (h : Frw w ao l) (n : Nat) : Frw w ao (l.take n) := fun hne => by
  obtain ⟨b, o, h1, h2, h3⟩ := h (fun h0 => hne (by rw [h0]; simp))
  refine ⟨b, o, h1, h2, fun j x hx => ?_⟩
  have hj : j < n := by
    rcases Nat.lt_or_ge j n with h | h
    · exact h
    · rw [List.getElem?_eq_none (by rw [List.length_take]; omega)] at hx; cases hx
  rw [List.getElem?_take_of_lt hj] at hx
  exact h3 j x hx
theorem ownf_read {D B : Nat} {w : World} {l : List Rcd} {v : Value} (h : OwnG D B w l v) : ∃ ao c, v = .slice ao l.length c ∧ l.length ≤ c ∧ c ≤ 9223372036854775807 ∧ Frw w ao l ∧ (ao = none → c = 0) := by
  obtain ⟨us, hl, ho, h3⟩ := h
  have hh := ho
  obtain ⟨_, ⟨rfl, hl0⟩ | ⟨g, cap, cur, rfl, _, hg, h1, h2, _⟩⟩ := ho
  · have : l = [] := List.eq_nil_of_length_eq_zero hl0
    subst this
    exact ⟨none, 0, rfl, Nat.le_refl _, by omega, fun h => absurd rfl h, fun _ => rfl⟩
  · refine ⟨_, cap, rfl, h1, by unfold maxLen at h2; omega, fun _ => ⟨g, 0, rfl, (Array.getElem?_eq_some_iff.1 hg).1, fun j x hx => ?_⟩, fun h => by cases h⟩
    obtain ⟨hj, hxe⟩ := List.getElem?_eq_some_iff.1 hx
    obtain ⟨u, hu, hd⟩ := h3 j hj
    rw [hxe] at hd
    obtain ⟨c0, c1, c2⟩ := recsC_at l us j x u hx hu
    obtain ⟨a, c, rfl, k1, k2, k3, k4⟩ := datK_read hd
    have d0 := hh.cells (g := g) rfl _ _ c0
    have d1 := hh.cells (g := g) rfl _ _ c1
    have d2 := hh.cells (g := g) rfl _ _ c2
    rw [WideShapes.add_plain] at d0 d1 d2
    exact ⟨a, c, d0, by rw [← Nat.add_assoc] at d1; exact d1, by rw [← Nat.add_assoc] at d2; exact d2, k1, k2, k3, k4⟩

theorem zrw_cellW {w : World} {ao : Option Addr} {l : List Int} (h : Zrw w ao l) (i : Nat) (hi : i < l.length) : ∃ b o, ao = some ⟨b, o, none⟩ ∧ b < w.heap.size ∧ w.cell? ⟨b, o + i, none⟩ = some (.int .i64 (l.getD i 0)) := by
  obtain ⟨b, o, h1, h2, h3⟩ := h (by intro h0; rw [h0] at hi; simp at hi)
  refine ⟨b, o, h1, h2, ?_⟩
  have e : l.getD i 0 = l[i] := by simp [List.getD, hi]
  rw [e]
  exact h3 i hi
set_option maxHeartbeats 1000000 in
set_option maxRecDepth 100000 in
theorem ints_same (ao bo : Option Addr) (l : List Int) (n c d : Nat) (w : World) (h1 : Zrw w ao l) (h2 : Zrw w bo l) (hl : l.length = n) (hc : n ≤ c) (hcc : c ≤ 9223372036854775807) (hd : n ≤ d) :
    Calls Tryz.prog 19 #[.slice ao n c, .slice bo n d] w fun e w' => e = .returned (.bool true) ∧ Below w.heap.size w w' := by
  have H1 := Lib.hid h1
  have H2 := Lib.hid h2
  have HL := Lib.hid hl
  clear h1 h2 hl
  go_enter Tryz.func19, Tryz.ntmps19
  go_wp2_with fail
  go_loopw [5] (fun vi wr => ∃ i : Nat, i ≤ n ∧ vi = .int .i64 i ∧ Hid (Below w.heap.size w wr)) (fun vi _ => n - (RowKit.intOf vi).toNat)
  case atStart => exact ⟨0, by omega, rfl, Below.refl _ w⟩
  case round =>
    obtain ⟨i, hi, rfl, hB⟩ := hrel
    by_cases hin : i < n
    · obtain ⟨b, o, rfl, hb, x0⟩ := zrw_cellW H1.out i (by have := HL.out; omega)
      obtain ⟨b2, o2, rfl, hb2, x2⟩ := zrw_cellW H2.out i (by have := HL.out; omega)
      have e0 := (hB.out.cell (p := ⟨b, o + i, none⟩) hb).trans x0
      have e2 := (hB.out.cell (p := ⟨b2, o2 + i, none⟩) hb2).trans x2
      have q1 : (0 : Int) ≤ (i : Int) := by omega
      have q2 : (i : Int) < (n : Int) := by omega
      have hB2 := Lib.hid hB.out.drew
      generalize l.getD i 0 = s at *
      clear x0 x2 hb hb2 hB
      go_wp2_with fail
      go_region
      generalize wr.drew = wd at *
      go_wp2_with fail
      go_roundw
      case rel => exact ⟨i + 1, by omega, by go_num, hB2⟩
      case measure => simp [RowKit.intOf]; omega
    · obtain rfl : i = n := by omega
      go_wp2_with fail
      go_ret
      exact ⟨rfl, hB.out⟩
theorem same_quiet (ao bo : Option Addr) (l : List UInt8) (c d : Nat) (w : World) (h1 : Byt w ao l) (h2 : Byt w bo l) (n1 : ao = none → c = 0) (n2 : bo = none → d = 0) (W : World) (hW : ∃ n, W = w.drewN n) :
    Calls Tryz.prog 43 #[.slice ao l.length c, .slice bo l.length d] W fun e w' => e = .returned (.bool true) ∧ w' = W := by
  obtain ⟨n, rfl⟩ := hW
  refine (Cr.same_any ao bo l l c d _ (h1.below (below_drewN (Below.refl _ _) _)) (h2.below (below_drewN (Below.refl _ _) _)) n1 n2).mono ?_
  rintro e w' ⟨rfl, rfl⟩
  exact ⟨by simp, rfl⟩
end Go.Proofs.YtekaboomhljdoaaGreatDoor.Sh
