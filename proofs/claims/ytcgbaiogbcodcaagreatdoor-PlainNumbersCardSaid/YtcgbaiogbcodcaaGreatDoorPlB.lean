/-
  The contract of what puts inodes into a file system. Conditions: each law's own.
-/
import Derived.Test.YtcgbaiogbcodcaaGreatDoorPlA
import Derived.Lib.AppendZerosOnto
import Derived.Laws.AppendOwnNone
import Derived.BigRegion
import Derived.Deep.Slices
import Derived.Deep.MidRow
import Derived.Deep.RegionHeld3
namespace Go.Proofs.YtcgbaiogbcodcaaGreatDoor.Lw
open Go.RowKit Go.Lib Go.Proofs.YtcgbaiogbcodcaaGreatDoor.Sh Go.Proofs.YtcgbaiogbcodcaaGreatDoor.Lb Go.Proofs.YtcgbaiogbcodcaaGreatDoor.Pf
open Go.Maps

/-- what holds in each world that has, of these blocks, what w has -/
def Dep (A : Nat → Prop) (w : World) (Q : World → Prop) : Prop := ∀ w', w.heap.size ≤ w'.heap.size → (∀ i, A i → i < w.heap.size → w'.heap[i]? = w.heap[i]?) → Q w'
theorem Dep.self {A : Nat → Prop} {w : World} {Q : World → Prop} (h : Dep A w Q) : Q w := h w (Nat.le_refl _) fun _ _ _ => rfl
theorem Dep.next {A : Nat → Prop} {w w' : World} {Q : World → Prop} (h : Dep A w Q) (hs : w.heap.size ≤ w'.heap.size) (hb : ∀ i, A i → i < w.heap.size → w'.heap[i]? = w.heap[i]?) : Dep A w' Q :=
  fun w'' hs' hb' => h w'' (Nat.le_trans hs hs') fun i h1 h2 => (hb' i h1 (Nat.lt_of_lt_of_le h2 hs)).trans (hb i h1 h2)
theorem Dep.mono {A A' : Nat → Prop} {w : World} {Q : World → Prop} (h : Dep A w Q) (hA : ∀ i, A i → A' i) : Dep A' w Q := fun w' hs hb => h w' hs fun i h1 h2 => hb i (hA i h1) h2
theorem Dep.imp {A : Nat → Prop} {w : World} {Q R : World → Prop} (h : Dep A w Q) (hi : ∀ w', Q w' → R w') : Dep A w R := fun w' hs hb => hi w' (h w' hs hb)
theorem Dep.and {A : Nat → Prop} {w : World} {Q R : World → Prop} (h : Dep A w Q) (k : Dep A w R) : Dep A w fun w' => Q w' ∧ R w' := fun w' hs hb => ⟨h w' hs hb, k w' hs hb⟩
theorem Dep.below {A : Nat → Prop} {w w' : World} {Q : World → Prop} (h : Dep A w Q) (hb : Below w.heap.size w w') : Dep A w' Q := h.next hb.size fun i _ hi => hb.block i hi
theorem Dep.grown {A : Nat → Prop} {w w' : World} {Q : World → Prop} {g : Nat} (h : Dep A w Q) (hg : w.grownBy w' (some g)) (hA : ¬ A g) : Dep A w' Q :=
  h.next hg.size fun i h1 h2 => hg.block i h2 (fun e => by injection e with e; exact hA (e ▸ h1))
theorem Dep.const (A : Nat → Prop) (w : World) {P : Prop} (h : P) : Dep A w fun _ => P := fun _ _ _ => h
/-- cells in a row -/
def Cr (w : World) (ao : Option Addr) (ls : List Value) : Prop := ls ≠ [] → ∃ b o, ao = some ⟨b, o, none⟩ ∧ b < w.heap.size ∧ ∀ j u, ls[j]? = some u → w.cell? ⟨b, o + j, none⟩ = some u
theorem Cr.below {w w' : World} {ao : Option Addr} {ls : List Value} (h : Cr w ao ls) (hb : Below w.heap.size w w') : Cr w' ao ls := fun hne => by
  obtain ⟨b, o, h1, h2, h3⟩ := h hne
  exact ⟨b, o, h1, Nat.lt_of_lt_of_le h2 hb.size, fun j u hj => (hb.cell (p := ⟨b, o + j, none⟩) h2).trans (h3 j u hj)⟩
theorem cr_nil (w : World) (ao : Option Addr) : Cr w ao [] := fun h => absurd rfl h
theorem Cr.drop {w : World} {b o : Nat} {ls : List Value} (h : Cr w (some ⟨b, o, none⟩) ls) (n : Nat) : Cr w (some ⟨b, o + n, none⟩) (ls.drop n) := fun hne => by
  obtain ⟨b', o', h1, h2, h3⟩ := h (fun h0 => hne (by rw [h0]; simp))
  injection h1 with h1
  injection h1 with e1 e2
  subst e1 e2
  refine ⟨b, _, rfl, h2, fun j u hj => ?_⟩
  rw [List.getElem?_drop] at hj
  rw [Nat.add_assoc]
  exact h3 _ u hj
theorem Cr.take {w : World} {ao : Option Addr} {ls : List Value} (h : Cr w ao ls) (n : Nat) : Cr w ao (ls.take n) := fun hne => by
  obtain ⟨b, o, h1, h2, h3⟩ := h (fun h0 => hne (by rw [h0]; simp))
  refine ⟨b, o, h1, h2, fun j u hj => h3 j u ?_⟩
  rw [List.getElem?_take] at hj
  split at hj
  · exact hj
  · cases hj
/-- a call's own row, to be read wherever its block stands -/
theorem own_cr {w : World} {B n k : Nat} {e : TypeId} {v : Value} {xs : List Value} (h : w.ownsRow B e k v n xs) :
    ∃ ao c, v = .slice ao n c ∧ n ≤ c ∧ c ≤ 9223372036854775807 ∧ (ao = none → c = 0) ∧ Dep (fun i => B ≤ i) w fun w' => Cr w' ao xs := by
  obtain ⟨hl, ⟨rfl, rfl⟩ | ⟨g, cap, cur, rfl, hg, hh, h1, h2, h3, h4⟩⟩ := h
  · have : xs = [] := List.eq_nil_of_length_eq_zero (by omega)
    subst this
    exact ⟨none, 0, rfl, Nat.le_refl _, by omega, fun _ => rfl, fun w' _ _ => cr_nil _ _⟩
  · refine ⟨some ⟨g, 0, none⟩, cap, rfl, h1, by unfold maxLen at h2; omega, (fun h => by cases h), fun w' hs hb _ => ?_⟩
    have hlt : g < w.heap.size := (Array.getElem?_eq_some_iff.1 hh).1
    have hh' : w'.heap[g]? = some (.cells cur e (0, 0)) := (hb g hg hlt).trans hh
    refine ⟨g, 0, rfl, Nat.lt_of_lt_of_le hlt hs, fun j u hj => ?_⟩
    rw [← h4, List.getElem?_take] at hj
    split at hj
    · simp only [World.cell?, hh', Nat.zero_add]
      simpa using hj
    · cases hj
theorem byt_cr {w : World} {ao : Option Addr} {l : List UInt8} : Cr w ao (bs l) ↔ Byt w ao l := by
  constructor
  · intro h hne
    obtain ⟨b, o, h1, h2, h3⟩ := h (fun h0 => hne (by have := congrArg List.length h0; rw [bs_len] at this; exact List.eq_nil_of_length_eq_zero this))
    exact ⟨b, o, h1, h2, fun j hj => h3 j _ (by simp [bs, List.getElem?_eq_getElem hj])⟩
  · intro h hne
    obtain ⟨b, o, h1, h2, h3⟩ := h (fun h0 => hne (by rw [h0]; rfl))
    refine ⟨b, o, h1, h2, fun j u hj => ?_⟩
    have hl : j < l.length := by have := (List.getElem?_eq_some_iff.1 hj).1; rw [bs_len] at this; exact this
    rw [h3 j hl]
    simp [bs, List.getElem?_eq_getElem hl] at hj
    rw [← hj]
def sv (l : List ByteArray) : List Value := l.map .string
def zv (l : List Int) : List Value := l.map (.int .i64)
theorem srw_cr {w : World} {ao : Option Addr} {l : List ByteArray} : Cr w ao (sv l) ↔ Srw w ao l := by
  constructor
  · intro h hne
    obtain ⟨b, o, h1, h2, h3⟩ := h (fun h0 => hne (List.map_eq_nil_iff.1 h0))
    exact ⟨b, o, h1, h2, fun j hj => h3 j _ (by simp [sv, List.getElem?_eq_getElem hj])⟩
  · intro h hne
    obtain ⟨b, o, h1, h2, h3⟩ := h (fun h0 => hne (by rw [h0]; rfl))
    refine ⟨b, o, h1, h2, fun j u hj => ?_⟩
    have hl : j < l.length := by have := (List.getElem?_eq_some_iff.1 hj).1; simpa [sv] using this
    rw [h3 j hl]
    simpa [sv, List.getElem?_eq_getElem hl] using hj
theorem zrw_cr {w : World} {ao : Option Addr} {l : List Int} : Cr w ao (zv l) ↔ Zrw w ao l := by
  constructor
  · intro h hne
    obtain ⟨b, o, h1, h2, h3⟩ := h (fun h0 => hne (List.map_eq_nil_iff.1 h0))
    exact ⟨b, o, h1, h2, fun j hj => h3 j _ (by simp [zv, List.getElem?_eq_getElem hj])⟩
  · intro h hne
    obtain ⟨b, o, h1, h2, h3⟩ := h (fun h0 => hne (by rw [h0]; rfl))
    refine ⟨b, o, h1, h2, fun j u hj => ?_⟩
    have hl : j < l.length := by have := (List.getElem?_eq_some_iff.1 hj).1; simpa [zv] using this
    rw [h3 j hl]
    simpa [zv, List.getElem?_eq_getElem hl] using hj
theorem sv_one (l : List ByteArray) : ∀ u ∈ sv l, u.oneCell' = true := by
  intro u hu
  obtain ⟨x, _, rfl⟩ := List.mem_map.1 hu
  rfl
theorem zv_one (l : List Int) : ∀ u ∈ zv l, u.oneCell' = true := by
  intro u hu
  obtain ⟨x, _, rfl⟩ := List.mem_map.1 hu
  rfl
set_option maxRecDepth 100000 in
/-- append to a row of the call's own -/
theorem wpl_appk {w : World} {ops : Array Oper} {rest : List Oper} {o : Oper} {a : Act} {Q : Exit → Act → World → Prop} (hgd : o.guard = none) (s x : Operand) (t e : TypeId) (k bytes : Nat) (z : Value)
    (ho : o.op = .call { callee := .builtin .append, args := #[s, x], argTypes := #[t, t] })
    (ht : Tryz.prog.underlying t = some (.slice e)) (hinf : (Tryz.prog.info? e).map (fun i => (i.zero, i.size, i.bytes)) = some (some z, k, bytes)) (hzk : z.cells.size = k) (hk : 0 < k)
    (base n : Nat) (v : Value) (xs ls : List Value) (hs : a.eval s = v) (hown : Hid (w.ownsRow base e k v n xs))
    (ao : Option Addr) (m c : Nat) (hx : a.eval x = .slice ao m c) (hr : Hid (Cr w ao ls)) (hl : Hid (ls.length = m * k)) (hone : Hid (∀ u ∈ ls, u.oneCell' = true)) (hn : Hid (ao = none → m = 0 ∧ c = 0))
    (h47 : Hid ((n + m) * bytes ≤ 140737488355328)) (h63 : Hid (n + m ≤ 9223372036854775807)) (hbase : Hid (base ≤ w.heap.size))
    (h : ∀ v' w', w'.ownsRow base e k v' (n + m) (xs ++ ls) → w.grownBy w' v.ownBlock → wpList Tryz.prog ops Q rest (a.put o.dst v') w') : wpList Tryz.prog ops Q (o :: rest) a w := by
  obtain ⟨i0, hi, hz0, hz1, hz2⟩ := info_parts hinf
  cases ao with
  | none =>
    obtain ⟨rfl, rfl⟩ := hn.out rfl
    have : ls = [] := List.eq_nil_of_length_eq_zero (by have := hl.out; omega)
    subst this
    refine wpList_append_own_none hgd s x t ho base e i0 k ht hi v n xs hs hown.out hx ?_
    exact h v w (by simpa using hown.out) (World.grownBy.refl w _)
  | some ad =>
    refine wpList_append_own w hgd s x t ho base e i0 z k bytes ht hi hz0 hz1 hz2 hzk hk v n xs hs hown.out ad m c ls hx hl.out ?_ hone.out (by have := h63.out; unfold maxLen; omega) h47.out hbase.out (fun v' w' h1 h2 _ => h v' w' h1 h2)
    intro j u hj
    obtain ⟨b, o', h0, _, hcell⟩ := hr.out (by intro h0; rw [h0] at hj; simp at hj)
    injection h0 with h0
    subst h0
    rw [WideShapes.add_plain]
    exact hcell j u hj
/-- what a copy of a row is -/
def AnsK (e : TypeId) (k n : Nat) (ls : List Value) (w : World) (en : Ending) (w' : World) : Prop := Below w.heap.size w w' ∧ ∃ v, en = .returned v ∧ w'.ownsRow w.heap.size e k v n ls
theorem kinf_byt : (Tryz.prog.info? 5).map (fun i => (i.zero, i.size, i.bytes)) = some (some (.int .u8 0), 1, 1) := by kernel_rfl
theorem keqn_byt (w : World) : (binOp .eql 33 (.slice none 0 0) (.slice none 0 0)).run Tryz.prog w = .ok (.bool true) w := by kernel_rfl
theorem keqs_byt (a : Addr) (n c : Nat) (w : World) : (binOp .eql 33 (.slice (some a) n c) (.slice none 0 0)).run Tryz.prog w = .ok (.bool false) w := by kernel_rfl
set_option maxHeartbeats 1000000 in
set_option maxRecDepth 100000 in
theorem clone_byt (ao : Option Addr) (n c : Nat) (ls : List Value) (w : World) (h : Cr w ao ls) (hl : ls.length = n * 1) (hone : ∀ u ∈ ls, u.oneCell' = true) (hn : ao = none → n = 0 ∧ c = 0) (h47 : n * 1 ≤ 140737488355328) :
    Calls Tryz.prog 75 #[.slice ao n c] w (AnsK 5 1 n ls w) := by
  cases ao with
  | none =>
    obtain ⟨rfl, rfl⟩ := hn rfl
    have : ls = [] := List.eq_nil_of_length_eq_zero (by omega)
    subst this
    clear h hl hone hn h47
    have hq := keqn_byt
    go_enter Tryz.func75, Tryz.ntmps75
    go_wp2_with fail
    go_ret
    exact ⟨Below.refl _ _, _, rfl, World.ownsRow_nil _ _ _ _⟩
  | some ad =>
    have OWN0 : Hid ((w.alloc (.cells #[] 5)).ownsRow w.heap.size 5 1 (.slice (some ⟨w.heap.size, 0, none⟩) 0 0) 0 []) := World.ownsRow_made w #[] 0 (Nat.le_refl _) (by decide) rfl
    have B0 : Below w.heap.size w (w.alloc (.cells #[] 5)) := (Below.refl _ w).alloc (Nat.le_refl _) _
    have BB := Lib.hid B0
    have H := Lib.hid (h.below B0)
    have HL := Lib.hid hl
    have H1 := Lib.hid hone
    have HN := Lib.hid hn
    have H47 : Hid ((0 + n) * 1 ≤ 140737488355328) := by show _ ≤ _; omega
    have H63 : Hid (0 + n ≤ 9223372036854775807) := by show _ ≤ _; omega
    have HS : Hid (w.heap.size ≤ (w.alloc (.cells #[] 5)).heap.size) := B0.size
    clear h hl hone hn h47 B0
    have hq := keqs_byt
    go_enter Tryz.func75, Tryz.ntmps75
    go_wp2_with (at_builtin; refine wpl_appk rfl (.tmp 5) (.tmp 6) 33 5 1 1 (.int .u8 0) rfl Tryz.underlying33 kinf_byt rfl (by decide) w.heap.size 0 _ [] ls rfl OWN0 (some ad) n c rfl H HL H1 HN H47 H63 HS ?_; intro v1 w1 hown1 hgrow1)
    go_ret
    exact ⟨BB.out.grown hgrow1 HS.out (fun j hj => by have e : some w.heap.size = some j := hj; injection e with e; omega), _, rfl, by simpa using hown1⟩
theorem kinf_txt : (Tryz.prog.info? 9).map (fun i => (i.zero, i.size, i.bytes)) = some (some (.string ⟨#[]⟩), 1, 16) := by kernel_rfl
theorem keqn_txt (w : World) : (binOp .eql 34 (.slice none 0 0) (.slice none 0 0)).run Tryz.prog w = .ok (.bool true) w := by kernel_rfl
theorem keqs_txt (a : Addr) (n c : Nat) (w : World) : (binOp .eql 34 (.slice (some a) n c) (.slice none 0 0)).run Tryz.prog w = .ok (.bool false) w := by kernel_rfl
set_option maxHeartbeats 1000000 in
set_option maxRecDepth 100000 in
theorem clone_txt (ao : Option Addr) (n c : Nat) (ls : List Value) (w : World) (h : Cr w ao ls) (hl : ls.length = n * 1) (hone : ∀ u ∈ ls, u.oneCell' = true) (hn : ao = none → n = 0 ∧ c = 0) (h47 : n * 16 ≤ 140737488355328) :
    Calls Tryz.prog 76 #[.slice ao n c] w (AnsK 9 1 n ls w) := by
  cases ao with
  | none =>
    obtain ⟨rfl, rfl⟩ := hn rfl
    have : ls = [] := List.eq_nil_of_length_eq_zero (by omega)
    subst this
    clear h hl hone hn h47
    have hq := keqn_txt
    go_enter Tryz.func76, Tryz.ntmps76
    go_wp2_with fail
    go_ret
    exact ⟨Below.refl _ _, _, rfl, World.ownsRow_nil _ _ _ _⟩
  | some ad =>
    have OWN0 : Hid ((w.alloc (.cells #[] 9)).ownsRow w.heap.size 9 1 (.slice (some ⟨w.heap.size, 0, none⟩) 0 0) 0 []) := World.ownsRow_made w #[] 0 (Nat.le_refl _) (by decide) rfl
    have B0 : Below w.heap.size w (w.alloc (.cells #[] 9)) := (Below.refl _ w).alloc (Nat.le_refl _) _
    have BB := Lib.hid B0
    have H := Lib.hid (h.below B0)
    have HL := Lib.hid hl
    have H1 := Lib.hid hone
    have HN := Lib.hid hn
    have H47 : Hid ((0 + n) * 16 ≤ 140737488355328) := by show _ ≤ _; omega
    have H63 : Hid (0 + n ≤ 9223372036854775807) := by show _ ≤ _; omega
    have HS : Hid (w.heap.size ≤ (w.alloc (.cells #[] 9)).heap.size) := B0.size
    clear h hl hone hn h47 B0
    have hq := keqs_txt
    go_enter Tryz.func76, Tryz.ntmps76
    go_wp2_with (at_builtin; refine wpl_appk rfl (.tmp 5) (.tmp 6) 34 9 1 16 (.string ⟨#[]⟩) rfl Tryz.underlying34 kinf_txt rfl (by decide) w.heap.size 0 _ [] ls rfl OWN0 (some ad) n c rfl H HL H1 HN H47 H63 HS ?_; intro v1 w1 hown1 hgrow1)
    go_ret
    exact ⟨BB.out.grown hgrow1 HS.out (fun j hj => by have e : some w.heap.size = some j := hj; injection e with e; omega), _, rfl, by simpa using hown1⟩
theorem kinf_num : (Tryz.prog.info? 3).map (fun i => (i.zero, i.size, i.bytes)) = some (some (.int .i64 0), 1, 8) := by kernel_rfl
theorem keqn_num (w : World) : (binOp .eql 35 (.slice none 0 0) (.slice none 0 0)).run Tryz.prog w = .ok (.bool true) w := by kernel_rfl
theorem keqs_num (a : Addr) (n c : Nat) (w : World) : (binOp .eql 35 (.slice (some a) n c) (.slice none 0 0)).run Tryz.prog w = .ok (.bool false) w := by kernel_rfl
set_option maxHeartbeats 1000000 in
set_option maxRecDepth 100000 in
theorem clone_num (ao : Option Addr) (n c : Nat) (ls : List Value) (w : World) (h : Cr w ao ls) (hl : ls.length = n * 1) (hone : ∀ u ∈ ls, u.oneCell' = true) (hn : ao = none → n = 0 ∧ c = 0) (h47 : n * 8 ≤ 140737488355328) :
    Calls Tryz.prog 77 #[.slice ao n c] w (AnsK 3 1 n ls w) := by
  cases ao with
  | none =>
    obtain ⟨rfl, rfl⟩ := hn rfl
    have : ls = [] := List.eq_nil_of_length_eq_zero (by omega)
    subst this
    clear h hl hone hn h47
    have hq := keqn_num
    go_enter Tryz.func77, Tryz.ntmps77
    go_wp2_with fail
    go_ret
    exact ⟨Below.refl _ _, _, rfl, World.ownsRow_nil _ _ _ _⟩
  | some ad =>
    have OWN0 : Hid ((w.alloc (.cells #[] 3)).ownsRow w.heap.size 3 1 (.slice (some ⟨w.heap.size, 0, none⟩) 0 0) 0 []) := World.ownsRow_made w #[] 0 (Nat.le_refl _) (by decide) rfl
    have B0 : Below w.heap.size w (w.alloc (.cells #[] 3)) := (Below.refl _ w).alloc (Nat.le_refl _) _
    have BB := Lib.hid B0
    have H := Lib.hid (h.below B0)
    have HL := Lib.hid hl
    have H1 := Lib.hid hone
    have HN := Lib.hid hn
    have H47 : Hid ((0 + n) * 8 ≤ 140737488355328) := by show _ ≤ _; omega
    have H63 : Hid (0 + n ≤ 9223372036854775807) := by show _ ≤ _; omega
    have HS : Hid (w.heap.size ≤ (w.alloc (.cells #[] 3)).heap.size) := B0.size
    clear h hl hone hn h47 B0
    have hq := keqs_num
    go_enter Tryz.func77, Tryz.ntmps77
    go_wp2_with (at_builtin; refine wpl_appk rfl (.tmp 5) (.tmp 6) 35 3 1 8 (.int .i64 0) rfl Tryz.underlying35 kinf_num rfl (by decide) w.heap.size 0 _ [] ls rfl OWN0 (some ad) n c rfl H HL H1 HN H47 H63 HS ?_; intro v1 w1 hown1 hgrow1)
    go_ret
    exact ⟨BB.out.grown hgrow1 HS.out (fun j hj => by have e : some w.heap.size = some j := hj; injection e with e; omega), _, rfl, by simpa using hown1⟩
theorem kinf_att : (Tryz.prog.info? 105).map (fun i => (i.zero, i.size, i.bytes)) = some (some (.agg #[.string ⟨#[]⟩, .slice none 0 0]), 2, 40) := by kernel_rfl
theorem keqn_att (w : World) : (binOp .eql 36 (.slice none 0 0) (.slice none 0 0)).run Tryz.prog w = .ok (.bool true) w := by kernel_rfl
theorem keqs_att (a : Addr) (n c : Nat) (w : World) : (binOp .eql 36 (.slice (some a) n c) (.slice none 0 0)).run Tryz.prog w = .ok (.bool false) w := by kernel_rfl
set_option maxHeartbeats 1000000 in
set_option maxRecDepth 100000 in
theorem clone_att (ao : Option Addr) (n c : Nat) (ls : List Value) (w : World) (h : Cr w ao ls) (hl : ls.length = n * 2) (hone : ∀ u ∈ ls, u.oneCell' = true) (hn : ao = none → n = 0 ∧ c = 0) (h47 : n * 40 ≤ 140737488355328) :
    Calls Tryz.prog 100 #[.slice ao n c] w (AnsK 105 2 n ls w) := by
  cases ao with
  | none =>
    obtain ⟨rfl, rfl⟩ := hn rfl
    have : ls = [] := List.eq_nil_of_length_eq_zero (by omega)
    subst this
    clear h hl hone hn h47
    have hq := keqn_att
    go_enter Tryz.func100, Tryz.ntmps100
    go_wp2_with fail
    go_ret
    exact ⟨Below.refl _ _, _, rfl, World.ownsRow_nil _ _ _ _⟩
  | some ad =>
    have OWN0 : Hid ((w.alloc (.cells #[] 105)).ownsRow w.heap.size 105 2 (.slice (some ⟨w.heap.size, 0, none⟩) 0 0) 0 []) := World.ownsRow_made w #[] 0 (Nat.le_refl _) (by decide) rfl
    have B0 : Below w.heap.size w (w.alloc (.cells #[] 105)) := (Below.refl _ w).alloc (Nat.le_refl _) _
    have BB := Lib.hid B0
    have H := Lib.hid (h.below B0)
    have HL := Lib.hid hl
    have H1 := Lib.hid hone
    have HN := Lib.hid hn
    have H47 : Hid ((0 + n) * 40 ≤ 140737488355328) := by show _ ≤ _; omega
    have H63 : Hid (0 + n ≤ 9223372036854775807) := by show _ ≤ _; omega
    have HS : Hid (w.heap.size ≤ (w.alloc (.cells #[] 105)).heap.size) := B0.size
    clear h hl hone hn h47 B0
    have hq := keqs_att
    go_enter Tryz.func100, Tryz.ntmps100
    go_wp2_with (at_builtin; refine wpl_appk rfl (.tmp 5) (.tmp 6) 36 105 2 40 (.agg #[.string ⟨#[]⟩, .slice none 0 0]) rfl Tryz.underlying36 kinf_att rfl (by decide) w.heap.size 0 _ [] ls rfl OWN0 (some ad) n c rfl H HL H1 HN H47 H63 HS ?_; intro v1 w1 hown1 hgrow1)
    go_ret
    exact ⟨BB.out.grown hgrow1 HS.out (fun j hj => by have e : some w.heap.size = some j := hj; injection e with e; omega), _, rfl, by simpa using hown1⟩
theorem kinf_ino : (Tryz.prog.info? 38).map (fun i => (i.zero, i.size, i.bytes)) = some (some (.agg #[.int .i64 0, .int .i64 0, .int .i64 0, .int .i64 0, .slice none 0 0, .string ⟨#[]⟩, .slice none 0 0, .slice none 0 0, .slice none 0 0]), 9, 144) := by kernel_rfl
theorem keqn_ino (w : World) : (binOp .eql 22 (.slice none 0 0) (.slice none 0 0)).run Tryz.prog w = .ok (.bool true) w := by kernel_rfl
theorem keqs_ino (a : Addr) (n c : Nat) (w : World) : (binOp .eql 22 (.slice (some a) n c) (.slice none 0 0)).run Tryz.prog w = .ok (.bool false) w := by kernel_rfl
set_option maxHeartbeats 1000000 in
set_option maxRecDepth 100000 in
theorem clone_ino (ao : Option Addr) (n c : Nat) (ls : List Value) (w : World) (h : Cr w ao ls) (hl : ls.length = n * 9) (hone : ∀ u ∈ ls, u.oneCell' = true) (hn : ao = none → n = 0 ∧ c = 0) (h47 : n * 144 ≤ 140737488355328) :
    Calls Tryz.prog 74 #[.slice ao n c] w (AnsK 38 9 n ls w) := by
  cases ao with
  | none =>
    obtain ⟨rfl, rfl⟩ := hn rfl
    have : ls = [] := List.eq_nil_of_length_eq_zero (by omega)
    subst this
    clear h hl hone hn h47
    have hq := keqn_ino
    go_enter Tryz.func74, Tryz.ntmps74
    go_wp2_with fail
    go_ret
    exact ⟨Below.refl _ _, _, rfl, World.ownsRow_nil _ _ _ _⟩
  | some ad =>
    have OWN0 : Hid ((w.alloc (.cells #[] 38)).ownsRow w.heap.size 38 9 (.slice (some ⟨w.heap.size, 0, none⟩) 0 0) 0 []) := World.ownsRow_made w #[] 0 (Nat.le_refl _) (by decide) rfl
    have B0 : Below w.heap.size w (w.alloc (.cells #[] 38)) := (Below.refl _ w).alloc (Nat.le_refl _) _
    have BB := Lib.hid B0
    have H := Lib.hid (h.below B0)
    have HL := Lib.hid hl
    have H1 := Lib.hid hone
    have HN := Lib.hid hn
    have H47 : Hid ((0 + n) * 144 ≤ 140737488355328) := by show _ ≤ _; omega
    have H63 : Hid (0 + n ≤ 9223372036854775807) := by show _ ≤ _; omega
    have HS : Hid (w.heap.size ≤ (w.alloc (.cells #[] 38)).heap.size) := B0.size
    clear h hl hone hn h47 B0
    have hq := keqs_ino
    go_enter Tryz.func74, Tryz.ntmps74
    go_wp2_with (at_builtin; refine wpl_appk rfl (.tmp 5) (.tmp 6) 22 38 9 144 (.agg #[.int .i64 0, .int .i64 0, .int .i64 0, .int .i64 0, .slice none 0 0, .string ⟨#[]⟩, .slice none 0 0, .slice none 0 0, .slice none 0 0]) rfl Tryz.underlying22 kinf_ino rfl (by decide) w.heap.size 0 _ [] ls rfl OWN0 (some ad) n c rfl H HL H1 HN H47 H63 HS ?_; intro v1 w1 hown1 hgrow1)
    go_ret
    exact ⟨BB.out.grown hgrow1 HS.out (fun j hj => by have e : some w.heap.size = some j := hj; injection e with e; omega), _, rfl, by simpa using hown1⟩
end Go.Proofs.YtcgbaiogbcodcaaGreatDoor.Lw
namespace Go.Proofs.YtcgbaiogbcodcaaGreatDoor.Lw
open Go.RowKit Go.Lib Go.Proofs.YtcgbaiogbcodcaaGreatDoor.Sh Go.Proofs.YtcgbaiogbcodcaaGreatDoor.Lb Go.Proofs.YtcgbaiogbcodcaaGreatDoor.Pf
open Go.Maps

def overl : List Value → Nat → List Value → List Value
  | cs, _, [] => cs
  | cs, o, v :: r => overl (cs.set o v) (o + 1) r
theorem overl_len : ∀ (vs cs : List Value) (o : Nat), (overl cs o vs).length = cs.length
  | [], _, _ => rfl
  | v :: r, cs, o => by
    show (overl (cs.set o v) (o + 1) r).length = _
    rw [overl_len r]
    simp
theorem overl_get : ∀ (vs cs : List Value) (o j : Nat), o + vs.length ≤ cs.length → (overl cs o vs)[j]? = if o ≤ j ∧ j < o + vs.length then vs[j - o]? else cs[j]?
  | [], cs, o, j, _ => by
    rw [if_neg (by simp only [List.length_nil]; omega)]
    rfl
  | v :: r, cs, o, j, h => by
    show (overl (cs.set o v) (o + 1) r)[j]? = _
    rw [List.length_cons] at h ⊢
    rw [overl_get r (cs.set o v) (o + 1) j (by rw [List.length_set]; omega)]
    by_cases h1 : j = o
    · subst h1
      rw [if_neg (by omega), if_pos (by omega), List.getElem?_set_self (by omega), Nat.sub_self]
      rfl
    · rw [List.getElem?_set_ne (by omega)]
      by_cases h2 : o + 1 ≤ j ∧ j < o + 1 + r.length
      · rw [if_pos h2, if_pos (by omega), show j - o = (j - (o + 1)) + 1 by omega]
        rfl
      · rw [if_neg h2, if_neg (by omega)]
theorem blk_sets {g : Nat} {t : TypeId} : ∀ (vs cs : List Value) (o : Nat) (w : World), Sh.Blk w g cs t → Sh.Blk (w.setCells g o vs) g (overl cs o vs) t
  | [], _, _, _, h => h
  | v :: r, cs, o, _, h => blk_sets r (cs.set o v) (o + 1) _ (Sh.Blk.set h o v)
theorem gb_sets (g : Nat) : ∀ (vs : List Value) (o : Nat) (w : World), w.grownBy (w.setCells g o vs) (some g)
  | [], _, _ => ⟨rfl, rfl, rfl, Nat.le_refl _, fun _ _ _ => rfl⟩
  | v :: r, o, w => grownBy_trans (grownBy_setCell w g o v) (gb_sets g r (o + 1) _)
/-- a row of n structs of k cells in one block, f telling each -/
def Rk (t : TypeId) (k : Nat) (w : World) (g n : Nat) (f : Nat → List Value) : Prop := ∃ cur, Sh.Blk w g cur t ∧ n * k ≤ cur.length ∧ ∀ j, j < n → ∀ q, q < k → cur[j * k + q]? = (f j)[q]?
theorem Rk.lt {t : TypeId} {k : Nat} {w : World} {g n : Nat} {f : Nat → List Value} (h : Rk t k w g n f) : g < w.heap.size := by
  obtain ⟨cur, hb, _⟩ := h
  exact hb.lt
theorem Rk.cell {t : TypeId} {k : Nat} {w : World} {g n : Nat} {f : Nat → List Value} (h : Rk t k w g n f) {j q : Nat} (hj : j < n) (hq : q < k) : w.cell? ⟨g, j * k + q, none⟩ = (f j)[q]? := by
  obtain ⟨cur, hb, _, hc⟩ := h
  rw [hb.cell, hc j hj q hq]
theorem Rk.frozen {t : TypeId} {k : Nat} {w : World} {g n : Nat} {f : Nat → List Value} (h : Rk t k w g n f) (j : Nat) : w.frozen? ⟨g, j, none⟩ = false := by
  obtain ⟨cur, hb, _⟩ := h
  exact hb.frozen j
theorem Rk.below {t : TypeId} {k : Nat} {w w' : World} {g n : Nat} {f : Nat → List Value} (h : Rk t k w g n f) (hb : Below w.heap.size w w') : Rk t k w' g n f := by
  obtain ⟨cur, h1, h2, h3⟩ := h
  exact ⟨cur, h1.low hb, h2, h3⟩
theorem Rk.grown {t : TypeId} {k : Nat} {w w' : World} {g n b : Nat} {f : Nat → List Value} (h : Rk t k w g n f) (hb : w.grownBy w' (some b)) (hne : g ≠ b) : Rk t k w' g n f := by
  obtain ⟨cur, h1, h2, h3⟩ := h
  exact ⟨cur, blk_grown h1 hb hne, h2, h3⟩
theorem Rk.set {t : TypeId} {k : Nat} {w : World} {g n : Nat} {f : Nat → List Value} (h : Rk t k w g n f) {i : Nat} (hi : i < n) (vs : List Value) (hv : vs.length = k) : Rk t k (w.setCells g (i * k) vs) g n (fun j => if j = i then vs else f j) := by
  obtain ⟨cur, h1, h2, h3⟩ := h
  have hik : i * k + k ≤ n * k := by
    rw [← Nat.succ_mul]
    exact Nat.mul_le_mul_right k hi
  refine ⟨_, blk_sets vs cur (i * k) w h1, by rw [overl_len]; exact h2, fun j hj q hq => ?_⟩
  rw [overl_get vs cur (i * k) (j * k + q) (by rw [hv]; omega), hv]
  by_cases e : j = i
  · subst e
    rw [if_pos (by omega)]
    show vs[j * k + q - j * k]? = (if j = j then vs else f j)[q]?
    rw [if_pos rfl, show j * k + q - j * k = q by omega]
  · rw [if_neg (fun hc => ?_)]
    · show cur[j * k + q]? = (if j = i then vs else f j)[q]?
      rw [if_neg e]
      exact h3 j hj q hq
    · rcases Nat.lt_or_gt_of_ne e with h4 | h4
      · have := Nat.mul_le_mul_right k (show j + 1 ≤ i from h4)
        rw [Nat.succ_mul] at this
        omega
      · have := Nat.mul_le_mul_right k (show i + 1 ≤ j from h4)
        rw [Nat.succ_mul] at this
        omega
/-- a call's own row as such a block -/
theorem own_rk {w : World} {B n k : Nat} {e : TypeId} {v : Value} {xs : List Value} (h : w.ownsRow B e k v n xs) (hn : 0 < n) :
    ∃ g cap, v = .slice (some ⟨g, 0, none⟩) n cap ∧ B ≤ g ∧ n ≤ cap ∧ cap ≤ 9223372036854775807 ∧ Rk e k w g n (fun j => (xs.drop (j * k)).take k) := by
  obtain ⟨hl, ⟨_, h0⟩ | ⟨g, cap, cur, rfl, hg, hh, h1, h2, h3, h4⟩⟩ := h
  · omega
  · refine ⟨g, cap, rfl, hg, h1, by unfold maxLen at h2; omega, cur.toList, hh, ?_, fun j hj q hq => ?_⟩
    · rw [Array.length_toList, h3]
      exact Nat.mul_le_mul_right k h1
    · have hjk : j * k + k ≤ n * k := by
        rw [← Nat.succ_mul]
        exact Nat.mul_le_mul_right k hj
      rw [← h4, List.getElem?_take, if_pos hq, List.getElem?_drop, List.getElem?_take, if_pos (by omega)]
/-- rows told one by one, one behind the other -/
def flatF (f : Nat → List Value) (n : Nat) : List Value := (List.range n).flatMap f
theorem flatF_succ (f : Nat → List Value) (n : Nat) : flatF f (n + 1) = flatF f n ++ f n := by
  unfold flatF
  rw [List.range_succ, List.flatMap_append, List.flatMap_cons, List.flatMap_nil, List.append_nil]
theorem flatF_len {f : Nat → List Value} {k : Nat} : ∀ n, (∀ j, j < n → (f j).length = k) → (flatF f n).length = n * k
  | 0, _ => by simp [flatF]
  | n + 1, h => by
    rw [flatF_succ, List.length_append, flatF_len n (fun j hj => h j (by omega)), h n (by omega), Nat.succ_mul]
theorem flatF_get {f : Nat → List Value} {k : Nat} : ∀ n, (∀ j, j < n → (f j).length = k) → ∀ j q, j < n → q < k → (flatF f n)[j * k + q]? = (f j)[q]?
  | 0, _, j, _, hj, _ => by omega
  | n + 1, h, j, q, hj, hq => by
    have hl := flatF_len n (fun j hj => h j (by omega))
    rw [flatF_succ]
    by_cases e : j = n
    · subst e
      rw [List.getElem?_append_right (by omega), hl, show j * k + q - j * k = q by omega]
    · have hjk : j * k + k ≤ n * k := by
        rw [← Nat.succ_mul]
        exact Nat.mul_le_mul_right k (by omega)
      rw [List.getElem?_append_left (by omega)]
      exact flatF_get n (fun j hj => h j (by omega)) j q (by omega) hq
theorem flatF_at {f : Nat → List Value} {k n : Nat} (h : ∀ j, j < n → (f j).length = k) {j : Nat} (hj : j < n) : ((flatF f n).drop (j * k)).take k = f j := by
  apply List.ext_getElem?
  intro q
  rw [List.getElem?_take, List.getElem?_drop]
  by_cases hq : q < k
  · rw [if_pos hq, flatF_get n h j q hj hq]
  · rw [if_neg hq, List.getElem?_eq_none (by rw [h j hj]; omega)]
theorem flatF_one {f : Nat → List Value} {n : Nat} (h : ∀ j, j < n → ∀ u ∈ f j, u.oneCell' = true) : ∀ u ∈ flatF f n, u.oneCell' = true := by
  intro u hu
  obtain ⟨j, hj, hu⟩ := List.mem_flatMap.1 hu
  exact h j (List.mem_range.1 hj) u hu
theorem cr_flat {w : World} {ao : Option Addr} {f : Nat → List Value} {k n : Nat} (hk : 0 < k) (hf : ∀ j, j < n → (f j).length = k) (h : n ≠ 0 → ∃ b o, ao = some ⟨b, o, none⟩ ∧ b < w.heap.size ∧ ∀ j, j < n → ∀ q, q < k → w.cell? ⟨b, o + j * k + q, none⟩ = (f j)[q]?) : Cr w ao (flatF f n) := fun hne => by
  obtain ⟨b, o, h1, h2, h3⟩ := h (fun h0 => hne (by rw [h0]; rfl))
  refine ⟨b, o, h1, h2, fun i u hu => ?_⟩
  have hl := flatF_len n hf
  have hi : i < n * k := by have := (List.getElem?_eq_some_iff.1 hu).1; omega
  have hj : i / k < n := Nat.div_lt_of_lt_mul (by rw [Nat.mul_comm]; exact hi)
  have hq : i % k < k := Nat.mod_lt _ hk
  have hdm : i / k * k + i % k = i := by rw [Nat.mul_comm]; exact Nat.div_add_mod i k
  have h4 := h3 (i / k) hj (i % k) hq
  rw [Nat.add_assoc, hdm] at h4
  rw [h4, ← flatF_get n hf (i / k) (i % k) hj hq, hdm]
  exact hu
theorem own_rk_flat {w : World} {B n k : Nat} {e : TypeId} {v : Value} {f : Nat → List Value} (h : w.ownsRow B e k v n (flatF f n)) (hf : ∀ j, j < n → (f j).length = k) (hn : 0 < n) :
    ∃ g cap, v = .slice (some ⟨g, 0, none⟩) n cap ∧ B ≤ g ∧ n ≤ cap ∧ cap ≤ 9223372036854775807 ∧ Rk e k w g n f := by
  obtain ⟨g, cap, h1, h2, h3, h4, cur, h5, h6, h7⟩ := own_rk h hn
  exact ⟨g, cap, h1, h2, h3, h4, cur, h5, h6, fun j hj q hq => by rw [h7 j hj q hq]; show (List.take k (List.drop (j * k) (flatF f n)))[q]? = _; rw [flatF_at hf hj]⟩
end Go.Proofs.YtcgbaiogbcodcaaGreatDoor.Lw
namespace Go.Proofs.YtcgbaiogbcodcaaGreatDoor.Lw
open Go.RowKit Go.Lib Go.Proofs.YtcgbaiogbcodcaaGreatDoor.Sh Go.Proofs.YtcgbaiogbcodcaaGreatDoor.Lb Go.Proofs.YtcgbaiogbcodcaaGreatDoor.Pf
open Go.Maps

/-- a slice of bytes that nothing older is behind -/
def NewB (B : Nat) (w : World) (l : List UInt8) (ao : Option Addr) (n c : Nat) : Prop := l.length = n ∧ n ≤ c ∧ c ≤ 9223372036854775807 ∧ (ao = none → c = 0) ∧ Dep (fun i => B ≤ i) w fun w' => Byt w' ao l
theorem newB_of {w : World} {B n : Nat} {v : Value} {l : List UInt8} (h : w.ownsRow B 5 1 v n (bs l)) (hl : l.length = n) : ∃ ao c, v = .slice ao n c ∧ NewB B w l ao n c := by
  obtain ⟨ao, c, h1, h2, h3, h4, h5⟩ := own_cr h
  exact ⟨ao, c, h1, hl, h2, h3, h4, h5.imp fun w' h => byt_cr.1 h⟩
/-- what the copy of an attribute is -/
def AnsAt (s : ByteArray) (l : List UInt8) (n : Nat) (w : World) (e : Ending) (w' : World) : Prop := Below w.heap.size w w' ∧ ∃ ao c, e = .returned (.agg #[.string s, .slice ao n c]) ∧ NewB w.heap.size w' l ao n c
theorem size105 (a b : Value) : (Tryz.prog.info? 105).map (·.size) = some (#[a, b] : Array Value).size := by
  show _ = some 2
  kernel_rfl
set_option maxHeartbeats 4000000 in
set_option maxRecDepth 100000 in
theorem attr_copy (s : ByteArray) (ad : Option Addr) (l : List UInt8) (n c : Nat) (w : World) (h : Byt w ad l) (hl : l.length = n) (hn : ad = none → c = 0) (hc : n ≤ c) (h47 : n ≤ 140737488355328) :
    Calls Tryz.prog 79 #[.agg #[.string s, .slice ad n c]] w (AnsAt s l n w) := by
  obtain ⟨w1, hw1⟩ : ∃ w1, w1 = (w.alloc (.cells #[.string s, .slice ad n c] 105)).alloc (.cells #[.string ⟨#[]⟩, .slice none 0 0] 105) := ⟨_, rfl⟩
  have b0 : Below w.heap.size w (w.alloc (.cells #[.string s, .slice ad n c] 105)) := (Below.refl _ w).alloc (Nat.le_refl _) _
  have b1 : Below w.heap.size w w1 := by rw [hw1]; exact b0.alloc b0.size _
  have s1 : w1.heap.size = w.heap.size + 2 := by rw [hw1]; simp
  have x1 : Sh.Blk w1 w.heap.size [.string s, .slice ad n c] 105 := by rw [hw1]; exact (Sh.Blk.new w [.string s, .slice ad n c] 105 _ rfl).alloc _
  have r1 : Sh.Blk w1 (w.heap.size + 1) [.string ⟨#[]⟩, .slice none 0 0] 105 := by rw [hw1]; exact Sh.Blk.new _ [.string ⟨#[]⟩, .slice none 0 0] 105 _ (by simp)
  have CC := Lib.hid (clone_byt ad n c (bs l) w1 (byt_cr.2 (h.below b1)) (by rw [bs_len, hl, Nat.mul_one]) (bs_one l) (fun h0 => ⟨by have := hn h0; omega, hn h0⟩) (by omega))
  have B1 := Lib.hid b1
  have X1 := Lib.hid x1
  have R1 := Lib.hid r1
  have S1 := Lib.hid s1
  have HL := Lib.hid hl
  have HW1 := Lib.hid hw1
  have c1 := x1.cell 1
  simp only [List.getElem?_cons_zero, List.getElem?_cons_succ] at c1
  rw [hw1] at c1
  clear h hl hn hc h47 x1 r1 b0 b1 s1 hw1
  go_enter Tryz.func79, Tryz.ntmps79
  go_wp2_with fail
  rw [← HW1.out]
  refine CC.out.mono ?_
  clear CC HW1 c1
  rintro e w2 ⟨hb, v, rfl, hown⟩
  obtain ⟨ao', c', rfl, hnew⟩ := newB_of hown HL.out
  have X2 := X1.out.low hb
  have R2 := R1.out.low hb
  have X3 := X2.set 1 (.slice ao' n c')
  have gs := grownBy_setCell w2 w.heap.size 1 (.slice ao' n c')
  have R3 := blk_grown R2 gs (by omega)
  have c1 := X2.cell 1
  have f1 := X2.frozen 1
  have d0 := X3.cell 0
  have d1 := X3.cell 1
  have e0 := R3.cell 0
  have e1 := R3.cell 1
  have g0 := R3.frozen 0
  have g1 := R3.frozen 1
  simp only [List.set_cons_succ, List.set_cons_zero, List.getElem?_cons_zero, List.getElem?_cons_succ] at c1 d0 d1 e0 e1
  have K4 := Lib.hid ((R3.set 0 (.string s)).set 1 (.slice ao' n c'))
  have gs2 := grownBy_trans (grownBy_setCell (w2.setCell ⟨w.heap.size, 1, none⟩ (.slice ao' n c')) (w.heap.size + 1) 0 (.string s)) (grownBy_setCell _ (w.heap.size + 1) 1 (.slice ao' n c'))
  have B2 := below_chain B1.out hb
  have B3 := B2.grown gs B2.size (fun j hj => by injection hj with hj; omega)
  have B4 := Lib.hid (B3.grown gs2 B3.size (fun j hj => by injection hj with hj; omega))
  obtain ⟨n1, n2, n3, n4, n5⟩ := hnew
  rw [S1.out] at n5
  have N5 := Lib.hid (((n5.grown gs (by omega)).grown gs2 (by omega)).mono (A' := fun i => w.heap.size ≤ i) (fun i hi => by omega))
  have N4 : Hid (n ≤ c' ∧ c' ≤ 9223372036854775807 ∧ (ao' = none → c' = 0)) := ⟨n2, n3, n4⟩
  have ne1 : ¬ w.heap.size = w.heap.size + 1 := by omega
  have ne2 : ¬ w.heap.size + 1 = w.heap.size := by omega
  clear hb hown X2 R2 X3 R3 gs gs2 B2 B3 n1 n2 n3 n4 n5
  go_wp2_with fail
  exact bodyPost_ret (results_cell_row rfl _ _ (w.heap.size + 1) 105 _ (0, 0) _ rfl K4.out Tryz.underlying105 rfl (size105 _ _)) rfl ⟨B4.out, ao', c', rfl, HL.out, N4.out.1, N4.out.2.1, N4.out.2.2, N5.out⟩
/-- a row of attributes, told one by one -/
def atF (la : List (ByteArray × List UInt8)) (P : Nat → Option Addr × Nat × Nat) (j : Nat) : List Value := [.string ((la[j]?.map (·.1)).getD ⟨#[]⟩), .slice (P j).1 (P j).2.1 (P j).2.2]
theorem atF_len (la : List (ByteArray × List UInt8)) (P : Nat → Option Addr × Nat × Nat) (j : Nat) : (atF la P j).length = 2 := rfl
theorem atF_one (la : List (ByteArray × List UInt8)) (P : Nat → Option Addr × Nat × Nat) (j : Nat) : ∀ u ∈ atF la P j, u.oneCell' = true := by
  intro u hu
  simp only [atF, List.mem_cons, List.not_mem_nil, or_false] at hu
  rcases hu with rfl | rfl <;> rfl
instance : Inhabited (Option Addr × Nat × Nat) := ⟨(none, 0, 0)⟩
theorem arw_pick {w : World} {ao : Option Addr} {la : List (ByteArray × List UInt8)} (h : Arw w ao la) : ∃ P : Nat → Option Addr × Nat × Nat, Cr w ao (flatF (atF la P) la.length) ∧
    ∀ j x, la[j]? = some x → x.2.length = (P j).2.1 ∧ (P j).2.1 ≤ (P j).2.2 ∧ (P j).2.2 ≤ 9223372036854775807 ∧ Byt w (P j).1 x.2 ∧ ((P j).1 = none → (P j).2.2 = 0) := by
  by_cases h0 : la = []
  · subst h0
    exact ⟨fun _ => (none, 0, 0), cr_nil _ _, fun j x hx => by simp at hx⟩
  obtain ⟨b, o, e, hb, hc⟩ := h h0
  obtain ⟨P, hP⟩ := Go.Deep.choose_lt (α := Option Addr × Nat × Nat) (n := la.length) (p := fun j p => ∀ x, la[j]? = some x → w.cell? ⟨b, o + j * 2 + 1, none⟩ = some (.slice p.1 p.2.1 p.2.2) ∧ x.2.length = p.2.1 ∧ p.2.1 ≤ p.2.2 ∧ p.2.2 ≤ 9223372036854775807 ∧ Byt w p.1 x.2 ∧ (p.1 = none → p.2.2 = 0)) (fun j hj => by
    obtain ⟨_, _, ad, m, c, h1, h2, h3, h4, h5, h6⟩ := hc j la[j] (List.getElem?_eq_getElem hj)
    refine ⟨(ad, m, c), fun x hx => ?_⟩
    rw [List.getElem?_eq_getElem hj] at hx
    injection hx with hx
    subst hx
    exact ⟨h1, h2, h3, h4, h5, h6⟩)
  refine ⟨P, cr_flat (k := 2) (by decide) (fun j _ => rfl) (fun _ => ⟨b, o, e, hb, fun j hj q hq => ?_⟩), fun j x hx => (hP j (List.getElem?_eq_some_iff.1 hx).1 x hx).2⟩
  have hx := List.getElem?_eq_getElem hj
  obtain ⟨h1, _⟩ := hc j la[j] hx
  obtain ⟨h2, _⟩ := hP j hj la[j] hx
  match q, hq with
  | 0, _ => rw [Nat.add_zero, h1]; simp [atF, hx]
  | 1, _ => rw [h2]; rfl
/-- a row of attributes with new memory behind it -/
def NewA (B : Nat) (w : World) (la : List (ByteArray × List UInt8)) (v : Value) : Prop := ∃ ao c, v = .slice ao la.length c ∧ la.length ≤ c ∧ c ≤ 9223372036854775807 ∧ (ao = none → c = 0) ∧ Dep (fun i => B ≤ i) w fun w' => Arw w' ao la
def AnsAs (la : List (ByteArray × List UInt8)) (w : World) (e : Ending) (w' : World) : Prop := Below w.heap.size w w' ∧ ∃ v, e = .returned v ∧ NewA w.heap.size w' la v
/-- bytes as far as they may be -/
def FarA (la : List (ByteArray × List UInt8)) : Prop := la.length * 40 ≤ 140737488355328 ∧ ∀ x ∈ la, x.2.length ≤ 140737488355328 ∧ x.1.size ≤ 9223372036854775807
set_option maxHeartbeats 8000000 in
set_option maxRecDepth 100000 in
theorem attrs_copy (ao : Option Addr) (la : List (ByteArray × List UInt8)) (n c : Nat) (w : World) (h : Arw w ao la) (hl : la.length = n) (hn : ao = none → c = 0) (hc : n ≤ c) (hF : FarA la) :
    Calls Tryz.prog 78 #[.slice ao n c, .func (.func 79) #[] #[]] w (AnsAs la w) := by
  have eg : ∀ args w, (callFunc 79 args).run Tryz.prog w = .ok (.enter 79 args) w := enters_of Tryz.func79 (by decide) rfl
  obtain ⟨P, hcr, hP⟩ := arw_pick h
  have CC := Lib.hid (clone_att ao n c (flatF (atF la P) la.length) w hcr (by rw [flatF_len (k := 2) _ (fun j _ => rfl), hl]) (flatF_one fun j _ => atF_one la P j) (fun h0 => ⟨by have := hn h0; omega, hn h0⟩) (by rw [← hl]; exact hF.1))
  have HP := Lib.hid hP
  have HL := Lib.hid hl
  have HF := Lib.hid hF
  clear h hl hn hc hF hcr hP
  go_enter Tryz.func78, Tryz.ntmps78
  go_wp2_with fail
  refine CC.out.mono ?_
  clear CC
  rintro e w1 ⟨hb, v, rfl, hown⟩
  have B1 := Lib.hid hb
  rcases Nat.eq_zero_or_pos n with rfl | hn0
  · obtain ⟨ao', c', rfl, h1, h2, h3, h4⟩ := own_cr hown
    have N1 : Hid (NewA w.heap.size w1 la (.slice ao' 0 c')) := ⟨ao', c', by rw [HL.out], by rw [HL.out]; exact h1, h2, h3, fun w' _ _ hne => absurd (List.eq_nil_of_length_eq_zero HL.out) hne⟩
    clear hb hown h1 h2 h3 h4
    go_wp2_with fail
    refine wp_loop_rounds 1 ?_
    rw [rounds_succ]
    go_wp2_with fail
    go_ret
    exact ⟨B1.out, _, rfl, N1.out⟩
  rw [HL.out] at hown
  obtain ⟨g, cap, rfl, hg, hnc, hcap, hrk⟩ := own_rk_flat hown (fun j _ => atF_len la P j) hn0
  have HG : Hid (w.heap.size ≤ g ∧ n ≤ cap ∧ cap ≤ 9223372036854775807) := ⟨hg, hnc, hcap⟩
  have R1 := Lib.hid hrk
  have nlt : n ≤ 9223372036854775807 := by omega
  clear hb hown hg hrk hnc hcap
  go_wp2_with fail
  go_loopw [11] (fun vi wr => ∃ (i : Nat) (f : Nat → List Value), i ≤ n ∧ vi = .int .i64 i ∧ Hid (Rk 105 2 wr g n f) ∧ Hid (∀ j, i ≤ j → j < n → f j = atF la P j) ∧ Hid (∀ j x, j < i → la[j]? = some x → ∃ a' m c', f j = [.string x.1, .slice a' m c'] ∧ x.2.length = m ∧ m ≤ c' ∧ c' ≤ 9223372036854775807 ∧ (a' = none → c' = 0) ∧ Dep (fun b => w.heap.size ≤ b ∧ b ≠ g) wr fun w' => Byt w' a' x.2) ∧ Hid (Below w.heap.size w wr)) (fun vi _ => n - (RowKit.intOf vi).toNat)
  case atStart => exact ⟨0, _, Nat.zero_le _, rfl, R1.out, (fun j _ _ => rfl : ∀ j, 0 ≤ j → j < n → atF la P j = atF la P j), (fun j x hj => absurd hj (Nat.not_lt_zero _) : ∀ j x, j < 0 → la[j]? = some x → ∃ a' m c', atF la P j = [.string x.1, .slice a' m c'] ∧ x.2.length = m ∧ m ≤ c' ∧ c' ≤ 9223372036854775807 ∧ (a' = none → c' = 0) ∧ Dep (fun b => w.heap.size ≤ b ∧ b ≠ g) w1 fun w' => Byt w' a' x.2), B1.out⟩
  case round =>
    clear R1
    obtain ⟨i, f, hi, rfl, hR, hO, hN, hB⟩ := hrel
    by_cases hin : i < n
    rotate_left
    · obtain rfl : i = n := by omega
      have FIN : Hid (NewA w.heap.size wr la (.slice (some ⟨g, 0, none⟩) i cap)) := by
        refine ⟨some ⟨g, 0, none⟩, cap, by rw [HL.out], by rw [HL.out]; exact HG.out.2.1, HG.out.2.2, (fun h => by cases h), fun w' hs hb' hne => ?_⟩
        have hR' : Rk 105 2 w' g i f := by
          obtain ⟨cur, h1, h2, h3⟩ := hR.out
          exact ⟨cur, (hb' g HG.out.1 hR.out.lt).trans h1, h2, h3⟩
        refine ⟨g, 0, rfl, hR'.lt, fun j x hx => ?_⟩
        have hj : j < i := by have := (List.getElem?_eq_some_iff.1 hx).1; have := HL.out; omega
        obtain ⟨a', m, c', hf, h1, h2, h3, h4, h5⟩ := hN.out j x hj hx
        have c0 := hR'.cell hj (q := 0) (by decide)
        have c1 := hR'.cell hj (q := 1) (by decide)
        rw [hf] at c0 c1
        simp only [List.getElem?_cons_zero, List.getElem?_cons_succ, Nat.add_zero] at c0 c1
        rw [Nat.zero_add]
        exact ⟨c0, (HF.out.2 x (List.mem_of_getElem? hx)).2, a', m, c', c1, h1, h2, h3, h5 w' hs (fun b hb hlt => hb' b hb.1 hlt), h4⟩
      clear hR hO hN
      go_wp2_with fail
      go_ret
      exact ⟨hB.out, _, rfl, FIN.out⟩
    obtain ⟨x, hx⟩ : ∃ x, la[i]? = some x := ⟨_, List.getElem?_eq_getElem (by have := HL.out; omega)⟩
    obtain ⟨p1, p2, p3, p4, p5⟩ := HP.out i x hx
    obtain ⟨ad, m, cc, hPi⟩ : ∃ ad m cc, P i = (ad, m, cc) := ⟨_, _, _, rfl⟩
    rw [hPi] at p1 p2 p3 p4 p5
    simp only at p1 p2 p3 p4 p5
    have fi := hO.out i (Nat.le_refl _) hin
    have c0 := hR.out.cell hin (q := 0) (by decide)
    have c1 := hR.out.cell hin (q := 1) (by decide)
    rw [fi] at c0 c1
    simp only [atF, hx, hPi, Option.map_some, Option.getD_some, List.getElem?_cons_zero, List.getElem?_cons_succ, Nat.add_zero] at c0 c1
    obtain ⟨sx, lx⟩ := x
    simp only at p1 p2 p3 p4 p5 c0 c1
    obtain ⟨wm, hwm⟩ : ∃ wm, wm = wr.alloc (.cells #[.string sx, .slice ad m cc] 105) := ⟨_, rfl⟩
    have bm := hB.out.alloc hB.out.size (.cells #[.string sx, .slice ad m cc] 105)
    have bm2 := (Below.refl wr.heap.size wr).alloc (Nat.le_refl _) (.cells #[.string sx, .slice ad m cc] 105)
    rw [← hwm] at bm bm2
    have BM := Lib.hid bm
    have BM2 := Lib.hid bm2
    have CC := Lib.hid (attr_copy sx ad lx m cc wm (p4.below bm) p1 p5 p2 (by have := (HF.out.2 _ (List.mem_of_getElem? hx)).1; simp only at this; omega))
    have g0 := hR.out.frozen (i * 2)
    have g1 := hR.out.frozen (i * 2 + 1)
    have P1 := Lib.hid p1
    have X1 := Lib.hid hx
    have XB : Hid (wr.alloc (.cells #[.string sx, .slice ad m cc] 105) = wm) := hwm.symm
    have XC : Hid (wm.cell? ⟨wr.heap.size, 0, none⟩ = some (.string sx)) := by rw [hwm]; exact (Sh.Blk.new wr [.string sx, .slice ad m cc] 105 _ rfl).cell 0
    clear p1 p2 p3 p4 p5 hPi fi hwm bm bm2 hx
    go_wp2_with fail
    rw [XB.out]
    refine CC.out.mono ?_
    clear CC
    rintro e w2 ⟨hb, ao', c', rfl, hnew⟩
    have R1 := (hR.out.below BM2.out).below hb
    have glt := R1.lt
    have gltm : g < wm.heap.size := (hR.out.below BM2.out).lt
    have c0 := R1.cell hin (q := 0) (by decide)
    have c1 := R1.cell hin (q := 1) (by decide)
    rw [hO.out i (Nat.le_refl _) hin] at c0 c1
    simp only [atF, X1.out, Option.map_some, Option.getD_some, List.getElem?_cons_zero, List.getElem?_cons_succ, Nat.add_zero] at c0 c1
    have g0 := R1.frozen (i * 2)
    have g1 := R1.frozen (i * 2 + 1)
    have R2 := Lib.hid (R1.set hin [.string sx, .slice ao' m c'] rfl)
    have gs := gb_sets g [.string sx, .slice ao' m c'] (i * 2) w2
    have B2 := Lib.hid ((below_chain BM.out hb).grown gs (below_chain BM.out hb).size (fun j hj => by have e : some g = some j := hj; injection e with e; rw [← e]; exact HG.out.1))
    have N2 : Hid (∀ j x, j < i + 1 → la[j]? = some x → ∃ a' m1 c1, (if j = i then [.string sx, .slice ao' m c'] else f j) = [.string x.1, .slice a' m1 c1] ∧ x.2.length = m1 ∧ m1 ≤ c1 ∧ c1 ≤ 9223372036854775807 ∧ (a' = none → c1 = 0) ∧ Dep (fun b => w.heap.size ≤ b ∧ b ≠ g) (w2.setCells g (i * 2) [.string sx, .slice ao' m c']) fun w' => Byt w' a' x.2) := by
      intro j x hj hx
      by_cases hji : j = i
      · subst hji
        rw [X1.out] at hx
        injection hx with hx
        subst hx
        obtain ⟨n1, n2, n3, n4, n5⟩ := hnew
        exact ⟨ao', m, c', if_pos rfl, n1, n2, n3, n4, (n5.grown gs (by omega)).mono fun b hb' => ⟨Nat.le_trans BM.out.size hb', by omega⟩⟩
      · rw [if_neg hji]
        obtain ⟨a', m1, c1, h1, h2, h3, h4, h5, h6⟩ := hN.out j x (by omega) hx
        exact ⟨a', m1, c1, h1, h2, h3, h4, h5, ((h6.below BM2.out).below hb).grown gs (fun h => h.2 rfl)⟩
    have O2 : Hid (∀ j, i + 1 ≤ j → j < n → (if j = i then [.string sx, .slice ao' m c'] else f j) = atF la P j) := fun j hj hjn => by
      rw [if_neg (by omega)]
      exact hO.out j (by omega) hjn
    have hwi : IntKind.i64.wrap ((i : Int) + 1) = (i : Int) + 1 := by rw [IntKind.wrap]; simp [IntKind.bits, IntKind.signed]; omega
    clear hR hO hN hb hnew R1 gs hB
    go_wp2_with fail
    go_roundw
    case rel => exact ⟨i + 1, _, hin, by go_num, R2, O2, N2, B2⟩
    case measure => simp only [RowKit.intOf]; omega
end Go.Proofs.YtcgbaiogbcodcaaGreatDoor.Lw
namespace Go.Proofs.YtcgbaiogbcodcaaGreatDoor.Lw
open Go.RowKit Go.Lib Go.Proofs.YtcgbaiogbcodcaaGreatDoor.Sh Go.Proofs.YtcgbaiogbcodcaaGreatDoor.Lb Go.Proofs.YtcgbaiogbcodcaaGreatDoor.Pf
open Go.Maps

/-- an inode's slices -/
structure Sl where
  da : Option Addr
  dn : Nat
  dc : Nat
  na : Option Addr
  nn : Nat
  nc : Nat
  za : Option Addr
  zn : Nat
  zc : Nat
  aa : Option Addr
  an : Nat
  ac : Nat
instance : Inhabited Sl := ⟨⟨none, 0, 0, none, 0, 0, none, 0, 0, none, 0, 0⟩⟩
def IvS (w : World) (x : InoP) (p : Sl) : Prop := IvP w x p.da p.dn p.dc p.na p.nn p.nc p.za p.zn p.zc p.aa p.an p.ac
def inC (x : InoP) (p : Sl) : List Value := ivC x p.da p.dn p.dc p.na p.nn p.nc p.za p.zn p.zc p.aa p.an p.ac
theorem inC_len (x : InoP) (p : Sl) : (inC x p).length = 9 := rfl
theorem inC_one (x : InoP) (p : Sl) : ∀ u ∈ inC x p, u.oneCell' = true := by
  intro u hu
  simp only [inC, ivC, List.mem_cons, List.not_mem_nil, or_false] at hu
  rcases hu with rfl | rfl | rfl | rfl | rfl | rfl | rfl | rfl | rfl <;> rfl
/-- an inode's bytes as far as they may be -/
structure FarI (x : InoP) : Prop where
  data : x.data.length ≤ 140737488355328
  names : x.names.length * 16 ≤ 140737488355328
  nums : x.nums.length * 8 ≤ 140737488355328
  attrs : FarA x.attrs
/-- what the copy of an inode is -/
def AnsC (x : InoP) (w : World) (e : Ending) (w' : World) : Prop := Below w.heap.size w w' ∧ ∃ p, e = .returned (.agg (inC x p).toArray) ∧ Dep (fun i => w.heap.size ≤ i) w' fun w'' => IvS w'' x p
theorem newK_of {w : World} {B n k : Nat} {e : TypeId} {v : Value} {ls : List Value} (h : w.ownsRow B e k v n ls) : ∃ ao c, v = .slice ao n c ∧ n ≤ c ∧ c ≤ 9223372036854775807 ∧ (ao = none → c = 0) ∧ Dep (fun i => B ≤ i) w fun w' => Cr w' ao ls := own_cr h
theorem gb_setRow (w : World) (g : Nat) (cs : Array Value) : w.grownBy (w.setRow g cs) (some g) :=
  ⟨rfl, rfl, rfl, by simp, fun k hk hne => by simp only [World.setRow, Array.getElem?_modify]; rw [if_neg (fun e => hne (by rw [e]))]⟩
theorem below_own {g : Nat} {w0 w w' : World} (h : Below w0.heap.size w0 w) (hg : w.grownBy w' (some g)) (hB : w0.heap.size ≤ g) : Below w0.heap.size w0 w' := h.grown hg h.size (fun j hj => by have e : some g = some j := hj; injection e with e; omega)
set_option maxHeartbeats 8000000 in
set_option maxRecDepth 100000 in
theorem inode_copy (xn xk xm xl : Int) (xd : List UInt8) (xt : ByteArray) (xs : List ByteArray) (xz : List Int) (xa : List (ByteArray × List UInt8)) (da na za aa : Option Addr) (dn dc nn nc zn zc an ac : Nat) (w : World) (h : IvP w ⟨xn, xk, xm, xl, xd, xt, xs, xz, xa⟩ da dn dc na nn nc za zn zc aa an ac) (hF : FarI ⟨xn, xk, xm, xl, xd, xt, xs, xz, xa⟩) :
    Calls Tryz.prog 57 #[.agg #[.int .i64 xn, .int .i64 xk, .int .i64 xm, .int .i64 xl, .slice da dn dc, .string xt, .slice na nn nc, .slice za zn zc, .slice aa an ac]] w (AnsC ⟨xn, xk, xm, xl, xd, xt, xs, xz, xa⟩ w) := by
  have eg : ∀ args w, (callFunc 79 args).run Tryz.prog w = .ok (.enter 79 args) w := enters_of Tryz.func79 (by decide) rfl
  obtain ⟨h1, h2, h3, h4, h5, n1, n2, n3, n4, n5, z1, z2, z3, z4, z5, a1, a2, a3, a4, a5, ts⟩ := h
  simp only at h1 h4 n1 n4 z1 z4 a1 a4 ts
  obtain ⟨f1, f2, f3, f4⟩ := hF
  simp only at f1 f2 f3 f4
  obtain ⟨w1, hw1⟩ : ∃ w1, w1 = (w.alloc (.cells #[.int .i64 xn, .int .i64 xk, .int .i64 xm, .int .i64 xl, .slice da dn dc, .string xt, .slice na nn nc, .slice za zn zc, .slice aa an ac] 38)).alloc (.cells #[.int .i64 0, .int .i64 0, .int .i64 0, .int .i64 0, .slice none 0 0, .string ⟨#[]⟩, .slice none 0 0, .slice none 0 0, .slice none 0 0] 38) := ⟨_, rfl⟩
  have b0 : Below w.heap.size w (w.alloc (.cells #[.int .i64 xn, .int .i64 xk, .int .i64 xm, .int .i64 xl, .slice da dn dc, .string xt, .slice na nn nc, .slice za zn zc, .slice aa an ac] 38)) := (Below.refl _ w).alloc (Nat.le_refl _) _
  have b1 : Below w.heap.size w w1 := by rw [hw1]; exact b0.alloc b0.size _
  have s1 : w1.heap.size = w.heap.size + 2 := by rw [hw1]; simp
  have x1 : Sh.Blk w1 w.heap.size [.int .i64 xn, .int .i64 xk, .int .i64 xm, .int .i64 xl, .slice da dn dc, .string xt, .slice na nn nc, .slice za zn zc, .slice aa an ac] 38 := by rw [hw1]; exact (Sh.Blk.new w [.int .i64 xn, .int .i64 xk, .int .i64 xm, .int .i64 xl, .slice da dn dc, .string xt, .slice na nn nc, .slice za zn zc, .slice aa an ac] 38 _ rfl).alloc _
  have r1 : Sh.Blk w1 (w.heap.size + 1) [.int .i64 0, .int .i64 0, .int .i64 0, .int .i64 0, .slice none 0 0, .string ⟨#[]⟩, .slice none 0 0, .slice none 0 0, .slice none 0 0] 38 := by rw [hw1]; exact Sh.Blk.new _ [.int .i64 0, .int .i64 0, .int .i64 0, .int .i64 0, .slice none 0 0, .string ⟨#[]⟩, .slice none 0 0, .slice none 0 0, .slice none 0 0] 38 _ (by simp)
  have CD := Lib.hid (clone_byt da dn dc (bs xd) w1 (byt_cr.2 (h4.below b1)) (by rw [bs_len, h1, Nat.mul_one]) (bs_one xd) (fun h0 => ⟨by have := h5 h0; omega, h5 h0⟩) (by omega))
  have B1 := Lib.hid b1
  have X1 := Lib.hid x1
  have R1 := Lib.hid r1
  have S1 := Lib.hid s1
  have HW1 := Lib.hid hw1
  have HD := Lib.hid h1
  have HN := Lib.hid (show xs.length = nn ∧ nn ≤ nc ∧ nc ≤ 9223372036854775807 ∧ Srw w na xs ∧ (na = none → nc = 0) from ⟨n1, n2, n3, n4, n5⟩)
  have HZ := Lib.hid (show xz.length = zn ∧ zn ≤ zc ∧ zc ≤ 9223372036854775807 ∧ Zrw w za xz ∧ (za = none → zc = 0) from ⟨z1, z2, z3, z4, z5⟩)
  have HA := Lib.hid (show xa.length = an ∧ an ≤ ac ∧ ac ≤ 9223372036854775807 ∧ Arw w aa xa ∧ (aa = none → ac = 0) from ⟨a1, a2, a3, a4, a5⟩)
  have HT := Lib.hid ts
  have F2 := Lib.hid f2
  have F3 := Lib.hid f3
  have F4 := Lib.hid f4
  have c4 := x1.cell 4
  simp only [List.getElem?_cons_zero, List.getElem?_cons_succ] at c4
  rw [hw1] at c4
  clear h1 h2 h3 h4 h5 n1 n2 n3 n4 n5 z1 z2 z3 z4 z5 a1 a2 a3 a4 a5 ts f1 f2 f3 f4 x1 r1 b0 b1 s1 hw1
  go_enter Tryz.func57, Tryz.ntmps57
  go_wp2_with fail
  rw [← HW1.out]
  refine CD.out.mono ?_
  clear CD HW1 c4
  rintro e w2 ⟨hb, v, rfl, hown⟩
  obtain ⟨da', dc', rfl, m1, m2, m3, m4, m5⟩ := newB_of hown HD.out
  rw [S1.out] at m5
  have X2 := X1.out.low hb
  have R2 := R1.out.low hb
  have gs := grownBy_setCell w2 w.heap.size 4 (.slice da' dn dc')
  have X3 := Lib.hid (X2.set 4 (.slice da' dn dc'))
  have R3 := Lib.hid (blk_grown R2 gs (by omega))
  have B3 := Lib.hid (below_own (below_chain B1.out hb) gs (Nat.le_refl _))
  have ND := Lib.hid (show dn ≤ dc' ∧ dc' ≤ 9223372036854775807 ∧ (da' = none → dc' = 0) ∧ Dep (fun i => w.heap.size + 2 ≤ i) (w2.setCell ⟨w.heap.size, 4, none⟩ (.slice da' dn dc')) (fun w' => Byt w' da' xd) from ⟨m2, m3, m4, m5.grown gs (by omega)⟩)
  have s2 : w.heap.size + 2 ≤ w2.heap.size := by have := hb.size; have := S1.out; omega
  obtain ⟨w3, hw3⟩ : ∃ w3, w3 = w2.setCell ⟨w.heap.size, 4, none⟩ (.slice da' dn dc') := ⟨_, rfl⟩
  have s3 : w.heap.size + 2 ≤ w3.heap.size := by rw [hw3]; exact Nat.le_trans s2 gs.size
  have c4 := X2.cell 4
  have f4 := X2.frozen 4
  have e6 := X3.out.cell 6
  simp only [List.set_cons_succ, List.set_cons_zero, List.getElem?_cons_zero, List.getElem?_cons_succ] at c4 e6 X3
  have HW3 := Lib.hid hw3
  rw [← hw3] at X3 R3 B3 ND
  obtain ⟨k1, k2, k3, k4, k5⟩ := HN.out
  have CN := Lib.hid (clone_txt na nn nc (sv xs) w3 (srw_cr.2 (k4.below B3.out)) (by rw [sv, List.length_map, k1, Nat.mul_one]) (sv_one xs) (fun h0 => ⟨by have := k5 h0; omega, k5 h0⟩) (by have := F2.out; omega))
  have S3 := Lib.hid s3
  clear hb hown m1 m2 m3 m4 m5 X2 R2 gs k1 k2 k3 k4 k5 hw3 s2 s3 S1 X1 R1 B1
  go_wp2_with fail
  rw [← HW3.out]
  refine CN.out.mono ?_
  clear CN HW3 e6 c4 f4
  rintro e w4 ⟨hb, v, rfl, hown⟩
  obtain ⟨na', nc', rfl, m1, m2, m3, m4⟩ := newK_of hown
  have X4 := X3.out.low hb
  have R4 := R3.out.low hb
  have gs := grownBy_setCell w4 w.heap.size 6 (.slice na' nn nc')
  have X5 := Lib.hid (X4.set 6 (.slice na' nn nc'))
  have R5 := Lib.hid (blk_grown R4 gs (by omega))
  have B5 := Lib.hid (below_own (below_chain B3.out hb) gs (Nat.le_refl _))
  have NN := Lib.hid (show nn ≤ nc' ∧ nc' ≤ 9223372036854775807 ∧ (na' = none → nc' = 0) ∧ Dep (fun i => w.heap.size + 2 ≤ i) (w4.setCell ⟨w.heap.size, 6, none⟩ (.slice na' nn nc')) (fun w' => Srw w' na' xs) from ⟨m1, m2, m3, ((m4.mono (A' := fun i => w.heap.size + 2 ≤ i) (fun i hi => Nat.le_trans S3.out hi)).grown gs (by omega)).imp fun w' h => srw_cr.1 h⟩)
  have ND5 := Lib.hid (ND.out.2.2.2.below hb |>.grown gs (by omega))
  obtain ⟨w5, hw5⟩ : ∃ w5, w5 = w4.setCell ⟨w.heap.size, 6, none⟩ (.slice na' nn nc') := ⟨_, rfl⟩
  have s5 : w.heap.size + 2 ≤ w5.heap.size := by rw [hw5]; exact Nat.le_trans (Nat.le_trans S3.out hb.size) gs.size
  have c6 := X4.cell 6
  have f6 := X4.frozen 6
  have e7 := X5.out.cell 7
  simp only [List.set_cons_succ, List.set_cons_zero, List.getElem?_cons_zero, List.getElem?_cons_succ] at c6 e7 X5
  have HW5 := Lib.hid hw5
  rw [← hw5] at X5 R5 B5 NN ND5
  obtain ⟨k1, k2, k3, k4, k5⟩ := HZ.out
  have CZ := Lib.hid (clone_num za zn zc (zv xz) w5 (zrw_cr.2 (k4.below B5.out)) (by rw [zv, List.length_map, k1, Nat.mul_one]) (zv_one xz) (fun h0 => ⟨by have := k5 h0; omega, k5 h0⟩) (by have := F3.out; omega))
  have S5 := Lib.hid s5
  have ND6 := Lib.hid (show dn ≤ dc' ∧ dc' ≤ 9223372036854775807 ∧ (da' = none → dc' = 0) from ⟨ND.out.1, ND.out.2.1, ND.out.2.2.1⟩)
  clear hb hown m1 m2 m3 m4 X4 R4 gs k1 k2 k3 k4 k5 hw5 s5 ND S3 X3 R3 B3
  go_wp2_with fail
  rw [← HW5.out]
  refine CZ.out.mono ?_
  clear CZ HW5 e7 c6 f6
  rintro e w6 ⟨hb, v, rfl, hown⟩
  obtain ⟨za', zc', rfl, m1, m2, m3, m4⟩ := newK_of hown
  have X6 := X5.out.low hb
  have R6 := R5.out.low hb
  have gs := grownBy_setCell w6 w.heap.size 7 (.slice za' zn zc')
  have X7 := Lib.hid (X6.set 7 (.slice za' zn zc'))
  have R7 := Lib.hid (blk_grown R6 gs (by omega))
  have B7 := Lib.hid (below_own (below_chain B5.out hb) gs (Nat.le_refl _))
  have NZ := Lib.hid (show zn ≤ zc' ∧ zc' ≤ 9223372036854775807 ∧ (za' = none → zc' = 0) ∧ Dep (fun i => w.heap.size + 2 ≤ i) (w6.setCell ⟨w.heap.size, 7, none⟩ (.slice za' zn zc')) (fun w' => Zrw w' za' xz) from ⟨m1, m2, m3, ((m4.mono (A' := fun i => w.heap.size + 2 ≤ i) (fun i hi => Nat.le_trans S5.out hi)).grown gs (by omega)).imp fun w' h => zrw_cr.1 h⟩)
  have ND7 := Lib.hid (ND5.out.below hb |>.grown gs (by omega))
  have NN7 := Lib.hid (NN.out.2.2.2.below hb |>.grown gs (by omega))
  obtain ⟨w7, hw7⟩ : ∃ w7, w7 = w6.setCell ⟨w.heap.size, 7, none⟩ (.slice za' zn zc') := ⟨_, rfl⟩
  have s7 : w.heap.size + 2 ≤ w7.heap.size := by rw [hw7]; exact Nat.le_trans (Nat.le_trans S5.out hb.size) gs.size
  have c7 := X6.cell 7
  have f7 := X6.frozen 7
  have e8 := X7.out.cell 8
  simp only [List.set_cons_succ, List.set_cons_zero, List.getElem?_cons_zero, List.getElem?_cons_succ] at c7 e8 X7
  have HW7 := Lib.hid hw7
  rw [← hw7] at X7 R7 B7 NZ ND7 NN7
  obtain ⟨k1, k2, k3, k4, k5⟩ := HA.out
  have CA := Lib.hid (attrs_copy aa xa an ac w7 (k4.below B7.out) k1 k5 k2 F4.out)
  have S7 := Lib.hid s7
  have NN6 := Lib.hid (show nn ≤ nc' ∧ nc' ≤ 9223372036854775807 ∧ (na' = none → nc' = 0) from ⟨NN.out.1, NN.out.2.1, NN.out.2.2.1⟩)
  clear hb hown m1 m2 m3 m4 X6 R6 gs k1 k2 k3 k4 k5 hw7 s7 ND5 NN S5 X5 R5 B5
  go_wp2_with fail
  rw [← HW7.out]
  refine CA.out.mono ?_
  clear CA HW7 e8 c7 f7
  rintro e w8 ⟨hb, v, rfl, aa', ac', rfl, m1, m2, m3, m4⟩
  rw [HA.out.1] at m1 ⊢
  have X8 := X7.out.low hb
  have R8 := R7.out.low hb
  have gs := grownBy_setCell w8 w.heap.size 8 (.slice aa' an ac')
  have X9 := X8.set 8 (.slice aa' an ac')
  have R9 := blk_grown R8 gs (by omega)
  have B9 := below_own (below_chain B7.out hb) gs (Nat.le_refl _)
  obtain ⟨w9, hw9⟩ : ∃ w9, w9 = w8.setCell ⟨w.heap.size, 8, none⟩ (.slice aa' an ac') := ⟨_, rfl⟩
  have G9 : w9.heap[w.heap.size]? = some (.cells #[.int .i64 xn, .int .i64 xk, .int .i64 xm, .int .i64 xl, .slice da' dn dc', .string xt, .slice na' nn nc', .slice za' zn zc', .slice aa' an ac'] 38 (0, 0)) := by rw [hw9]; exact X9
  have G10 : w9.heap[w.heap.size + 1]? = some (.cells #[.int .i64 0, .int .i64 0, .int .i64 0, .int .i64 0, .slice none 0 0, .string ⟨#[]⟩, .slice none 0 0, .slice none 0 0, .slice none 0 0] 38 (0, 0)) := by rw [hw9]; exact R9
  have gw : w8.grownBy w9 (some w.heap.size) := by rw [hw9]; exact gs
  have B9' : Below w.heap.size w w9 := by rw [hw9]; exact B9
  have gs2 := gb_setRow w9 (w.heap.size + 1) #[.int .i64 xn, .int .i64 xk, .int .i64 xm, .int .i64 xl, .slice da' dn dc', .string xt, .slice na' nn nc', .slice za' zn zc', .slice aa' an ac']
  have K10 := Lib.hid (setRow_heap w9 (w.heap.size + 1) _ #[.int .i64 xn, .int .i64 xk, .int .i64 xm, .int .i64 xl, .slice da' dn dc', .string xt, .slice na' nn nc', .slice za' zn zc', .slice aa' an ac'] 38 (0, 0) G10)
  have B10 := Lib.hid (below_row B9' (Nat.le_succ _) #[.int .i64 xn, .int .i64 xk, .int .i64 xm, .int .i64 xl, .slice da' dn dc', .string xt, .slice na' nn nc', .slice za' zn zc', .slice aa' an ac'])
  have IV : Hid (Dep (fun i => w.heap.size ≤ i) (w9.setRow (w.heap.size + 1) #[.int .i64 xn, .int .i64 xk, .int .i64 xm, .int .i64 xl, .slice da' dn dc', .string xt, .slice na' nn nc', .slice za' zn zc', .slice aa' an ac']) fun w'' => IvS w'' ⟨xn, xk, xm, xl, xd, xt, xs, xz, xa⟩ ⟨da', dn, dc', na', nn, nc', za', zn, zc', aa', an, ac'⟩) := by
    have q1 := ((((ND7.out.below hb).grown gw (by omega)).grown gs2 (by omega)).mono (A' := fun i => w.heap.size ≤ i) (fun i hi => by omega))
    have q2 := ((((NN7.out.below hb).grown gw (by omega)).grown gs2 (by omega)).mono (A' := fun i => w.heap.size ≤ i) (fun i hi => by omega))
    have q3 := ((((NZ.out.2.2.2.below hb).grown gw (by omega)).grown gs2 (by omega)).mono (A' := fun i => w.heap.size ≤ i) (fun i hi => by omega))
    have q4 := (((m4.mono (A' := fun i => w.heap.size + 2 ≤ i) (fun i hi => Nat.le_trans S7.out hi)).grown gw (by omega)).grown gs2 (by omega)).mono (A' := fun i => w.heap.size ≤ i) (fun i hi => by omega)
    exact (((q1.and q2).and q3).and q4).imp fun w'' h => ⟨HD.out, ND6.out.1, ND6.out.2.1, h.1.1.1, ND6.out.2.2, HN.out.1, NN6.out.1, NN6.out.2.1, h.1.1.2, NN6.out.2.2, HZ.out.1, NZ.out.1, NZ.out.2.1, h.1.2, NZ.out.2.2.1, HA.out.1, m1, m2, h.2, m3, HT.out⟩
  have c8 := X8.cell 8
  have f8 := X8.frozen 8
  simp only [List.getElem?_cons_zero, List.getElem?_cons_succ] at c8
  rw [hw9] at G9 G10 K10 B10 IV
  clear hb m1 m2 m3 m4 X8 R8 R9 X9 gs gs2 gw B9 B9' NZ ND7 NN7 ND6 NN6 S7 X7 R7 B7 hw9 HD HN HZ HA
  go_wp2_with (first | with_reducible refine wpList_load_row rfl 38 (.tmp 1) rfl w.heap.size rfl 38 #[.int .i64 xn, .int .i64 xk, .int .i64 xm, .int .i64 xl, .slice da' dn dc', .string xt, .slice na' nn nc', .slice za' zn zc', .slice aa' an ac'] (0, 0) _ G9 Tryz.underlying38 rfl (size9 _ _ _ _ _ _ _ _ _) ?_ | with_reducible refine wpList_store_row rfl 38 (.tmp 2) (.tmp 19) rfl (w.heap.size + 1) #[.int .i64 xn, .int .i64 xk, .int .i64 xm, .int .i64 xl, .slice da' dn dc', .string xt, .slice na' nn nc', .slice za' zn zc', .slice aa' an ac'] rfl rfl 38 #[.int .i64 0, .int .i64 0, .int .i64 0, .int .i64 0, .slice none 0 0, .string ⟨#[]⟩, .slice none 0 0, .slice none 0 0, .slice none 0 0] G10 (size9 _ _ _ _ _ _ _ _ _) (sz9 _ _ _ _ _ _ _ _ _ _ _ _ _ _ _ _ _ _) (all9 _ _ _ _ _ _ _ _ _ _ _ _ _ _ _ _ _) ?_)
  exact bodyPost_ret (results_cell_row rfl _ _ (w.heap.size + 1) 38 _ (0, 0) _ rfl K10.out Tryz.underlying38 rfl (size9 _ _ _ _ _ _ _ _ _)) rfl ⟨B10.out, ⟨da', dn, dc', na', nn, nc', za', zn, zc', aa', an, ac'⟩, rfl, IV.out⟩
end Go.Proofs.YtcgbaiogbcodcaaGreatDoor.Lw
namespace Go.Proofs.YtcgbaiogbcodcaaGreatDoor.Lw
open Go.RowKit Go.Lib Go.Proofs.YtcgbaiogbcodcaaGreatDoor.Sh Go.Proofs.YtcgbaiogbcodcaaGreatDoor.Lb Go.Proofs.YtcgbaiogbcodcaaGreatDoor.Pf
open Go.Maps

/-- a row of inodes, told one by one -/
def inF (l : List InoP) (P : Nat → Sl) (j : Nat) : List Value := match l[j]? with | some x => inC x (P j) | none => z9
theorem inF_len (l : List InoP) (P : Nat → Sl) (j : Nat) : (inF l P j).length = 9 := by
  unfold inF
  split <;> rfl
theorem inF_one (l : List InoP) (P : Nat → Sl) (j : Nat) : ∀ u ∈ inF l P j, u.oneCell' = true := by
  unfold inF
  split
  · exact inC_one _ _
  · intro u hu
    simp only [z9, List.mem_cons, List.not_mem_nil, or_false] at hu
    rcases hu with rfl | rfl | rfl | rfl | rfl | rfl | rfl | rfl | rfl <;> rfl
theorem inF_at {l : List InoP} {j : Nat} {x : InoP} (h : l[j]? = some x) (P : Nat → Sl) : inF l P j = inC x (P j) := by
  unfold inF
  rw [h]
theorem irw_pick {w : World} {ao : Option Addr} {l : List InoP} (h : Irw w ao l) : ∃ P : Nat → Sl, Cr w ao (flatF (inF l P) l.length) ∧ ∀ j x, l[j]? = some x → IvS w x (P j) := by
  by_cases h0 : l = []
  · subst h0
    exact ⟨fun _ => default, cr_nil _ _, fun j x hx => by simp at hx⟩
  obtain ⟨b, o, e, hb, hc⟩ := h h0
  obtain ⟨P, hP⟩ := Go.Deep.choose_lt (α := Sl) (n := l.length) (p := fun j p => ∀ x, l[j]? = some x → At9 w b (o + j * 9) x p.da p.dn p.dc p.na p.nn p.nc p.za p.zn p.zc p.aa p.an p.ac ∧ IvS w x p) (fun j hj => by
    obtain ⟨da, dn, dc, na, nn, nc, za, zn, zc, aa, an, ac, h1, h2⟩ := hc j l[j] (List.getElem?_eq_getElem hj)
    refine ⟨⟨da, dn, dc, na, nn, nc, za, zn, zc, aa, an, ac⟩, fun x hx => ?_⟩
    rw [List.getElem?_eq_getElem hj] at hx
    injection hx with hx
    subst hx
    exact ⟨h1, h2⟩)
  refine ⟨P, cr_flat (k := 9) (by decide) (fun j _ => inF_len _ _ _) (fun _ => ⟨b, o, e, hb, fun j hj q hq => ?_⟩), fun j x hx => (hP j (List.getElem?_eq_some_iff.1 hx).1 x hx).2⟩
  have hx := List.getElem?_eq_getElem hj
  obtain ⟨h1, _⟩ := hP j hj l[j] hx
  rw [inF_at hx]
  match q, hq with
  | 0, _ => rw [Nat.add_zero]; exact h1.k0
  | 1, _ => exact h1.k1
  | 2, _ => exact h1.k2
  | 3, _ => exact h1.k3
  | 4, _ => exact h1.k4
  | 5, _ => exact h1.k5
  | 6, _ => exact h1.k6
  | 7, _ => exact h1.k7
  | 8, _ => exact h1.k8
/-- a row of inodes behind which all memory is new -/
def NewI (B : Nat) (w : World) (l : List InoP) (v : Value) : Prop := ∃ ao c, v = .slice ao l.length c ∧ l.length ≤ c ∧ c ≤ 9223372036854775807 ∧ (ao = none → c = 0) ∧ Dep (fun i => B ≤ i) w fun w' => Irw w' ao l
/-- a row of the call's own, an inode after the other -/
def RowI (B : Nat) (w : World) (g n : Nat) (l : List InoP) (P : Nat → Sl) : Prop := B ≤ g ∧ l.length = n ∧ Rk 38 9 w g n (inF l P) ∧ ∀ j x, l[j]? = some x → Dep (fun b => B ≤ b ∧ b ≠ g) w fun w' => IvS w' x (P j)
theorem rk_at9 {w : World} {g n : Nat} {l : List InoP} {P : Nat → Sl} (h : Rk 38 9 w g n (inF l P)) {j : Nat} {x : InoP} (hj : j < n) (hx : l[j]? = some x) : At9 w g (j * 9) x (P j).da (P j).dn (P j).dc (P j).na (P j).nn (P j).nc (P j).za (P j).zn (P j).zc (P j).aa (P j).an (P j).ac := by
  have c := fun q (hq : q < 9) => h.cell hj hq
  rw [inF_at hx] at c
  exact ⟨by have := c 0 (by decide); rw [Nat.add_zero] at this; exact this, c 1 (by decide), c 2 (by decide), c 3 (by decide), c 4 (by decide), c 5 (by decide), c 6 (by decide), c 7 (by decide), c 8 (by decide)⟩
theorem RowI.newI {B g n c : Nat} {w : World} {l : List InoP} {P : Nat → Sl} (h : RowI B w g n l P) (h1 : n ≤ c) (h2 : c ≤ 9223372036854775807) : NewI B w l (.slice (some ⟨g, 0, none⟩) n c) := by
  obtain ⟨hg, hl, hr, hd⟩ := h
  refine ⟨_, c, by rw [hl], by omega, h2, (fun h => by cases h), fun w' hs hb hne => ⟨g, 0, rfl, ?_, fun j x hx => ?_⟩⟩
  · exact Nat.lt_of_lt_of_le hr.lt hs
  · have hj : j < n := by have := (List.getElem?_eq_some_iff.1 hx).1; omega
    have hr' : Rk 38 9 w' g n (inF l P) := by
      have hlt := hr.lt
      obtain ⟨cur, h1, h2, h3⟩ := hr
      exact ⟨cur, (hb g hg hlt).trans h1, h2, h3⟩
    rw [Nat.zero_add]
    exact ⟨_, _, _, _, _, _, _, _, _, _, _, _, rk_at9 hr' hj hx, hd j x hx w' hs (fun b hb' hlt => hb b hb'.1 hlt)⟩
theorem rk_range {t : TypeId} {k : Nat} {w : World} {g n : Nat} {f : Nat → List Value} (h : Rk t k w g n f) {j : Nat} (hj : j < n) (hk : (f j).length = k) : w.rangeAt g (j * k) (f j) := fun q v hv => by
  have hq : q < k := by have := (List.getElem?_eq_some_iff.1 hv).1; omega
  rw [h.cell hj hq]
  exact hv
theorem rk_there {t : TypeId} {k : Nat} {w : World} {g n : Nat} {f : Nat → List Value} (h : Rk t k w g n f) {j : Nat} (hj : j < n) (hk : (f j).length = k) : w.there g (j * k) k := fun q hq => by
  refine ⟨?_, h.frozen _⟩
  rw [h.cell hj hq, List.getElem?_eq_getElem (by omega)]
  rfl
theorem sz38 {cs : List Value} (h : cs.length = 9) : (Tryz.prog.info? 38).map (·.size) = some cs.length := by
  rw [h]
  show _ = some 9
  kernel_rfl
/-- a row of inodes that the call has to itself -/
def OwnI (B : Nat) (w : World) (l : List InoP) (v : Value) : Prop := ∃ ao c, v = .slice ao l.length c ∧ l.length ≤ c ∧ c ≤ 9223372036854775807 ∧ (ao = none → c = 0) ∧ (l ≠ [] → ∃ g P, ao = some ⟨g, 0, none⟩ ∧ RowI B w g l.length l P)
theorem OwnI.newI {B : Nat} {w : World} {l : List InoP} {v : Value} (h : OwnI B w l v) : NewI B w l v := by
  obtain ⟨ao, c, rfl, h1, h2, h3, h4⟩ := h
  by_cases h0 : l = []
  · subst h0
    exact ⟨ao, c, rfl, h1, h2, h3, fun w' _ _ hne => absurd rfl hne⟩
  · obtain ⟨g, P, rfl, hr⟩ := h4 h0
    exact hr.newI h1 h2
theorem RowI.low {B B' g n : Nat} {w : World} {l : List InoP} {P : Nat → Sl} (h : RowI B w g n l P) (hB : B' ≤ B) : RowI B' w g n l P :=
  ⟨Nat.le_trans hB h.1, h.2.1, h.2.2.1, fun j x hx => (h.2.2.2 j x hx).mono fun _ hb => ⟨Nat.le_trans hB hb.1, hb.2⟩⟩
theorem RowI.below {B g n : Nat} {w w' : World} {l : List InoP} {P : Nat → Sl} (h : RowI B w g n l P) (hb : Below w.heap.size w w') : RowI B w' g n l P :=
  ⟨h.1, h.2.1, h.2.2.1.below hb, fun j x hx => (h.2.2.2 j x hx).below hb⟩
theorem RowI.grown {B g b n : Nat} {w w' : World} {l : List InoP} {P : Nat → Sl} (h : RowI B w g n l P) (hg : w.grownBy w' (some b)) (hb : b < B) : RowI B w' g n l P :=
  ⟨h.1, h.2.1, h.2.2.1.grown hg (by have := h.1; omega), fun j x hx => (h.2.2.2 j x hx).grown hg (by omega)⟩
theorem OwnI.low {B B' : Nat} {w : World} {l : List InoP} {v : Value} (h : OwnI B w l v) (hB : B' ≤ B) : OwnI B' w l v := by
  obtain ⟨ao, c, h0, h1, h2, h3, h4⟩ := h
  exact ⟨ao, c, h0, h1, h2, h3, fun hne => by obtain ⟨g, P, e, hr⟩ := h4 hne; exact ⟨g, P, e, hr.low hB⟩⟩
theorem OwnI.below {B : Nat} {w w' : World} {l : List InoP} {v : Value} (h : OwnI B w l v) (hb : Below w.heap.size w w') : OwnI B w' l v := by
  obtain ⟨ao, c, h0, h1, h2, h3, h4⟩ := h
  exact ⟨ao, c, h0, h1, h2, h3, fun hne => by obtain ⟨g, P, e, hr⟩ := h4 hne; exact ⟨g, P, e, hr.below hb⟩⟩
theorem OwnI.grown {B b : Nat} {w w' : World} {l : List InoP} {v : Value} (h : OwnI B w l v) (hg : w.grownBy w' (some b)) (hb : b < B) : OwnI B w' l v := by
  obtain ⟨ao, c, h0, h1, h2, h3, h4⟩ := h
  exact ⟨ao, c, h0, h1, h2, h3, fun hne => by obtain ⟨g, P, e, hr⟩ := h4 hne; exact ⟨g, P, e, hr.grown hg hb⟩⟩
theorem IvS.below {w w' : World} {x : InoP} {p : Sl} (h : IvS w x p) (hb : Below w.heap.size w w') : IvS w' x p := IvP.below h hb
theorem inode_copyS (x : InoP) (p : Sl) (w : World) (h : IvS w x p) (hF : FarI x) : Calls Tryz.prog 57 #[.agg (inC x p).toArray] w (AnsC x w) := by
  cases x
  cases p
  exact inode_copy _ _ _ _ _ _ _ _ _ _ _ _ _ _ _ _ _ _ _ _ _ w h hF
def AnsRI (l : List InoP) (w : World) (e : Ending) (w' : World) : Prop := Below w.heap.size w w' ∧ ∃ v, e = .returned v ∧ OwnI w.heap.size w' l v
structure FarL (l : List InoP) : Prop where
  len : l.length * 144 ≤ 140737488355328
  each : ∀ x ∈ l, FarI x
theorem all38 {cs : List Value} (h : ∀ u ∈ cs, u.oneCell' = true) : cs.toArray.all (·.oneCell') = true := all_oneCell_toArray h
set_option maxHeartbeats 8000000 in
set_option maxRecDepth 100000 in
theorem inodes_copy (ao : Option Addr) (l : List InoP) (n c : Nat) (w : World) (h : Irw w ao l) (hl : l.length = n) (hn : ao = none → c = 0) (hc : n ≤ c) (hF : FarL l) :
    Calls Tryz.prog 56 #[.slice ao n c, .func (.func 57) #[] #[]] w (AnsRI l w) := by
  have eg : ∀ args w, (callFunc 57 args).run Tryz.prog w = .ok (.enter 57 args) w := enters_of Tryz.func57 (by decide) rfl
  obtain ⟨P, hcr, hP⟩ := irw_pick h
  have CC := Lib.hid (clone_ino ao n c (flatF (inF l P) l.length) w hcr (by rw [flatF_len (k := 9) _ (fun j _ => inF_len l P j), hl]) (flatF_one fun j _ => inF_one l P j) (fun h0 => ⟨by have := hn h0; omega, hn h0⟩) (by rw [← hl]; exact hF.len))
  have HP := Lib.hid hP
  have HL := Lib.hid hl
  have HF := Lib.hid hF
  have nb : n ≤ 1099511627776 := by have := hF.len; omega
  clear h hl hn hc hF hcr hP
  go_enter Tryz.func56, Tryz.ntmps56
  go_wp2_with fail
  refine CC.out.mono ?_
  clear CC
  rintro e w1 ⟨hb, v, rfl, hown⟩
  have B1 := Lib.hid hb
  rcases Nat.eq_zero_or_pos n with rfl | hn0
  · obtain ⟨ao', c', rfl, h1, h2, h3, h4⟩ := own_cr hown
    have N1 : Hid (OwnI w.heap.size w1 l (.slice ao' 0 c')) := ⟨ao', c', by rw [HL.out], by rw [HL.out]; exact h1, h2, h3, fun hne => absurd (List.eq_nil_of_length_eq_zero HL.out) hne⟩
    clear hb hown h1 h2 h3 h4
    go_wp2_with fail
    refine wp_loop_rounds 1 ?_
    rw [rounds_succ]
    go_wp2_with fail
    go_ret
    exact ⟨B1.out, _, rfl, N1.out⟩
  rw [HL.out] at hown
  obtain ⟨g, cap, rfl, hg, hnc, hcap, hrk⟩ := own_rk_flat hown (fun j _ => inF_len l P j) hn0
  have HG : Hid (w.heap.size ≤ g ∧ n ≤ cap ∧ cap ≤ 9223372036854775807) := ⟨hg, hnc, hcap⟩
  have R1 := Lib.hid hrk
  clear hb hown hg hrk hnc hcap
  go_wp2_with fail
  go_loopw [11] (fun vi wr => ∃ (i : Nat) (Q : Nat → Sl), i ≤ n ∧ vi = .int .i64 i ∧ Hid (Rk 38 9 wr g n (inF l Q)) ∧ Hid (∀ j, i ≤ j → Q j = P j) ∧ Hid (∀ j x, j < i → l[j]? = some x → Dep (fun b => w.heap.size ≤ b ∧ b ≠ g) wr fun w' => IvS w' x (Q j)) ∧ Hid (Below w.heap.size w wr)) (fun vi _ => n - (RowKit.intOf vi).toNat)
  case atStart => exact ⟨0, P, Nat.zero_le _, rfl, R1.out, (fun j _ => rfl : ∀ j, 0 ≤ j → P j = P j), (fun j x hj => absurd hj (Nat.not_lt_zero _) : ∀ j x, j < 0 → l[j]? = some x → Dep (fun b => w.heap.size ≤ b ∧ b ≠ g) w1 fun w' => IvS w' x (P j)), B1.out⟩
  case round =>
    clear R1
    obtain ⟨i, Q, hi, rfl, hR, hO, hN, hB⟩ := hrel
    by_cases hin : i < n
    rotate_left
    · obtain rfl : i = n := by omega
      have FIN : Hid (OwnI w.heap.size wr l (.slice (some ⟨g, 0, none⟩) i cap)) := by
        refine ⟨some ⟨g, 0, none⟩, cap, by rw [HL.out], by rw [HL.out]; exact HG.out.2.1, HG.out.2.2, (fun h => by cases h), fun _ => ⟨g, Q, rfl, HG.out.1, rfl, by rw [HL.out]; exact hR.out, fun j x hx => hN.out j x ?_ hx⟩⟩
        have := (List.getElem?_eq_some_iff.1 hx).1
        have := HL.out
        omega
      clear hR hO hN
      go_wp2_with fail
      go_ret
      exact ⟨hB.out, _, rfl, FIN.out⟩
    obtain ⟨x, hx⟩ : ∃ x, l[i]? = some x := ⟨_, List.getElem?_eq_getElem (by have := HL.out; omega)⟩
    obtain ⟨cs, hcs⟩ : ∃ cs, cs = inC x (P i) := ⟨_, rfl⟩
    have hci : inF l Q i = cs := by rw [inF_at hx, hcs, hO.out i (Nat.le_refl _)]
    have RG : wr.rangeAt g (i * 9) cs := by rw [← hci]; exact rk_range hR.out hin (inF_len l Q i)
    have L9 : cs.length = 9 := by rw [hcs]; rfl
    have LS := sz38 L9
    have LT : (Tryz.prog.info? 38).map (·.size) = some cs.toArray.size := by rw [List.size_toArray]; exact LS
    have LZ : cs.toArray.size = (#[.int .i64 0, .int .i64 0, .int .i64 0, .int .i64 0, .slice none 0 0, .string ⟨#[]⟩, .slice none 0 0, .slice none 0 0, .slice none 0 0] : Array Value).size := by rw [List.size_toArray, L9]; rfl
    have CO : cs.toArray.all (·.oneCell') = true := all38 (by rw [hcs]; exact inC_one _ _)
    obtain ⟨wz, hwz⟩ : ∃ wz, wz = wr.alloc (.cells #[.int .i64 0, .int .i64 0, .int .i64 0, .int .i64 0, .slice none 0 0, .string ⟨#[]⟩, .slice none 0 0, .slice none 0 0, .slice none 0 0] 38) := ⟨_, rfl⟩
    have GZ : wz.heap[wr.heap.size]? = some (.cells #[.int .i64 0, .int .i64 0, .int .i64 0, .int .i64 0, .slice none 0 0, .string ⟨#[]⟩, .slice none 0 0, .slice none 0 0, .slice none 0 0] 38 (0, 0)) := by rw [hwz]; exact Sh.Blk.new wr [.int .i64 0, .int .i64 0, .int .i64 0, .int .i64 0, .slice none 0 0, .string ⟨#[]⟩, .slice none 0 0, .slice none 0 0, .slice none 0 0] 38 _ rfl
    obtain ⟨wm, hwm⟩ : ∃ wm, wm = wz.setRow wr.heap.size cs.toArray := ⟨_, rfl⟩
    have GM : wm.heap[wr.heap.size]? = some (.cells cs.toArray 38 (0, 0)) := by rw [hwm]; exact setRow_heap wz wr.heap.size _ cs.toArray 38 (0, 0) GZ
    have bm := below_row (hB.out.alloc hB.out.size (.cells #[.int .i64 0, .int .i64 0, .int .i64 0, .int .i64 0, .slice none 0 0, .string ⟨#[]⟩, .slice none 0 0, .slice none 0 0, .slice none 0 0] 38)) hB.out.size cs.toArray
    have bm2 := below_row ((Below.refl wr.heap.size wr).alloc (Nat.le_refl _) (.cells #[.int .i64 0, .int .i64 0, .int .i64 0, .int .i64 0, .slice none 0 0, .string ⟨#[]⟩, .slice none 0 0, .slice none 0 0, .slice none 0 0] 38)) (Nat.le_refl _) cs.toArray
    rw [← hwz, ← hwm] at bm bm2
    have BM := Lib.hid bm
    have BM2 := Lib.hid bm2
    have CC := Lib.hid (inode_copyS x (P i) wm ((HP.out i x hx).below bm) (HF.out.each x (List.mem_of_getElem? hx)))
    rw [← hcs] at CC
    have X1 := Lib.hid hx
    have HWM : Hid ((wr.alloc (.cells #[.int .i64 0, .int .i64 0, .int .i64 0, .int .i64 0, .slice none 0 0, .string ⟨#[]⟩, .slice none 0 0, .slice none 0 0, .slice none 0 0] 38)).setRow wr.heap.size cs.toArray = wm) := by show _ = _; rw [hwm, hwz]
    rw [hwz] at GZ
    rw [hwm, hwz] at GM
    clear hci hcs hwz hwm bm bm2 hx
    go_wp2_with (first | with_reducible refine wpList_load_mid rfl 38 (.tmp 14) rfl g (i * 9) rfl cs _ RG Tryz.underlying38 rfl LS ?_ | with_reducible refine wpList_store_row rfl 38 (.tmp 6) (.tmp 15) rfl wr.heap.size cs.toArray rfl rfl 38 #[.int .i64 0, .int .i64 0, .int .i64 0, .int .i64 0, .slice none 0 0, .string ⟨#[]⟩, .slice none 0 0, .slice none 0 0, .slice none 0 0] GZ LT LZ.symm CO ?_ | with_reducible refine wpList_load_row rfl 38 (.tmp 6) rfl wr.heap.size rfl 38 cs.toArray (0, 0) _ GM Tryz.underlying38 rfl LT ?_)
    rw [HWM.out]
    refine CC.out.mono ?_
    clear CC HWM GZ GM RG CO LS LT LZ
    rintro e w2 ⟨hb, p, rfl, hnew⟩
    have R1 := (hR.out.below BM2.out).below hb
    have gltm : g < wm.heap.size := (hR.out.below BM2.out).lt
    obtain ⟨ds, hds⟩ : ∃ ds, ds = inC x p := ⟨_, rfl⟩
    have D9 : ds.length = 9 := by rw [hds]; rfl
    have TH : w2.there g (i * 9) ds.toArray.size := by rw [List.size_toArray, D9]; exact rk_there R1 hin (inF_len l Q i)
    have DT : (Tryz.prog.info? 38).map (·.size) = some ds.toArray.size := by rw [List.size_toArray]; exact sz38 D9
    have DO : ds.toArray.all (·.oneCell') = true := all38 (by rw [hds]; exact inC_one _ _)
    have gs := gb_sets g ds (i * 9) w2
    have R2 := R1.set hin ds D9
    have HQ : (fun j => if j = i then ds else inF l Q j) = inF l (fun j => if j = i then p else Q j) := by
      funext j
      by_cases hji : j = i
      · subst hji
        rw [if_pos rfl, inF_at X1.out, if_pos rfl, hds]
      · rw [if_neg hji]
        unfold inF
        simp only [if_neg hji]
    rw [HQ] at R2
    have RR2 := Lib.hid R2
    have B2 := Lib.hid (below_own (below_chain BM.out hb) gs HG.out.1)
    have N2 : Hid (∀ j x, j < i + 1 → l[j]? = some x → Dep (fun b => w.heap.size ≤ b ∧ b ≠ g) (w2.setCells g (i * 9) ds) fun w' => IvS w' x (if j = i then p else Q j)) := by
      intro j y hj hy
      by_cases hji : j = i
      · subst hji
        rw [X1.out] at hy
        injection hy with hy
        subst hy
        simp only [if_true]
        exact (hnew.grown gs (by omega)).mono fun b hb' => ⟨Nat.le_trans BM.out.size hb', by omega⟩
      · simp only [if_neg hji]
        exact (((hN.out j y (by omega) hy).below BM2.out).below hb).grown gs (fun h => h.2 rfl)
    have O2 : Hid (∀ j, i + 1 ≤ j → (if j = i then p else Q j) = P j) := fun j hj => by
      rw [if_neg (by omega)]
      exact hO.out j (by omega)
    have hwi : IntKind.i64.wrap ((i : Int) + 1) = (i : Int) + 1 := by rw [IntKind.wrap]; simp [IntKind.bits, IntKind.signed]; omega
    rw [← hds]
    clear hR hO hN hb hnew R1 R2 HQ gs hB hds
    go_wp2_with (with_reducible refine wpList_store_mid rfl 38 (.tmp 21) (.tmp 20) rfl g (i * 9) ds.toArray rfl rfl TH DT DO ?_)
    go_roundw
    case rel => exact ⟨i + 1, fun j => if j = i then p else Q j, hin, by go_num, RR2, O2, N2, B2⟩
    case measure => simp only [RowKit.intOf]; omega
end Go.Proofs.YtcgbaiogbcodcaaGreatDoor.Lw
namespace Go.Proofs.YtcgbaiogbcodcaaGreatDoor.Lw
open Go.RowKit Go.Lib Go.Proofs.YtcgbaiogbcodcaaGreatDoor.Sh Go.Proofs.YtcgbaiogbcodcaaGreatDoor.Lb Go.Proofs.YtcgbaiogbcodcaaGreatDoor.Pf
open Go.Maps

/-- what the copy of a file system is -/
def AnsFs (l : List InoP) (nx : Int) (w : World) (e : Ending) (w' : World) : Prop := Below w.heap.size w w' ∧ ∃ v, e = .returned (.agg #[v, .int .i64 nx]) ∧ OwnI w.heap.size w' l v
set_option maxHeartbeats 8000000 in
set_option maxRecDepth 100000 in
theorem renewed_any (ao : Option Addr) (l : List InoP) (n c : Nat) (nx : Int) (w : World) (h : Irw w ao l) (hl : l.length = n) (hn : ao = none → c = 0) (hc : n ≤ c) (hF : FarL l) :
    Calls Tryz.prog 37 #[.agg #[.slice ao n c, .int .i64 nx]] w (AnsFs l nx w) := by
  obtain ⟨w1, hw1⟩ : ∃ w1, w1 = (w.alloc (.cells #[.slice ao n c, .int .i64 nx] 24)).alloc (.cells #[.slice none 0 0, .int .i64 0] 24) := ⟨_, rfl⟩
  have b0 : Below w.heap.size w (w.alloc (.cells #[.slice ao n c, .int .i64 nx] 24)) := (Below.refl _ w).alloc (Nat.le_refl _) _
  have b1 : Below w.heap.size w w1 := by rw [hw1]; exact b0.alloc b0.size _
  have s1 : w1.heap.size = w.heap.size + 2 := by rw [hw1]; simp
  have x1 : Sh.Blk w1 w.heap.size [.slice ao n c, .int .i64 nx] 24 := by rw [hw1]; exact (Sh.Blk.new w [.slice ao n c, .int .i64 nx] 24 _ rfl).alloc _
  have r1 : Sh.Blk w1 (w.heap.size + 1) [.slice none 0 0, .int .i64 0] 24 := by rw [hw1]; exact Sh.Blk.new _ [.slice none 0 0, .int .i64 0] 24 _ (by simp)
  have CC := Lib.hid (inodes_copy ao l n c w1 (h.below b1) hl hn hc hF)
  have B1 := Lib.hid b1
  have X1 := Lib.hid x1
  have R1 := Lib.hid r1
  have S1 := Lib.hid s1
  have HW1 := Lib.hid hw1
  have c0 := x1.cell 0
  simp only [List.getElem?_cons_zero] at c0
  rw [hw1] at c0
  clear h hl hn hc hF x1 r1 b0 b1 s1 hw1
  go_enter Tryz.func37, Tryz.ntmps37
  go_wp2_with fail
  rw [← HW1.out]
  refine CC.out.mono ?_
  clear CC HW1 c0
  rintro e w2 ⟨hb, v, rfl, hown⟩
  obtain ⟨vo, hvo⟩ : ∃ vo, vo = v := ⟨_, rfl⟩
  have X2 := X1.out.low hb
  have R2 := R1.out.low hb
  have VO : Hid (OwnI w1.heap.size w2 l v) := hown
  obtain ⟨ao', c', rfl, _⟩ := hown
  have X3 := X2.set 0 (.slice ao' l.length c')
  have gs := grownBy_setCell w2 w.heap.size 0 (.slice ao' l.length c')
  have R3 := blk_grown R2 gs (by omega)
  have c0 := X2.cell 0
  have f0 := X2.frozen 0
  have d0 := X3.cell 0
  have d1 := X3.cell 1
  have e0 := R3.cell 0
  have e1 := R3.cell 1
  have g0 := R3.frozen 0
  have g1 := R3.frozen 1
  simp only [List.set_cons_zero, List.getElem?_cons_zero, List.getElem?_cons_succ] at c0 d0 d1 e0 e1
  have K4 := Lib.hid ((R3.set 0 (.slice ao' l.length c')).set 1 (.int .i64 nx))
  have gs2 := grownBy_trans (grownBy_setCell (w2.setCell ⟨w.heap.size, 0, none⟩ (.slice ao' l.length c')) (w.heap.size + 1) 0 (.slice ao' l.length c')) (grownBy_setCell _ (w.heap.size + 1) 1 (.int .i64 nx))
  have B4 := Lib.hid (below_own (below_own (below_chain B1.out hb) gs (Nat.le_refl _)) gs2 (Nat.le_succ _))
  have O4 := Lib.hid (((VO.out.grown gs (by have := S1.out; omega)).grown gs2 (by have := S1.out; omega)).low (B' := w.heap.size) (by have := S1.out; omega))
  have ne1 : ¬ w.heap.size = w.heap.size + 1 := by omega
  have ne2 : ¬ w.heap.size + 1 = w.heap.size := by omega
  clear hb X2 R2 X3 R3 gs gs2 VO X1 R1 S1 B1 hvo
  go_wp2_with fail
  exact bodyPost_ret (results_cell_row rfl _ _ (w.heap.size + 1) 24 _ (0, 0) _ rfl K4.out Tryz.underlying24 rfl (size24 _ _)) rfl ⟨B4.out, _, rfl, O4.out⟩
/-- what an inode with so many more places is -/
def linkP (x : InoP) (more : Int) : InoP := if x.kind = 2 then x else { x with links := x.links + more }
theorem inC_link (x : InoP) (p : Sl) (more : Int) (h : x.kind ≠ 2) : inC (linkP x more) p = (inC x p).set 3 (.int .i64 (x.links + more)) := by
  unfold linkP
  rw [if_neg h]
  rfl
theorem inC_same (x : InoP) (p : Sl) (more : Int) (h : x.kind = 2) : inC (linkP x more) p = inC x p := by
  unfold linkP
  rw [if_pos h]
theorem ivS_link {w : World} {x : InoP} {p : Sl} (h : IvS w x p) (more : Int) : IvS w (linkP x more) p := by
  unfold linkP
  split
  · exact h
  · exact { h with }
set_option maxHeartbeats 8000000 in
set_option maxRecDepth 100000 in
theorem linked_any (x : InoP) (p : Sl) (more : Int) (w : World) (h1 : -1000000 ≤ x.links) (h2 : x.links ≤ 1000000) (h3 : -1 ≤ more) (h4 : more ≤ 1) :
    Calls Tryz.prog 50 #[.agg (inC x p).toArray, .int .i64 more] w fun e w' => Below w.heap.size w w' ∧ e = .returned (.agg (inC (linkP x more) p).toArray) := by
  obtain ⟨xn, xk, xm, xl, xd, xt, xs, xz, xa⟩ := x
  obtain ⟨da, dn, dc, na, nn, nc, za, zn, zc, aa, an, ac⟩ := p
  simp only at h1 h2
  have hwi : IntKind.i64.wrap (xl + more) = xl + more := by rw [IntKind.wrap]; simp [IntKind.bits, IntKind.signed]; omega
  obtain ⟨w1, hw1⟩ : ∃ w1, w1 = (w.alloc (.cells #[.int .i64 xn, .int .i64 xk, .int .i64 xm, .int .i64 xl, .slice da dn dc, .string xt, .slice na nn nc, .slice za zn zc, .slice aa an ac] 38)).alloc (.cells #[.int .i64 0, .int .i64 0, .int .i64 0, .int .i64 0, .slice none 0 0, .string ⟨#[]⟩, .slice none 0 0, .slice none 0 0, .slice none 0 0] 38) := ⟨_, rfl⟩
  have b0 : Below w.heap.size w (w.alloc (.cells #[.int .i64 xn, .int .i64 xk, .int .i64 xm, .int .i64 xl, .slice da dn dc, .string xt, .slice na nn nc, .slice za zn zc, .slice aa an ac] 38)) := (Below.refl _ w).alloc (Nat.le_refl _) _
  have b1 : Below w.heap.size w w1 := by rw [hw1]; exact b0.alloc b0.size _
  have x1 : Sh.Blk w1 w.heap.size [.int .i64 xn, .int .i64 xk, .int .i64 xm, .int .i64 xl, .slice da dn dc, .string xt, .slice na nn nc, .slice za zn zc, .slice aa an ac] 38 := by rw [hw1]; exact (Sh.Blk.new w [.int .i64 xn, .int .i64 xk, .int .i64 xm, .int .i64 xl, .slice da dn dc, .string xt, .slice na nn nc, .slice za zn zc, .slice aa an ac] 38 _ rfl).alloc _
  have r1 : Sh.Blk w1 (w.heap.size + 1) [.int .i64 0, .int .i64 0, .int .i64 0, .int .i64 0, .slice none 0 0, .string ⟨#[]⟩, .slice none 0 0, .slice none 0 0, .slice none 0 0] 38 := by rw [hw1]; exact Sh.Blk.new _ [.int .i64 0, .int .i64 0, .int .i64 0, .int .i64 0, .slice none 0 0, .string ⟨#[]⟩, .slice none 0 0, .slice none 0 0, .slice none 0 0] 38 _ (by simp)
  have k1 := x1.cell 1
  have k3 := x1.cell 3
  have f3 := x1.frozen 3
  simp only [List.getElem?_cons_zero, List.getElem?_cons_succ] at k1 k3
  show Calls _ _ #[.agg #[.int .i64 xn, .int .i64 xk, .int .i64 xm, .int .i64 xl, .slice da dn dc, .string xt, .slice na nn nc, .slice za zn zc, .slice aa an ac], .int .i64 more] _ _
  by_cases hk : xk = 2
  · subst hk
    have G1 : w1.heap[w.heap.size]? = some (.cells #[.int .i64 xn, .int .i64 2, .int .i64 xm, .int .i64 xl, .slice da dn dc, .string xt, .slice na nn nc, .slice za zn zc, .slice aa an ac] 38 (0, 0)) := x1
    have G2 : w1.heap[w.heap.size + 1]? = some (.cells #[.int .i64 0, .int .i64 0, .int .i64 0, .int .i64 0, .slice none 0 0, .string ⟨#[]⟩, .slice none 0 0, .slice none 0 0, .slice none 0 0] 38 (0, 0)) := r1
    have K := Lib.hid (setRow_heap w1 (w.heap.size + 1) _ #[.int .i64 xn, .int .i64 2, .int .i64 xm, .int .i64 xl, .slice da dn dc, .string xt, .slice na nn nc, .slice za zn zc, .slice aa an ac] 38 (0, 0) G2)
    have B2 := Lib.hid (below_row b1 (Nat.le_succ _) #[.int .i64 xn, .int .i64 2, .int .i64 xm, .int .i64 xl, .slice da dn dc, .string xt, .slice na nn nc, .slice za zn zc, .slice aa an ac])
    rw [hw1] at k1 G1 G2 K B2
    clear b0 b1 x1 r1 hw1 k3 f3 hwi
    go_enter Tryz.func50, Tryz.ntmps50
    go_wp2_with (first | with_reducible refine wpList_load_row rfl 38 (.tmp 2) rfl w.heap.size rfl 38 _ (0, 0) _ G1 Tryz.underlying38 rfl (size9 _ _ _ _ _ _ _ _ _) ?_ | with_reducible refine wpList_store_row rfl 38 (.tmp 4) (.tmp 13) rfl (w.heap.size + 1) _ rfl rfl 38 #[.int .i64 0, .int .i64 0, .int .i64 0, .int .i64 0, .slice none 0 0, .string ⟨#[]⟩, .slice none 0 0, .slice none 0 0, .slice none 0 0] G2 (size9 _ _ _ _ _ _ _ _ _) (sz9 _ _ _ _ _ _ _ _ _ _ _ _ _ _ _ _ _ _) (all9 _ _ _ _ _ _ _ _ _ _ _ _ _ _ _ _ _) ?_)
    exact bodyPost_ret (results_cell_row rfl _ _ (w.heap.size + 1) 38 _ (0, 0) _ rfl K.out Tryz.underlying38 rfl (size9 _ _ _ _ _ _ _ _ _)) rfl ⟨B2.out, rfl⟩
  · have hk' : (xk == 2) = false := by simpa using hk
    have hk2 : (xk != 2) = true := by simpa using hk
    have K : Hid (((w.alloc (.cells #[.int .i64 xn, .int .i64 xk, .int .i64 xm, .int .i64 (xl + more), .slice da dn dc, .string xt, .slice na nn nc, .slice za zn zc, .slice aa an ac] 38)).alloc (.cells #[.int .i64 xn, .int .i64 xk, .int .i64 xm, .int .i64 (xl + more), .slice da dn dc, .string xt, .slice na nn nc, .slice za zn zc, .slice aa an ac] 38)).heap[w.heap.size + 1]? = some (.cells #[.int .i64 xn, .int .i64 xk, .int .i64 xm, .int .i64 (xl + more), .slice da dn dc, .string xt, .slice na nn nc, .slice za zn zc, .slice aa an ac] 38 (0, 0))) := Sh.Blk.new (w.alloc (.cells #[.int .i64 xn, .int .i64 xk, .int .i64 xm, .int .i64 (xl + more), .slice da dn dc, .string xt, .slice na nn nc, .slice za zn zc, .slice aa an ac] 38)) [.int .i64 xn, .int .i64 xk, .int .i64 xm, .int .i64 (xl + more), .slice da dn dc, .string xt, .slice na nn nc, .slice za zn zc, .slice aa an ac] 38 (w.heap.size + 1) (by simp)
    have B2 : Hid (Below w.heap.size w ((w.alloc (.cells #[.int .i64 xn, .int .i64 xk, .int .i64 xm, .int .i64 (xl + more), .slice da dn dc, .string xt, .slice na nn nc, .slice za zn zc, .slice aa an ac] 38)).alloc (.cells #[.int .i64 xn, .int .i64 xk, .int .i64 xm, .int .i64 (xl + more), .slice da dn dc, .string xt, .slice na nn nc, .slice za zn zc, .slice aa an ac] 38))) := below_alloc (below_alloc (Below.refl _ w) _) _
    rw [hw1] at k1 k3 f3
    have HK : Hid (inC (linkP ⟨xn, xk, xm, xl, xd, xt, xs, xz, xa⟩ more) ⟨da, dn, dc, na, nn, nc, za, zn, zc, aa, an, ac⟩ = [.int .i64 xn, .int .i64 xk, .int .i64 xm, .int .i64 (xl + more), .slice da dn dc, .string xt, .slice na nn nc, .slice za zn zc, .slice aa an ac]) := inC_link _ _ more hk
    clear b0 b1 x1 r1 hw1
    go_enter Tryz.func50, Tryz.ntmps50
    go_wp2_with fail
    exact bodyPost_ret (results_cell_row rfl _ _ (w.heap.size + 1) 38 _ (0, 0) _ rfl K.out Tryz.underlying38 rfl (size9 _ _ _ _ _ _ _ _ _)) rfl ⟨B2.out, by rw [HK.out]⟩
end Go.Proofs.YtcgbaiogbcodcaaGreatDoor.Lw
namespace Go.Proofs.YtcgbaiogbcodcaaGreatDoor.Lw
open Go.RowKit Go.Lib Go.Proofs.YtcgbaiogbcodcaaGreatDoor.Sh Go.Proofs.YtcgbaiogbcodcaaGreatDoor.Lb Go.Proofs.YtcgbaiogbcodcaaGreatDoor.Pf
open Go.Maps

/-- rows of cells, a slice in each cell of a block -/
def Rws (w : World) (b o k : Nat) (rows : List (Nat × List Value)) : Prop :=
  ∀ j x, rows[j]? = some x → ∃ ao c, w.cell? ⟨b, o + j, none⟩ = some (.slice ao x.1 c) ∧ Cr w ao x.2 ∧ x.2.length = x.1 * k ∧ (∀ u ∈ x.2, u.oneCell' = true) ∧ (ao = none → x.1 = 0 ∧ c = 0)
def sumR (rows : List (Nat × List Value)) (i : Nat) : Nat := ((rows.take i).map (·.1)).sum
def flatR (rows : List (Nat × List Value)) (i : Nat) : List Value := ((rows.take i).map (·.2)).flatten
theorem sumR_succ {rows : List (Nat × List Value)} {i : Nat} {x : Nat × List Value} (h : rows[i]? = some x) : sumR rows (i + 1) = sumR rows i + x.1 := by
  rw [sumR, List.take_add_one, h]
  simp [sumR]
theorem flatR_succ {rows : List (Nat × List Value)} {i : Nat} {x : Nat × List Value} (h : rows[i]? = some x) : flatR rows (i + 1) = flatR rows i ++ x.2 := by
  rw [flatR, List.take_add_one, h]
  simp [flatR]
theorem sumR_le (rows : List (Nat × List Value)) (i d : Nat) : sumR rows i ≤ sumR rows (i + d) := by
  induction d with
  | zero => exact Nat.le_refl _
  | succ d ih =>
    cases h : rows[i + d]? with
    | none =>
      have : sumR rows (i + d + 1) = sumR rows (i + d) := by rw [sumR, List.take_add_one, h]; simp [sumR]
      rw [show i + (d + 1) = i + d + 1 from rfl, this]
      exact ih
    | some x =>
      rw [show i + (d + 1) = i + d + 1 from rfl, sumR_succ h]
      omega
theorem sumR_top (rows : List (Nat × List Value)) {i N : Nat} (h : i ≤ N) : sumR rows i ≤ sumR rows N := by
  have := sumR_le rows i (N - i)
  rwa [show i + (N - i) = N by omega] at this
set_option maxHeartbeats 1000000 in
set_option maxRecDepth 100000 in
theorem grow_ino (n : Nat) (h1 : 1 ≤ n) (h2 : n ≤ 1000000) (w : World) :
    Calls Tryz.prog 80 #[.slice none 0 0, .int .i64 n] w (AnsK 38 9 0 [] w) := by
  obtain ⟨i0, hi, hz0, hz1, hz2⟩ := info_parts kinf_ino
  have hr : ∀ ty, (Builtin.append_ #[22, 3] ty #[.slice none 0 0, .int .i64 (n : Int)]).run Tryz.prog w = _ := fun ty =>
    Lib.run_append_grow_zeros w 22 3 ty 38 i0 (.agg #[.int .i64 0, .int .i64 0, .int .i64 0, .int .i64 0, .slice none 0 0, .string ⟨#[]⟩, .slice none 0 0, .slice none 0 0, .slice none 0 0]) .i64 .i64 Tryz.underlying22 Tryz.underlying3 hi hz0 none 0 0 [] (run_firstCells_none _ _ _ _ _) n (by omega) (by rw [hz1]; omega) (by omega) (by omega)
      (by rw [hz2]; omega) (by rw [hz2]; exact growslice_fits (by omega) (by omega))
  rw [Nat.zero_add] at hr
  have hge := grownCap_ge w n 0 38
  have hcm := grownCap_le_maxLen w n 0 38 (by unfold maxLen; omega)
  obtain ⟨G, hG⟩ : ∃ G, G = grownCap w n 0 38 := ⟨_, rfl⟩
  obtain ⟨O, hO⟩ : ∃ O, O = Obj.cells ((([] : List Value).toArray ++ Builtin.zeroCells ((.agg #[.int .i64 0, .int .i64 0, .int .i64 0, .int .i64 0, .slice none 0 0, .string ⟨#[]⟩, .slice none 0 0, .slice none 0 0, .slice none 0 0]) : Value).cells n) ++ Builtin.zeroCells ((.agg #[.int .i64 0, .int .i64 0, .int .i64 0, .int .i64 0, .slice none 0 0, .string ⟨#[]⟩, .slice none 0 0, .slice none 0 0, .slice none 0 0]) : Value).cells (G - n)) 38 := ⟨_, rfl⟩
  rw [← hG] at hr hge hcm
  rw [← hO] at hr
  have hown : Hid ((w.drew.alloc O).ownsRow w.heap.size 38 9 (.slice (some ⟨w.heap.size, 0, none⟩) 0 G) 0 []) := by
    refine ⟨by simp, Or.inr ⟨w.heap.size, G, _, rfl, Nat.le_refl _, by rw [hO]; exact heap_alloc_new w.drew _, Nat.zero_le _, hcm, ?_, by simp⟩⟩
    have hz1 : ((.agg #[.int .i64 0, .int .i64 0, .int .i64 0, .int .i64 0, .slice none 0 0, .string ⟨#[]⟩, .slice none 0 0, .slice none 0 0, .slice none 0 0]) : Value).cells.size = 9 := rfl
    simp only [Array.size_append, List.size_toArray, size_zeroCells, hz1, List.length_nil]
    omega
  have hb : Hid (Below w.heap.size w (w.drew.alloc O)) := (Below.refl _ w).drew.alloc (Nat.le_refl _) _
  unfold maxLen at hcm
  clear hO hG
  go_enter Tryz.func80, Tryz.ntmps80
  go_wp2_with (at_builtin; refine Lib.wpList_append_run _ rfl _ _ _ _ rfl _ _ rfl rfl _ _ (hr _) ?_)
  all_goals (go_ret; exact ⟨hb.out, _, rfl, hown.out⟩)
set_option maxRecDepth 100000 in
theorem grow0_ino (w : World) : Calls Tryz.prog 80 #[.slice none 0 0, .int .i64 0] w (AnsK 38 9 0 [] w) := by
  go_enter Tryz.func80, Tryz.ntmps80
  go_wp2
  go_ret
  exact ⟨Below.refl _ _, _, rfl, World.ownsRow_nil _ _ _ _⟩
theorem growa_ino (n : Nat) (h2 : n ≤ 1000000) (w : World) : Calls Tryz.prog 80 #[.slice none 0 0, .int .i64 n] w (AnsK 38 9 0 [] w) := by
  rcases Nat.eq_zero_or_pos n with rfl | h
  · exact grow0_ino w
  · exact grow_ino n h h2 w
set_option maxHeartbeats 4000000 in
set_option maxRecDepth 100000 in
/-- rows, one behind the other -/
theorem concat_ino (b o N cap : Nat) (rows : List (Nat × List Value)) (w : World) (h : Rws w b o 9 rows) (hN : rows.length = N) (hN2 : N ≤ 1000000) (hk : b < w.heap.size) (hbig : sumR rows N ≤ 1000000) :
    Calls Tryz.prog 60 #[.slice (some ⟨b, o, none⟩) N cap] w (AnsK 38 9 (sumR rows N) (flatR rows N) w) := by
  have HR := Lib.hid h
  have HN := Lib.hid hN
  obtain ⟨T, hT⟩ : ∃ T, T = sumR rows N := ⟨_, rfl⟩
  have C1 := Lib.hid (growa_ino (sumR rows N) hbig w)
  rw [← hT] at C1 hbig ⊢
  have HT := Lib.hid hT
  clear h hN hT
  go_enter Tryz.func60, Tryz.ntmps60
  go_wp2_with fail
  go_loop [3, 11] (fun vs vi => ∃ (i s : Nat), i ≤ N ∧ vi = .int .i64 i ∧ vs = .int .i64 s ∧ Hid (s = sumR rows i)) (fun _ vi => N - (RowKit.intOf vi).toNat)
  case atStart => exact ⟨0, 0, by omega, rfl, rfl, rfl⟩
  case round =>
    obtain ⟨i, s, hi, rfl, rfl, hs⟩ := hrel
    by_cases hiN : i < N
    · obtain ⟨x, hx⟩ : ∃ x, rows[i]? = some x := ⟨_, List.getElem?_eq_getElem (by rw [HN.out]; exact hiN)⟩
      obtain ⟨ao, c, e0, _, _, _, _⟩ := HR.out i x hx
      have hnx := sumR_succ hx
      have hl2 := sumR_top rows (show i + 1 ≤ N from hiN)
      rw [hnx, ← HT.out, ← hs.out] at hl2
      rw [← hs.out] at hnx
      have HX := Lib.hid hnx
      obtain ⟨p, lx⟩ := x
      simp only at e0 hl2 HX
      have q1 : (0 : Int) ≤ (i : Int) := by omega
      clear hnx hx
      go_wp2_with fail
      go_round
      case rel => exact ⟨i + 1, s + p, by omega, by go_num, by go_num, HX.out.symm⟩
      case measure => simp [RowKit.intOf]; omega
    · obtain rfl : i = N := by omega
      have hsT : s = T := by rw [hs.out, ← HT.out]
      subst hsT
      clear hs
      go_wp2_with fail
      refine C1.out.mono ?_
      clear C1
      rintro e w1 ⟨hb1, v0, rfl, hown0⟩
      have O0 := Lib.hid hown0
      have BB0 := Lib.hid hb1
      clear hown0 hb1
      go_wp2_with fail
      go_loopw [6, 27] (fun v vi wr => ∃ (j : Nat), j ≤ i ∧ vi = .int .i64 j ∧ Hid (wr.ownsRow w.heap.size 38 9 v (sumR rows j) (flatR rows j)) ∧ Hid (Below w.heap.size w wr)) (fun _ vi _ => i - (RowKit.intOf vi).toNat)
      case atStart => exact ⟨0, by omega, rfl, (by simpa [sumR, flatR] using O0.out : World.ownsRow _ _ _ _ _ (sumR rows 0) (flatR rows 0)), BB0.out⟩
      case round =>
        obtain ⟨j, hj, rfl, OWN, BB⟩ := hrel
        have hbz := BB.out.size
        by_cases hji : j < i
        · obtain ⟨x, hx⟩ : ∃ x, rows[j]? = some x := ⟨_, List.getElem?_eq_getElem (by rw [HN.out]; exact hji)⟩
          obtain ⟨ao, c, e0, hr, hlx, hone, hn⟩ := HR.out j x hx
          have f0 := (BB.out.cell (p := ⟨b, o + j, none⟩) hk).trans e0
          have hl2 := sumR_top rows (show j + 1 ≤ i from hji)
          rw [sumR_succ hx, ← HT.out] at hl2
          have HX := Lib.hid (sumR_succ hx)
          have HY := Lib.hid (flatR_succ hx)
          obtain ⟨p, lx⟩ := x
          simp only at f0 hr hlx hone hn hl2 HX HY
          obtain ⟨acc, hacc⟩ : ∃ acc, acc = flatR rows j := ⟨_, rfl⟩
          obtain ⟨m, hm⟩ : ∃ m, m = sumR rows j := ⟨_, rfl⟩
          rw [← hacc] at OWN HY
          rw [← hm] at OWN HX hl2
          have RB := Lib.hid (hr.below BB.out)
          have HLX := Lib.hid hlx
          have HON := Lib.hid hone
          have HNN := Lib.hid hn
          have P47 : Hid ((m + p) * 144 ≤ 140737488355328) := by show _ ≤ _; omega
          have P63 : Hid (m + p ≤ 9223372036854775807) := by show _ ≤ _; omega
          have HBZ := Lib.hid hbz
          have q1 : (0 : Int) ≤ (j : Int) := by omega
          clear hr hlx hone hn hx hacc hm e0 hl2 hbz
          go_wp2_with (at_builtin; refine wpl_appk rfl (.tmp 31) (.tmp 32) 22 38 9 144 (.agg #[.int .i64 0, .int .i64 0, .int .i64 0, .int .i64 0, .slice none 0 0, .string ⟨#[]⟩, .slice none 0 0, .slice none 0 0, .slice none 0 0]) rfl Tryz.underlying22 kinf_ino rfl (by decide) w.heap.size m _ acc lx rfl OWN ao p c rfl RB HLX HON HNN P47 P63 HBZ ?_; intro v' w' hown' hgrow)
          have OWN' : Hid (w'.ownsRow w.heap.size 38 9 v' (sumR rows (j + 1)) (flatR rows (j + 1))) := by
            show World.ownsRow _ _ _ _ _ _ _
            rw [HX.out, HY.out]
            exact hown'
          have BB' : Hid (Below w.heap.size w w') := BB.out.grown hgrow HBZ.out (fun k hk => (OWN.out.lt k hk).1)
          clear hown' hgrow
          go_wp2_with fail
          go_roundw
          case rel => exact ⟨j + 1, by omega, by go_num, OWN', BB'⟩
          case measure => simp [RowKit.intOf]; omega
        · obtain rfl : j = i := by omega
          have O9 := OWN.out
          rw [← HT.out] at O9
          have O8 := Lib.hid O9
          clear O9
          go_wp2_with fail
          go_ret
          exact ⟨BB.out, _, rfl, O8.out⟩
set_option maxHeartbeats 1000000 in
set_option maxRecDepth 100000 in
theorem grow_txt (n : Nat) (h1 : 1 ≤ n) (h2 : n ≤ 1000000) (w : World) :
    Calls Tryz.prog 86 #[.slice none 0 0, .int .i64 n] w (AnsK 9 1 0 [] w) := by
  obtain ⟨i0, hi, hz0, hz1, hz2⟩ := info_parts kinf_txt
  have hr : ∀ ty, (Builtin.append_ #[34, 3] ty #[.slice none 0 0, .int .i64 (n : Int)]).run Tryz.prog w = _ := fun ty =>
    Lib.run_append_grow_zeros w 34 3 ty 9 i0 (.string ⟨#[]⟩) .i64 .i64 Tryz.underlying34 Tryz.underlying3 hi hz0 none 0 0 [] (run_firstCells_none _ _ _ _ _) n (by omega) (by rw [hz1]; omega) (by omega) (by omega)
      (by rw [hz2]; omega) (by rw [hz2]; exact growslice_fits (by omega) (by omega))
  rw [Nat.zero_add] at hr
  have hge := grownCap_ge w n 0 9
  have hcm := grownCap_le_maxLen w n 0 9 (by unfold maxLen; omega)
  obtain ⟨G, hG⟩ : ∃ G, G = grownCap w n 0 9 := ⟨_, rfl⟩
  obtain ⟨O, hO⟩ : ∃ O, O = Obj.cells ((([] : List Value).toArray ++ Builtin.zeroCells ((.string ⟨#[]⟩) : Value).cells n) ++ Builtin.zeroCells ((.string ⟨#[]⟩) : Value).cells (G - n)) 9 := ⟨_, rfl⟩
  rw [← hG] at hr hge hcm
  rw [← hO] at hr
  have hown : Hid ((w.drew.alloc O).ownsRow w.heap.size 9 1 (.slice (some ⟨w.heap.size, 0, none⟩) 0 G) 0 []) := by
    refine ⟨by simp, Or.inr ⟨w.heap.size, G, _, rfl, Nat.le_refl _, by rw [hO]; exact heap_alloc_new w.drew _, Nat.zero_le _, hcm, ?_, by simp⟩⟩
    have hz1 : ((.string ⟨#[]⟩) : Value).cells.size = 1 := rfl
    simp only [Array.size_append, List.size_toArray, size_zeroCells, hz1, List.length_nil]
    omega
  have hb : Hid (Below w.heap.size w (w.drew.alloc O)) := (Below.refl _ w).drew.alloc (Nat.le_refl _) _
  unfold maxLen at hcm
  clear hO hG
  go_enter Tryz.func86, Tryz.ntmps86
  go_wp2_with (at_builtin; refine Lib.wpList_append_run _ rfl _ _ _ _ rfl _ _ rfl rfl _ _ (hr _) ?_)
  all_goals (go_ret; exact ⟨hb.out, _, rfl, hown.out⟩)
set_option maxRecDepth 100000 in
theorem grow0_txt (w : World) : Calls Tryz.prog 86 #[.slice none 0 0, .int .i64 0] w (AnsK 9 1 0 [] w) := by
  go_enter Tryz.func86, Tryz.ntmps86
  go_wp2
  go_ret
  exact ⟨Below.refl _ _, _, rfl, World.ownsRow_nil _ _ _ _⟩
theorem growa_txt (n : Nat) (h2 : n ≤ 1000000) (w : World) : Calls Tryz.prog 86 #[.slice none 0 0, .int .i64 n] w (AnsK 9 1 0 [] w) := by
  rcases Nat.eq_zero_or_pos n with rfl | h
  · exact grow0_txt w
  · exact grow_txt n h h2 w
set_option maxHeartbeats 4000000 in
set_option maxRecDepth 100000 in
/-- rows, one behind the other -/
theorem concat_txt (b o N cap : Nat) (rows : List (Nat × List Value)) (w : World) (h : Rws w b o 1 rows) (hN : rows.length = N) (hN2 : N ≤ 1000000) (hk : b < w.heap.size) (hbig : sumR rows N ≤ 1000000) :
    Calls Tryz.prog 68 #[.slice (some ⟨b, o, none⟩) N cap] w (AnsK 9 1 (sumR rows N) (flatR rows N) w) := by
  have HR := Lib.hid h
  have HN := Lib.hid hN
  obtain ⟨T, hT⟩ : ∃ T, T = sumR rows N := ⟨_, rfl⟩
  have C1 := Lib.hid (growa_txt (sumR rows N) hbig w)
  rw [← hT] at C1 hbig ⊢
  have HT := Lib.hid hT
  clear h hN hT
  go_enter Tryz.func68, Tryz.ntmps68
  go_wp2_with fail
  go_loop [3, 11] (fun vs vi => ∃ (i s : Nat), i ≤ N ∧ vi = .int .i64 i ∧ vs = .int .i64 s ∧ Hid (s = sumR rows i)) (fun _ vi => N - (RowKit.intOf vi).toNat)
  case atStart => exact ⟨0, 0, by omega, rfl, rfl, rfl⟩
  case round =>
    obtain ⟨i, s, hi, rfl, rfl, hs⟩ := hrel
    by_cases hiN : i < N
    · obtain ⟨x, hx⟩ : ∃ x, rows[i]? = some x := ⟨_, List.getElem?_eq_getElem (by rw [HN.out]; exact hiN)⟩
      obtain ⟨ao, c, e0, _, _, _, _⟩ := HR.out i x hx
      have hnx := sumR_succ hx
      have hl2 := sumR_top rows (show i + 1 ≤ N from hiN)
      rw [hnx, ← HT.out, ← hs.out] at hl2
      rw [← hs.out] at hnx
      have HX := Lib.hid hnx
      obtain ⟨p, lx⟩ := x
      simp only at e0 hl2 HX
      have q1 : (0 : Int) ≤ (i : Int) := by omega
      clear hnx hx
      go_wp2_with fail
      go_round
      case rel => exact ⟨i + 1, s + p, by omega, by go_num, by go_num, HX.out.symm⟩
      case measure => simp [RowKit.intOf]; omega
    · obtain rfl : i = N := by omega
      have hsT : s = T := by rw [hs.out, ← HT.out]
      subst hsT
      clear hs
      go_wp2_with fail
      refine C1.out.mono ?_
      clear C1
      rintro e w1 ⟨hb1, v0, rfl, hown0⟩
      have O0 := Lib.hid hown0
      have BB0 := Lib.hid hb1
      clear hown0 hb1
      go_wp2_with fail
      go_loopw [6, 27] (fun v vi wr => ∃ (j : Nat), j ≤ i ∧ vi = .int .i64 j ∧ Hid (wr.ownsRow w.heap.size 9 1 v (sumR rows j) (flatR rows j)) ∧ Hid (Below w.heap.size w wr)) (fun _ vi _ => i - (RowKit.intOf vi).toNat)
      case atStart => exact ⟨0, by omega, rfl, (by simpa [sumR, flatR] using O0.out : World.ownsRow _ _ _ _ _ (sumR rows 0) (flatR rows 0)), BB0.out⟩
      case round =>
        obtain ⟨j, hj, rfl, OWN, BB⟩ := hrel
        have hbz := BB.out.size
        by_cases hji : j < i
        · obtain ⟨x, hx⟩ : ∃ x, rows[j]? = some x := ⟨_, List.getElem?_eq_getElem (by rw [HN.out]; exact hji)⟩
          obtain ⟨ao, c, e0, hr, hlx, hone, hn⟩ := HR.out j x hx
          have f0 := (BB.out.cell (p := ⟨b, o + j, none⟩) hk).trans e0
          have hl2 := sumR_top rows (show j + 1 ≤ i from hji)
          rw [sumR_succ hx, ← HT.out] at hl2
          have HX := Lib.hid (sumR_succ hx)
          have HY := Lib.hid (flatR_succ hx)
          obtain ⟨p, lx⟩ := x
          simp only at f0 hr hlx hone hn hl2 HX HY
          obtain ⟨acc, hacc⟩ : ∃ acc, acc = flatR rows j := ⟨_, rfl⟩
          obtain ⟨m, hm⟩ : ∃ m, m = sumR rows j := ⟨_, rfl⟩
          rw [← hacc] at OWN HY
          rw [← hm] at OWN HX hl2
          have RB := Lib.hid (hr.below BB.out)
          have HLX := Lib.hid hlx
          have HON := Lib.hid hone
          have HNN := Lib.hid hn
          have P47 : Hid ((m + p) * 16 ≤ 140737488355328) := by show _ ≤ _; omega
          have P63 : Hid (m + p ≤ 9223372036854775807) := by show _ ≤ _; omega
          have HBZ := Lib.hid hbz
          have q1 : (0 : Int) ≤ (j : Int) := by omega
          clear hr hlx hone hn hx hacc hm e0 hl2 hbz
          go_wp2_with (at_builtin; refine wpl_appk rfl (.tmp 31) (.tmp 32) 34 9 1 16 (.string ⟨#[]⟩) rfl Tryz.underlying34 kinf_txt rfl (by decide) w.heap.size m _ acc lx rfl OWN ao p c rfl RB HLX HON HNN P47 P63 HBZ ?_; intro v' w' hown' hgrow)
          have OWN' : Hid (w'.ownsRow w.heap.size 9 1 v' (sumR rows (j + 1)) (flatR rows (j + 1))) := by
            show World.ownsRow _ _ _ _ _ _ _
            rw [HX.out, HY.out]
            exact hown'
          have BB' : Hid (Below w.heap.size w w') := BB.out.grown hgrow HBZ.out (fun k hk => (OWN.out.lt k hk).1)
          clear hown' hgrow
          go_wp2_with fail
          go_roundw
          case rel => exact ⟨j + 1, by omega, by go_num, OWN', BB'⟩
          case measure => simp [RowKit.intOf]; omega
        · obtain rfl : j = i := by omega
          have O9 := OWN.out
          rw [← HT.out] at O9
          have O8 := Lib.hid O9
          clear O9
          go_wp2_with fail
          go_ret
          exact ⟨BB.out, _, rfl, O8.out⟩
set_option maxHeartbeats 1000000 in
set_option maxRecDepth 100000 in
theorem grow_num (n : Nat) (h1 : 1 ≤ n) (h2 : n ≤ 1000000) (w : World) :
    Calls Tryz.prog 87 #[.slice none 0 0, .int .i64 n] w (AnsK 3 1 0 [] w) := by
  obtain ⟨i0, hi, hz0, hz1, hz2⟩ := info_parts kinf_num
  have hr : ∀ ty, (Builtin.append_ #[35, 3] ty #[.slice none 0 0, .int .i64 (n : Int)]).run Tryz.prog w = _ := fun ty =>
    Lib.run_append_grow_zeros w 35 3 ty 3 i0 (.int .i64 0) .i64 .i64 Tryz.underlying35 Tryz.underlying3 hi hz0 none 0 0 [] (run_firstCells_none _ _ _ _ _) n (by omega) (by rw [hz1]; omega) (by omega) (by omega)
      (by rw [hz2]; omega) (by rw [hz2]; exact growslice_fits (by omega) (by omega))
  rw [Nat.zero_add] at hr
  have hge := grownCap_ge w n 0 3
  have hcm := grownCap_le_maxLen w n 0 3 (by unfold maxLen; omega)
  obtain ⟨G, hG⟩ : ∃ G, G = grownCap w n 0 3 := ⟨_, rfl⟩
  obtain ⟨O, hO⟩ : ∃ O, O = Obj.cells ((([] : List Value).toArray ++ Builtin.zeroCells ((.int .i64 0) : Value).cells n) ++ Builtin.zeroCells ((.int .i64 0) : Value).cells (G - n)) 3 := ⟨_, rfl⟩
  rw [← hG] at hr hge hcm
  rw [← hO] at hr
  have hown : Hid ((w.drew.alloc O).ownsRow w.heap.size 3 1 (.slice (some ⟨w.heap.size, 0, none⟩) 0 G) 0 []) := by
    refine ⟨by simp, Or.inr ⟨w.heap.size, G, _, rfl, Nat.le_refl _, by rw [hO]; exact heap_alloc_new w.drew _, Nat.zero_le _, hcm, ?_, by simp⟩⟩
    have hz1 : ((.int .i64 0) : Value).cells.size = 1 := rfl
    simp only [Array.size_append, List.size_toArray, size_zeroCells, hz1, List.length_nil]
    omega
  have hb : Hid (Below w.heap.size w (w.drew.alloc O)) := (Below.refl _ w).drew.alloc (Nat.le_refl _) _
  unfold maxLen at hcm
  clear hO hG
  go_enter Tryz.func87, Tryz.ntmps87
  go_wp2_with (at_builtin; refine Lib.wpList_append_run _ rfl _ _ _ _ rfl _ _ rfl rfl _ _ (hr _) ?_)
  all_goals (go_ret; exact ⟨hb.out, _, rfl, hown.out⟩)
set_option maxRecDepth 100000 in
theorem grow0_num (w : World) : Calls Tryz.prog 87 #[.slice none 0 0, .int .i64 0] w (AnsK 3 1 0 [] w) := by
  go_enter Tryz.func87, Tryz.ntmps87
  go_wp2
  go_ret
  exact ⟨Below.refl _ _, _, rfl, World.ownsRow_nil _ _ _ _⟩
theorem growa_num (n : Nat) (h2 : n ≤ 1000000) (w : World) : Calls Tryz.prog 87 #[.slice none 0 0, .int .i64 n] w (AnsK 3 1 0 [] w) := by
  rcases Nat.eq_zero_or_pos n with rfl | h
  · exact grow0_num w
  · exact grow_num n h h2 w
set_option maxHeartbeats 4000000 in
set_option maxRecDepth 100000 in
/-- rows, one behind the other -/
theorem concat_num (b o N cap : Nat) (rows : List (Nat × List Value)) (w : World) (h : Rws w b o 1 rows) (hN : rows.length = N) (hN2 : N ≤ 1000000) (hk : b < w.heap.size) (hbig : sumR rows N ≤ 1000000) :
    Calls Tryz.prog 69 #[.slice (some ⟨b, o, none⟩) N cap] w (AnsK 3 1 (sumR rows N) (flatR rows N) w) := by
  have HR := Lib.hid h
  have HN := Lib.hid hN
  obtain ⟨T, hT⟩ : ∃ T, T = sumR rows N := ⟨_, rfl⟩
  have C1 := Lib.hid (growa_num (sumR rows N) hbig w)
  rw [← hT] at C1 hbig ⊢
  have HT := Lib.hid hT
  clear h hN hT
  go_enter Tryz.func69, Tryz.ntmps69
  go_wp2_with fail
  go_loop [3, 11] (fun vs vi => ∃ (i s : Nat), i ≤ N ∧ vi = .int .i64 i ∧ vs = .int .i64 s ∧ Hid (s = sumR rows i)) (fun _ vi => N - (RowKit.intOf vi).toNat)
  case atStart => exact ⟨0, 0, by omega, rfl, rfl, rfl⟩
  case round =>
    obtain ⟨i, s, hi, rfl, rfl, hs⟩ := hrel
    by_cases hiN : i < N
    · obtain ⟨x, hx⟩ : ∃ x, rows[i]? = some x := ⟨_, List.getElem?_eq_getElem (by rw [HN.out]; exact hiN)⟩
      obtain ⟨ao, c, e0, _, _, _, _⟩ := HR.out i x hx
      have hnx := sumR_succ hx
      have hl2 := sumR_top rows (show i + 1 ≤ N from hiN)
      rw [hnx, ← HT.out, ← hs.out] at hl2
      rw [← hs.out] at hnx
      have HX := Lib.hid hnx
      obtain ⟨p, lx⟩ := x
      simp only at e0 hl2 HX
      have q1 : (0 : Int) ≤ (i : Int) := by omega
      clear hnx hx
      go_wp2_with fail
      go_round
      case rel => exact ⟨i + 1, s + p, by omega, by go_num, by go_num, HX.out.symm⟩
      case measure => simp [RowKit.intOf]; omega
    · obtain rfl : i = N := by omega
      have hsT : s = T := by rw [hs.out, ← HT.out]
      subst hsT
      clear hs
      go_wp2_with fail
      refine C1.out.mono ?_
      clear C1
      rintro e w1 ⟨hb1, v0, rfl, hown0⟩
      have O0 := Lib.hid hown0
      have BB0 := Lib.hid hb1
      clear hown0 hb1
      go_wp2_with fail
      go_loopw [6, 27] (fun v vi wr => ∃ (j : Nat), j ≤ i ∧ vi = .int .i64 j ∧ Hid (wr.ownsRow w.heap.size 3 1 v (sumR rows j) (flatR rows j)) ∧ Hid (Below w.heap.size w wr)) (fun _ vi _ => i - (RowKit.intOf vi).toNat)
      case atStart => exact ⟨0, by omega, rfl, (by simpa [sumR, flatR] using O0.out : World.ownsRow _ _ _ _ _ (sumR rows 0) (flatR rows 0)), BB0.out⟩
      case round =>
        obtain ⟨j, hj, rfl, OWN, BB⟩ := hrel
        have hbz := BB.out.size
        by_cases hji : j < i
        · obtain ⟨x, hx⟩ : ∃ x, rows[j]? = some x := ⟨_, List.getElem?_eq_getElem (by rw [HN.out]; exact hji)⟩
          obtain ⟨ao, c, e0, hr, hlx, hone, hn⟩ := HR.out j x hx
          have f0 := (BB.out.cell (p := ⟨b, o + j, none⟩) hk).trans e0
          have hl2 := sumR_top rows (show j + 1 ≤ i from hji)
          rw [sumR_succ hx, ← HT.out] at hl2
          have HX := Lib.hid (sumR_succ hx)
          have HY := Lib.hid (flatR_succ hx)
          obtain ⟨p, lx⟩ := x
          simp only at f0 hr hlx hone hn hl2 HX HY
          obtain ⟨acc, hacc⟩ : ∃ acc, acc = flatR rows j := ⟨_, rfl⟩
          obtain ⟨m, hm⟩ : ∃ m, m = sumR rows j := ⟨_, rfl⟩
          rw [← hacc] at OWN HY
          rw [← hm] at OWN HX hl2
          have RB := Lib.hid (hr.below BB.out)
          have HLX := Lib.hid hlx
          have HON := Lib.hid hone
          have HNN := Lib.hid hn
          have P47 : Hid ((m + p) * 8 ≤ 140737488355328) := by show _ ≤ _; omega
          have P63 : Hid (m + p ≤ 9223372036854775807) := by show _ ≤ _; omega
          have HBZ := Lib.hid hbz
          have q1 : (0 : Int) ≤ (j : Int) := by omega
          clear hr hlx hone hn hx hacc hm e0 hl2 hbz
          go_wp2_with (at_builtin; refine wpl_appk rfl (.tmp 31) (.tmp 32) 35 3 1 8 (.int .i64 0) rfl Tryz.underlying35 kinf_num rfl (by decide) w.heap.size m _ acc lx rfl OWN ao p c rfl RB HLX HON HNN P47 P63 HBZ ?_; intro v' w' hown' hgrow)
          have OWN' : Hid (w'.ownsRow w.heap.size 3 1 v' (sumR rows (j + 1)) (flatR rows (j + 1))) := by
            show World.ownsRow _ _ _ _ _ _ _
            rw [HX.out, HY.out]
            exact hown'
          have BB' : Hid (Below w.heap.size w w') := BB.out.grown hgrow HBZ.out (fun k hk => (OWN.out.lt k hk).1)
          clear hown' hgrow
          go_wp2_with fail
          go_roundw
          case rel => exact ⟨j + 1, by omega, by go_num, OWN', BB'⟩
          case measure => simp [RowKit.intOf]; omega
        · obtain rfl : j = i := by omega
          have O9 := OWN.out
          rw [← HT.out] at O9
          have O8 := Lib.hid O9
          clear O9
          go_wp2_with fail
          go_ret
          exact ⟨BB.out, _, rfl, O8.out⟩
end Go.Proofs.YtcgbaiogbcodcaaGreatDoor.Lw
namespace Go.Proofs.YtcgbaiogbcodcaaGreatDoor.Lw
open Go.RowKit Go.Lib Go.Proofs.YtcgbaiogbcodcaaGreatDoor.Sh Go.Proofs.YtcgbaiogbcodcaaGreatDoor.Lb Go.Proofs.YtcgbaiogbcodcaaGreatDoor.Pf
open Go.Maps

def putAt (L : List InoP) (i : Nat) (b : Bool) (x : InoP) : List InoP := if b = true then L.set i x else L.take i ++ x :: L.drop i
/-- each in its place, one after the other -/
def Puts : List InoP → List InoP → List InoP → Prop
  | L, [], L' => L' = L
  | L, x :: xs, L' => ∃ i b, Sk L x.num i b ∧ Puts (putAt L i b x) xs L'
theorem Puts.snoc {x : InoP} {i : Nat} {b : Bool} : ∀ {ys l L : List InoP}, Puts l ys L → Sk L x.num i b → Puts l (ys ++ [x]) (putAt L i b x)
  | [], l, L, h, hs => by
    obtain rfl : L = l := h
    exact ⟨i, b, hs, rfl⟩
  | y :: ys, l, L, h, hs => by
    obtain ⟨j, c, h1, h2⟩ := h
    exact ⟨j, c, h1, Puts.snoc h2 hs⟩
theorem putAt_set (L : List InoP) (i : Nat) (x : InoP) : putAt L i true x = L.set i x := rfl
theorem putAt_ins (L : List InoP) (i : Nat) (x : InoP) : putAt L i false x = L.take i ++ x :: L.drop i := rfl
theorem ins_get {L : List InoP} {i : Nat} (hi : i ≤ L.length) (x : InoP) (j : Nat) : (L.take i ++ x :: L.drop i)[j]? = if j < i then L[j]? else if j = i then some x else L[j - 1]? := by
  by_cases h : j < i
  · rw [if_pos h, List.getElem?_append_left (by rw [List.length_take]; omega), List.getElem?_take, if_pos h]
  · rw [if_neg h, List.getElem?_append_right (by rw [List.length_take]; omega), List.length_take, Nat.min_eq_left hi]
    by_cases h2 : j = i
    · rw [if_pos h2, h2, Nat.sub_self]
      rfl
    · rw [if_neg h2]
      obtain ⟨d, hd⟩ : ∃ d, j - i = d + 1 := ⟨j - i - 1, by omega⟩
      rw [hd, List.getElem?_cons_succ, List.getElem?_drop]
      congr 1
      omega
theorem putAt_len {L : List InoP} {i : Nat} (hi : i ≤ L.length) (b : Bool) (x : InoP) : (putAt L i b x).length = if b = true then L.length else L.length + 1 := by
  cases b with
  | true => simp [putAt]
  | false => simp [putAt]; omega
theorem Sk.at {L : List InoP} {k : Int} {i : Nat} (h : Sk L k i true) : i < L.length := by
  obtain ⟨x, hx, _⟩ := h.has.1 rfl
  exact (List.getElem?_eq_some_iff.1 hx).1
theorem putAt_here {L : List InoP} {x : InoP} {i : Nat} {b : Bool} (h : Sk L x.num i b) : (putAt L i b x)[i]? = some x := by
  cases b with
  | true => rw [putAt_set, List.getElem?_set, if_pos rfl, if_pos h.at]
  | false => rw [putAt_ins, ins_get h.le, if_neg (Nat.lt_irrefl _), if_pos rfl]
theorem Sk.strict {L : List InoP} {k : Int} {i : Nat} (h : Sk L k i false) (hr : Rise L) {j : Nat} {y : InoP} (hj : i ≤ j) (hy : L[j]? = some y) : k < y.num := by
  have h1 := h.high j y hj hy
  have h2 := h.no hr rfl y (List.mem_of_getElem? hy)
  omega
theorem Rise.put {L : List InoP} (hr : Rise L) {x : InoP} {i : Nat} {b : Bool} (h : Sk L x.num i b) : Rise (putAt L i b x) := by
  intro p q y z hpq hy hz
  cases b with
  | true =>
    rw [putAt_set, List.getElem?_set] at hy hz
    obtain ⟨u, hu, hun⟩ := h.has.1 rfl
    split at hy
    · split at hz
      · omega
      · rename_i e1 e2
        split at hy
        · injection hy with hy
          subst hy e1
          rw [← hun]
          exact hr _ _ u z hpq hu hz
        · cases hy
    · split at hz
      · rename_i e1 e2
        split at hz
        · injection hz with hz
          subst hz e2
          rw [← hun]
          exact hr _ _ y u hpq hy hu
        · cases hz
      · exact hr _ _ y z hpq hy hz
  | false =>
    rw [putAt_ins, ins_get h.le] at hy hz
    split at hy
    · rename_i h1
      split at hz
      · exact hr _ _ y z hpq hy hz
      · split at hz
        · injection hz with hz
          subst hz
          exact h.low p y h1 hy
        · exact hr p (q - 1) y z (by omega) hy hz
    · split at hz
      · omega
      · split at hy
        · split at hz
          · omega
          · injection hy with hy
            subst hy
            exact h.strict hr (by omega) hz
        · split at hz
          · omega
          · exact hr (p - 1) (q - 1) y z (by omega) hy hz
/-! the cells of such a row -/
theorem flatF_congr {f f' : Nat → List Value} : ∀ n, (∀ j, j < n → f j = f' j) → flatF f n = flatF f' n
  | 0, _ => rfl
  | n + 1, h => by
    rw [flatF_succ, flatF_succ, flatF_congr n (fun j hj => h j (by omega)), h n (by omega)]
theorem flatF_add (f : Nat → List Value) (a : Nat) : ∀ b, flatF f (a + b) = flatF f a ++ flatF (fun j => f (a + j)) b
  | 0 => by simp [flatF]
  | b + 1 => by
    rw [← Nat.add_assoc, flatF_succ, flatF_add f a b, flatF_succ, List.append_assoc]
theorem flatF_cons (f : Nat → List Value) (b : Nat) : flatF f (b + 1) = f 0 ++ flatF (fun j => f (j + 1)) b := by
  rw [Nat.add_comm b 1, flatF_add f 1 b]
  congr 1
  · simp [flatF]
  · exact flatF_congr b (fun j _ => by rw [Nat.add_comm])
theorem flatF_split {f : Nat → List Value} {k n i : Nat} (h : ∀ j, j < n → (f j).length = k) (hi : i ≤ n) : (flatF f n).take (i * k) = flatF f i ∧ (flatF f n).drop (i * k) = flatF (fun j => f (i + j)) (n - i) := by
  have e := flatF_add f i (n - i)
  rw [show i + (n - i) = n by omega] at e
  have hl : (flatF f i).length = i * k := flatF_len i (fun j hj => h j (by omega))
  rw [e]
  exact ⟨by rw [← hl, List.take_left], by rw [← hl, List.drop_left]⟩
/-- one more in the row -/
theorem flatF_ins {f : Nat → List Value} {k n i : Nat} (z : List Value) (h : ∀ j, j < n → (f j).length = k) (hi : i ≤ n) : (flatF f n).take (i * k) ++ (z ++ (flatF f n).drop (i * k)) = flatF (fun j => if j < i then f j else if j = i then z else f (j - 1)) (n + 1) := by
  obtain ⟨h1, h2⟩ := flatF_split h hi
  rw [h1, h2]
  have e : n + 1 = i + ((n - i) + 1) := by omega
  rw [e, flatF_add _ i, flatF_cons]
  congr 1
  · exact flatF_congr i fun j hj => by rw [if_pos hj]
  · congr 1
    · rw [if_neg (by omega), if_pos (by omega)]
    · refine flatF_congr _ fun j _ => ?_
      rw [if_neg (by omega), if_neg (by omega)]
      congr 1
/-- one less -/
theorem flatF_del {f : Nat → List Value} {k n i : Nat} (h : ∀ j, j < n → (f j).length = k) (hi : i + 1 ≤ n) : (flatF f n).take (i * k) ++ (flatF f n).drop ((i + 1) * k) = flatF (fun j => if j < i then f j else f (j + 1)) (n - 1) := by
  rw [(flatF_split h (by omega : i ≤ n)).1, (flatF_split h hi).2]
  have e : n - 1 = i + (n - (i + 1)) := by omega
  rw [e, flatF_add _ i]
  congr 1
  · exact flatF_congr i fun j hj => by rw [if_pos hj]
  · refine flatF_congr _ fun j _ => ?_
    rw [if_neg (by omega)]
    congr 1
    omega
theorem rk_cr {t : TypeId} {k : Nat} {w : World} {g n : Nat} {f : Nat → List Value} (h : Rk t k w g n f) (hk : 0 < k) (hf : ∀ j, j < n → (f j).length = k) : Cr w (some ⟨g, 0, none⟩) (flatF f n) :=
  cr_flat hk hf fun _ => ⟨g, 0, rfl, h.lt, fun j hj q hq => by rw [Nat.zero_add]; exact h.cell hj hq⟩
theorem Rk.congr {t : TypeId} {k : Nat} {w : World} {g n : Nat} {f f' : Nat → List Value} (h : Rk t k w g n f) (he : ∀ j, j < n → f j = f' j) : Rk t k w g n f' := by
  obtain ⟨cur, h1, h2, h3⟩ := h
  exact ⟨cur, h1, h2, fun j hj q hq => by rw [← he j hj]; exact h3 j hj q hq⟩
/-- an inode's nine cells, at a place -/
theorem at9_range {w : World} {b q : Nat} {x : InoP} {p : Sl} (h : At9 w b q x p.da p.dn p.dc p.na p.nn p.nc p.za p.zn p.zc p.aa p.an p.ac) : w.rangeAt b q (inC x p) := fun j v hv => by
  match j with
  | 0 => rw [Nat.add_zero, h.k0]; exact hv
  | 1 => rw [h.k1]; exact hv
  | 2 => rw [h.k2]; exact hv
  | 3 => rw [h.k3]; exact hv
  | 4 => rw [h.k4]; exact hv
  | 5 => rw [h.k5]; exact hv
  | 6 => rw [h.k6]; exact hv
  | 7 => rw [h.k7]; exact hv
  | 8 => rw [h.k8]; exact hv
  | j + 9 => simp [inC, ivC] at hv
end Go.Proofs.YtcgbaiogbcodcaaGreatDoor.Lw
namespace Go.Proofs.YtcgbaiogbcodcaaGreatDoor.Lw
open Go.RowKit Go.Lib Go.Proofs.YtcgbaiogbcodcaaGreatDoor.Sh Go.Proofs.YtcgbaiogbcodcaaGreatDoor.Lb Go.Proofs.YtcgbaiogbcodcaaGreatDoor.Pf
open Go.Maps
theorem ownk_low {w : World} {B B' n k : Nat} {e : TypeId} {v : Value} {xs : List Value} (h : w.ownsRow B e k v n xs) (hb : B' ≤ B) : w.ownsRow B' e k v n xs := by
  obtain ⟨h1, h2 | ⟨g, cap, cur, e1, e2, e3⟩⟩ := h
  · exact ⟨h1, Or.inl h2⟩
  · exact ⟨h1, Or.inr ⟨g, cap, cur, e1, Nat.le_trans hb e2, e3⟩⟩
theorem cr_add {w : World} {ad : Addr} {ls : List Value} {m n c i k : Nat} (h : Cr w (some ad) ls) (hl : ls.length = n * k) (hi : i ≤ n) (hc : n ≤ c) (hm : m = i * k) : Cr w (if c = i then some ad else some (ad.add m)) (ls.drop (i * k)) := fun hne => by
  subst hm
  have hls : ls ≠ [] := fun h0 => hne (by rw [h0]; simp)
  obtain ⟨b, o, e, hb, hcell⟩ := h hls
  injection e with e
  subst e
  have hci : ¬ c = i := fun e => hne (List.drop_eq_nil_of_le (by rw [hl]; exact Nat.mul_le_mul_right k (by omega)))
  rw [if_neg hci, WideShapes.add_plain]
  exact Cr.drop h (i * k) hne
theorem one_take {ls : List Value} (h : ∀ u ∈ ls, u.oneCell' = true) (m : Nat) : ∀ u ∈ ls.take m, u.oneCell' = true := fun u hu => h u (List.mem_of_mem_take hu)
theorem one_drop {ls : List Value} (h : ∀ u ∈ ls, u.oneCell' = true) (m : Nat) : ∀ u ∈ ls.drop m, u.oneCell' = true := fun u hu => h u (List.mem_of_mem_drop hu)
theorem rws_with {w W : World} {ad : Addr} {n c i k m hb g : Nat} {ls xc : List Value} (hB : Below w.heap.size w W) (h : Cr w (some ad) ls) (hl : ls.length = n * k) (hone : ∀ u ∈ ls, u.oneCell' = true) (hi : i ≤ n) (hc : n ≤ c) (hm : m = i * k)
    (k1 : W.cell? ⟨hb, 0, none⟩ = some (.slice (some ad) i c)) (k2 : W.cell? ⟨hb, 1, none⟩ = some (.slice (some ⟨g, 0, none⟩) 1 1)) (k3 : W.cell? ⟨hb, 2, none⟩ = some (.slice (if c = i then some ad else some (ad.add m)) (n - i) (c - i)))
    (hx : Cr W (some ⟨g, 0, none⟩) xc) (hxl : xc.length = k) (hxo : ∀ u ∈ xc, u.oneCell' = true) : Rws W hb 0 k [(i, ls.take (i * k)), (1, xc), (n - i, ls.drop (i * k))] := by
  intro j x hj
  match j with
  | 0 =>
    obtain rfl : (i, ls.take (i * k)) = x := by simpa using hj
    exact ⟨_, _, k1, (h.take _).below hB, by rw [List.length_take, hl]; exact Nat.min_eq_left (Nat.mul_le_mul_right k hi), one_take hone _, fun e => by cases e⟩
  | 1 =>
    obtain rfl : (1, xc) = x := by simpa using hj
    exact ⟨_, _, k2, hx, by rw [hxl, Nat.one_mul], hxo, fun e => by cases e⟩
  | 2 =>
    obtain rfl : (n - i, ls.drop (i * k)) = x := by simpa using hj
    refine ⟨_, _, k3, (cr_add h hl hi hc hm).below hB, by rw [List.length_drop, hl, Nat.sub_mul], one_drop hone _, fun e => ?_⟩
    split at e <;> cases e
  | j + 3 => simp at hj
theorem rws_one {W : World} {k hb g : Nat} {xc : List Value}
    (k1 : W.cell? ⟨hb, 0, none⟩ = some (.slice none 0 0)) (k2 : W.cell? ⟨hb, 1, none⟩ = some (.slice (some ⟨g, 0, none⟩) 1 1)) (k3 : W.cell? ⟨hb, 2, none⟩ = some (.slice none 0 0))
    (hx : Cr W (some ⟨g, 0, none⟩) xc) (hxl : xc.length = k) (hxo : ∀ u ∈ xc, u.oneCell' = true) : Rws W hb 0 k [(0, []), (1, xc), (0, [])] := by
  intro j x hj
  match j with
  | 0 =>
    obtain rfl : (0, ([] : List Value)) = x := by simpa using hj
    exact ⟨_, _, k1, cr_nil _ _, by simp, by simp, fun _ => ⟨rfl, rfl⟩⟩
  | 1 =>
    obtain rfl : (1, xc) = x := by simpa using hj
    exact ⟨_, _, k2, hx, by rw [hxl, Nat.one_mul], hxo, fun e => by cases e⟩
  | 2 =>
    obtain rfl : (0, ([] : List Value)) = x := by simpa using hj
    exact ⟨_, _, k3, cr_nil _ _, by simp, by simp, fun _ => ⟨rfl, rfl⟩⟩
  | j + 3 => simp at hj
theorem rws_less {w W : World} {ad : Addr} {n c i k m hb : Nat} {ls : List Value} (hB : Below w.heap.size w W) (h : Cr w (some ad) ls) (hl : ls.length = n * k) (hone : ∀ u ∈ ls, u.oneCell' = true) (hi : i + 1 ≤ n) (hc : n ≤ c) (hm : m = (i + 1) * k)
    (k1 : W.cell? ⟨hb, 0, none⟩ = some (.slice (some ad) i c)) (k2 : W.cell? ⟨hb, 1, none⟩ = some (.slice (if c = i + 1 then some ad else some (ad.add m)) (n - (i + 1)) (c - (i + 1)))) : Rws W hb 0 k [(i, ls.take (i * k)), (n - (i + 1), ls.drop ((i + 1) * k))] := by
  intro j x hj
  match j with
  | 0 =>
    obtain rfl : (i, ls.take (i * k)) = x := by simpa using hj
    exact ⟨_, _, k1, (h.take _).below hB, by rw [List.length_take, hl]; exact Nat.min_eq_left (Nat.mul_le_mul_right k (by omega)), one_take hone _, fun e => by cases e⟩
  | 1 =>
    obtain rfl : (n - (i + 1), ls.drop ((i + 1) * k)) = x := by simpa using hj
    refine ⟨_, _, k2, (cr_add h hl hi hc hm).below hB, by rw [List.length_drop, hl, Nat.sub_mul], one_drop hone _, fun e => ?_⟩
    split at e <;> cases e
  | j + 2 => simp at hj
set_option maxHeartbeats 4000000 in
set_option maxRecDepth 100000 in
theorem with_txt (ao : Option Addr) (n c i : Nat) (ls : List Value) (s : ByteArray) (w : World) (h : Cr w ao ls) (hl : ls.length = n * 1) (hone : ∀ u ∈ ls, u.oneCell' = true) (hn : ao = none → n = 0 ∧ c = 0) (hc : n ≤ c) (hi : i ≤ n) (hb : n ≤ 900000) :
    Calls Tryz.prog 48 #[.slice ao n c, .int .i64 i, .string s] w (AnsK 9 1 (n + 1) (ls.take (i * 1) ++ ([.string s] ++ ls.drop (i * 1))) w) := by
  cases ao with
  | none =>
    obtain ⟨rfl, rfl⟩ := hn rfl
    obtain rfl : i = 0 := by omega
    obtain rfl : ls = [] := List.eq_nil_of_length_eq_zero (by omega)
    obtain ⟨W, hW⟩ : ∃ W, W = (((w).alloc (.cells #[.string s] 9)).alloc (.cells #[.slice none 0 0, .slice (some ⟨w.heap.size, 0, none⟩) 1 1, .slice none 0 0] 34)).drew := ⟨_, rfl⟩
    have B1 : Below w.heap.size w W := by rw [hW]; exact (below_alloc (below_alloc (Below.refl _ w) _) _).drew
    have K1 : Sh.Blk W (w.heap.size + 1) [.slice none 0 0, .slice (some ⟨w.heap.size, 0, none⟩) 1 1, .slice none 0 0] 34 := by rw [hW]; exact Sh.Blk.new _ [.slice none 0 0, .slice (some ⟨w.heap.size, 0, none⟩) 1 1, .slice none 0 0] 34 _ (by simp)
    have K0 : Sh.Blk W w.heap.size [.string s] 9 := by rw [hW]; exact (Sh.Blk.new _ [.string s] 9 _ (by simp)).alloc _
    have CX : Cr W (some ⟨w.heap.size, 0, none⟩) [.string s] := fun _ => ⟨_, _, rfl, by rw [hW]; simp <;> omega, fun j u hj => by rw [Nat.zero_add, K0.cell j]; exact hj⟩
    have CC := Lib.hid (concat_txt (w.heap.size + 1) 0 3 3 [(0, []), (1, [.string s]), (0, [])] W (rws_one (K1.cell 0) (K1.cell 1) (K1.cell 2) CX rfl (by intro u hu; simp only [List.mem_singleton] at hu; subst hu; rfl)) rfl (by decide) (by rw [hW]; simp) (by simp [sumR]))
    have HW : Hid (((((w).alloc (.cells #[.string s] 9)).alloc (.cells #[.slice none 0 0, .slice (some ⟨w.heap.size, 0, none⟩) 1 1, .slice none 0 0] 34)).drew) = W) := hW.symm
    have BB := Lib.hid B1
    clear h hl hone hn hc hi hb hW B1 K1 K0 CX
    go_enter Tryz.func48, Tryz.ntmps48
    go_wp2_with fail
    go_region_with (go_at_call 68; rw [HW.out]; refine CC.out.mono ?_; rintro e w2 ⟨hb, v, rfl, hown⟩)
    all_goals
      go_wp2_with fail
      go_ret
      exact ⟨below_chain BB.out hb, v, rfl, ownk_low hown BB.out.size⟩
  | some ad =>
    have q1 : (0 : Int) ≤ (i : Int) := by omega
    have q2 : (i : Int) ≤ (n : Int) := by omega
    have q3 : (i : Int) ≤ (c : Int) := by omega
    have q4 : (n : Int) ≤ (c : Int) := by omega
    have q5 : ¬ (i : Int) < 0 := by omega
    obtain ⟨ov, hov⟩ : ∃ ov, ov = (if c = i then some ad else some (ad.add (i))) := ⟨_, rfl⟩
    obtain ⟨W, hW⟩ : ∃ W, W = (((w).alloc (.cells #[.string s] 9)).alloc (.cells #[.slice (some ad) i c, .slice (some ⟨w.heap.size, 0, none⟩) 1 1, .slice (if c = i then some ad else some (ad.add (i))) (n - i) (c - i)] 34)).drew := ⟨_, rfl⟩
    have B1 : Below w.heap.size w W := by rw [hW]; exact (below_alloc (below_alloc (Below.refl _ w) _) _).drew
    have K1 : Sh.Blk W (w.heap.size + 1) [.slice (some ad) i c, .slice (some ⟨w.heap.size, 0, none⟩) 1 1, .slice (if c = i then some ad else some (ad.add (i))) (n - i) (c - i)] 34 := by rw [hW]; exact Sh.Blk.new _ [.slice (some ad) i c, .slice (some ⟨w.heap.size, 0, none⟩) 1 1, .slice (if c = i then some ad else some (ad.add (i))) (n - i) (c - i)] 34 _ (by simp)
    have K0 : Sh.Blk W w.heap.size [.string s] 9 := by rw [hW]; exact (Sh.Blk.new _ [.string s] 9 _ (by simp)).alloc _
    have CX : Cr W (some ⟨w.heap.size, 0, none⟩) [.string s] := fun _ => ⟨_, _, rfl, by rw [hW]; simp <;> omega, fun j u hj => by rw [Nat.zero_add, K0.cell j]; exact hj⟩
    have C0 := concat_txt (w.heap.size + 1) 0 3 3 [(i, ls.take (i * 1)), (1, [.string s]), (n - i, ls.drop (i * 1))] W (rws_with B1 h hl hone hi hc (by omega) (K1.cell 0) (K1.cell 1) (K1.cell 2) CX rfl (by intro u hu; simp only [List.mem_singleton] at hu; subst hu; rfl)) rfl (by decide) (by rw [hW]; simp) (by simp [sumR]; omega)
    rw [show sumR [(i, ls.take (i * 1)), (1, [.string s]), (n - i, ls.drop (i * 1))] 3 = n + 1 by simp [sumR]; omega, show flatR [(i, ls.take (i * 1)), (1, [.string s]), (n - i, ls.drop (i * 1))] 3 = ls.take (i * 1) ++ ([.string s] ++ ls.drop (i * 1)) by simp [flatR]] at C0
    have CC := Lib.hid C0
    obtain ⟨xs, hxs⟩ : ∃ xs, xs = ls.take (i * 1) ++ ([.string s] ++ ls.drop (i * 1)) := ⟨_, rfl⟩
    rw [← hxs] at CC ⊢
    have HW : Hid (((((w).alloc (.cells #[.string s] 9)).alloc (.cells #[.slice (some ad) i c, .slice (some ⟨w.heap.size, 0, none⟩) 1 1, .slice (if c = i then some ad else some (ad.add (i))) (n - i) (c - i)] 34)).drew) = W) := hW.symm
    have BB := Lib.hid B1
    clear h hl hone hn hc hi hb hW B1 K1 K0 CX C0 hxs hov
    go_enter Tryz.func48, Tryz.ntmps48
    go_wp2_with fail
    go_region_with (go_at_call 68; rw [HW.out]; refine CC.out.mono ?_; clear CC; generalize (if c = i then some ad else some (ad.add (i))) = ov at *; rintro e w2 ⟨hb, v, rfl, hown⟩)
    all_goals
      go_wp2_with fail
      go_ret
      exact ⟨below_chain BB.out hb, v, rfl, ownk_low hown BB.out.size⟩
set_option maxHeartbeats 4000000 in
set_option maxRecDepth 100000 in
theorem without_txt (ad : Addr) (n c i : Nat) (ls : List Value) (w : World) (h : Cr w (some ad) ls) (hl : ls.length = n * 1) (hone : ∀ u ∈ ls, u.oneCell' = true) (hc : n ≤ c) (hi : i + 1 ≤ n) (hb : n ≤ 900000) :
    Calls Tryz.prog 51 #[.slice (some ad) n c, .int .i64 i] w (AnsK 9 1 (n - 1) (ls.take (i * 1) ++ ls.drop ((i + 1) * 1)) w) := by
  obtain ⟨m, hm⟩ : ∃ m, m = i + 1 := ⟨_, rfl⟩
  have HM := Lib.hid hm
  have q1 : (0 : Int) ≤ (i : Int) := by omega
  have q2 : (i : Int) ≤ (n : Int) := by omega
  have q3 : (i : Int) ≤ (c : Int) := by omega
  have q4 : (n : Int) ≤ (c : Int) := by omega
  have q5 : ¬ (i : Int) < 0 := by omega
  have q8 : (m : Int) ≤ (c : Int) := by omega
  have hwi : IntKind.i64.wrap ((i : Int) + 1) = (m : Int) := by rw [IntKind.wrap]; simp [IntKind.bits, IntKind.signed]; omega
  have q9 : (m : Int) ≤ (n : Int) := by omega
  have q10 : (0 : Int) ≤ (m : Int) := by omega
  obtain ⟨W, hW⟩ : ∃ W, W = (w.alloc (.cells #[.slice (some ad) i c, .slice (if c = m then some ad else some (ad.add (m))) (n - m) (c - m)] 34)).drew := ⟨_, rfl⟩
  have B1 : Below w.heap.size w W := by rw [hW]; exact (below_alloc (Below.refl _ w) _).drew
  have K1 : Sh.Blk W w.heap.size [.slice (some ad) i c, .slice (if c = m then some ad else some (ad.add (m))) (n - m) (c - m)] 34 := by rw [hW]; exact Sh.Blk.new _ [.slice (some ad) i c, .slice (if c = m then some ad else some (ad.add (m))) (n - m) (c - m)] 34 _ rfl
  have C0 := concat_txt w.heap.size 0 2 2 [(i, ls.take (i * 1)), (n - (i + 1), ls.drop ((i + 1) * 1))] W (rws_less (m := m) B1 h hl hone hi hc (by rw [hm]; omega) (K1.cell 0) (by rw [← hm]; exact K1.cell 1)) rfl (by decide) (by rw [hW]; simp) (by simp [sumR]; omega)
  rw [show sumR [(i, ls.take (i * 1)), (n - (i + 1), ls.drop ((i + 1) * 1))] 2 = n - 1 by simp [sumR]; omega, show flatR [(i, ls.take (i * 1)), (n - (i + 1), ls.drop ((i + 1) * 1))] 2 = ls.take (i * 1) ++ ls.drop ((i + 1) * 1) by simp [flatR]] at C0
  have CC := Lib.hid C0
  obtain ⟨xs, hxs⟩ : ∃ xs, xs = ls.take (i * 1) ++ ls.drop ((i + 1) * 1) := ⟨_, rfl⟩
  rw [← hxs] at CC ⊢
  have HW : Hid ((w.alloc (.cells #[.slice (some ad) i c, .slice (if c = m then some ad else some (ad.add (m))) (n - m) (c - m)] 34)).drew = W) := hW.symm
  have BB := Lib.hid B1
  clear h hl hone hc hi hb hW B1 K1 C0 hxs hm
  go_enter Tryz.func51, Tryz.ntmps51
  go_wp2_with fail
  go_region_with (go_at_call 68; rw [HW.out]; refine CC.out.mono ?_; clear CC; generalize (if c = m then some ad else some (ad.add (m))) = ov at *; rintro e w2 ⟨hb, v, rfl, hown⟩)
  all_goals
    go_wp2_with fail
    go_ret
    exact ⟨below_chain BB.out hb, v, rfl, ownk_low hown BB.out.size⟩
set_option maxHeartbeats 4000000 in
set_option maxRecDepth 100000 in
theorem with_num (ao : Option Addr) (n c i : Nat) (ls : List Value) (s : Int) (w : World) (h : Cr w ao ls) (hl : ls.length = n * 1) (hone : ∀ u ∈ ls, u.oneCell' = true) (hn : ao = none → n = 0 ∧ c = 0) (hc : n ≤ c) (hi : i ≤ n) (hb : n ≤ 900000) :
    Calls Tryz.prog 49 #[.slice ao n c, .int .i64 i, .int .i64 s] w (AnsK 3 1 (n + 1) (ls.take (i * 1) ++ ([.int .i64 s] ++ ls.drop (i * 1))) w) := by
  cases ao with
  | none =>
    obtain ⟨rfl, rfl⟩ := hn rfl
    obtain rfl : i = 0 := by omega
    obtain rfl : ls = [] := List.eq_nil_of_length_eq_zero (by omega)
    obtain ⟨W, hW⟩ : ∃ W, W = (((w).alloc (.cells #[.int .i64 s] 3)).alloc (.cells #[.slice none 0 0, .slice (some ⟨w.heap.size, 0, none⟩) 1 1, .slice none 0 0] 35)).drew := ⟨_, rfl⟩
    have B1 : Below w.heap.size w W := by rw [hW]; exact (below_alloc (below_alloc (Below.refl _ w) _) _).drew
    have K1 : Sh.Blk W (w.heap.size + 1) [.slice none 0 0, .slice (some ⟨w.heap.size, 0, none⟩) 1 1, .slice none 0 0] 35 := by rw [hW]; exact Sh.Blk.new _ [.slice none 0 0, .slice (some ⟨w.heap.size, 0, none⟩) 1 1, .slice none 0 0] 35 _ (by simp)
    have K0 : Sh.Blk W w.heap.size [.int .i64 s] 3 := by rw [hW]; exact (Sh.Blk.new _ [.int .i64 s] 3 _ (by simp)).alloc _
    have CX : Cr W (some ⟨w.heap.size, 0, none⟩) [.int .i64 s] := fun _ => ⟨_, _, rfl, by rw [hW]; simp <;> omega, fun j u hj => by rw [Nat.zero_add, K0.cell j]; exact hj⟩
    have CC := Lib.hid (concat_num (w.heap.size + 1) 0 3 3 [(0, []), (1, [.int .i64 s]), (0, [])] W (rws_one (K1.cell 0) (K1.cell 1) (K1.cell 2) CX rfl (by intro u hu; simp only [List.mem_singleton] at hu; subst hu; rfl)) rfl (by decide) (by rw [hW]; simp) (by simp [sumR]))
    have HW : Hid (((((w).alloc (.cells #[.int .i64 s] 3)).alloc (.cells #[.slice none 0 0, .slice (some ⟨w.heap.size, 0, none⟩) 1 1, .slice none 0 0] 35)).drew) = W) := hW.symm
    have BB := Lib.hid B1
    clear h hl hone hn hc hi hb hW B1 K1 K0 CX
    go_enter Tryz.func49, Tryz.ntmps49
    go_wp2_with fail
    go_region_with (go_at_call 69; rw [HW.out]; refine CC.out.mono ?_; rintro e w2 ⟨hb, v, rfl, hown⟩)
    all_goals
      go_wp2_with fail
      go_ret
      exact ⟨below_chain BB.out hb, v, rfl, ownk_low hown BB.out.size⟩
  | some ad =>
    have q1 : (0 : Int) ≤ (i : Int) := by omega
    have q2 : (i : Int) ≤ (n : Int) := by omega
    have q3 : (i : Int) ≤ (c : Int) := by omega
    have q4 : (n : Int) ≤ (c : Int) := by omega
    have q5 : ¬ (i : Int) < 0 := by omega
    obtain ⟨ov, hov⟩ : ∃ ov, ov = (if c = i then some ad else some (ad.add (i))) := ⟨_, rfl⟩
    obtain ⟨W, hW⟩ : ∃ W, W = (((w).alloc (.cells #[.int .i64 s] 3)).alloc (.cells #[.slice (some ad) i c, .slice (some ⟨w.heap.size, 0, none⟩) 1 1, .slice (if c = i then some ad else some (ad.add (i))) (n - i) (c - i)] 35)).drew := ⟨_, rfl⟩
    have B1 : Below w.heap.size w W := by rw [hW]; exact (below_alloc (below_alloc (Below.refl _ w) _) _).drew
    have K1 : Sh.Blk W (w.heap.size + 1) [.slice (some ad) i c, .slice (some ⟨w.heap.size, 0, none⟩) 1 1, .slice (if c = i then some ad else some (ad.add (i))) (n - i) (c - i)] 35 := by rw [hW]; exact Sh.Blk.new _ [.slice (some ad) i c, .slice (some ⟨w.heap.size, 0, none⟩) 1 1, .slice (if c = i then some ad else some (ad.add (i))) (n - i) (c - i)] 35 _ (by simp)
    have K0 : Sh.Blk W w.heap.size [.int .i64 s] 3 := by rw [hW]; exact (Sh.Blk.new _ [.int .i64 s] 3 _ (by simp)).alloc _
    have CX : Cr W (some ⟨w.heap.size, 0, none⟩) [.int .i64 s] := fun _ => ⟨_, _, rfl, by rw [hW]; simp <;> omega, fun j u hj => by rw [Nat.zero_add, K0.cell j]; exact hj⟩
    have C0 := concat_num (w.heap.size + 1) 0 3 3 [(i, ls.take (i * 1)), (1, [.int .i64 s]), (n - i, ls.drop (i * 1))] W (rws_with B1 h hl hone hi hc (by omega) (K1.cell 0) (K1.cell 1) (K1.cell 2) CX rfl (by intro u hu; simp only [List.mem_singleton] at hu; subst hu; rfl)) rfl (by decide) (by rw [hW]; simp) (by simp [sumR]; omega)
    rw [show sumR [(i, ls.take (i * 1)), (1, [.int .i64 s]), (n - i, ls.drop (i * 1))] 3 = n + 1 by simp [sumR]; omega, show flatR [(i, ls.take (i * 1)), (1, [.int .i64 s]), (n - i, ls.drop (i * 1))] 3 = ls.take (i * 1) ++ ([.int .i64 s] ++ ls.drop (i * 1)) by simp [flatR]] at C0
    have CC := Lib.hid C0
    obtain ⟨xs, hxs⟩ : ∃ xs, xs = ls.take (i * 1) ++ ([.int .i64 s] ++ ls.drop (i * 1)) := ⟨_, rfl⟩
    rw [← hxs] at CC ⊢
    have HW : Hid (((((w).alloc (.cells #[.int .i64 s] 3)).alloc (.cells #[.slice (some ad) i c, .slice (some ⟨w.heap.size, 0, none⟩) 1 1, .slice (if c = i then some ad else some (ad.add (i))) (n - i) (c - i)] 35)).drew) = W) := hW.symm
    have BB := Lib.hid B1
    clear h hl hone hn hc hi hb hW B1 K1 K0 CX C0 hxs hov
    go_enter Tryz.func49, Tryz.ntmps49
    go_wp2_with fail
    go_region_with (go_at_call 69; rw [HW.out]; refine CC.out.mono ?_; clear CC; generalize (if c = i then some ad else some (ad.add (i))) = ov at *; rintro e w2 ⟨hb, v, rfl, hown⟩)
    all_goals
      go_wp2_with fail
      go_ret
      exact ⟨below_chain BB.out hb, v, rfl, ownk_low hown BB.out.size⟩
set_option maxHeartbeats 4000000 in
set_option maxRecDepth 100000 in
theorem without_num (ad : Addr) (n c i : Nat) (ls : List Value) (w : World) (h : Cr w (some ad) ls) (hl : ls.length = n * 1) (hone : ∀ u ∈ ls, u.oneCell' = true) (hc : n ≤ c) (hi : i + 1 ≤ n) (hb : n ≤ 900000) :
    Calls Tryz.prog 52 #[.slice (some ad) n c, .int .i64 i] w (AnsK 3 1 (n - 1) (ls.take (i * 1) ++ ls.drop ((i + 1) * 1)) w) := by
  obtain ⟨m, hm⟩ : ∃ m, m = i + 1 := ⟨_, rfl⟩
  have HM := Lib.hid hm
  have q1 : (0 : Int) ≤ (i : Int) := by omega
  have q2 : (i : Int) ≤ (n : Int) := by omega
  have q3 : (i : Int) ≤ (c : Int) := by omega
  have q4 : (n : Int) ≤ (c : Int) := by omega
  have q5 : ¬ (i : Int) < 0 := by omega
  have q8 : (m : Int) ≤ (c : Int) := by omega
  have hwi : IntKind.i64.wrap ((i : Int) + 1) = (m : Int) := by rw [IntKind.wrap]; simp [IntKind.bits, IntKind.signed]; omega
  have q9 : (m : Int) ≤ (n : Int) := by omega
  have q10 : (0 : Int) ≤ (m : Int) := by omega
  obtain ⟨W, hW⟩ : ∃ W, W = (w.alloc (.cells #[.slice (some ad) i c, .slice (if c = m then some ad else some (ad.add (m))) (n - m) (c - m)] 35)).drew := ⟨_, rfl⟩
  have B1 : Below w.heap.size w W := by rw [hW]; exact (below_alloc (Below.refl _ w) _).drew
  have K1 : Sh.Blk W w.heap.size [.slice (some ad) i c, .slice (if c = m then some ad else some (ad.add (m))) (n - m) (c - m)] 35 := by rw [hW]; exact Sh.Blk.new _ [.slice (some ad) i c, .slice (if c = m then some ad else some (ad.add (m))) (n - m) (c - m)] 35 _ rfl
  have C0 := concat_num w.heap.size 0 2 2 [(i, ls.take (i * 1)), (n - (i + 1), ls.drop ((i + 1) * 1))] W (rws_less (m := m) B1 h hl hone hi hc (by rw [hm]; omega) (K1.cell 0) (by rw [← hm]; exact K1.cell 1)) rfl (by decide) (by rw [hW]; simp) (by simp [sumR]; omega)
  rw [show sumR [(i, ls.take (i * 1)), (n - (i + 1), ls.drop ((i + 1) * 1))] 2 = n - 1 by simp [sumR]; omega, show flatR [(i, ls.take (i * 1)), (n - (i + 1), ls.drop ((i + 1) * 1))] 2 = ls.take (i * 1) ++ ls.drop ((i + 1) * 1) by simp [flatR]] at C0
  have CC := Lib.hid C0
  obtain ⟨xs, hxs⟩ : ∃ xs, xs = ls.take (i * 1) ++ ls.drop ((i + 1) * 1) := ⟨_, rfl⟩
  rw [← hxs] at CC ⊢
  have HW : Hid ((w.alloc (.cells #[.slice (some ad) i c, .slice (if c = m then some ad else some (ad.add (m))) (n - m) (c - m)] 35)).drew = W) := hW.symm
  have BB := Lib.hid B1
  clear h hl hone hc hi hb hW B1 K1 C0 hxs hm
  go_enter Tryz.func52, Tryz.ntmps52
  go_wp2_with fail
  go_region_with (go_at_call 69; rw [HW.out]; refine CC.out.mono ?_; clear CC; generalize (if c = m then some ad else some (ad.add (m))) = ov at *; rintro e w2 ⟨hb, v, rfl, hown⟩)
  all_goals
    go_wp2_with fail
    go_ret
    exact ⟨below_chain BB.out hb, v, rfl, ownk_low hown BB.out.size⟩
set_option maxHeartbeats 4000000 in
set_option maxRecDepth 100000 in
theorem with_ino (ao : Option Addr) (n c i : Nat) (ls : List Value) (xn xk xm xl : Int) (xt : ByteArray) (da na za aa : Option Addr) (dn dc nn nc zn zc an ac : Nat) (w : World) (h : Cr w ao ls) (hl : ls.length = n * 9) (hone : ∀ u ∈ ls, u.oneCell' = true) (hn : ao = none → n = 0 ∧ c = 0) (hc : n ≤ c) (hi : i ≤ n) (hb : n ≤ 900000) :
    Calls Tryz.prog 58 #[.slice ao n c, .int .i64 i, .agg #[.int .i64 xn, .int .i64 xk, .int .i64 xm, .int .i64 xl, .slice da dn dc, .string xt, .slice na nn nc, .slice za zn zc, .slice aa an ac]] w (AnsK 38 9 (n + 1) (ls.take (i * 9) ++ ([.int .i64 xn, .int .i64 xk, .int .i64 xm, .int .i64 xl, .slice da dn dc, .string xt, .slice na nn nc, .slice za zn zc, .slice aa an ac] ++ ls.drop (i * 9))) w) := by
  cases ao with
  | none =>
    obtain ⟨rfl, rfl⟩ := hn rfl
    obtain rfl : i = 0 := by omega
    obtain rfl : ls = [] := List.eq_nil_of_length_eq_zero (by omega)
    obtain ⟨W, hW⟩ : ∃ W, W = (((w.alloc (.cells #[.int .i64 xn, .int .i64 xk, .int .i64 xm, .int .i64 xl, .slice da dn dc, .string xt, .slice na nn nc, .slice za zn zc, .slice aa an ac] 38)).alloc (.cells #[.int .i64 xn, .int .i64 xk, .int .i64 xm, .int .i64 xl, .slice da dn dc, .string xt, .slice na nn nc, .slice za zn zc, .slice aa an ac] 38)).alloc (.cells #[.slice none 0 0, .slice (some ⟨(w.heap.size + 1), 0, none⟩) 1 1, .slice none 0 0] 22)).drew := ⟨_, rfl⟩
    have B1 : Below w.heap.size w W := by rw [hW]; exact (below_alloc (below_alloc (below_alloc (Below.refl _ w) _) _) _).drew
    have K1 : Sh.Blk W (w.heap.size + 2) [.slice none 0 0, .slice (some ⟨(w.heap.size + 1), 0, none⟩) 1 1, .slice none 0 0] 22 := by rw [hW]; exact Sh.Blk.new _ [.slice none 0 0, .slice (some ⟨(w.heap.size + 1), 0, none⟩) 1 1, .slice none 0 0] 22 _ (by simp)
    have K0 : Sh.Blk W (w.heap.size + 1) [.int .i64 xn, .int .i64 xk, .int .i64 xm, .int .i64 xl, .slice da dn dc, .string xt, .slice na nn nc, .slice za zn zc, .slice aa an ac] 38 := by rw [hW]; exact (Sh.Blk.new _ [.int .i64 xn, .int .i64 xk, .int .i64 xm, .int .i64 xl, .slice da dn dc, .string xt, .slice na nn nc, .slice za zn zc, .slice aa an ac] 38 _ (by simp)).alloc _
    have CX : Cr W (some ⟨(w.heap.size + 1), 0, none⟩) [.int .i64 xn, .int .i64 xk, .int .i64 xm, .int .i64 xl, .slice da dn dc, .string xt, .slice na nn nc, .slice za zn zc, .slice aa an ac] := fun _ => ⟨_, _, rfl, by rw [hW]; simp <;> omega, fun j u hj => by rw [Nat.zero_add, K0.cell j]; exact hj⟩
    have CC := Lib.hid (concat_ino (w.heap.size + 2) 0 3 3 [(0, []), (1, [.int .i64 xn, .int .i64 xk, .int .i64 xm, .int .i64 xl, .slice da dn dc, .string xt, .slice na nn nc, .slice za zn zc, .slice aa an ac]), (0, [])] W (rws_one (K1.cell 0) (K1.cell 1) (K1.cell 2) CX rfl (by intro u hu; simp only [List.mem_cons, List.not_mem_nil, or_false] at hu; rcases hu with rfl | rfl | rfl | rfl | rfl | rfl | rfl | rfl | rfl <;> rfl)) rfl (by decide) (by rw [hW]; simp) (by simp [sumR]))
    have HW : Hid (((((w.alloc (.cells #[.int .i64 xn, .int .i64 xk, .int .i64 xm, .int .i64 xl, .slice da dn dc, .string xt, .slice na nn nc, .slice za zn zc, .slice aa an ac] 38)).alloc (.cells #[.int .i64 xn, .int .i64 xk, .int .i64 xm, .int .i64 xl, .slice da dn dc, .string xt, .slice na nn nc, .slice za zn zc, .slice aa an ac] 38)).alloc (.cells #[.slice none 0 0, .slice (some ⟨(w.heap.size + 1), 0, none⟩) 1 1, .slice none 0 0] 22)).drew) = W) := hW.symm
    have BB := Lib.hid B1
    clear h hl hone hn hc hi hb hW B1 K1 K0 CX
    have G1 : (w.alloc (.cells #[.int .i64 xn, .int .i64 xk, .int .i64 xm, .int .i64 xl, .slice da dn dc, .string xt, .slice na nn nc, .slice za zn zc, .slice aa an ac] 38)).heap[w.heap.size]? = some (.cells #[.int .i64 xn, .int .i64 xk, .int .i64 xm, .int .i64 xl, .slice da dn dc, .string xt, .slice na nn nc, .slice za zn zc, .slice aa an ac] 38 (0, 0)) := Sh.Blk.new w [.int .i64 xn, .int .i64 xk, .int .i64 xm, .int .i64 xl, .slice da dn dc, .string xt, .slice na nn nc, .slice za zn zc, .slice aa an ac] 38 _ rfl
    go_enter Tryz.func58, Tryz.ntmps58
    go_wp2_with fail
    go_region_with (go_at_call 60; rw [HW.out]; refine CC.out.mono ?_; rintro e w2 ⟨hb, v, rfl, hown⟩)
    all_goals
      go_wp2_with fail
      go_ret
      exact ⟨below_chain BB.out hb, v, rfl, ownk_low hown BB.out.size⟩
  | some ad =>
    have q1 : (0 : Int) ≤ (i : Int) := by omega
    have q2 : (i : Int) ≤ (n : Int) := by omega
    have q3 : (i : Int) ≤ (c : Int) := by omega
    have q4 : (n : Int) ≤ (c : Int) := by omega
    have q5 : ¬ (i : Int) < 0 := by omega
    obtain ⟨ov, hov⟩ : ∃ ov, ov = (if c = i then some ad else some (ad.add (i * 9))) := ⟨_, rfl⟩
    obtain ⟨W, hW⟩ : ∃ W, W = (((w.alloc (.cells #[.int .i64 xn, .int .i64 xk, .int .i64 xm, .int .i64 xl, .slice da dn dc, .string xt, .slice na nn nc, .slice za zn zc, .slice aa an ac] 38)).alloc (.cells #[.int .i64 xn, .int .i64 xk, .int .i64 xm, .int .i64 xl, .slice da dn dc, .string xt, .slice na nn nc, .slice za zn zc, .slice aa an ac] 38)).alloc (.cells #[.slice (some ad) i c, .slice (some ⟨(w.heap.size + 1), 0, none⟩) 1 1, .slice (if c = i then some ad else some (ad.add (i * 9))) (n - i) (c - i)] 22)).drew := ⟨_, rfl⟩
    have B1 : Below w.heap.size w W := by rw [hW]; exact (below_alloc (below_alloc (below_alloc (Below.refl _ w) _) _) _).drew
    have K1 : Sh.Blk W (w.heap.size + 2) [.slice (some ad) i c, .slice (some ⟨(w.heap.size + 1), 0, none⟩) 1 1, .slice (if c = i then some ad else some (ad.add (i * 9))) (n - i) (c - i)] 22 := by rw [hW]; exact Sh.Blk.new _ [.slice (some ad) i c, .slice (some ⟨(w.heap.size + 1), 0, none⟩) 1 1, .slice (if c = i then some ad else some (ad.add (i * 9))) (n - i) (c - i)] 22 _ (by simp)
    have K0 : Sh.Blk W (w.heap.size + 1) [.int .i64 xn, .int .i64 xk, .int .i64 xm, .int .i64 xl, .slice da dn dc, .string xt, .slice na nn nc, .slice za zn zc, .slice aa an ac] 38 := by rw [hW]; exact (Sh.Blk.new _ [.int .i64 xn, .int .i64 xk, .int .i64 xm, .int .i64 xl, .slice da dn dc, .string xt, .slice na nn nc, .slice za zn zc, .slice aa an ac] 38 _ (by simp)).alloc _
    have CX : Cr W (some ⟨(w.heap.size + 1), 0, none⟩) [.int .i64 xn, .int .i64 xk, .int .i64 xm, .int .i64 xl, .slice da dn dc, .string xt, .slice na nn nc, .slice za zn zc, .slice aa an ac] := fun _ => ⟨_, _, rfl, by rw [hW]; simp <;> omega, fun j u hj => by rw [Nat.zero_add, K0.cell j]; exact hj⟩
    have C0 := concat_ino (w.heap.size + 2) 0 3 3 [(i, ls.take (i * 9)), (1, [.int .i64 xn, .int .i64 xk, .int .i64 xm, .int .i64 xl, .slice da dn dc, .string xt, .slice na nn nc, .slice za zn zc, .slice aa an ac]), (n - i, ls.drop (i * 9))] W (rws_with B1 h hl hone hi hc (by omega) (K1.cell 0) (K1.cell 1) (K1.cell 2) CX rfl (by intro u hu; simp only [List.mem_cons, List.not_mem_nil, or_false] at hu; rcases hu with rfl | rfl | rfl | rfl | rfl | rfl | rfl | rfl | rfl <;> rfl)) rfl (by decide) (by rw [hW]; simp) (by simp [sumR]; omega)
    rw [show sumR [(i, ls.take (i * 9)), (1, [.int .i64 xn, .int .i64 xk, .int .i64 xm, .int .i64 xl, .slice da dn dc, .string xt, .slice na nn nc, .slice za zn zc, .slice aa an ac]), (n - i, ls.drop (i * 9))] 3 = n + 1 by simp [sumR]; omega, show flatR [(i, ls.take (i * 9)), (1, [.int .i64 xn, .int .i64 xk, .int .i64 xm, .int .i64 xl, .slice da dn dc, .string xt, .slice na nn nc, .slice za zn zc, .slice aa an ac]), (n - i, ls.drop (i * 9))] 3 = ls.take (i * 9) ++ ([.int .i64 xn, .int .i64 xk, .int .i64 xm, .int .i64 xl, .slice da dn dc, .string xt, .slice na nn nc, .slice za zn zc, .slice aa an ac] ++ ls.drop (i * 9)) by simp [flatR]] at C0
    have CC := Lib.hid C0
    obtain ⟨xs, hxs⟩ : ∃ xs, xs = ls.take (i * 9) ++ ([.int .i64 xn, .int .i64 xk, .int .i64 xm, .int .i64 xl, .slice da dn dc, .string xt, .slice na nn nc, .slice za zn zc, .slice aa an ac] ++ ls.drop (i * 9)) := ⟨_, rfl⟩
    rw [← hxs] at CC ⊢
    have HW : Hid (((((w.alloc (.cells #[.int .i64 xn, .int .i64 xk, .int .i64 xm, .int .i64 xl, .slice da dn dc, .string xt, .slice na nn nc, .slice za zn zc, .slice aa an ac] 38)).alloc (.cells #[.int .i64 xn, .int .i64 xk, .int .i64 xm, .int .i64 xl, .slice da dn dc, .string xt, .slice na nn nc, .slice za zn zc, .slice aa an ac] 38)).alloc (.cells #[.slice (some ad) i c, .slice (some ⟨(w.heap.size + 1), 0, none⟩) 1 1, .slice (if c = i then some ad else some (ad.add (i * 9))) (n - i) (c - i)] 22)).drew) = W) := hW.symm
    have BB := Lib.hid B1
    clear h hl hone hn hc hi hb hW B1 K1 K0 CX C0 hxs hov
    have G1 : (w.alloc (.cells #[.int .i64 xn, .int .i64 xk, .int .i64 xm, .int .i64 xl, .slice da dn dc, .string xt, .slice na nn nc, .slice za zn zc, .slice aa an ac] 38)).heap[w.heap.size]? = some (.cells #[.int .i64 xn, .int .i64 xk, .int .i64 xm, .int .i64 xl, .slice da dn dc, .string xt, .slice na nn nc, .slice za zn zc, .slice aa an ac] 38 (0, 0)) := Sh.Blk.new w [.int .i64 xn, .int .i64 xk, .int .i64 xm, .int .i64 xl, .slice da dn dc, .string xt, .slice na nn nc, .slice za zn zc, .slice aa an ac] 38 _ rfl
    go_enter Tryz.func58, Tryz.ntmps58
    go_wp2_with fail
    go_region_with (go_at_call 60; rw [HW.out]; refine CC.out.mono ?_; clear CC; generalize (if c = i then some ad else some (ad.add (i * 9))) = ov at *; rintro e w2 ⟨hb, v, rfl, hown⟩)
    all_goals
      go_wp2_with fail
      go_ret
      exact ⟨below_chain BB.out hb, v, rfl, ownk_low hown BB.out.size⟩
set_option maxHeartbeats 4000000 in
set_option maxRecDepth 100000 in
theorem without_ino (ad : Addr) (n c i : Nat) (ls : List Value) (w : World) (h : Cr w (some ad) ls) (hl : ls.length = n * 9) (hone : ∀ u ∈ ls, u.oneCell' = true) (hc : n ≤ c) (hi : i + 1 ≤ n) (hb : n ≤ 900000) :
    Calls Tryz.prog 44 #[.slice (some ad) n c, .int .i64 i] w (AnsK 38 9 (n - 1) (ls.take (i * 9) ++ ls.drop ((i + 1) * 9)) w) := by
  obtain ⟨m, hm⟩ : ∃ m, m = i + 1 := ⟨_, rfl⟩
  have HM := Lib.hid hm
  have q1 : (0 : Int) ≤ (i : Int) := by omega
  have q2 : (i : Int) ≤ (n : Int) := by omega
  have q3 : (i : Int) ≤ (c : Int) := by omega
  have q4 : (n : Int) ≤ (c : Int) := by omega
  have q5 : ¬ (i : Int) < 0 := by omega
  have q8 : (m : Int) ≤ (c : Int) := by omega
  have hwi : IntKind.i64.wrap ((i : Int) + 1) = (m : Int) := by rw [IntKind.wrap]; simp [IntKind.bits, IntKind.signed]; omega
  have q9 : (m : Int) ≤ (n : Int) := by omega
  have q10 : (0 : Int) ≤ (m : Int) := by omega
  obtain ⟨W, hW⟩ : ∃ W, W = (w.alloc (.cells #[.slice (some ad) i c, .slice (if c = m then some ad else some (ad.add (m * 9))) (n - m) (c - m)] 22)).drew := ⟨_, rfl⟩
  have B1 : Below w.heap.size w W := by rw [hW]; exact (below_alloc (Below.refl _ w) _).drew
  have K1 : Sh.Blk W w.heap.size [.slice (some ad) i c, .slice (if c = m then some ad else some (ad.add (m * 9))) (n - m) (c - m)] 22 := by rw [hW]; exact Sh.Blk.new _ [.slice (some ad) i c, .slice (if c = m then some ad else some (ad.add (m * 9))) (n - m) (c - m)] 22 _ rfl
  have C0 := concat_ino w.heap.size 0 2 2 [(i, ls.take (i * 9)), (n - (i + 1), ls.drop ((i + 1) * 9))] W (rws_less (m := m * 9) B1 h hl hone hi hc (by rw [hm]) (K1.cell 0) (by rw [← hm]; exact K1.cell 1)) rfl (by decide) (by rw [hW]; simp) (by simp [sumR]; omega)
  rw [show sumR [(i, ls.take (i * 9)), (n - (i + 1), ls.drop ((i + 1) * 9))] 2 = n - 1 by simp [sumR]; omega, show flatR [(i, ls.take (i * 9)), (n - (i + 1), ls.drop ((i + 1) * 9))] 2 = ls.take (i * 9) ++ ls.drop ((i + 1) * 9) by simp [flatR]] at C0
  have CC := Lib.hid C0
  obtain ⟨xs, hxs⟩ : ∃ xs, xs = ls.take (i * 9) ++ ls.drop ((i + 1) * 9) := ⟨_, rfl⟩
  rw [← hxs] at CC ⊢
  have HW : Hid ((w.alloc (.cells #[.slice (some ad) i c, .slice (if c = m then some ad else some (ad.add (m * 9))) (n - m) (c - m)] 22)).drew = W) := hW.symm
  have BB := Lib.hid B1
  clear h hl hone hc hi hb hW B1 K1 C0 hxs hm
  go_enter Tryz.func44, Tryz.ntmps44
  go_wp2_with fail
  go_region_with (go_at_call 60; rw [HW.out]; refine CC.out.mono ?_; clear CC; generalize (if c = m then some ad else some (ad.add (m * 9))) = ov at *; rintro e w2 ⟨hb, v, rfl, hown⟩)
  all_goals
    go_wp2_with fail
    go_ret
    exact ⟨below_chain BB.out hb, v, rfl, ownk_low hown BB.out.size⟩
end Go.Proofs.YtcgbaiogbcodcaaGreatDoor.Lw
namespace Go.Proofs.YtcgbaiogbcodcaaGreatDoor.Lw
open Go.RowKit Go.Lib Go.Proofs.YtcgbaiogbcodcaaGreatDoor.Sh Go.Proofs.YtcgbaiogbcodcaaGreatDoor.Lb Go.Proofs.YtcgbaiogbcodcaaGreatDoor.Pf
open Go.Maps

/-- what is made of a file system -/
def AnsPut (l xs : List InoP) (nx : Int) (w : World) (e : Ending) (w' : World) : Prop := Below w.heap.size w w' ∧ ∃ L v, Puts l xs L ∧ e = .returned (.agg #[v, .int .i64 nx]) ∧ OwnI w.heap.size w' L v
theorem foldPuts {l xs : List InoP} {i : Nat} {x : InoP} {L : List InoP} {a : Nat} {b : Bool} (h : Puts l (xs.take i) L) (hx : xs[i]? = some x) (hs : Sk L x.num a b) : Puts l (xs.take (i + 1)) (putAt L a b x) := by
  rw [List.take_add_one, hx]
  exact h.snoc hs
/-- a row of which all but one inode is as it will be -/
def AllBut (B : Nat) (w : World) (g : Nat) (L : List InoP) (at_ : Nat) : Prop := ∃ (f : Nat → List Value) (P : Nat → Sl), B ≤ g ∧ Rk 38 9 w g L.length f ∧ (∀ j, j < L.length → (f j).length = 9) ∧ ∀ j x, j ≠ at_ → L[j]? = some x → f j = inC x (P j) ∧ Dep (fun b => B ≤ b ∧ b ≠ g) w fun w' => IvS w' x (P j)
theorem AllBut.below {B g i : Nat} {w w' : World} {L : List InoP} (h : AllBut B w g L i) (hb : Below w.heap.size w w') : AllBut B w' g L i := by
  obtain ⟨f, P, h1, h2, h3, h4⟩ := h
  exact ⟨f, P, h1, h2.below hb, h3, fun j x hj hx => ⟨(h4 j x hj hx).1, (h4 j x hj hx).2.below hb⟩⟩
theorem AllBut.grown {B g i b : Nat} {w w' : World} {L : List InoP} (h : AllBut B w g L i) (hg : w.grownBy w' (some b)) (hb : b < B) : AllBut B w' g L i := by
  obtain ⟨f, P, h1, h2, h3, h4⟩ := h
  exact ⟨f, P, h1, h2.grown hg (by omega), h3, fun j x hj hx => ⟨(h4 j x hj hx).1, (h4 j x hj hx).2.grown hg (by omega)⟩⟩
theorem AllBut.there {B g i : Nat} {w : World} {L : List InoP} (h : AllBut B w g L i) (hi : i < L.length) : w.there g (i * 9) 9 := by
  obtain ⟨f, P, h1, h2, h3, h4⟩ := h
  exact rk_there h2 hi (h3 i hi)
theorem AllBut.set {B g i H : Nat} {w : World} {L : List InoP} {x : InoP} {p : Sl} (h : AllBut B w g L i) (hx : L[i]? = some x) (hB : B ≤ H) (hg : g < H) (hp : Dep (fun b => H ≤ b) w fun w' => IvS w' x p) : ∃ P, RowI B (w.setCells g (i * 9) (inC x p)) g L.length L P := by
  obtain ⟨f, P, h1, h2, h3, h4⟩ := h
  have hi := (List.getElem?_eq_some_iff.1 hx).1
  have gs := gb_sets g (inC x p) (i * 9) w
  refine ⟨fun j => if j = i then p else P j, h1, rfl, (h2.set hi (inC x p) rfl).congr fun j hj => ?_, fun j y hy => ?_⟩
  · by_cases hji : j = i
    · subst hji
      rw [if_pos rfl, inF_at hx, if_pos rfl]
    · obtain ⟨y, hy⟩ : ∃ y, L[j]? = some y := ⟨_, List.getElem?_eq_getElem hj⟩
      rw [if_neg hji, inF_at hy, if_neg hji, (h4 j y hji hy).1]
  · by_cases hji : j = i
    · subst hji
      have e : x = y := Option.some.inj (hx.symm.trans hy)
      subst e
      simp only [if_true]
      exact (hp.grown gs (Nat.not_le.2 hg)).mono fun b hb => ⟨Nat.le_trans hB hb, fun e => by rw [e] at hb; exact absurd hg (Nat.not_lt.2 hb)⟩
    · simp only [if_neg hji]
      exact (h4 j y hji hy).2.grown gs (fun h => h.2 rfl)
theorem allBut_set {B g n : Nat} {w : World} {l : List InoP} {P : Nat → Sl} {x : InoP} {i : Nat} (h : RowI B w g n l P) (hs : Sk l x.num i true) : AllBut B w g (putAt l i true x) i := by
  obtain ⟨h1, h2, h3, h4⟩ := h
  refine ⟨inF l P, P, h1, by rw [putAt_len hs.le, if_pos rfl, h2]; exact h3, fun j _ => inF_len _ _ _, fun j y hj hy => ?_⟩
  rw [putAt_set, List.getElem?_set, if_neg (fun e => hj e.symm)] at hy
  exact ⟨inF_at hy P, h4 j y hy⟩
theorem allBut_ins {B g n G : Nat} {w W : World} {l : List InoP} {P : Nat → Sl} {x : InoP} {i : Nat} {z : List Value} (h : RowI B w g n l P) (hs : Sk l x.num i false) (hb : Below w.heap.size w W) (hG : B ≤ G) (hGw : w.heap.size ≤ G) (hz : z.length = 9)
    (hr : Rk 38 9 W G (n + 1) (fun j => if j < i then inF l P j else if j = i then z else inF l P (j - 1))) : AllBut B W G (putAt l i false x) i := by
  obtain ⟨h1, h2, h3, h4⟩ := h
  have hl : (putAt l i false x).length = n + 1 := by rw [putAt_len hs.le, if_neg (by decide), h2]
  have hd : ∀ j y, l[j]? = some y → Dep (fun b => B ≤ b ∧ b ≠ G) W fun w' => IvS w' y (P j) := fun j y hy w' hs' hb' => by
    refine h4 j y hy w' (Nat.le_trans hb.size hs') fun b hbb hlt => ?_
    rw [hb' b ⟨hbb.1, by omega⟩ (Nat.lt_of_lt_of_le hlt hb.size)]
    exact hb.block b hlt
  refine ⟨_, fun j => if j < i then P j else P (j - 1), hG, by rw [hl]; exact hr, fun j _ => ?_, fun j y hj hy => ?_⟩
  · split
    · exact inF_len _ _ _
    · split
      · exact hz
      · exact inF_len _ _ _
  · rw [putAt_ins, ins_get hs.le] at hy
    by_cases hji : j < i
    · rw [if_pos hji] at hy
      simp only [if_pos hji]
      exact ⟨inF_at hy P, hd j y hy⟩
    · rw [if_neg hji, if_neg hj] at hy
      simp only [if_neg hji, if_neg hj]
      exact ⟨inF_at hy P, hd (j - 1) y hy⟩
end Go.Proofs.YtcgbaiogbcodcaaGreatDoor.Lw
namespace Go.Proofs.YtcgbaiogbcodcaaGreatDoor.Lw
open Go.RowKit Go.Lib Go.Proofs.YtcgbaiogbcodcaaGreatDoor.Sh Go.Proofs.YtcgbaiogbcodcaaGreatDoor.Lb Go.Proofs.YtcgbaiogbcodcaaGreatDoor.Pf
open Go.Maps

theorem RowI.irw {B g n : Nat} {w : World} {l : List InoP} {P : Nat → Sl} (h : RowI B w g n l P) (h1 : n ≤ 9223372036854775807) : Irw w (some ⟨g, 0, none⟩) l := by
  obtain ⟨_, _, e, _, _, _, hi⟩ := h.newI (Nat.le_refl n) h1
  injection e with e _ _
  rw [e]
  exact hi.self
def At8 (w' : World) (h0 G N C hx : Nat) (c0 c1 c2 c3 c4 c5 c6 c7 c8 : Value) : Prop := w'.cell? ⟨h0, 0, none⟩ = some (.slice (some ⟨G, 0, none⟩) N C) ∧ w'.cell? ⟨hx, 0, none⟩ = some c0 ∧ w'.cell? ⟨hx, 1, none⟩ = some c1 ∧ w'.cell? ⟨hx, 2, none⟩ = some c2 ∧ w'.cell? ⟨hx, 3, none⟩ = some c3 ∧ w'.cell? ⟨hx, 4, none⟩ = some c4 ∧ w'.cell? ⟨hx, 5, none⟩ = some c5 ∧ w'.cell? ⟨hx, 6, none⟩ = some c6 ∧ w'.cell? ⟨hx, 7, none⟩ = some c7 ∧ w'.cell? ⟨hx, 8, none⟩ = some c8
theorem at8_of {w : World} {h0 G N C hx : Nat} {c0 c1 c2 c3 c4 c5 c6 c7 c8 : Value} (h : w.cell? ⟨h0, 0, none⟩ = some (.slice (some ⟨G, 0, none⟩) N C)) (k : Sh.Blk w hx [c0, c1, c2, c3, c4, c5, c6, c7, c8] 38) : At8 w h0 G N C hx c0 c1 c2 c3 c4 c5 c6 c7 c8 :=
  ⟨h, k.cell 0, k.cell 1, k.cell 2, k.cell 3, k.cell 4, k.cell 5, k.cell 6, k.cell 7, k.cell 8⟩
theorem keepc {w : World} {G o : Nat} {ds : List Value} {q : Addr} {u : Value} (h : w.cell? q = some u) (hn : q.block ≠ G) : (w.setCells G o ds).cell? q = some u := by
  rw [World.cell?_setCells_out _ _ _ _ _ (fun e => absurd e hn)]
  exact h
theorem keep8 {w : World} {h0 G N C hx : Nat} {c0 c1 c2 c3 c4 c5 c6 c7 c8 : Value} {ds : List Value} (o : Nat) (h : At8 w h0 G N C hx c0 c1 c2 c3 c4 c5 c6 c7 c8) (n1 : h0 ≠ G) (n2 : hx ≠ G) : At8 (w.setCells G o ds) h0 G N C hx c0 c1 c2 c3 c4 c5 c6 c7 c8 := by
  obtain ⟨h1, h2, h3, h4, h5, h6, h7, h8, h9, h10⟩ := h
  exact ⟨keepc h1 n1, keepc h2 n2, keepc h3 n2, keepc h4 n2, keepc h5 n2, keepc h6 n2, keepc h7 n2, keepc h8 n2, keepc h9 n2, keepc h10 n2⟩
theorem at8_low {w w' : World} {h0 G N C hx : Nat} {c0 c1 c2 c3 c4 c5 c6 c7 c8 : Value} (h : At8 w h0 G N C hx c0 c1 c2 c3 c4 c5 c6 c7 c8) (hb : Below w.heap.size w w') : At8 w' h0 G N C hx c0 c1 c2 c3 c4 c5 c6 c7 c8 := by
  have k : ∀ {q : Addr} {u : Value}, w.cell? q = some u → w'.cell? q = some u := fun {q u} h => (hb.cell (p := q) (World.block_lt_of_cell? w _ h)).trans h
  obtain ⟨h1, h2, h3, h4, h5, h6, h7, h8, h9, h10⟩ := h
  exact ⟨k h1, k h2, k h3, k h4, k h5, k h6, k h7, k h8, k h9, k h10⟩
theorem there_below {w w' : World} {b o n : Nat} (h : w.there b o n) (hb : Below w.heap.size w w') : w'.there b o n := fun j hj => by
  obtain ⟨h1, h2⟩ := h j hj
  obtain ⟨u, hu⟩ := Option.isSome_iff_exists.1 h1
  have hlt := World.block_lt_of_cell? w _ hu
  exact ⟨by rw [(hb.cell (p := ⟨b, o + j, none⟩) hlt)]; exact h1, by rw [← h2]; exact World.frozen?_of_block (hb.block b hlt)⟩
theorem at8_out {w : World} {h0 G N C hx : Nat} {c0 c1 c2 c3 c4 c5 c6 c7 c8 : Value} (h : At8 w h0 G N C hx c0 c1 c2 c3 c4 c5 c6 c7 c8) : w.cell? ⟨h0, 0, none⟩ = some (.slice (some ⟨G, 0, none⟩) N C) ∧ w.cell? ⟨hx, 0, none⟩ = some c0 ∧ w.cell? ⟨hx, 1, none⟩ = some c1 ∧ w.cell? ⟨hx, 2, none⟩ = some c2 ∧ w.cell? ⟨hx, 3, none⟩ = some c3 ∧ w.cell? ⟨hx, 4, none⟩ = some c4 ∧ w.cell? ⟨hx, 5, none⟩ = some c5 ∧ w.cell? ⟨hx, 6, none⟩ = some c6 ∧ w.cell? ⟨hx, 7, none⟩ = some c7 ∧ w.cell? ⟨hx, 8, none⟩ = some c8 := h
theorem keep9 {w : World} {h0 G N C hx o : Nat} {c0 c1 c2 c3 c4 c5 c6 c7 c8 : Value} {v0 v1 v2 v3 v4 v5 v6 v7 v8 : Value} (h : At8 w h0 G N C hx c0 c1 c2 c3 c4 c5 c6 c7 c8) (n1 : h0 ≠ G) (n2 : hx ≠ G) : (((((((((w.setCell ⟨G, o, none⟩ v0).setCell ⟨G, o + 1, none⟩ v1).setCell ⟨G, o + 2, none⟩ v2).setCell ⟨G, o + 3, none⟩ v3).setCell ⟨G, o + 4, none⟩ v4).setCell ⟨G, o + 5, none⟩ v5).setCell ⟨G, o + 6, none⟩ v6).setCell ⟨G, o + 7, none⟩ v7).setCell ⟨G, o + 8, none⟩ v8).cell? ⟨h0, 0, none⟩ = some (.slice (some ⟨G, 0, none⟩) N C) ∧ (((((((((w.setCell ⟨G, o, none⟩ v0).setCell ⟨G, o + 1, none⟩ v1).setCell ⟨G, o + 2, none⟩ v2).setCell ⟨G, o + 3, none⟩ v3).setCell ⟨G, o + 4, none⟩ v4).setCell ⟨G, o + 5, none⟩ v5).setCell ⟨G, o + 6, none⟩ v6).setCell ⟨G, o + 7, none⟩ v7).setCell ⟨G, o + 8, none⟩ v8).cell? ⟨hx, 0, none⟩ = some c0 ∧ (((((((((w.setCell ⟨G, o, none⟩ v0).setCell ⟨G, o + 1, none⟩ v1).setCell ⟨G, o + 2, none⟩ v2).setCell ⟨G, o + 3, none⟩ v3).setCell ⟨G, o + 4, none⟩ v4).setCell ⟨G, o + 5, none⟩ v5).setCell ⟨G, o + 6, none⟩ v6).setCell ⟨G, o + 7, none⟩ v7).setCell ⟨G, o + 8, none⟩ v8).cell? ⟨hx, 1, none⟩ = some c1 ∧ (((((((((w.setCell ⟨G, o, none⟩ v0).setCell ⟨G, o + 1, none⟩ v1).setCell ⟨G, o + 2, none⟩ v2).setCell ⟨G, o + 3, none⟩ v3).setCell ⟨G, o + 4, none⟩ v4).setCell ⟨G, o + 5, none⟩ v5).setCell ⟨G, o + 6, none⟩ v6).setCell ⟨G, o + 7, none⟩ v7).setCell ⟨G, o + 8, none⟩ v8).cell? ⟨hx, 2, none⟩ = some c2 ∧ (((((((((w.setCell ⟨G, o, none⟩ v0).setCell ⟨G, o + 1, none⟩ v1).setCell ⟨G, o + 2, none⟩ v2).setCell ⟨G, o + 3, none⟩ v3).setCell ⟨G, o + 4, none⟩ v4).setCell ⟨G, o + 5, none⟩ v5).setCell ⟨G, o + 6, none⟩ v6).setCell ⟨G, o + 7, none⟩ v7).setCell ⟨G, o + 8, none⟩ v8).cell? ⟨hx, 3, none⟩ = some c3 ∧ (((((((((w.setCell ⟨G, o, none⟩ v0).setCell ⟨G, o + 1, none⟩ v1).setCell ⟨G, o + 2, none⟩ v2).setCell ⟨G, o + 3, none⟩ v3).setCell ⟨G, o + 4, none⟩ v4).setCell ⟨G, o + 5, none⟩ v5).setCell ⟨G, o + 6, none⟩ v6).setCell ⟨G, o + 7, none⟩ v7).setCell ⟨G, o + 8, none⟩ v8).cell? ⟨hx, 4, none⟩ = some c4 ∧ (((((((((w.setCell ⟨G, o, none⟩ v0).setCell ⟨G, o + 1, none⟩ v1).setCell ⟨G, o + 2, none⟩ v2).setCell ⟨G, o + 3, none⟩ v3).setCell ⟨G, o + 4, none⟩ v4).setCell ⟨G, o + 5, none⟩ v5).setCell ⟨G, o + 6, none⟩ v6).setCell ⟨G, o + 7, none⟩ v7).setCell ⟨G, o + 8, none⟩ v8).cell? ⟨hx, 5, none⟩ = some c5 ∧ (((((((((w.setCell ⟨G, o, none⟩ v0).setCell ⟨G, o + 1, none⟩ v1).setCell ⟨G, o + 2, none⟩ v2).setCell ⟨G, o + 3, none⟩ v3).setCell ⟨G, o + 4, none⟩ v4).setCell ⟨G, o + 5, none⟩ v5).setCell ⟨G, o + 6, none⟩ v6).setCell ⟨G, o + 7, none⟩ v7).setCell ⟨G, o + 8, none⟩ v8).cell? ⟨hx, 6, none⟩ = some c6 ∧ (((((((((w.setCell ⟨G, o, none⟩ v0).setCell ⟨G, o + 1, none⟩ v1).setCell ⟨G, o + 2, none⟩ v2).setCell ⟨G, o + 3, none⟩ v3).setCell ⟨G, o + 4, none⟩ v4).setCell ⟨G, o + 5, none⟩ v5).setCell ⟨G, o + 6, none⟩ v6).setCell ⟨G, o + 7, none⟩ v7).setCell ⟨G, o + 8, none⟩ v8).cell? ⟨hx, 7, none⟩ = some c7 ∧ (((((((((w.setCell ⟨G, o, none⟩ v0).setCell ⟨G, o + 1, none⟩ v1).setCell ⟨G, o + 2, none⟩ v2).setCell ⟨G, o + 3, none⟩ v3).setCell ⟨G, o + 4, none⟩ v4).setCell ⟨G, o + 5, none⟩ v5).setCell ⟨G, o + 6, none⟩ v6).setCell ⟨G, o + 7, none⟩ v7).setCell ⟨G, o + 8, none⟩ v8).cell? ⟨hx, 8, none⟩ = some c8 := keep8 (ds := [v0, v1, v2, v3, v4, v5, v6, v7, v8]) o h n1 n2
/-- nine cells that may be written -/
def May9 (w : World) (G o : Nat) : Prop := ∀ q, q < 9 → (∃ u, w.cell? ⟨G, o + q, none⟩ = some u) ∧ w.frozen? ⟨G, o + q, none⟩ = false
theorem May9.of {w : World} {G o : Nat} (h : w.there G o 9) : May9 w G o := fun q hq => ⟨Option.isSome_iff_exists.1 (h q hq).1, (h q hq).2⟩
/-- what the copy of an inode is, its cells told -/
def AnsCX (xn xk xm xl : Int) (xd : List UInt8) (xt : ByteArray) (xs : List ByteArray) (xz : List Int) (xa : List (ByteArray × List UInt8)) (w : World) (e : Ending) (w' : World) : Prop := Below w.heap.size w w' ∧ ∃ da' dn' dc' na' nn' nc' za' zn' zc' aa' an' ac', e = .returned (.agg #[.int .i64 xn, .int .i64 xk, .int .i64 xm, .int .i64 xl, .slice da' dn' dc', .string xt, .slice na' nn' nc', .slice za' zn' zc', .slice aa' an' ac']) ∧ Dep (fun i => w.heap.size ≤ i) w' fun w'' => IvS w'' ⟨xn, xk, xm, xl, xd, xt, xs, xz, xa⟩ ⟨da', dn', dc', na', nn', nc', za', zn', zc', aa', an', ac'⟩
set_option maxRecDepth 100000 in
theorem inode_copyX (xn xk xm xl : Int) (xd : List UInt8) (xt : ByteArray) (xs : List ByteArray) (xz : List Int) (xa : List (ByteArray × List UInt8)) (da na za aa : Option Addr) (dn dc nn nc zn zc an ac : Nat) (w : World) (h : IvP w ⟨xn, xk, xm, xl, xd, xt, xs, xz, xa⟩ da dn dc na nn nc za zn zc aa an ac) (hF : FarI ⟨xn, xk, xm, xl, xd, xt, xs, xz, xa⟩) : Calls Tryz.prog 57 #[.agg #[.int .i64 xn, .int .i64 xk, .int .i64 xm, .int .i64 xl, .slice da dn dc, .string xt, .slice na nn nc, .slice za zn zc, .slice aa an ac]] w (AnsCX xn xk xm xl xd xt xs xz xa w) := by
  refine (inode_copy xn xk xm xl xd xt xs xz xa da na za aa dn dc nn nc zn zc an ac w h hF).mono ?_
  rintro e w' ⟨hb, ⟨da', dn', dc', na', nn', nc', za', zn', zc', aa', an', ac'⟩, rfl, hd⟩
  exact ⟨hb, da', dn', dc', na', nn', nc', za', zn', zc', aa', an', ac', rfl, hd⟩
set_option maxHeartbeats 16000000 in
set_option maxRecDepth 100000 in
theorem put_any (ao : Option Addr) (l xs : List InoP) (n c m b o cm : Nat) (nx : Int) (w : World) (h : Irw w ao l) (hl : l.length = n) (hn : ao = none → c = 0) (hc : n ≤ c) (hF : FarL l) (hr : Rise l) (hl0 : l ≠ []) (hb : n ≤ 1000)
    (hx : Irw w (some ⟨b, o, none⟩) xs) (hxl : xs.length = m) (hm : m ≤ 4) (hxF : ∀ x ∈ xs, FarI x) :
    Calls Tryz.prog 38 #[.agg #[.slice ao n c, .int .i64 nx], .slice (some ⟨b, o, none⟩) m cm] w (AnsPut l xs nx w) := by
  obtain ⟨w1, hw1⟩ : ∃ w1, w1 = (w.alloc (.cells #[.slice ao n c, .int .i64 nx] 24)).alloc (.cells #[.slice none 0 0, .int .i64 0] 24) := ⟨_, rfl⟩
  have b0 : Below w.heap.size w (w.alloc (.cells #[.slice ao n c, .int .i64 nx] 24)) := (Below.refl _ w).alloc (Nat.le_refl _) _
  have b1 : Below w.heap.size w w1 := by rw [hw1]; exact b0.alloc b0.size _
  have s1 : w1.heap.size = w.heap.size + 2 := by rw [hw1]; simp
  have x1 : Sh.Blk w1 w.heap.size [.slice ao n c, .int .i64 nx] 24 := by rw [hw1]; exact (Sh.Blk.new w [.slice ao n c, .int .i64 nx] 24 _ rfl).alloc _
  have r1 : Sh.Blk w1 (w.heap.size + 1) [.slice none 0 0, .int .i64 0] 24 := by rw [hw1]; exact Sh.Blk.new _ [.slice none 0 0, .int .i64 0] 24 _ (by simp)
  have CC := Lib.hid (renewed_any ao l n c nx w1 (h.below b1) hl hn hc hF)
  have B1 := Lib.hid b1
  have X1 := Lib.hid x1
  have R1 := Lib.hid r1
  have S1 := Lib.hid s1
  have HW1 := Lib.hid hw1
  have HX := Lib.hid hx
  have HXL := Lib.hid hxl
  have HXF := Lib.hid hxF
  have HR := Lib.hid hr
  have HL := Lib.hid hl
  have HL0 := Lib.hid hl0
  have c0 := x1.cell 0
  have c1 := x1.cell 1
  simp only [List.getElem?_cons_zero, List.getElem?_cons_succ] at c0 c1
  rw [hw1] at c0 c1
  clear h hl hn hc hF hr hl0 hx hxl hxF x1 r1 b0 b1 s1 hw1
  go_enter Tryz.func38, Tryz.ntmps38
  go_wp2_with fail
  rw [← HW1.out]
  refine CC.out.mono ?_
  clear CC HW1 c0 c1
  rintro e w2 ⟨hb2, v, rfl, hown⟩
  obtain ⟨ao', c', rfl, o1, o2, o3, o4⟩ := hown
  obtain ⟨g, P, rfl, hrow⟩ := o4 HL0.out
  rw [HL.out] at o1 hrow ⊢
  have X2 := X1.out.low hb2
  have R2 := R1.out.low hb2
  have c0 := X2.cell 0
  have c1 := X2.cell 1
  have f0 := X2.frozen 0
  have f1 := X2.frozen 1
  simp only [List.getElem?_cons_zero, List.getElem?_cons_succ] at c0 c1
  have gs := grownBy_trans (grownBy_setCell w2 w.heap.size 0 (.slice (some ⟨g, 0, none⟩) n c')) (grownBy_setCell _ w.heap.size 1 (.int .i64 nx))
  have X3 := Lib.hid ((X2.set 0 (.slice (some ⟨g, 0, none⟩) n c')).set 1 (.int .i64 nx))
  simp only [List.set_cons_zero, List.set_cons_succ] at X3
  have R3 := Lib.hid (blk_grown R2 gs (by omega))
  have B3 := Lib.hid (below_own (below_chain B1.out hb2) gs (Nat.le_refl _))
  have W3 := Lib.hid ((hrow.grown gs (by have := S1.out; omega)).low (B' := w.heap.size + 2) (by have := S1.out; omega))
  have O12 : Hid (n ≤ c' ∧ c' ≤ 9223372036854775807) := ⟨o1, o2⟩
  clear hb2 o1 o2 o3 o4 hrow X2 R2 gs X1 R1 B1 S1
  go_wp2_with fail
  go_loopw [13] (fun vi wr => ∃ (i : Nat) (L : List InoP) (g : Nat) (P : Nat → Sl) (N C : Nat), i ≤ m ∧ vi = .int .i64 i ∧ Hid (Puts l (xs.take i) L) ∧ Hid (Rise L) ∧ Hid (N ≤ n + i) ∧ Hid (0 < N ∧ N ≤ C ∧ C ≤ 9223372036854775807) ∧ Hid (Sh.Blk wr w.heap.size [.slice (some ⟨g, 0, none⟩) N C, .int .i64 nx] 24) ∧ Hid (Sh.Blk wr (w.heap.size + 1) [.slice none 0 0, .int .i64 0] 24) ∧ Hid (RowI (w.heap.size + 2) wr g N L P) ∧ Hid (Below w.heap.size w wr)) (fun vi _ => m - (RowKit.intOf vi).toNat)
  case atStart => exact ⟨0, l, g, P, n, c', Nat.zero_le _, rfl, (rfl : l = l), HR.out, Nat.le_refl _, ⟨by rw [← HL.out]; exact List.length_pos_iff.2 HL0.out, O12.out.1, O12.out.2⟩, X3.out, R3.out, W3.out, B3.out⟩
  case round =>
    clear X3 R3 W3 B3 O12
    obtain ⟨i, L, g, P, N, C, hi, rfl, hPut, hRise, hN, hNC, hX, hRes, hRow, hB⟩ := hrel
    by_cases him : i < m
    rotate_left
    · obtain rfl : i = m := by omega
      have FP : Hid (Puts l xs L) := by
        have := hPut.out
        rwa [List.take_of_length_le (by rw [HXL.out]; exact Nat.le_refl _)] at this
      have FO : Hid (RowI (w.heap.size + 2) wr g N L P) := hRow
      have d0 := hX.out.cell 0
      have d1 := hX.out.cell 1
      have e0 := hRes.out.cell 0
      have e1 := hRes.out.cell 1
      have f0 := hRes.out.frozen 0
      have f1 := hRes.out.frozen 1
      simp only [List.getElem?_cons_zero, List.getElem?_cons_succ] at d0 d1 e0 e1
      have K4 := Lib.hid ((hRes.out.set 0 (.slice (some ⟨g, 0, none⟩) N C)).set 1 (.int .i64 nx))
      have gs := grownBy_trans (grownBy_setCell wr (w.heap.size + 1) 0 (.slice (some ⟨g, 0, none⟩) N C)) (grownBy_setCell _ (w.heap.size + 1) 1 (.int .i64 nx))
      have B4 := Lib.hid (below_own hB.out gs (Nat.le_succ _))
      have O4 : Hid (OwnI w.heap.size ((wr.setCell ⟨w.heap.size + 1, 0, none⟩ (.slice (some ⟨g, 0, none⟩) N C)).setCell ⟨w.heap.size + 1, 1, none⟩ (.int .i64 nx)) L (.slice (some ⟨g, 0, none⟩) N C)) := by
        have hr := (hRow.out.grown gs (by omega)).low (B' := w.heap.size) (by omega)
        have hLN := hr.2.1
        exact ⟨_, C, by rw [hLN], by rw [hLN]; exact hNC.out.2.1, hNC.out.2.2, (fun h => by cases h), fun _ => ⟨g, P, rfl, by rw [hLN]; exact hr⟩⟩
      have ne1 : ¬ w.heap.size = w.heap.size + 1 := by omega
      have ne2 : ¬ w.heap.size + 1 = w.heap.size := by omega
      clear hPut hRise hN hX hRes hRow hB gs
      go_wp2_with fail
      exact bodyPost_ret (results_cell_row rfl _ _ (w.heap.size + 1) 24 _ (0, 0) _ rfl K4.out Tryz.underlying24 rfl (size24 _ _)) rfl ⟨B4.out, L, _, FP.out, rfl, O4.out⟩
    obtain ⟨x, hx⟩ : ∃ x, xs[i]? = some x := ⟨_, List.getElem?_eq_getElem (by have := HXL.out; omega)⟩
    obtain ⟨b', o', e', hbl, da, dn, dc, na, nn, nc, za, zn, zc, aa, an, ac, h9, hiv⟩ := irw_at HX.out i x hx
    injection e' with e'
    injection e' with e1 e2
    subst e1 e2
    obtain ⟨xn, xk, xm, xl, xd, xt, xs', xz, xa⟩ := x
    have RG : wr.rangeAt b (o + i * 9) [.int .i64 xn, .int .i64 xk, .int .i64 xm, .int .i64 xl, .slice da dn dc, .string xt, .slice na nn nc, .slice za zn zc, .slice aa an ac] := at9_range (x := ⟨xn, xk, xm, xl, xd, xt, xs', xz, xa⟩) (p := ⟨da, dn, dc, na, nn, nc, za, zn, zc, aa, an, ac⟩) (h9.below hB.out hbl)
    have IVP : Hid (IvP w ⟨xn, xk, xm, xl, xd, xt, xs', xz, xa⟩ da dn dc na nn nc za zn zc aa an ac) := hiv
    have LS : (Tryz.prog.info? 38).map (·.size) = some ([.int .i64 xn, .int .i64 xk, .int .i64 xm, .int .i64 xl, .slice da dn dc, .string xt, .slice na nn nc, .slice za zn zc, .slice aa an ac] : List Value).length := size9 _ _ _ _ _ _ _ _ _
    obtain ⟨hx0, hhx⟩ : ∃ hx0, hx0 = wr.heap.size := ⟨_, rfl⟩
    obtain ⟨wz, hwz⟩ : ∃ wz, wz = wr.alloc (.cells #[.int .i64 0, .int .i64 0, .int .i64 0, .int .i64 0, .slice none 0 0, .string ⟨#[]⟩, .slice none 0 0, .slice none 0 0, .slice none 0 0] 38) := ⟨_, rfl⟩
    have GZ : wz.heap[wr.heap.size]? = some (.cells #[.int .i64 0, .int .i64 0, .int .i64 0, .int .i64 0, .slice none 0 0, .string ⟨#[]⟩, .slice none 0 0, .slice none 0 0, .slice none 0 0] 38 (0, 0)) := by rw [hwz]; exact Sh.Blk.new wr [.int .i64 0, .int .i64 0, .int .i64 0, .int .i64 0, .slice none 0 0, .string ⟨#[]⟩, .slice none 0 0, .slice none 0 0, .slice none 0 0] 38 _ rfl
    obtain ⟨wm, hwm⟩ : ∃ wm, wm = wz.setRow wr.heap.size #[.int .i64 xn, .int .i64 xk, .int .i64 xm, .int .i64 xl, .slice da dn dc, .string xt, .slice na nn nc, .slice za zn zc, .slice aa an ac] := ⟨_, rfl⟩
    have GM : wm.heap[wr.heap.size]? = some (.cells #[.int .i64 xn, .int .i64 xk, .int .i64 xm, .int .i64 xl, .slice da dn dc, .string xt, .slice na nn nc, .slice za zn zc, .slice aa an ac] 38 (0, 0)) := by rw [hwm]; exact setRow_heap wz wr.heap.size _ #[.int .i64 xn, .int .i64 xk, .int .i64 xm, .int .i64 xl, .slice da dn dc, .string xt, .slice na nn nc, .slice za zn zc, .slice aa an ac] 38 (0, 0) GZ
    have KM : Sh.Blk wm wr.heap.size [.int .i64 xn, .int .i64 xk, .int .i64 xm, .int .i64 xl, .slice da dn dc, .string xt, .slice na nn nc, .slice za zn zc, .slice aa an ac] 38 := GM
    have bm := below_row (hB.out.alloc hB.out.size (.cells #[.int .i64 0, .int .i64 0, .int .i64 0, .int .i64 0, .slice none 0 0, .string ⟨#[]⟩, .slice none 0 0, .slice none 0 0, .slice none 0 0] 38)) hB.out.size #[.int .i64 xn, .int .i64 xk, .int .i64 xm, .int .i64 xl, .slice da dn dc, .string xt, .slice na nn nc, .slice za zn zc, .slice aa an ac]
    have bm2 := below_row ((Below.refl wr.heap.size wr).alloc (Nat.le_refl _) (.cells #[.int .i64 0, .int .i64 0, .int .i64 0, .int .i64 0, .slice none 0 0, .string ⟨#[]⟩, .slice none 0 0, .slice none 0 0, .slice none 0 0] 38)) (Nat.le_refl _) #[.int .i64 xn, .int .i64 xk, .int .i64 xm, .int .i64 xl, .slice da dn dc, .string xt, .slice na nn nc, .slice za zn zc, .slice aa an ac]
    rw [← hwz, ← hwm] at bm bm2
    have BM := Lib.hid bm
    have km : wm.cell? ⟨wr.heap.size, 0, none⟩ = some (.int .i64 xn) := KM.cell 0
    have k0 := (hX.out.low bm2).cell 0
    simp only [List.getElem?_cons_zero] at k0
    have KMH := Lib.hid KM
    have XM := Lib.hid (hX.out.low bm2)
    have RM := Lib.hid (hRes.out.low bm2)
    have WM := Lib.hid (hRow.out.below bm2)
    have GL : Hid (g < wr.heap.size) := hRow.out.2.2.1.lt
    have IWM := Lib.hid (WM.out.irw (by have := hNC.out; omega))
    have CS := Lib.hid (sought_any _ L N C xn wm IWM.out WM.out.2.1 (by have := hN.out; omega) hRise.out)
    have XH := Lib.hid hx
    have HHX := Lib.hid hhx
    have HWM : Hid ((wr.alloc (.cells #[.int .i64 0, .int .i64 0, .int .i64 0, .int .i64 0, .slice none 0 0, .string ⟨#[]⟩, .slice none 0 0, .slice none 0 0, .slice none 0 0] 38)).setRow wr.heap.size #[.int .i64 xn, .int .i64 xk, .int .i64 xm, .int .i64 xl, .slice da dn dc, .string xt, .slice na nn nc, .slice za zn zc, .slice aa an ac] = wm) := by show _ = _; rw [hwm, hwz]
    have HWR := Lib.hid hB.out.size
    have LTM : Hid (wr.heap.size < wm.heap.size) := KM.lt
    rw [hwz] at GZ
    rw [hwm, hwz] at km k0
    clear hwz hwm bm bm2 hx h9 hiv KM GM hhx hbl hX hRes hRow hB
    go_wp2_with (first | with_reducible refine wpList_load_mid rfl 38 (.tmp 15) rfl b (o + i * 9) rfl [.int .i64 xn, .int .i64 xk, .int .i64 xm, .int .i64 xl, .slice da dn dc, .string xt, .slice na nn nc, .slice za zn zc, .slice aa an ac] _ RG Tryz.underlying38 rfl LS ?_ | with_reducible refine wpList_store_row rfl 38 (.tmp 6) (.tmp 16) rfl wr.heap.size #[.int .i64 xn, .int .i64 xk, .int .i64 xm, .int .i64 xl, .slice da dn dc, .string xt, .slice na nn nc, .slice za zn zc, .slice aa an ac] rfl rfl 38 #[.int .i64 0, .int .i64 0, .int .i64 0, .int .i64 0, .slice none 0 0, .string ⟨#[]⟩, .slice none 0 0, .slice none 0 0, .slice none 0 0] GZ (size9 _ _ _ _ _ _ _ _ _) (sz9 _ _ _ _ _ _ _ _ _ _ _ _ _ _ _ _ _ _) (all9 _ _ _ _ _ _ _ _ _ _ _ _ _ _ _ _ _) ?_)
    rw [HWM.out]
    refine CS.out.mono ?_
    clear CS HWM GZ RG LS km k0
    rintro e w3 ⟨a, bb, rfl, hsk, hb3⟩
    have B3 := Lib.hid (below_chain BM.out hb3)
    have X3 := Lib.hid (XM.out.low hb3)
    have R3 := Lib.hid (RM.out.low hb3)
    have K3 := Lib.hid (KMH.out.low hb3)
    have W3 := Lib.hid (WM.out.below hb3)
    have SK := Lib.hid hsk
    have L3 : Hid (wr.heap.size < w3.heap.size) := by show _ < _; have := hb3.size; have := LTM.out; omega
    clear hb3 XM RM KMH WM IWM BM LTM
    cases bb with
    | true =>
      have AB := Lib.hid (allBut_set (x := ⟨xn, xk, xm, xl, xd, xt, xs', xz, xa⟩) W3.out hsk)
      have aN : a < N := by have := hsk.at; have := W3.out.2.1; omega
      have HG : Hid (w.heap.size + 2 ≤ g ∧ g < w3.heap.size) := ⟨W3.out.1, W3.out.2.2.1.lt⟩
      have LP : Hid ((putAt L a true ⟨xn, xk, xm, xl, xd, xt, xs', xz, xa⟩).length = N) := by show _ = _; rw [putAt_len hsk.le, if_pos rfl]; exact W3.out.2.1
      have NE2 : Hid (wr.heap.size ≠ g) := by show _ ≠ _; have := GL.out; omega
      have XQ := X3
      have RQ := R3
      have KQ := K3
      have BQ := B3
      have NQ : Hid (N ≤ n + (i + 1)) := by show _ ≤ _; have := hN.out; omega
      have NCQ := hNC
      clear hsk X3 R3 K3 B3
      have q1 : (0 : Int) ≤ (a : Int) := by omega
      have q2 : (a : Int) < ((N : Nat) : Int) := by omega
      have b8 : Below w3.heap.size w3 w3.drew := (Below.refl _ w3).drew
      have B8 := Lib.hid b8
      have S8 : Hid (At8 w3.drew w.heap.size g N C wr.heap.size (.int .i64 xn) (.int .i64 xk) (.int .i64 xm) (.int .i64 xl) (.slice da dn dc) (.string xt) (.slice na nn nc) (.slice za zn zc) (.slice aa an ac)) := at8_of ((XQ.out.low b8).cell 0) (KQ.out.low b8)
      have NE1 : Hid (w.heap.size ≠ g) := by show _ ≠ _; have := HG.out; omega
      have CI : Hid (∀ W, Below w3.heap.size w3 W → Calls Tryz.prog 57 #[.agg #[.int .i64 xn, .int .i64 xk, .int .i64 xm, .int .i64 xl, .slice da dn dc, .string xt, .slice na nn nc, .slice za zn zc, .slice aa an ac]] W (AnsCX xn xk xm xl xd xt xs' xz xa W)) := fun W hW => inode_copyX xn xk xm xl xd xt xs' xz xa _ _ _ _ _ _ _ _ _ _ _ _ W (IVP.out.below (BQ.out.trans (hW.mono BQ.out.size))) (HXF.out _ (List.mem_of_getElem? XH.out))
      have hwi : IntKind.i64.wrap ((i : Int) + 1) = (i : Int) + 1 := by rw [IntKind.wrap]; simp [IntKind.bits, IntKind.signed]; omega
      have TH := Lib.hid (there_below (AB.out.there (by rw [LP.out]; exact aN)) b8)
      have SZ : Hid (w3.drew.heap.size = w3.heap.size) := by show _ = _; simp
      clear b8
      go_wp2_with fail
      go_region_held3 (fun w' => w'.cell? ⟨w.heap.size, 0, none⟩ = some (.slice (some ⟨g, 0, none⟩) N C) ∧ w'.cell? ⟨wr.heap.size, 0, none⟩ = some (.int .i64 xn) ∧ w'.cell? ⟨wr.heap.size, 1, none⟩ = some (.int .i64 xk) ∧ w'.cell? ⟨wr.heap.size, 2, none⟩ = some (.int .i64 xm) ∧ w'.cell? ⟨wr.heap.size, 3, none⟩ = some (.int .i64 xl) ∧ w'.cell? ⟨wr.heap.size, 4, none⟩ = some (.slice da dn dc) ∧ w'.cell? ⟨wr.heap.size, 5, none⟩ = some (.string xt) ∧ w'.cell? ⟨wr.heap.size, 6, none⟩ = some (.slice na nn nc) ∧ w'.cell? ⟨wr.heap.size, 7, none⟩ = some (.slice za zn zc) ∧ w'.cell? ⟨wr.heap.size, 8, none⟩ = some (.slice aa an ac))
        (first | with_reducible exact at8_out S8.out | with_reducible exact keep9 S8.out NE1.out NE2.out)
        ((go_at_call 57; (with_reducible refine (CI.out _ B8.out).mono ?_); rintro e w5 ⟨b5, da', dn', dc', na', nn', nc', za', zn', zc', aa', an', ac', rfl, hnew⟩; have HNEW := Lib.hid hnew; have S8 := Lib.hid (at8_low S8.out b5); have MAY := May9.of (there_below TH.out b5); obtain ⟨⟨_, y0⟩, z0⟩ := MAY 0 (by decide); obtain ⟨⟨_, y1⟩, z1⟩ := MAY 1 (by decide); obtain ⟨⟨_, y2⟩, z2⟩ := MAY 2 (by decide); obtain ⟨⟨_, y3⟩, z3⟩ := MAY 3 (by decide); obtain ⟨⟨_, y4⟩, z4⟩ := MAY 4 (by decide); obtain ⟨⟨_, y5⟩, z5⟩ := MAY 5 (by decide); obtain ⟨⟨_, y6⟩, z6⟩ := MAY 6 (by decide); obtain ⟨⟨_, y7⟩, z7⟩ := MAY 7 (by decide); obtain ⟨⟨_, y8⟩, z8⟩ := MAY 8 (by decide); rw [Nat.add_zero] at y0 z0; have B5 := Lib.hid b5; clear b5 hnew CI TH MAY))
      all_goals
        have AB5 := (AB.out.below B8.out).below B5.out
        have gs := gb_sets g (inC ⟨xn, xk, xm, xl, xd, xt, xs', xz, xa⟩ ⟨da', dn', dc', na', nn', nc', za', zn', zc', aa', an', ac'⟩) (a * 9) w5
        obtain ⟨P', hrow⟩ := AB5.set (putAt_here (x := ⟨xn, xk, xm, xl, xd, xt, xs', xz, xa⟩) SK.out) (by have := HG.out; have := SZ.out; omega) (by have := HG.out; have := SZ.out; omega) HNEW.out
        rw [LP.out] at hrow
        have ROW : Hid (RowI (w.heap.size + 2) (((((((((w5.setCell ⟨g, a * 9, none⟩ (.int .i64 xn)).setCell ⟨g, a * 9 + 1, none⟩ (.int .i64 xk)).setCell ⟨g, a * 9 + 2, none⟩ (.int .i64 xm)).setCell ⟨g, a * 9 + 3, none⟩ (.int .i64 xl)).setCell ⟨g, a * 9 + 4, none⟩ (.slice da' dn' dc')).setCell ⟨g, a * 9 + 5, none⟩ (.string xt)).setCell ⟨g, a * 9 + 6, none⟩ (.slice na' nn' nc')).setCell ⟨g, a * 9 + 7, none⟩ (.slice za' zn' zc')).setCell ⟨g, a * 9 + 8, none⟩ (.slice aa' an' ac')) g N (putAt L a true ⟨xn, xk, xm, xl, xd, xt, xs', xz, xa⟩) P') := hrow
        have X5 : Hid (Sh.Blk (((((((((w5.setCell ⟨g, a * 9, none⟩ (.int .i64 xn)).setCell ⟨g, a * 9 + 1, none⟩ (.int .i64 xk)).setCell ⟨g, a * 9 + 2, none⟩ (.int .i64 xm)).setCell ⟨g, a * 9 + 3, none⟩ (.int .i64 xl)).setCell ⟨g, a * 9 + 4, none⟩ (.slice da' dn' dc')).setCell ⟨g, a * 9 + 5, none⟩ (.string xt)).setCell ⟨g, a * 9 + 6, none⟩ (.slice na' nn' nc')).setCell ⟨g, a * 9 + 7, none⟩ (.slice za' zn' zc')).setCell ⟨g, a * 9 + 8, none⟩ (.slice aa' an' ac')) w.heap.size [.slice (some ⟨g, 0, none⟩) N C, .int .i64 nx] 24) := blk_grown ((XQ.out.low B8.out).low B5.out) gs NE1.out
        have R5 : Hid (Sh.Blk (((((((((w5.setCell ⟨g, a * 9, none⟩ (.int .i64 xn)).setCell ⟨g, a * 9 + 1, none⟩ (.int .i64 xk)).setCell ⟨g, a * 9 + 2, none⟩ (.int .i64 xm)).setCell ⟨g, a * 9 + 3, none⟩ (.int .i64 xl)).setCell ⟨g, a * 9 + 4, none⟩ (.slice da' dn' dc')).setCell ⟨g, a * 9 + 5, none⟩ (.string xt)).setCell ⟨g, a * 9 + 6, none⟩ (.slice na' nn' nc')).setCell ⟨g, a * 9 + 7, none⟩ (.slice za' zn' zc')).setCell ⟨g, a * 9 + 8, none⟩ (.slice aa' an' ac')) (w.heap.size + 1) [.slice none 0 0, .int .i64 0] 24) := blk_grown ((RQ.out.low B8.out).low B5.out) gs (by have := HG.out; omega)
        have B6 : Hid (Below w.heap.size w (((((((((w5.setCell ⟨g, a * 9, none⟩ (.int .i64 xn)).setCell ⟨g, a * 9 + 1, none⟩ (.int .i64 xk)).setCell ⟨g, a * 9 + 2, none⟩ (.int .i64 xm)).setCell ⟨g, a * 9 + 3, none⟩ (.int .i64 xl)).setCell ⟨g, a * 9 + 4, none⟩ (.slice da' dn' dc')).setCell ⟨g, a * 9 + 5, none⟩ (.string xt)).setCell ⟨g, a * 9 + 6, none⟩ (.slice na' nn' nc')).setCell ⟨g, a * 9 + 7, none⟩ (.slice za' zn' zc')).setCell ⟨g, a * 9 + 8, none⟩ (.slice aa' an' ac'))) := below_own (below_chain (below_chain BQ.out B8.out) B5.out) gs (by have := HG.out; omega)
        have PU := Lib.hid (foldPuts hPut.out XH.out SK.out)
        have RI := Lib.hid (Rise.put (x := ⟨xn, xk, xm, xl, xd, xt, xs', xz, xa⟩) hRise.out SK.out)
        clear AB5 gs hrow S8 HNEW
        go_wp2_with fail
        go_roundw
        case rel => exact ⟨i + 1, _, g, P', N, C, him, by go_num, PU.out, RI.out, NQ.out, NCQ.out, X5.out, R5.out, ROW.out, B6.out⟩
        case measure => simp only [RowKit.intOf]; omega
    | false =>
      have haN : a ≤ N := by have := hsk.le; have := W3.out.2.1; omega
      have HAN := Lib.hid haN
      have C0 := with_ino (some ⟨g, 0, none⟩) N C a (flatF (inF L P) N) 0 0 0 0 ⟨#[]⟩ none none none none 0 0 0 0 0 0 0 0 w3 (rk_cr W3.out.2.2.1 (by decide) (fun j _ => inF_len _ _ _)) (flatF_len (k := 9) N (fun j _ => inF_len _ _ _)) (flatF_one fun j _ => inF_one _ _ _) (fun h => by cases h) hNC.out.2.1 haN (by have := hN.out; omega)
      rw [flatF_ins (k := 9) _ (fun j _ => inF_len L P j) haN] at C0
      have C58 := Lib.hid C0
      have k0 := X3.out.cell 0
      simp only [List.getElem?_cons_zero] at k0
      clear C0 haN
      go_wp2_with fail
      refine C58.out.mono ?_
      clear C58 k0
      rintro e w4 ⟨hb4, v, rfl, hown⟩
      have F9 : ∀ j, j < N + 1 → (if j < a then inF L P j else if j = a then [.int .i64 0, .int .i64 0, .int .i64 0, .int .i64 0, .slice none 0 0, .string ⟨#[]⟩, .slice none 0 0, .slice none 0 0, .slice none 0 0] else inF L P (j - 1)).length = 9 := fun j _ => by
        split
        · exact inF_len _ _ _
        · split
          · rfl
          · exact inF_len _ _ _
      obtain ⟨G, D, rfl, hG, hD1, hD2, hrk⟩ := own_rk_flat (k := 9) hown F9 (Nat.succ_pos _)
      have ab := allBut_ins (x := ⟨xn, xk, xm, xl, xd, xt, xs', xz, xa⟩) W3.out SK.out hb4 (by have := L3.out; have := HWR.out; have := W3.out.1; have := W3.out.2.2.1.lt; omega) hG rfl hrk
      have X4 := X3.out.low hb4
      have gs := grownBy_setCell w4 w.heap.size 0 (.slice (some ⟨G, 0, none⟩) (N + 1) D)
      obtain ⟨wq, hwq⟩ : ∃ wq, wq = w4.setCell ⟨w.heap.size, 0, none⟩ (.slice (some ⟨G, 0, none⟩) (N + 1) D) := ⟨_, rfl⟩
      have XQ := Lib.hid (X4.set 0 (.slice (some ⟨G, 0, none⟩) (N + 1) D))
      have RQ := Lib.hid (blk_grown (R3.out.low hb4) gs (by omega))
      have KQ := Lib.hid (blk_grown (K3.out.low hb4) gs (by have := GL.out; have := W3.out.1; omega))
      have BQ := Lib.hid (below_own (below_chain B3.out hb4) gs (Nat.le_refl _))
      have AB := Lib.hid (ab.grown gs (by omega))
      have HGW := hrk.lt
      have HSQ := gs.size
      have c0 := X4.cell 0
      have f0 := X4.frozen 0
      simp only [List.set_cons_zero, List.getElem?_cons_zero] at c0 XQ
      rw [← hwq] at XQ RQ KQ BQ AB HSQ
      have HG : Hid (w.heap.size + 2 ≤ G ∧ G < wq.heap.size) := ⟨by have := W3.out.1; have := W3.out.2.2.1.lt; omega, by omega⟩
      have NE2 : Hid (wr.heap.size ≠ G) := by show _ ≠ _; have := L3.out; omega
      have aN : a < N + 1 := by have := HAN.out; omega
      have LP : Hid ((putAt L a false ⟨xn, xk, xm, xl, xd, xt, xs', xz, xa⟩).length = N + 1) := by show _ = _; rw [putAt_len SK.out.le, if_neg (by decide), W3.out.2.1]
      have NQ : Hid (N + 1 ≤ n + (i + 1)) := by show _ ≤ _; have := hN.out; omega
      have NCQ : Hid (0 < N + 1 ∧ N + 1 ≤ D ∧ D ≤ 9223372036854775807) := ⟨Nat.succ_pos _, hD1, hD2⟩
      have c0' := XQ.out.cell 0
      simp only [List.getElem?_cons_zero] at c0'
      have HWQ : Hid (w4.setCell ⟨w.heap.size, 0, none⟩ (.slice (some ⟨G, 0, none⟩) (N + 1) D) = wq) := hwq.symm
      clear hb4 hown ab X4 gs hwq HGW HSQ hG hD1 hD2 hrk X3 R3 K3 B3 F9 hsk c0'
      go_wp2_with fail
      rw [HWQ.out]
      clear c0 f0
      have q1 : (0 : Int) ≤ (a : Int) := by omega
      have q2 : (a : Int) < (N : Int) + 1 := by omega
      have b8 : Below wq.heap.size wq wq.drew := (Below.refl _ wq).drew
      have B8 := Lib.hid b8
      have S8 : Hid (At8 wq.drew w.heap.size G (N + 1) D wr.heap.size (.int .i64 xn) (.int .i64 xk) (.int .i64 xm) (.int .i64 xl) (.slice da dn dc) (.string xt) (.slice na nn nc) (.slice za zn zc) (.slice aa an ac)) := at8_of ((XQ.out.low b8).cell 0) (KQ.out.low b8)
      have NE1 : Hid (w.heap.size ≠ G) := by show _ ≠ _; have := HG.out; omega
      have CI : Hid (∀ W, Below wq.heap.size wq W → Calls Tryz.prog 57 #[.agg #[.int .i64 xn, .int .i64 xk, .int .i64 xm, .int .i64 xl, .slice da dn dc, .string xt, .slice na nn nc, .slice za zn zc, .slice aa an ac]] W (AnsCX xn xk xm xl xd xt xs' xz xa W)) := fun W hW => inode_copyX xn xk xm xl xd xt xs' xz xa _ _ _ _ _ _ _ _ _ _ _ _ W (IVP.out.below (BQ.out.trans (hW.mono BQ.out.size))) (HXF.out _ (List.mem_of_getElem? XH.out))
      have hwi : IntKind.i64.wrap ((i : Int) + 1) = (i : Int) + 1 := by rw [IntKind.wrap]; simp [IntKind.bits, IntKind.signed]; omega
      have TH := Lib.hid (there_below (AB.out.there (by rw [LP.out]; exact aN)) b8)
      have SZ : Hid (wq.drew.heap.size = wq.heap.size) := by show _ = _; simp
      clear b8
      go_wp2_with fail
      go_region_held3 (fun w' => w'.cell? ⟨w.heap.size, 0, none⟩ = some (.slice (some ⟨G, 0, none⟩) (N + 1) D) ∧ w'.cell? ⟨wr.heap.size, 0, none⟩ = some (.int .i64 xn) ∧ w'.cell? ⟨wr.heap.size, 1, none⟩ = some (.int .i64 xk) ∧ w'.cell? ⟨wr.heap.size, 2, none⟩ = some (.int .i64 xm) ∧ w'.cell? ⟨wr.heap.size, 3, none⟩ = some (.int .i64 xl) ∧ w'.cell? ⟨wr.heap.size, 4, none⟩ = some (.slice da dn dc) ∧ w'.cell? ⟨wr.heap.size, 5, none⟩ = some (.string xt) ∧ w'.cell? ⟨wr.heap.size, 6, none⟩ = some (.slice na nn nc) ∧ w'.cell? ⟨wr.heap.size, 7, none⟩ = some (.slice za zn zc) ∧ w'.cell? ⟨wr.heap.size, 8, none⟩ = some (.slice aa an ac))
        (first | with_reducible exact at8_out S8.out | with_reducible exact keep9 S8.out NE1.out NE2.out)
        ((go_at_call 57; (with_reducible refine (CI.out _ B8.out).mono ?_); rintro e w5 ⟨b5, da', dn', dc', na', nn', nc', za', zn', zc', aa', an', ac', rfl, hnew⟩; have HNEW := Lib.hid hnew; have S8 := Lib.hid (at8_low S8.out b5); have MAY := May9.of (there_below TH.out b5); obtain ⟨⟨_, y0⟩, z0⟩ := MAY 0 (by decide); obtain ⟨⟨_, y1⟩, z1⟩ := MAY 1 (by decide); obtain ⟨⟨_, y2⟩, z2⟩ := MAY 2 (by decide); obtain ⟨⟨_, y3⟩, z3⟩ := MAY 3 (by decide); obtain ⟨⟨_, y4⟩, z4⟩ := MAY 4 (by decide); obtain ⟨⟨_, y5⟩, z5⟩ := MAY 5 (by decide); obtain ⟨⟨_, y6⟩, z6⟩ := MAY 6 (by decide); obtain ⟨⟨_, y7⟩, z7⟩ := MAY 7 (by decide); obtain ⟨⟨_, y8⟩, z8⟩ := MAY 8 (by decide); rw [Nat.add_zero] at y0 z0; have B5 := Lib.hid b5; clear b5 hnew CI TH MAY))
      all_goals
        have AB5 := (AB.out.below B8.out).below B5.out
        have gs := gb_sets G (inC ⟨xn, xk, xm, xl, xd, xt, xs', xz, xa⟩ ⟨da', dn', dc', na', nn', nc', za', zn', zc', aa', an', ac'⟩) (a * 9) w5
        obtain ⟨P', hrow⟩ := AB5.set (putAt_here (x := ⟨xn, xk, xm, xl, xd, xt, xs', xz, xa⟩) SK.out) (by have := HG.out; have := SZ.out; omega) (by have := HG.out; have := SZ.out; omega) HNEW.out
        rw [LP.out] at hrow
        have ROW : Hid (RowI (w.heap.size + 2) (((((((((w5.setCell ⟨G, a * 9, none⟩ (.int .i64 xn)).setCell ⟨G, a * 9 + 1, none⟩ (.int .i64 xk)).setCell ⟨G, a * 9 + 2, none⟩ (.int .i64 xm)).setCell ⟨G, a * 9 + 3, none⟩ (.int .i64 xl)).setCell ⟨G, a * 9 + 4, none⟩ (.slice da' dn' dc')).setCell ⟨G, a * 9 + 5, none⟩ (.string xt)).setCell ⟨G, a * 9 + 6, none⟩ (.slice na' nn' nc')).setCell ⟨G, a * 9 + 7, none⟩ (.slice za' zn' zc')).setCell ⟨G, a * 9 + 8, none⟩ (.slice aa' an' ac')) G (N + 1) (putAt L a false ⟨xn, xk, xm, xl, xd, xt, xs', xz, xa⟩) P') := hrow
        have X5 : Hid (Sh.Blk (((((((((w5.setCell ⟨G, a * 9, none⟩ (.int .i64 xn)).setCell ⟨G, a * 9 + 1, none⟩ (.int .i64 xk)).setCell ⟨G, a * 9 + 2, none⟩ (.int .i64 xm)).setCell ⟨G, a * 9 + 3, none⟩ (.int .i64 xl)).setCell ⟨G, a * 9 + 4, none⟩ (.slice da' dn' dc')).setCell ⟨G, a * 9 + 5, none⟩ (.string xt)).setCell ⟨G, a * 9 + 6, none⟩ (.slice na' nn' nc')).setCell ⟨G, a * 9 + 7, none⟩ (.slice za' zn' zc')).setCell ⟨G, a * 9 + 8, none⟩ (.slice aa' an' ac')) w.heap.size [.slice (some ⟨G, 0, none⟩) (N + 1) D, .int .i64 nx] 24) := blk_grown ((XQ.out.low B8.out).low B5.out) gs NE1.out
        have R5 : Hid (Sh.Blk (((((((((w5.setCell ⟨G, a * 9, none⟩ (.int .i64 xn)).setCell ⟨G, a * 9 + 1, none⟩ (.int .i64 xk)).setCell ⟨G, a * 9 + 2, none⟩ (.int .i64 xm)).setCell ⟨G, a * 9 + 3, none⟩ (.int .i64 xl)).setCell ⟨G, a * 9 + 4, none⟩ (.slice da' dn' dc')).setCell ⟨G, a * 9 + 5, none⟩ (.string xt)).setCell ⟨G, a * 9 + 6, none⟩ (.slice na' nn' nc')).setCell ⟨G, a * 9 + 7, none⟩ (.slice za' zn' zc')).setCell ⟨G, a * 9 + 8, none⟩ (.slice aa' an' ac')) (w.heap.size + 1) [.slice none 0 0, .int .i64 0] 24) := blk_grown ((RQ.out.low B8.out).low B5.out) gs (by have := HG.out; omega)
        have B6 : Hid (Below w.heap.size w (((((((((w5.setCell ⟨G, a * 9, none⟩ (.int .i64 xn)).setCell ⟨G, a * 9 + 1, none⟩ (.int .i64 xk)).setCell ⟨G, a * 9 + 2, none⟩ (.int .i64 xm)).setCell ⟨G, a * 9 + 3, none⟩ (.int .i64 xl)).setCell ⟨G, a * 9 + 4, none⟩ (.slice da' dn' dc')).setCell ⟨G, a * 9 + 5, none⟩ (.string xt)).setCell ⟨G, a * 9 + 6, none⟩ (.slice na' nn' nc')).setCell ⟨G, a * 9 + 7, none⟩ (.slice za' zn' zc')).setCell ⟨G, a * 9 + 8, none⟩ (.slice aa' an' ac'))) := below_own (below_chain (below_chain BQ.out B8.out) B5.out) gs (by have := HG.out; omega)
        have PU := Lib.hid (foldPuts hPut.out XH.out SK.out)
        have RI := Lib.hid (Rise.put (x := ⟨xn, xk, xm, xl, xd, xt, xs', xz, xa⟩) hRise.out SK.out)
        clear AB5 gs hrow S8 HNEW
        go_wp2_with fail
        go_roundw
        case rel => exact ⟨i + 1, _, G, P', (N + 1), D, him, by go_num, PU.out, RI.out, NQ.out, NCQ.out, X5.out, R5.out, ROW.out, B6.out⟩
        case measure => simp only [RowKit.intOf]; omega
end Go.Proofs.YtcgbaiogbcodcaaGreatDoor.Lw
