/-
  THE STATEMENT LowerTree (P16.1, P16.3): of all bytes, what is read out of them is a tree: every directory but the first one has one place, links are counted right, names are legal, each once; the bytes read behind the call as before.
  Conditions: none but what the row lists.
-/
import Derived.Test.YtojhlhpbhoeplaaGreatDoorTie
import Derived.Test.YtojhlhpbhoeplaaGreatDoorCards
import Derived.Test.YtojhlhpbhoeplaaGreatDoorLwA
import Derived.ProofKit
import Derived.OpenShut
import Derived.LaidMore
import Derived.LaidHandle
import Derived.Lay
import Derived.Stop.Joined
import Derived.Stop.LaidErr
import Derived.Deep.DeepHandedRow
import Derived.Lib.LaidTab
import Derived.Lib.LaidU8
import Derived.MakeChecks
import Derived.Test.YtojhlhpbhoeplaaGreatDoorLwB
import Derived.BigRegion
namespace Go.Proofs.YtojhlhpbhoeplaaGreatDoor.Sh
open Go.ChangeShapes Go.WideShapes Go.ChangeAt Go.RowKit Go.Lib Lb

theorem own : ownKnob Tryz.prog.godebug = none := by kernel_rfl
/-- what each row lists -/
def laidAll : List (String × DataW Unit) := Rows.lowerOnceRow.laid
theorem kGlobal : Tryz.prog.globalNamed "errors.errorType" = some 1 := by kernel_rfl
theorem kRtype : (Tryz.prog.cutTypes.find? (·.1 == "internal/reflectlite.rtype")).map (·.2) = some 133 := by kernel_rfl
theorem kTypes : Tryz.prog.types.size = 273 := by kernel_rfl
theorem kOneRow : ((List.range 273).filter fun t => Tryz.prog.rowNamed t [101, 114, 114, 111, 114]) = [48] := by kernel_rfl
theorem filtOf : (laidAll.filter fun x => x.2.handleName?.isSome) = [("errors.errorType", Rows.laid_errors_errorType)] := by kernel_rfl
theorem errT_of {W : World} (h : laidMetH Tryz.prog laidAll W) : ErrT W := by
  have h' : laidMet Tryz.prog (laidAll.filter fun x => x.2.handleName?.isNone) W ∧ handlesMet Tryz.prog [("errors.errorType", Rows.laid_errors_errorType)] W := h
  obtain ⟨name, u, ty, e1, e2, e3, e4, e5⟩ := h'.2 _ (List.mem_singleton.2 rfl)
  have en : name = [101, 114, 114, 111, 114] := (Option.some.inj e1).symm
  subst en
  obtain rfl := Option.some.inj (kRtype.symm.trans e2)
  have hm : ty ∈ (List.range 273).filter fun t => Tryz.prog.rowNamed t [101, 114, 114, 111, 114] := List.mem_filter.2 ⟨List.mem_range.2 (by rw [← kTypes]; exact e3), e4⟩
  rw [kOneRow] at hm
  obtain rfl := List.mem_singleton.1 hm
  have hh : typeHandle Tryz.prog 48 = .pointer (some ⟨8, 48, none⟩) := by kernel_rfl
  rw [hh] at e5
  simpa [ErrT] using World.var?_cell kGlobal e5 0
/-- the tables and the sentinel -/
def six : List (String × DataW Unit) := [("math/bits.deBruijn32tab", Rows.laid_math_bits_deBruijn32tab), ("math/bits.deBruijn64tab", Rows.laid_math_bits_deBruijn64tab), ("internal/strconv.uint64pow10", Rows.laid_internal_strconv_uint64pow10), ("unicode/utf8.acceptRanges", Rows.laid_unicode_utf8_acceptRanges), ("palimpsest/lower.errImage", Rows.laid_palimpsest_lower_errImage), ("unicode/utf8.first", Rows.laid_unicode_utf8_first)]
theorem sixIs : (laidAll.filter fun x => x.2.handleName?.isNone) = six := by kernel_rfl
theorem powIs : (Rows.laid_internal_strconv_uint64pow10 : DataW Unit) = tabData .u64 Lib.pow10Tab := by kernel_rfl
theorem cells76 : Tryz.prog.cellsOf 76 = 1 := by kernel_rfl
theorem tab_of {W : World} (h0 : laidMet Tryz.prog six W) : Lw.Tab W := by
  have h1 : laidMet Tryz.prog (("internal/strconv.uint64pow10", tabData .u64 Lib.pow10Tab) :: six.tail.tail.tail) W := by
    rw [← powIs]
    exact h0.tail.tail
  exact tabIs_of_head (g := 2) (by kernel_rfl) (by kernel_rfl) Tryz.underlying204 Tryz.underlying76 cells76 (by kernel_rfl) h1
theorem gS : Tryz.prog.globalNamed "palimpsest/lower.errImage" = some 0 := by kernel_rfl
theorem gST : (Tryz.prog.globals[0]?).map (·.type) = some 48 := by kernel_rfl
theorem cells261 : Tryz.prog.cellsOf 261 = 1 := by kernel_rfl
theorem cells9 : Tryz.prog.cellsOf 9 = 1 := by kernel_rfl
theorem star : "*" ++ "errors.errorString" = "*errors.errorString" := by decide
theorem row242 (u : TypeId) (h : Tryz.prog.typeName? 3 u = some "*errors.errorString") : u = 242 :=
  typeName_ptr_named (nm := "errors.errorString") (by rw [star]; kernel_rfl) (by kernel_rfl) (by decide) u (by rw [star]; exact h)
theorem sen_of {W : World} (h0 : laidMet Tryz.prog six W) : ∃ a, Lw.Sen W a := by
  obtain ⟨a, s, hv, _⟩ := laid_sentinel h0.tail.tail.tail.tail gS gST Tryz.underlying48 row242 Tryz.underlying242 Tryz.underlying261 rfl rfl Tryz.underlying9 cells261 cells9
  exact ⟨a, by simpa [Lw.Sen] using World.var?_cell gS hv 0⟩
theorem env_of {W : World} (h : laidMetH Tryz.prog laidAll W) : ∃ a, Lw.Env W a := by
  have h' : laidMet Tryz.prog (laidAll.filter fun x => x.2.handleName?.isNone) W := h.1
  rw [sixIs] at h'
  obtain ⟨a, hs⟩ := sen_of h'
  have ht := tab_of h'
  have hc := Lib.TabIs.cell ht (g := 2) (by kernel_rfl) 0 (by decide)
  exact ⟨a, errT_of h, hs, ht, Lw.lt_of_cell hc⟩
/-- the settled state, with the handle's cell laid -/
noncomputable def baseWorld (os : Os) : World :=
  { World.holding Tryz.prog os ⟨#[], #[], []⟩ with heap := (World.holding Tryz.prog os ⟨#[], #[], []⟩).heap.modify 1 fun
      | .cells _ t frozen => .cells #[.iface 133 (.agg #[.pointer (some ⟨8, 48, none⟩)])] t frozen
      | o => o }
/-- a state that meets the rows -/
noncomputable def laidWorld (os : Os) : World := (baseWorld os).layVars Tryz.prog six
theorem laidWorld_os (os : Os) : (laidWorld os).os = os := World.layVars_os _ _ _
theorem six_met (os : Os) (args : Array Value) : laidMet Tryz.prog six ((laidWorld os).forCall (fun _ _ => 0) ⟨#[], args, []⟩).memory := by
  have e1 : (six.filter fun x => (six.map (·.1)).contains x.1) = six := List.filter_eq_self.2 fun x hx => List.contains_iff_mem.2 (List.mem_map.2 ⟨x, hx, rfl⟩)
  have e2 : (six.filter fun x => !(six.map (·.1)).contains x.1) = [] := List.filter_eq_nil_iff.2 fun x hx => by rw [List.contains_iff_mem.2 (List.mem_map.2 ⟨x, hx, rfl⟩)]; simp
  have h : laidMet Tryz.prog six (laidWorld os) := laidMet_layVars (w0 := baseWorld os) (six.map (·.1)) [] (by rw [e1]; rfl) (by rw [e1]; kernel_rfl) (by rw [e1]; kernel_rfl) (by rw [e2]; exact LaidIn.none)
  exact h.of_heap (by simp [World.memory, World.forCall, Input.heap])
theorem laidWorld_met (os : Os) (args : Array Value) : laidMetH Tryz.prog laidAll ((laidWorld os).forCall (fun _ _ => 0) ⟨#[], args, []⟩).memory :=
  laidMetH_of_parts (by rw [sixIs]; exact six_met os args) (by rw [filtOf]; kernel_rfl)
theorem laidWorld_shaped (os : Os) (args : Array Value) : ((laidWorld os).forCall (fun _ _ => 0) ⟨#[], args, []⟩).Shaped Tryz.prog :=
  World.shaped_of_ZipB (by kernel_rfl) (by kernel_rfl)
theorem laidOut : laidOutB Tryz.prog = true := by kernel_rfl
theorem cells5 : Tryz.prog.cellsOf 5 = 1 := by kernel_rfl
theorem bytes5 : Tryz.prog.bytesOf 5 = 1 := by kernel_rfl
/-- a row of bytes within the reach -/
theorem reach_byt {H : Type} {ts : List TypeId} {ds : List (DataW H)} (hsz : (DataW.weightsEach Tryz.prog ts ds).all (· ≤ reachBytes) = true) {j : Nat} {d : DataW H} {l : List UInt8} (ht : ts[j]? = some 22) (hd : ds[j]? = some d)
    (h : (d = .nil ∧ l = []) ∨ ∃ es sp, d = .slice es sp ∧ es.length = l.length) : l.length ≤ 140737488351232 := by
  rcases h with ⟨_, rfl⟩ | ⟨es, sp, rfl, hl⟩
  · simp
  · have := sized_slice hsz ht hd Tryz.underlying22
    rw [bytes5] at this
    simp only [reachBytes] at this
    omega
theorem okWide_far {P : Program} {w : World} {base : Nat} {t e : TypeId} {ao : Option Addr} {n c : Nat} (ht : P.underlying t = some (.slice e)) (h : Value.okWide P w .any base t (.slice ao n c)) : ∀ a, ao = some a → a.block < w.heap.size := by
  rintro a rfl
  simp only [Value.okWide, ht, Cell.okWide, Cell.ok] at h
  obtain ⟨_, _, _, _, row, cells, hs, _⟩ := h
  rcases Nat.lt_or_ge a.block w.heap.size with h1 | h0
  · exact h1
  · exfalso
    unfold World.shape? at hs
    rw [Array.getElem?_eq_none h0] at hs
    simp at hs
end Go.Proofs.YtojhlhpbhoeplaaGreatDoor.Sh
namespace Go.Proofs.YtojhlhpbhoeplaaGreatDoor.Lw

/-- which have been gone through -/
def done (d : Int → Nat) (s i : Nat) (j : Int) : Bool := decide (d j ≠ 0) && (decide (d j < s) || (decide (d j = s) && decide (j ≤ (i : Int))))
theorem done_iff {d : Int → Nat} {s i : Nat} {j : Int} : done d s i j = true ↔ d j ≠ 0 ∧ (d j < s ∨ (d j = s ∧ j ≤ (i : Int))) := by
  unfold done
  simp only [Bool.and_eq_true, Bool.or_eq_true, decide_eq_true_iff]
section
variable (nu : Int → List Int)
structure Bfs (n s i : Nat) (p : List Int) (d c : Int → Nat) : Prop where
  one : d 1 = 1
  rng : ∀ x, d x ≠ 0 → 1 ≤ x ∧ x ≤ (n : Int)
  top : ∀ x, d x ≤ s + 1
  cnt : ∀ x, c x = cntD nu ((upto n).filter (done d s i)) x + p.count x
  met : ∀ x, d x ≠ 0 ↔ x = 1 ∨ c x ≠ 0
  prev : ∀ x v, d x = v + 2 → ∃ y, d y = v + 1
variable {nu}
theorem filt_congr {l : List Int} {p q : Int → Bool} (h : ∀ x ∈ l, p x = q x) : l.filter p = l.filter q := List.filter_congr h
theorem bool_eq {a b : Bool} (h : a = true ↔ b = true) : a = b := by cases a <;> cases b <;> simp_all
theorem Bfs.start {n : Nat} (h1 : 1 ≤ n) : Bfs nu n 1 0 [] (upd (fun _ => 0) 1 1) (fun _ => 0) where
  one := by unfold upd; rw [if_pos rfl]
  rng x hx := by
    unfold upd at hx
    split at hx
    · omega
    · exact absurd rfl hx
  top x := by
    unfold upd
    split
    · omega
    · exact Nat.zero_le _
  cnt x := by
    have e : (upto n).filter (done (upd (fun _ => 0) 1 1) 1 0) = [] := List.filter_eq_nil_iff.2 fun j _ hj => by
      obtain ⟨h2, h3⟩ := done_iff.1 hj
      unfold upd at h2 h3
      split at h2
      · rename_i hj1
        subst hj1
        simp only [if_true] at h3
        omega
      · exact h2 rfl
    rw [e, cntD_nil]
    rfl
  met x := by
    unfold upd
    split
    · rename_i h; simp [h]
    · rename_i h; simp [h]
  prev x v hx := by
    unfold upd at hx
    split at hx
    · omega
    · have hx' : 0 = v + 2 := hx
      omega
theorem Bfs.new {n s i : Nat} {p : List Int} {d c : Int → Nat} (h : Bfs nu n s i p d c) (hs : 1 ≤ s) {y a : Int} (hy : 1 ≤ y ∧ y ≤ (n : Int)) (ha : d a = s) (h0 : d y = 0) : Bfs nu n s i (p ++ [y]) (upd d y (s + 1)) (upd c y (c y + 1)) where
  one := by
    unfold upd
    split
    · rename_i e
      rw [← e, h.one] at h0
      omega
    · exact h.one
  rng x hx := by
    unfold upd at hx
    split at hx
    · rename_i e
      rw [e]
      exact hy
    · exact h.rng x hx
  top x := by
    unfold upd
    split
    · omega
    · exact h.top x
  cnt x := by
    have e : (upto n).filter (done (upd d y (s + 1)) s i) = (upto n).filter (done d s i) := filt_congr fun j _ => bool_eq (by
      rw [done_iff, done_iff]
      unfold upd
      split
      · rename_i e
        subst e
        omega
      · exact Iff.rfl)
    rw [e, List.count_append]
    unfold upd
    split
    · rename_i e2
      subst e2
      rw [h.cnt x]
      simp
      omega
    · rename_i e2
      rw [h.cnt x, List.count_eq_zero.2 (by simpa using e2 : x ∉ [y])]
      omega
  met x := by
    unfold upd
    by_cases e : x = y
    · rw [if_pos e, if_pos e]
      simp
    · rw [if_neg e, if_neg e]
      exact h.met x
  prev x v hx := by
    have hay : a ≠ y := fun e => by rw [e, h0] at ha; omega
    unfold upd at hx
    split at hx
    · refine ⟨a, ?_⟩
      unfold upd
      rw [if_neg hay]
      omega
    · obtain ⟨z, hz⟩ := h.prev x v hx
      refine ⟨z, ?_⟩
      unfold upd
      split
      · rename_i e
        rw [e, h0] at hz
        omega
      · exact hz
theorem Bfs.old {n s i : Nat} {p : List Int} {d c : Int → Nat} (h : Bfs nu n s i p d c) {y : Int} (h0 : d y ≠ 0) : Bfs nu n s i (p ++ [y]) d (upd c y (c y + 1)) where
  one := h.one
  rng := h.rng
  top := h.top
  cnt x := by
    rw [List.count_append]
    unfold upd
    split
    · rename_i e2
      subst e2
      rw [h.cnt x]
      simp
      omega
    · rename_i e2
      rw [h.cnt x, List.count_eq_zero.2 (by simpa using e2 : x ∉ [y])]
      omega
  met x := by
    unfold upd
    by_cases e : x = y
    · subst e
      rw [if_pos rfl]
      exact ⟨fun _ => .inr (by omega), fun _ => h0⟩
    · rw [if_neg e]
      exact h.met x
  prev := h.prev
theorem cntD_split (q : Int → Bool) (x : Int) : ∀ l : List Int, cntD nu (l.filter q) x + cntD nu (l.filter fun j => !q j) x = cntD nu l x
  | [] => rfl
  | a :: l => by
    have ih := cntD_split q x l
    unfold cntD at ih ⊢
    cases hq : q a <;> simp [hq] <;> omega
theorem cntD_one {l : List Int} {a x : Int} (h : a ∈ l) : (nu a).count x ≤ cntD nu l x := by
  have hq := cntD_split (nu := nu) (fun j => decide (j = a)) x l
  have hm : a ∈ l.filter fun j => decide (j = a) := List.mem_filter.2 ⟨h, by simp⟩
  obtain ⟨l1, l2, hl⟩ := List.append_of_mem hm
  rw [hl] at hq
  unfold cntD at hq ⊢
  simp only [List.map_append, List.sum_append, List.map_cons, List.sum_cons] at hq
  omega
/-- a place that isn't gone through yet counts beside those that are -/
theorem Bfs.more {n s i : Nat} {p r : List Int} {d c : Int → Nat} {y : Int} (h : Bfs nu n s i p d c) (hi : i + 1 ≤ n) (ha : d ((i : Int) + 1) = s) (hp : nu ((i : Int) + 1) = p ++ y :: r) : c y + 1 ≤ cntD nu (upto n) y := by
  have e := cntD_split (nu := nu) (done d s i) y (upto n)
  have hm : ((i : Int) + 1) ∈ (upto n).filter fun j => !done d s i j := by
    rw [List.mem_filter]
    refine ⟨mem_upto.2 (by omega), ?_⟩
    have : ¬ done d s i ((i : Int) + 1) = true := fun hd => by
      obtain ⟨_, h2⟩ := done_iff.1 hd
      omega
    simpa using this
  have e2 := cntD_one (nu := nu) (x := y) hm
  rw [hp, List.count_append] at e2
  simp only [List.count_cons_self] at e2
  rw [h.cnt y]
  omega
theorem Bfs.twice {n s i : Nat} {p r : List Int} {d c m : Int → Nat} {y : Int} (h : Bfs nu n s i p d c) (hm : ∀ x, m x = first x + cntD nu (upto n) x) (hi : i + 1 ≤ n) (ha : d ((i : Int) + 1) = s) (hp : nu ((i : Int) + 1) = p ++ y :: r) (h0 : d y ≠ 0) : 2 ≤ m y := by
  have e := h.more hi ha hp
  rw [hm]
  rcases (h.met y).1 h0 with rfl | h1
  · have : first 1 = 1 := rfl
    omega
  · omega
theorem Bfs.full {n s i : Nat} {d c : Int → Nat} (h : Bfs nu n s i (nu ((i : Int) + 1)) d c) (hs : 1 ≤ s) (hi : i + 1 ≤ n) (ha : d ((i : Int) + 1) = s) : Bfs nu n s (i + 1) [] d c where
  one := h.one
  rng := h.rng
  top := h.top
  cnt x := by
    have hp : ((upto n).filter (done d s (i + 1))).Perm ((upto n).filter (done d s i) ++ [(i : Int) + 1]) := by
      refine (List.perm_ext_iff_of_nodup ((nodup_upto n).filter _) ?_).2 fun j => ?_
      · rw [List.nodup_append]
        refine ⟨(nodup_upto n).filter _, by simp, fun a ha b hb e => ?_⟩
        rw [List.mem_singleton] at hb
        subst hb
        subst e
        obtain ⟨_, h2⟩ := done_iff.1 (List.mem_filter.1 ha).2
        omega
      · rw [List.mem_append, List.mem_filter, List.mem_filter, List.mem_singleton, done_iff, done_iff, mem_upto]
        constructor
        · rintro ⟨h1, h2, h3⟩
          by_cases e : j = (i : Int) + 1
          · exact .inr e
          · exact .inl ⟨h1, h2, by omega⟩
        · rintro (⟨h1, h2, h3⟩ | rfl)
          · exact ⟨h1, h2, by omega⟩
          · exact ⟨by omega, by omega, by omega⟩
    rw [cntD_perm nu hp, cntD_snoc, h.cnt x]
    simp
  met := h.met
  prev := h.prev
theorem Bfs.skip {n s i : Nat} {d c : Int → Nat} (h : Bfs nu n s i [] d c) (ha : d ((i : Int) + 1) ≠ s) : Bfs nu n s (i + 1) [] d c where
  one := h.one
  rng := h.rng
  top := h.top
  cnt x := by
    have e : (upto n).filter (done d s (i + 1)) = (upto n).filter (done d s i) := filt_congr fun j _ => bool_eq (by
      rw [done_iff, done_iff]
      constructor
      · rintro ⟨h1, h2⟩
        refine ⟨h1, ?_⟩
        by_cases e : j = (i : Int) + 1
        · subst e
          omega
        · omega
      · rintro ⟨h1, h2⟩
        exact ⟨h1, by omega⟩)
    rw [e]
    exact h.cnt x
  met := h.met
  prev := h.prev
theorem Bfs.next {n s : Nat} {d c : Int → Nat} (h : Bfs nu n s n [] d c) : Bfs nu n (s + 1) 0 [] d c where
  one := h.one
  rng := h.rng
  top x := by have := h.top x; omega
  cnt x := by
    have e : (upto n).filter (done d (s + 1) 0) = (upto n).filter (done d s n) := filt_congr fun j hj => bool_eq (by
      have := mem_upto.1 hj
      rw [done_iff, done_iff]
      constructor
      · rintro ⟨h1, h2⟩
        exact ⟨h1, by omega⟩
      · rintro ⟨h1, h2⟩
        exact ⟨h1, by omega⟩)
    rw [e]
    exact h.cnt x
  met := h.met
  prev := h.prev
theorem countP_more {p q : Int → Bool} {a : Int} : ∀ {l : List Int}, (∀ x ∈ l, p x = true → q x = true) → a ∈ l → q a = true → p a = false → l.countP p + 1 ≤ l.countP q
  | [], _, ha, _, _ => by cases ha
  | b :: l, h, ha, hq, hp => by
    have hl : l.countP p ≤ l.countP q := List.countP_mono_left fun x hx => h x (List.mem_cons_of_mem _ hx)
    rw [List.countP_cons, List.countP_cons]
    rcases List.mem_cons.1 ha with rfl | ha
    · rw [if_pos hq, if_neg (by rw [hp]; decide)]
      omega
    · have ih := countP_more (p := p) (q := q) (fun x hx => h x (List.mem_cons_of_mem _ hx)) ha hq hp
      have hb := h b (List.mem_cons_self ..)
      cases hpb : p b
      · simp only [Bool.false_eq_true, if_false]
        omega
      · rw [hb hpb]
        simp only [if_true]
        omega
theorem Bfs.layer {n s i : Nat} {p : List Int} {d c : Int → Nat} (h : Bfs nu n s i p d c) : ∀ v x, d x = v + 1 → v + 1 ≤ (upto n).countP fun j => decide (d j ≠ 0 ∧ d j ≤ v + 1)
  | 0, x, hx => by
    have := countP_more (p := fun _ => false) (q := fun j => decide (d j ≠ 0 ∧ d j ≤ 0 + 1)) (a := x) (l := upto n) (fun _ _ h => by cases h) (mem_upto.2 (h.rng x (by omega))) (by simp; omega) rfl
    omega
  | v + 1, x, hx => by
    obtain ⟨y, hy⟩ := h.prev x v hx
    have ih := h.layer v y hy
    have := countP_more (p := fun j => decide (d j ≠ 0 ∧ d j ≤ v + 1)) (q := fun j => decide (d j ≠ 0 ∧ d j ≤ v + 1 + 1)) (a := x) (l := upto n) (fun z _ hz => by simp only [decide_eq_true_iff] at hz ⊢; omega) (mem_upto.2 (h.rng x (by omega))) (by simp only [decide_eq_true_iff]; omega) (by simp only [decide_eq_false_iff_not]; omega)
    omega
/-- when all steps are made -/
theorem Bfs.last {n : Nat} {d c m : Int → Nat} (h : Bfs nu n (n + 1) 0 [] d c) (ht : ∀ x, d x ≤ n + 1) (hm : Meets nu m) (hr : ∀ x, Reach nu x ↔ 1 ≤ x ∧ x ≤ (n : Int)) (x : Int) (hx : 2 ≤ x ∧ x ≤ (n : Int)) : d x ≠ 0 ∧ c x = m x := by
  have hn : ∀ x, d x ≤ n := fun x => by
    have h1 := ht x
    by_cases e : d x = n + 1
    · have h2 := h.layer n x e
      have h3 := List.countP_le_length (p := fun j => decide (d j ≠ 0 ∧ d j ≤ n + 1)) (l := upto n)
      rw [len_upto] at h3
      omega
    · omega
  have hd : ∀ j ∈ upto n, done d (n + 1) 0 j = decide (d j ≠ 0) := fun j _ => bool_eq (by
    rw [done_iff, decide_eq_true_iff]
    have := hn j
    exact ⟨fun h => h.1, fun h => ⟨h, by omega⟩⟩)
  have hall : ∀ x, Reach nu x → d x ≠ 0 := fun x hx => by
    induction hx with
    | one => rw [h.one]; decide
    | step h1 h2 ih =>
      rename_i i y
      refine (h.met y).2 (.inr ?_)
      have hi : i ∈ (upto n).filter (done d (n + 1) 0) := by
        rw [List.mem_filter]
        have := mem_upto.2 ((hr i).1 h1)
        exact ⟨this, by rw [hd i this]; simpa using ih⟩
      have := cntD_mem (nu := nu) hi h2
      rw [h.cnt y]
      omega
  refine ⟨hall x ((hr x).2 (by omega)), ?_⟩
  have e : (upto n).filter (done d (n + 1) 0) = upto n := List.filter_eq_self.2 fun j hj => by
    rw [hd j hj]
    have := hall j ((hr j).2 (mem_upto.1 hj))
    simpa using this
  have hf : first x = 0 := by unfold first; rw [if_neg (by omega)]
  rw [h.cnt x, e, meets_all (nu := nu) hm hr x, hf]
  simp
end
end Go.Proofs.YtojhlhpbhoeplaaGreatDoor.Lw
namespace Go.Proofs.YtojhlhpbhoeplaaGreatDoor.Lw
open Go.RowKit Go.Lib Go.Proofs.YtojhlhpbhoeplaaGreatDoor.Sh Go.Proofs.YtojhlhpbhoeplaaGreatDoor.Lb

/-- a row of the law's ints -/
def rowD (d : Int → Nat) (n : Nat) : List Value := (List.range n).map fun j : Nat => Value.int .i64 (d (j : Int) : Int)
theorem rowD_get (d : Int → Nat) {n j : Nat} (h : j < n) : (rowD d n)[j]? = some (.int .i64 (d (j : Int) : Int)) := by
  unfold rowD
  rw [List.getElem?_map, List.getElem?_range h]
  rfl
theorem rowD_set (d : Int → Nat) (n j v : Nat) : (rowD d n).set j (.int .i64 (v : Int)) = rowD (upd d (j : Int) v) n := by
  apply List.ext_getElem?
  intro i
  rw [List.getElem?_set]
  have hl : (rowD d n).length = n := by simp [rowD]
  rw [hl]
  rcases Nat.lt_or_ge i n with hi | hi
  · rw [rowD_get _ hi, rowD_get _ hi]
    unfold upd
    by_cases e : j = i
    · subst e
      rw [if_pos rfl, if_pos hi, if_pos rfl]
    · rw [if_neg e, if_neg (by omega)]
  · have e1 : ∀ d' : Int → Nat, (rowD d' n)[i]? = none := fun d' => List.getElem?_eq_none (by simp [rowD]; exact hi)
    rw [e1, e1]
    split
    · rw [if_neg (by omega)]
    · rfl
theorem rowD_upd0 (n : Nat) : (rowD (fun _ => 0) n).set 1 (.int .i64 1) = rowD (upd (fun _ => 0) 1 1) n := rowD_set (fun _ => 0) n 1 1
theorem info3 : (Tryz.prog.info? 3).map (fun i => (i.zero, i.size, i.bytes)) = some (some (.int .i64 0), 1, 8) := by kernel_rfl
theorem zeros_row (n : Nat) : madeCells (Value.int .i64 0).cells n = (rowD (fun _ => 0) n).toArray := by
  apply Array.ext'
  apply List.ext_getElem?
  intro i
  rcases Nat.lt_or_ge i n with hi | hi
  · rw [List.toList_toArray, rowD_get _ hi]
    simp [madeCells, Value.cells, hi, Nat.mod_one]
  · rw [List.getElem?_eq_none (by simp [size_madeCells]; exact hi), List.getElem?_eq_none (by simp [rowD]; exact hi)]
theorem make_ints (w : World) (n : Nat) (hn : n ≤ 1000) : (Instr.makeSlice 43 (.int .i64 (n : Int)) (.int .i64 (n : Int))).run Tryz.prog w = .ok (.slice (some ⟨w.heap.size, 0, none⟩) n n) (w.alloc (.cells (rowD (fun _ => 0) n).toArray 3)) := by
  obtain ⟨i0, hi, hz0, hz1, hz2⟩ := info_parts info3
  have hmk := run_make w 43 3 i0 (.int .i64 0) Tryz.underlying43 hi hz0 .i64 .i64 (n : Int) (n : Int) (by omega) (by omega) (by rw [hz2]; omega) (by omega)
  rw [hz1, Int.toNat_natCast, Nat.mul_one, zeros_row] at hmk
  exact hmk
set_option maxHeartbeats 16000000 in
set_option maxRecDepth 100000 in
theorem tree_law (a : Addr) (ao : Option Addr) (b : List UInt8) (n c : Nat) (w : World) (hE : Env w a) (hb : Byt w ao b) (hn : ao = none → c = 0) (hl : b.length = n) (hc : n ≤ c) (hcc : c ≤ 9223372036854775807) (hfar : ∀ x, ao = some x → x.block < w.heap.size) :
    Calls Tryz.prog 7 #[.slice ao n c] w fun e w' => e = .returned (.bool true) ∧ Below w.heap.size w w' := by
  have E0 := Lib.hid hE
  have CH := Lib.hid (fun W (hb : Below w.heap.size w W) => heads_any a W (hE.below hb))
  have B0 := Lib.hid (Below.refl w.heap.size w)
  clear hE
  by_cases hbig : 30000 < n
  · have t0 : decide ((30000 : Int) < (n : Int)) = true := by simp; omega
    clear hb hn hl hc hcc hfar
    go_enter Tryz.func7, Tryz.ntmps7
    go_wp2_with fail
    refine (CH.out _ B0.out).mono ?_
    rintro e w' ⟨rfl, hb⟩
    have B1 := Lib.hid hb
    clear hb
    go_wp2_with fail
    go_ret
    exact ⟨rfl, B1.out⟩
  have t0 : decide ((30000 : Int) < (n : Int)) = false := by simp; omega
  have C := Lib.hid (lget_any a ao b n c w E0.out hb hn hl hc hcc (by omega) hfar)
  clear hb hn hl hfar hbig hc hcc
  go_enter Tryz.func7, Tryz.ntmps7
  go_wp2_with fail
  refine C.out.mono ?_
  clear C t0
  rintro e w1 ⟨hb1, hv⟩
  rcases hv with ⟨l, ap, cp, rfl, hfs, ho, hs⟩ | ⟨rfl, _⟩
  rotate_left
  · as_aux_lemma =>
    have b2 : Below w.heap.size w (w1.alloc (.cells #[.slice none 0 0, .int .i64 0] 26)) := hb1.alloc hb1.size _
    have C := Lib.hid (CH.out _ b2)
    have K : Sh.Blk (w1.alloc (.cells #[.slice none 0 0, .int .i64 0] 26)) w1.heap.size [.slice none 0 0, .int .i64 0] 26 := Sh.Blk.new w1 [.slice none 0 0, .int .i64 0] 26 _ rfl
    have x0 := K.cell 0
    simp only [List.getElem?_cons_zero] at x0
    have B2 := Lib.hid b2
    clear b2 hb1 K
    go_wp2_with fail
    refine C.out.mono ?_
    clear C
    rintro e w3 ⟨rfl, hb⟩
    have B3 := Lib.hid (below_chain B2.out hb)
    clear hb
    go_wp2_with fail
    go_ret
    exact ⟨rfl, B3.out⟩
  obtain ⟨q, hq⟩ : ∃ q, q = l.length := ⟨_, rfl⟩
  rw [← hq] at ho ⊢
  obtain ⟨ap', cp', e, g1, g2, _, hi⟩ := ownI_irw ho hs
  injection e with e1 e2 e3
  clear e2
  subst e1
  subst e3
  obtain ⟨hok, z, hz⟩ := hfs
  rw [← hq] at g1 hok
  clear hz
  have hq1 := hok.1.one
  have hq2 := hok.1.most
  rw [← hq] at hq1 hq2
  obtain ⟨n1, hn1⟩ : ∃ n1, n1 = q + 1 := ⟨_, rfl⟩
  have hwq : IntKind.i64.wrap ((q : Int) + 1) = (n1 : Int) := by rw [IntKind.wrap]; simp [IntKind.bits, IntKind.signed]; omega
  have hq1' : (q : Int) + 1 = (n1 : Int) := by omega
  rw [hq1']
  obtain ⟨x, hx⟩ : ∃ x, l[0]? = some x := ⟨_, List.getElem?_eq_getElem (by omega)⟩
  have hroot := hok.1.root x hx
  obtain ⟨fb, fo, hfb, hfbl, da, dn, dc, na, nn, nc, za, zn, zc, aa, an, ac, h9, hv9⟩ := irw_at hi 0 x hx
  obtain ⟨w2, hw2⟩ : ∃ w2, w2 = w1.alloc (.cells #[.slice ap q cp, .int .i64 (n1 : Int)] 26) := ⟨_, rfl⟩
  have b2 : Below w1.heap.size w1 w2 := by rw [hw2]; exact (Below.refl _ w1).alloc (Nat.le_refl _) _
  have F2 : Hid (Sh.Blk w2 w1.heap.size [.slice ap q cp, .int .i64 (n1 : Int)] 26) := by show Sh.Blk _ _ _ _; rw [hw2]; exact Sh.Blk.new w1 [.slice ap q cp, .int .i64 (n1 : Int)] 26 _ rfl
  have k1 := (h9.below b2 hfbl).k1
  rw [Nat.zero_mul, Nat.add_zero, hroot] at k1
  subst hfb
  have B2 := Lib.hid (below_chain hb1 b2)
  have I2 := Lib.hid (hi.below b2)
  have x0 := F2.out.cell 0
  have x1 := F2.out.cell 1
  simp only [List.getElem?_cons_zero, List.getElem?_cons_succ] at x0 x1
  rw [hw2] at x0 x1 k1
  have t1 : decide ((q : Int) < 1) = false := by simp; omega
  have t2 : decide ((512 : Int) < (q : Int)) = false := by simp; omega
  have q0 : (0 : Int) < (q : Int) := by omega
  have m1 := make_ints w2 n1 (by omega)
  obtain ⟨w3, hw3⟩ : ∃ w3, w3 = w2.alloc (.cells (rowD (fun _ => 0) n1).toArray 3) := ⟨_, rfl⟩
  have m2 := make_ints w3 n1 (by omega)
  obtain ⟨w4, hw4⟩ : ∃ w4, w4 = w3.alloc (.cells (rowD (fun _ => 0) n1).toArray 3) := ⟨_, rfl⟩
  rw [← hw4] at m2
  rw [← hw3, hw2] at m1
  have s3 : w3.heap.size = w2.heap.size + 1 := by rw [hw3]; simp
  have b3 : Below w2.heap.size w2 w3 := by rw [hw3]; exact (Below.refl _ w2).alloc (Nat.le_refl _) _
  have b4 : Below w3.heap.size w3 w4 := by rw [hw4]; exact (Below.refl _ w3).alloc (Nat.le_refl _) _
  have D4 : Sh.Blk w4 w2.heap.size (rowD (fun _ => 0) n1) 3 := by
    have h3 : Sh.Blk w3 w2.heap.size (rowD (fun _ => 0) n1) 3 := by rw [hw3]; exact Sh.Blk.new w2 _ 3 _ rfl
    exact h3.low b4
  have C4 : Sh.Blk w4 (w2.heap.size + 1) (rowD (fun _ => 0) n1) 3 := by rw [hw4]; exact Sh.Blk.new w3 _ 3 _ s3.symm
  have s2 : w2.heap.size = w1.heap.size + 1 := by rw [hw2]; simp
  have S3 : Hid (w3.heap.size = w1.heap.size + 1 + 1) := by show _ = _; omega
  rw [s2] at D4 C4 b3
  have gs := grownBy_setCell w4 (w1.heap.size + 1) 1 (.int .i64 1)
  have D5 : Hid (Sh.Blk (w4.setCell ⟨w1.heap.size + 1, 1, none⟩ (.int .i64 1)) (w1.heap.size + 1) (rowD (upd (fun _ => 0) 1 1) n1) 3) := by
    show Sh.Blk _ _ _ _
    rw [← rowD_upd0]
    exact D4.set 1 _
  have C5 : Hid (Sh.Blk (w4.setCell ⟨w1.heap.size + 1, 1, none⟩ (.int .i64 1)) w3.heap.size (rowD (fun _ => 0) n1) 3) := by
    show Sh.Blk _ _ _ _
    rw [S3.out]
    exact blk_grown C4 gs (by omega)
  have B25 : Hid (Below w2.heap.size w2 (w4.setCell ⟨w1.heap.size + 1, 1, none⟩ (.int .i64 1))) := by
    show Below _ _ _
    rw [s2]
    have h1 : Below (w1.heap.size + 1) w2 w4 := by
      have h2 : Below w3.heap.size w3 w4 := b4
      exact b3.trans (h2.mono (by omega))
    exact below_gb (w := w2) h1 gs (fun j hj => by injection hj with hj; omega) (by omega)
  have y0 := D4.cell 1
  have y1 := D4.frozen 1
  rw [rowD_get _ (by omega)] at y0
  have r1 : (0 : Int) ≤ 1 := by omega
  have r2 : (1 : Int) < (n1 : Int) := by omega
  have OK := Lib.hid hok
  have HQ := Lib.hid hq
  have HN1 := Lib.hid hn1
  have G1 := Lib.hid g1
  have G2 := Lib.hid g2
  have Q512 := Lib.hid hq2
  have QN1 := Lib.hid hq1
  have S2 := Lib.hid s2
  clear hok hq hn1 hq1' hroot hx h9 hv9 hw2 hw3 hw4 s3 b3 b4 b2 hb1 D4 C4 g1 g2 hq1 hq2 hi hfbl ho hs gs s2
  go_wp2_with fail
  clear k1 m1 m2 x0 x1 y0 y1 t1 t2 q0 r1 r2 hwq
  generalize w4.setCell ⟨w1.heap.size + 1, 1, none⟩ (.int .i64 1) = w5 at *
  have MT := OK.out.2
  obtain ⟨m, hmt, hlk⟩ := MT
  have HM := Lib.hid hmt
  have HLK := Lib.hid hlk
  have HRE : Hid (∀ x, Reach (numsAt l) x ↔ 1 ≤ x ∧ x ≤ (q : Int)) := by
    show ∀ x, _
    intro x
    constructor
    · intro hx
      have := OK.out.1.reach hx
      rw [← HQ.out] at this
      exact this
    · rintro ⟨h1, h2⟩
      obtain ⟨v, hv⟩ : ∃ v, l[x.toNat - 1]? = some v := ⟨_, List.getElem?_eq_getElem (by have := HQ.out; omega)⟩
      obtain ⟨h3, _, h4⟩ := hlk _ v hv
      have h5 : (((x.toNat - 1 : Nat) : Int) + 1) = x := by omega
      rw [h5] at h4
      exact (meets_reach (nu := numsAt l) hmt x).1 (by omega)
  clear hmt hlk
  go_loopw [8] (fun vi wr => ∃ (s : Nat) (d c : Int → Nat), 1 ≤ s ∧ s ≤ n1 ∧ vi = .int .i64 s ∧ Hid (Bfs (numsAt l) q s 0 [] d c) ∧ Hid (∀ x, d x ≤ s) ∧ Hid (Below w2.heap.size w2 wr) ∧ Hid (Sh.Blk wr (w1.heap.size + 1) (rowD d n1) 3) ∧ Hid (Sh.Blk wr w3.heap.size (rowD c n1) 3)) (fun vi _ => n1 - (RowKit.intOf vi).toNat)
  case atStart => exact ⟨1, _, _, Nat.le_refl _, by have := HN1.out; omega, rfl, Bfs.start QN1.out, (fun x => by unfold upd; split; exact Nat.le_refl _; exact Nat.zero_le _ : ∀ x, upd (fun _ => 0) 1 1 x ≤ 1), B25.out, D5.out, C5.out⟩
  case round =>
    clear D5 C5 B25
    obtain ⟨s, d, c, hs1, hsn, rfl, hF, hT, hB, hD, hC⟩ := hrel
    by_cases hsq : s < n1
    rotate_left
    · as_aux_lemma =>
      obtain rfl : s = n1 := by omega
      have LAST : Hid (∀ x : Int, 2 ≤ x ∧ x ≤ (q : Int) → d x ≠ 0 ∧ c x = m x) := by
        show ∀ x : Int, _
        intro x hx
        have h1 := hF.out
        have h2 := hT.out
        rw [HN1.out] at h1 h2
        exact h1.last h2 HM.out HRE.out x hx
      have w1' : decide ((s : Int) ≤ (q : Int)) = false := by have := HN1.out; simp; omega
      have w2' : decide (s ≤ q) = false := by have := HN1.out; simp; omega
      clear hF hT
      go_wp2_with fail
      go_loopw [13] (fun vi wr => ∃ j : Nat, 2 ≤ j ∧ j ≤ s ∧ vi = .int .i64 j ∧ Hid (Below w2.heap.size w2 wr) ∧ Hid (Sh.Blk wr (w1.heap.size + 1) (rowD d s) 3) ∧ Hid (Sh.Blk wr w3.heap.size (rowD c s) 3)) (fun vi _ => s - (RowKit.intOf vi).toNat)
      case atStart => exact ⟨2, Nat.le_refl _, by have := HN1.out; have := QN1.out; omega, rfl, hB.out, hD.out, hC.out⟩
      case round =>
        clear hB hD hC w1' w2'
        obtain ⟨j, hj2, hjs, rfl, hB, hD, hC⟩ := hrel
        by_cases hjq : j < s
        rotate_left
        · as_aux_lemma =>
          obtain rfl : j = s := by omega
          have w1' : decide ((j : Int) ≤ (q : Int)) = false := by have := HN1.out; simp; omega
          have w2' : decide (j ≤ q) = false := by have := HN1.out; simp; omega
          have B9 := Lib.hid (B2.out.trans (hB.out.mono B2.out.size))
          clear hB hD hC
          go_wp2_with fail
          refine (CH.out _ B9.out).mono ?_
          rintro e w6 ⟨rfl, hb⟩
          have B10 := Lib.hid (below_chain B9.out hb)
          clear hb
          go_wp2_with fail
          go_ret
          exact ⟨rfl, B10.out⟩
        have w1' : decide ((j : Int) ≤ (q : Int)) = true := by have := HN1.out; simp; omega
        have w2' : decide (j ≤ q) = true := by have := HN1.out; simp; omega
        obtain ⟨hd0, hcj⟩ := LAST.out (j : Int) (by have := HN1.out; omega)
        obtain ⟨j1, hj1⟩ : ∃ j1, j1 = j - 1 := ⟨_, rfl⟩
        obtain ⟨x, hx⟩ : ∃ x, l[j1]? = some x := ⟨_, List.getElem?_eq_getElem (by have := HQ.out; have := HN1.out; omega)⟩
        obtain ⟨fb', fo', e, hfbl, da, dn, dc, na, nn, nc, za, zn, zc, aa, an, ac, h9, _⟩ := irw_at I2.out j1 x hx
        injection e with e
        injection e with e1 e2 _
        subst e1
        subst e2
        have h9' := h9.below hB.out hfbl
        have k3 := h9'.k3
        have hln : x.links = (c (j : Int) : Int) := by
          rw [(HLK.out j1 x hx).2.2, show ((j1 : Int) + 1) = (j : Int) by omega, hcj]
        rw [hln] at k3
        have x0 := (F2.out.below hB.out (by have := S2.out; omega)).cell 0
        simp only [List.getElem?_cons_zero] at x0
        have d0 := hD.out.cell j
        have c0 := hC.out.cell j
        rw [rowD_get _ hjq] at d0 c0
        have t1 : ((d (j : Int) : Int) == 0) = false := by simp; omega
        have p1 : (0 : Int) ≤ (j : Int) := by omega
        have p2 : (j : Int) < (s : Int) := by omega
        have p3 : (0 : Int) ≤ (j1 : Int) := by omega
        have p4 : (j1 : Int) < (q : Int) := by have := HN1.out; omega
        have hwj : IntKind.i64.wrap ((j : Int) - 1) = (j1 : Int) := by have := HN1.out; have := Q512.out; rw [IntKind.wrap]; simp [IntKind.bits, IntKind.signed]; omega
        have hwj2 : IntKind.i64.wrap ((j : Int) + 1) = (j : Int) + 1 := by have := HN1.out; have := Q512.out; rw [IntKind.wrap]; simp [IntKind.bits, IntKind.signed]; omega
        clear hd0 hcj hj1 hx hfbl h9 h9' hln
        go_wp2_with fail
        go_quiet (fail)
        generalize hwv : wr.drewN nq = wv at *
        have hBv : Hid (Below w2.heap.size w2 wv) := by show Below _ _ _; rw [← hwv]; exact Sh.below_drewN hB.out _
        have hDv : Hid (Sh.Blk wv (w1.heap.size + 1) (rowD d s) 3) := by show Sh.Blk _ _ _ _; rw [← hwv]; exact hD.out
        have hCv : Hid (Sh.Blk wv w3.heap.size (rowD c s) 3) := by show Sh.Blk _ _ _ _; rw [← hwv]; exact hC.out
        clear hwv hB hD hC k3 x0 d0 c0
        go_wp2_with fail
        go_roundw
        case rel => exact ⟨j + 1, by omega, by omega, by go_num, hBv.out, hDv.out, hCv.out⟩
        case measure => simp [RowKit.intOf]; omega
    · have q1 : (s : Int) ≤ (q : Int) := by have := HN1.out; omega
      obtain ⟨s1, hs1'⟩ : ∃ s1, s1 = s + 1 := ⟨_, rfl⟩
      have HS1 := Lib.hid hs1'
      have hws : IntKind.i64.wrap ((s : Int) + 1) = (s1 : Int) := by have := Q512.out; have := HN1.out; rw [IntKind.wrap]; simp [IntKind.bits, IntKind.signed]; omega
      clear hs1'
      go_wp2_with fail
      go_loopw [9] (fun vi wr => ∃ (i : Nat) (d c : Int → Nat), i ≤ q ∧ vi = .int .i64 i ∧ Hid (Bfs (numsAt l) q s i [] d c) ∧ Hid (Below w2.heap.size w2 wr) ∧ Hid (Sh.Blk wr (w1.heap.size + 1) (rowD d n1) 3) ∧ Hid (Sh.Blk wr w3.heap.size (rowD c n1) 3)) (fun vi _ => q - (RowKit.intOf vi).toNat)
      case atStart => exact ⟨0, d, c, Nat.zero_le _, rfl, hF.out, hB.out, hD.out, hC.out⟩
      case round =>
        clear hF hT hB hD hC d c
        obtain ⟨i, d, c, hi, rfl, hF, hB, hD, hC⟩ := hrel
        by_cases hiq : i < q
        rotate_left
        · as_aux_lemma =>
          obtain rfl : i = q := by omega
          have FN := Lib.hid hF.out.next
          have TN : Hid (∀ x, d x ≤ s1) := fun x => by have := hF.out.top x; have := HS1.out; omega
          clear hF
          go_wp2_with fail
          go_roundw
          case rel => exact ⟨s1, d, c, by have := HS1.out; omega, by have := HS1.out; omega, by go_num, (by rw [HS1.out]; exact FN.out : Bfs _ _ _ _ _ _ _), TN.out, hB.out, hD.out, hC.out⟩
          case measure => simp [RowKit.intOf]; have := HS1.out; omega
        obtain ⟨x, hx⟩ : ∃ x, l[i]? = some x := ⟨_, List.getElem?_eq_getElem (by have := HQ.out; omega)⟩
        obtain ⟨fb', fo', e, hfbl, da, dn, dc, na, nn, nc, za, zn, zc, aa, an, ac, h9, hv⟩ := irw_at I2.out i x hx
        injection e with e
        injection e with e1 e2 _
        subst e1
        subst e2
        have IV := Lib.hid hv
        have h9' := h9.below hB.out hfbl
        have HX := Lib.hid hx
        have HOI := Lib.hid (OK.out.1.each i x hx).2
        have HNU : Hid (numsAt l ((i : Int) + 1) = x.nums) := numsAt_get hx
        have hnz : nn = zn := by rw [← hv.n1, ← hv.z1]; exact HOI.out.list.same.symm
        subst hnz
        obtain ⟨xn, xk, xm, xl, xd, xt, xs, xz, xa⟩ := x
        have XSL : Hid (xs.length = nn) := hv.n1
        have XZL : Hid (xz.length = nn) := hv.z1
        have NN128 : Hid (nn ≤ 128) := by have := HOI.out.most; have h2 := hv.n1; simp only at this h2; show _ ≤ _; omega
        have k0 := h9'.k0
        have k1 := h9'.k1
        have k2 := h9'.k2
        have k3 := h9'.k3
        have k4 := h9'.k4
        have k5 := h9'.k5
        have k6 := h9'.k6
        have k7 := h9'.k7
        have k8 := h9'.k8
        simp only at k0 k1 k2 k3 k4 k5 k6 k7 k8
        have x0 := (F2.out.below hB.out (by have := S2.out; omega)).cell 0
        simp only [List.getElem?_cons_zero] at x0
        have q2 : (0 : Int) ≤ (i : Int) := by omega
        have q3 : (i : Int) < (q : Int) := by omega
        obtain ⟨i1, hi1⟩ : ∃ i1, i1 = i + 1 := ⟨_, rfl⟩
        have hwi : IntKind.i64.wrap ((i : Int) + 1) = (i1 : Int) := by have := Q512.out; rw [IntKind.wrap]; simp [IntKind.bits, IntKind.signed]; omega
        have HI1 := Lib.hid hi1
        obtain ⟨wb, hwb⟩ : ∃ wb, wb = wr.alloc (.cells #[.int .i64 xn, .int .i64 xk, .int .i64 xm, .int .i64 xl, .slice da dn dc, .string xt, .slice na nn nc, .slice za nn zc, .slice aa an ac] 46) := ⟨_, rfl⟩
        have bb : Below wr.heap.size wr wb := by rw [hwb]; exact (Below.refl _ wr).alloc (Nat.le_refl _) _
        have XB : Hid (Sh.Blk wb wr.heap.size [.int .i64 xn, .int .i64 xk, .int .i64 xm, .int .i64 xl, .slice da dn dc, .string xt, .slice na nn nc, .slice za nn zc, .slice aa an ac] 46) := by show Sh.Blk _ _ _ _; rw [hwb]; exact Sh.Blk.new wr [.int .i64 xn, .int .i64 xk, .int .i64 xm, .int .i64 xl, .slice da dn dc, .string xt, .slice na nn nc, .slice za nn zc, .slice aa an ac] 46 _ rfl
        have hB2 := Lib.hid (below_chain hB.out bb)
        have hD2 := Lib.hid (hD.out.low bb)
        have hC2 := Lib.hid (hC.out.low bb)
        obtain ⟨X, hX⟩ : ∃ X, X = wr.heap.size := ⟨_, rfl⟩
        rw [← hX] at XB
        have XBIG : Hid (w3.heap.size < X ∧ w1.heap.size + 1 < X) := by have h1 := hC.out.lt; have h2 := hD.out.lt; exact ⟨by omega, by omega⟩
        have HWB := Lib.hid hwb
        have HXX := Lib.hid hX
        clear hx h9 h9' hv hi1 bb hB hD hC hwb hX hfbl q1
        go_wp2_with fail
        rw [← HWB.out, ← HXX.out]
        clear HWB HXX k0 k1 k2 k3 k4 k5 k6 k7 k8 x0 q2 q3
        have KZ0 : Hid (wb.heap.size ≤ wb.heap.size) := Nat.le_refl _
        go_loopw [11] (fun vi wr => ∃ (k : Nat) (d c : Int → Nat), k ≤ nn ∧ vi = .int .i64 k ∧ Hid (Bfs (numsAt l) q s i (xz.take k) d c) ∧ Hid (k = 0 ∨ d ((i : Int) + 1) = s) ∧ Hid (Below w2.heap.size w2 wr) ∧ Hid (Sh.Blk wr (w1.heap.size + 1) (rowD d n1) 3) ∧ Hid (Sh.Blk wr w3.heap.size (rowD c n1) 3) ∧ Hid (Sh.Blk wr X [.int .i64 xn, .int .i64 xk, .int .i64 xm, .int .i64 xl, .slice da dn dc, .string xt, .slice na nn nc, .slice za nn zc, .slice aa an ac] 46)) (fun vi _ => nn - (RowKit.intOf vi).toNat)
        case atStart => exact ⟨0, d, c, Nat.zero_le _, rfl, hF.out, .inl rfl, hB2.out, hD2.out, hC2.out, XB.out⟩
        case round =>
          clear hF hB2 hD2 hC2 XB d c KZ0
          obtain ⟨k, d, c, hk, rfl, hF, hA, hB, hD, hC, hX⟩ := hrel
          have j7 := hX.out.cell 7
          simp only [List.getElem?_cons_zero, List.getElem?_cons_succ] at j7
          by_cases hkz : k < nn
          rotate_left
          · as_aux_lemma =>
            obtain rfl : k = nn := by omega
            have NX : Hid (Bfs (numsAt l) q s i1 [] d c) := by
              show Bfs _ _ _ _ _ _ _
              have h1 := hF.out
              have hz1 := IV.out.z1
              simp only at hz1
              rw [← hz1, List.take_length] at h1
              rw [HI1.out]
              by_cases hd : d ((i : Int) + 1) = s
              · refine Bfs.full ?_ hs1 (by omega) hd
                rw [HNU.out]
                exact h1
              · refine Bfs.skip ?_ hd
                have h0 := hA.out.resolve_right hd
                have : xz = [] := List.eq_nil_of_length_eq_zero (by omega)
                rw [this] at h1
                exact h1
            have I1Q : Hid (i1 ≤ q) := by show _ ≤ _; have := HI1.out; omega
            clear hF hA hX
            go_wp2_with fail
            go_roundw
            case rel => exact ⟨i1, d, c, I1Q.out, by go_num, NX.out, hB.out, hD.out, hC.out⟩
            case measure => simp [RowKit.intOf]; have := HI1.out; omega
          have q4 : (k : Int) < (nn : Int) := by omega
          have d0 := hD.out.cell i1
          rw [rowD_get _ (by have := HI1.out; have := HN1.out; omega)] at d0
          have r1 : (0 : Int) ≤ (i1 : Int) := by omega
          have r2 : (i1 : Int) < (n1 : Int) := by have := HI1.out; have := HN1.out; omega
          obtain ⟨dv, hdv⟩ : ∃ dv, dv = d (i1 : Int) := ⟨_, rfl⟩
          rw [← hdv] at d0
          by_cases hds : dv = s
          rotate_left
          · as_aux_lemma =>
            have t1 : ((dv : Int) == (s : Int)) = false := by simp; omega
            have NX : Hid (Bfs (numsAt l) q s i1 [] d c) := by
              show Bfs _ _ _ _ _ _ _
              have hd : d ((i : Int) + 1) ≠ s := fun h => hds (by rw [hdv, HI1.out]; exact h)
              have h0 := hA.out.resolve_right hd
              have h1 := hF.out
              rw [h0, List.take_zero] at h1
              rw [HI1.out]
              exact Bfs.skip h1 hd
            have I1Q : Hid (i1 ≤ q) := by show _ ≤ _; have := HI1.out; omega
            clear hF hA hX hdv hds
            go_wp2_with fail
            go_roundw
            case rel => exact ⟨i1, d, c, I1Q.out, by go_num, NX.out, hB.out, hD.out, hC.out⟩
            case measure => simp [RowKit.intOf]; have := HI1.out; omega
          have t1 : ((dv : Int) == (s : Int)) = true := by simp; omega
          have HDV : Hid (d ((i : Int) + 1) = s) := by
            show _ = _
            rw [← hds, hdv, HI1.out]
            rfl
          clear hdv hds hA
          -- the number that stands there
          have hkl : k < xz.length := by have := IV.out.z1; simp only at this; omega
          obtain ⟨zb, zo, hza, hzb, hz⟩ := zrw_cell IV.out.z4 k hkl
          subst hza
          obtain ⟨y, hy⟩ : ∃ y, xz[k]? = some y := ⟨_, List.getElem?_eq_getElem hkl⟩
          have hyr := OK.out.1.range (i := (i : Int) + 1) (z := y) (by rw [HNU.out]; exact List.mem_of_getElem? hy)
          rw [← HQ.out] at hyr
          obtain ⟨yn, rfl⟩ : ∃ yn : Nat, y = (yn : Int) := ⟨y.toNat, by omega⟩
          obtain ⟨y1, hy1⟩ : ∃ y1, y1 = yn - 1 := ⟨_, rfl⟩
          have e7 := (hB.out.cell (p := ⟨zb, zo + k, none⟩) hzb).trans (hz k _ hy)
          have hk2 : xk = 2 := by
            have hne : xs ≠ [] := fun h => by have := IV.out.n1; simp only at this; rw [h] at this; simp at this; omega
            exact HOI.out.dir hne
          subst hk2
          have u1 : decide ((yn : Int) < 1) = false := by simp; omega
          have u2 : decide ((q : Int) < (yn : Int)) = false := by simp; omega
          have u2' : decide (q < yn) = false := by simp; omega
          have j1 := hX.out.cell 1
          have j6 := hX.out.cell 6
          simp only [List.getElem?_cons_zero, List.getElem?_cons_succ] at j1 j6
          have HY := Lib.hid hy
          have HY1 := Lib.hid hy1
          have HYR := Lib.hid hyr
          have ZB := Lib.hid hzb
          have ZZ := Lib.hid (hz k _ hy)
          clear hkl hz hy hy1 hyr hzb
          have q5 : (0 : Int) ≤ (k : Int) := by omega
          rcases Nat.eq_zero_or_pos k with hk0 | hk0
          · as_aux_lemma =>
            have u3 : decide ((0 : Int) < (k : Int)) = false := by simp; omega
            have u3' : decide (0 < k) = false := by simp; omega
            clear hk0
            go_wp2_with fail
            go_quiet (fail)
            generalize hwv : wr.drewN nq = wv at *
            have hBv : Hid (Below w2.heap.size w2 wv) := by show Below _ _ _; rw [← hwv]; exact Sh.below_drewN hB.out _
            have hDv : Hid (Sh.Blk wv (w1.heap.size + 1) (rowD d n1) 3) := by show Sh.Blk _ _ _ _; rw [← hwv]; exact hD.out
            have hCv : Hid (Sh.Blk wv w3.heap.size (rowD c n1) 3) := by show Sh.Blk _ _ _ _; rw [← hwv]; exact hC.out
            have hXv : Hid (Sh.Blk wv X [.int .i64 xn, .int .i64 2, .int .i64 xm, .int .i64 xl, .slice da dn dc, .string xt, .slice na nn nc, .slice (some ⟨zb, zo, none⟩) nn zc, .slice aa an ac] 46) := by show Sh.Blk _ _ _ _; rw [← hwv]; exact hX.out
            clear hwv hB hD hC hX j1 j6 j7 e7 d0 u1 u2 u2' t1 u3 u3'
            have e7 := (hBv.out.cell (p := ⟨zb, zo + k, none⟩) ZB.out).trans ZZ.out
            have x0 := (F2.out.below hBv.out (by have := S2.out; omega)).cell 0
            have j7 := hXv.out.cell 7
            simp only [List.getElem?_cons_zero, List.getElem?_cons_succ] at x0 j7
            obtain ⟨v, hv⟩ : ∃ v, l[y1]? = some v := ⟨_, List.getElem?_eq_getElem (by have := HQ.out; have := HY1.out; have := HYR.out; omega)⟩
            obtain ⟨fb', fo', e, hfbl, ea, en, ec, ga, gn, gc, ia, iN, ic, ha, hn', hc', h9, _⟩ := irw_at I2.out y1 v hv
            injection e with e
            injection e with e1 e2 _
            subst e1
            subst e2
            have h9' := h9.below hBv.out hfbl
            have HV := Lib.hid hv
            obtain ⟨vn, vk, vm, vl, vd, vt, vs, vz, va⟩ := v
            have k0 := h9'.k0
            have k1' := h9'.k1
            have k2 := h9'.k2
            have k3 := h9'.k3
            have k4 := h9'.k4
            have k5 := h9'.k5
            have k6 := h9'.k6
            have k7 := h9'.k7
            have k8 := h9'.k8
            simp only at k0 k1' k2 k3 k4 k5 k6 k7 k8
            have hwy : IntKind.i64.wrap ((yn : Int) - 1) = (y1 : Int) := by have := HY1.out; have := HYR.out; have := Q512.out; rw [IntKind.wrap]; simp [IntKind.bits, IntKind.signed]; omega
            have p1 : (0 : Int) ≤ (y1 : Int) := by omega
            have p2 : (y1 : Int) < (q : Int) := by have := HY1.out; have := HYR.out; omega
            have hBA : Below w2.heap.size w2 (wv.alloc (.cells #[.int .i64 0, .int .i64 0, .int .i64 0, .int .i64 0, .slice none 0 0, .string ⟨#[]⟩, .slice none 0 0, .slice none 0 0, .slice none 0 0] 46)) := hBv.out.alloc hBv.out.size _
            have h9A := h9.below hBA hfbl
            have k0A := h9A.k0
            have k1A := h9A.k1
            have k2A := h9A.k2
            have k3A := h9A.k3
            have k4A := h9A.k4
            have k5A := h9A.k5
            have k6A := h9A.k6
            have k7A := h9A.k7
            have k8A := h9A.k8
            have e7A := (hBA.cell (p := ⟨zb, zo + k, none⟩) ZB.out).trans ZZ.out
            have x0A := (F2.out.below hBA (by have := S2.out; omega)).cell 0
            have j7A := (hXv.out.alloc (.cells #[.int .i64 0, .int .i64 0, .int .i64 0, .int .i64 0, .slice none 0 0, .string ⟨#[]⟩, .slice none 0 0, .slice none 0 0, .slice none 0 0] 46)).cell 7
            simp only [List.getElem?_cons_zero, List.getElem?_cons_succ] at k0A k1A k2A k3A k4A k5A k6A k7A k8A x0A j7A
            clear h9 h9' hfbl hv h9A hBA
            go_wp2_with fail
            go_region
            all_goals
              as_aux_lemma =>
              have hBa : Hid (Below w2.heap.size w2 (wv.alloc (.cells #[.int .i64 vn, .int .i64 vk, .int .i64 vm, .int .i64 vl, .slice ea en ec, .string vt, .slice ga gn gc, .slice ia iN ic, .slice ha hn' hc'] 46)).drew) := (hBv.out.alloc hBv.out.size (.cells #[.int .i64 vn, .int .i64 vk, .int .i64 vm, .int .i64 vl, .slice ea en ec, .string vt, .slice ga gn gc, .slice ia iN ic, .slice ha hn' hc'] 46)).drew
              have hDa : Hid (Sh.Blk (wv.alloc (.cells #[.int .i64 vn, .int .i64 vk, .int .i64 vm, .int .i64 vl, .slice ea en ec, .string vt, .slice ga gn gc, .slice ia iN ic, .slice ha hn' hc'] 46)).drew (w1.heap.size + 1) (rowD d n1) 3) := hDv.out.alloc (.cells #[.int .i64 vn, .int .i64 vk, .int .i64 vm, .int .i64 vl, .slice ea en ec, .string vt, .slice ga gn gc, .slice ia iN ic, .slice ha hn' hc'] 46)
              have hCa : Hid (Sh.Blk (wv.alloc (.cells #[.int .i64 vn, .int .i64 vk, .int .i64 vm, .int .i64 vl, .slice ea en ec, .string vt, .slice ga gn gc, .slice ia iN ic, .slice ha hn' hc'] 46)).drew w3.heap.size (rowD c n1) 3) := hCv.out.alloc (.cells #[.int .i64 vn, .int .i64 vk, .int .i64 vm, .int .i64 vl, .slice ea en ec, .string vt, .slice ga gn gc, .slice ia iN ic, .slice ha hn' hc'] 46)
              have hXa : Hid (Sh.Blk (wv.alloc (.cells #[.int .i64 vn, .int .i64 vk, .int .i64 vm, .int .i64 vl, .slice ea en ec, .string vt, .slice ga gn gc, .slice ia iN ic, .slice ha hn' hc'] 46)).drew X [.int .i64 xn, .int .i64 2, .int .i64 xm, .int .i64 xl, .slice da dn dc, .string xt, .slice na nn nc, .slice (some ⟨zb, zo, none⟩) nn zc, .slice aa an ac] 46) := hXv.out.alloc (.cells #[.int .i64 vn, .int .i64 vk, .int .i64 vm, .int .i64 vl, .slice ea en ec, .string vt, .slice ga gn gc, .slice ia iN ic, .slice ha hn' hc'] 46)
              have hYa : Hid (Sh.Blk (wv.alloc (.cells #[.int .i64 vn, .int .i64 vk, .int .i64 vm, .int .i64 vl, .slice ea en ec, .string vt, .slice ga gn gc, .slice ia iN ic, .slice ha hn' hc'] 46)).drew wv.heap.size [.int .i64 vn, .int .i64 vk, .int .i64 vm, .int .i64 vl, .slice ea en ec, .string vt, .slice ga gn gc, .slice ia iN ic, .slice ha hn' hc'] 46) := Sh.Blk.new wv [.int .i64 vn, .int .i64 vk, .int .i64 vm, .int .i64 vl, .slice ea en ec, .string vt, .slice ga gn gc, .slice ia iN ic, .slice ha hn' hc'] 46 _ rfl
              clear e7 x0 j7 k0 k1' k2 k3 k4 k5 k6 k7 k8 k0A k1A k2A k3A k4A k5A k6A k7A k8A e7A x0A j7A hwy p1 p2 hBv hDv hCv hXv
              generalize (wv.alloc (.cells #[.int .i64 vn, .int .i64 vk, .int .i64 vm, .int .i64 vl, .slice ea en ec, .string vt, .slice ga gn gc, .slice ia iN ic, .slice ha hn' hc'] 46)).drew = wa at *
              have hdn : Hid (d (yn : Int) ≠ 0 → vk ≠ 2) := fun h0 h2 => by
                have hmt := HM.out
                have hall := meets_all (nu := numsAt l) hmt HRE.out
                have hp : numsAt l ((i : Int) + 1) = xz.take k ++ (yn : Int) :: xz.drop (k + 1) := by
                  rw [HNU.out]
                  have h1 := HY.out
                  have h3 : k < xz.length := (List.getElem?_eq_some_iff.1 h1).1
                  have h4 : xz[k] = (yn : Int) := by rw [List.getElem?_eq_getElem h3] at h1; injection h1
                  rw [← h4, ← List.drop_eq_getElem_cons h3, List.take_append_drop]
                have h5 := hF.out.twice hall (by omega) HDV.out hp h0
                obtain ⟨_, h6, h7⟩ := HLK.out y1 _ HV.out
                simp only [h2, if_true] at h6 h7
                have h8 : ((y1 : Int) + 1) = (yn : Int) := by have := HY1.out; have := HYR.out; omega
                rw [h8] at h7
                omega
              have hcm : Hid (c (yn : Int) + 1 ≤ 600) := by
                have hmt := HM.out
                have hall := meets_all (nu := numsAt l) hmt HRE.out
                have hp : numsAt l ((i : Int) + 1) = xz.take k ++ (yn : Int) :: xz.drop (k + 1) := by
                  rw [HNU.out]
                  have h1 := HY.out
                  have h3 : k < xz.length := (List.getElem?_eq_some_iff.1 h1).1
                  have h4 : xz[k] = (yn : Int) := by rw [List.getElem?_eq_getElem h3] at h1; injection h1
                  rw [← h4, ← List.drop_eq_getElem_cons h3, List.take_append_drop]
                have h5 := hF.out.more (by omega) HDV.out hp
                obtain ⟨_, h6, h7⟩ := HLK.out y1 _ HV.out
                have h8 : ((y1 : Int) + 1) = (yn : Int) := by have := HY1.out; have := HYR.out; omega
                rw [h8, hall (yn : Int)] at h7
                have h9 : vl ≤ 64 := by
                  simp only at h6
                  split at h6 <;> omega
                simp only at h7
                show _ ≤ _
                omega
              have hyn : yn < n1 := by have := HYR.out; have := HN1.out; omega
              have p1 : (0 : Int) ≤ (yn : Int) := by omega
              have p2 : (yn : Int) < (n1 : Int) := by omega
              have e7 := (hBa.out.cell (p := ⟨zb, zo + k, none⟩) ZB.out).trans ZZ.out
              have j7 := hXa.out.cell 7
              have v1 := hYa.out.cell 1
              have c0 := hCa.out.cell yn
              have c1 := hCa.out.frozen yn
              have d0 := hDa.out.cell yn
              rw [rowD_get _ hyn] at c0 d0
              simp only [List.getElem?_cons_zero, List.getElem?_cons_succ] at j7 v1
              obtain ⟨cy1, hcy⟩ : ∃ cy1, cy1 = c (yn : Int) + 1 := ⟨_, rfl⟩
              have hwc : IntKind.i64.wrap ((c (yn : Int) : Int) + 1) = (cy1 : Int) := by have := hcm.out; rw [IntKind.wrap]; simp [IntKind.bits, IntKind.signed]; omega
              have HCY := Lib.hid hcy
              -- the world behind the count's store
              have gs := grownBy_setCell wa w3.heap.size yn (.int .i64 (cy1 : Int))
              have hBc := Lib.hid (below_gb (w := w2) hBa.out gs (fun j hj => by injection hj with hj; have := S3.out; have := S2.out; omega) (Nat.le_refl _))
              have hDc := Lib.hid (blk_grown hDa.out gs (by have := S3.out; omega))
              have hXc := Lib.hid (blk_grown hXa.out gs (by have := XBIG.out; omega))
              have hCc : Hid (Sh.Blk (wa.setCell ⟨w3.heap.size, yn, none⟩ (.int .i64 (cy1 : Int))) w3.heap.size (rowD (upd c (yn : Int) (c (yn : Int) + 1)) n1) 3) := by
                show Sh.Blk _ _ _ _
                rw [← rowD_set, ← hcy]
                exact hCa.out.set yn _
              have e7c := (hBc.out.cell (p := ⟨zb, zo + k, none⟩) ZB.out).trans ZZ.out
              have j7c := hXc.out.cell 7
              have d0c := hDc.out.cell yn
              have d1c := hDc.out.frozen yn
              rw [rowD_get _ hyn] at d0c
              simp only [List.getElem?_cons_zero, List.getElem?_cons_succ] at j7c
              have hwk1 : IntKind.i64.wrap ((k : Int) + 1) = (k : Int) + 1 := by have := NN128.out; rw [IntKind.wrap]; simp [IntKind.bits, IntKind.signed]; omega
              have TK : Hid (xz.take (k + 1) = xz.take k ++ [(yn : Int)]) := by
                show _ = _
                rw [List.take_add_one, HY.out]
                rfl
              clear hcy gs hyn
              by_cases hdy : d (yn : Int) = 0
              · as_aux_lemma =>
                rw [hdy] at d0 d0c
                simp only [Int.ofNat_zero] at d0 d0c
                have FB : Hid (Bfs (numsAt l) q s i (xz.take (k + 1)) (upd d (yn : Int) s1) (upd c (yn : Int) (c (yn : Int) + 1))) := by
                  show Bfs _ _ _ _ _ _ _
                  rw [TK.out, HS1.out]
                  exact hF.out.new hs1 HYR.out HDV.out hdy
                have FA : Hid (k + 1 = 0 ∨ upd d (yn : Int) s1 ((i : Int) + 1) = s) := by
                  refine .inr ?_
                  unfold upd
                  rw [if_neg (fun e => by have := HDV.out; rw [e, hdy] at this; omega)]
                  exact HDV.out
                have gd := grownBy_setCell (wa.setCell ⟨w3.heap.size, yn, none⟩ (.int .i64 (cy1 : Int))) (w1.heap.size + 1) yn (.int .i64 (s1 : Int))
                have hBd := Lib.hid (below_gb (w := w2) hBc.out gd (fun j hj => by injection hj with hj; have := S2.out; omega) (Nat.le_refl _))
                have hCd := Lib.hid (blk_grown hCc.out gd (by have := S3.out; omega))
                have hXd := Lib.hid (blk_grown hXc.out gd (by have := XBIG.out; omega))
                have hDd : Hid (Sh.Blk ((wa.setCell ⟨w3.heap.size, yn, none⟩ (.int .i64 (cy1 : Int))).setCell ⟨w1.heap.size + 1, yn, none⟩ (.int .i64 (s1 : Int))) (w1.heap.size + 1) (rowD (upd d (yn : Int) s1) n1) 3) := by
                  show Sh.Blk _ _ _ _
                  rw [← rowD_set]
                  exact hDc.out.set yn _
                clear hdy gd
                cases hvk : (vk == 2)
                all_goals
                  as_aux_lemma =>
                  go_wp2_with fail
                  go_still_tail 16, (by kernel_rfl)
                  change wpList _ _ _ _ _ wa.drew
                  go_wp2_with fail
                  go_roundw
                  case rel => exact ⟨k + 1, _, _, by omega, by go_num, FB.out, FA.out, hBd.out.drew, hDd.out, hCd.out, hXd.out⟩
                  case measure => simp [RowKit.intOf]; omega
              · as_aux_lemma =>
                have hvk : (vk == 2) = false := by have := hdn.out hdy; simpa using this
                have t8 : ((d (yn : Int) : Int) == 0) = false := by simp; omega
                have FB : Hid (Bfs (numsAt l) q s i (xz.take (k + 1)) d (upd c (yn : Int) (c (yn : Int) + 1))) := by
                  show Bfs _ _ _ _ _ _ _
                  rw [TK.out]
                  exact hF.out.old hdy
                clear hdy
                go_wp2_with fail
                go_still_tail 16, (by kernel_rfl)
                change wpList _ _ _ _ _ wa.drew
                go_wp2_with fail
                go_roundw
                case rel => exact ⟨k + 1, _, _, by omega, by go_num, FB.out, (.inr HDV.out : k + 1 = 0 ∨ d ((i : Int) + 1) = s), hBc.out.drew, hDc.out, hCc.out, hXc.out⟩
                case measure => simp [RowKit.intOf]; omega
          · as_aux_lemma =>
            have u3 : decide ((0 : Int) < (k : Int)) = true := by simp; omega
            have u3' : decide (0 < k) = true := by simp; omega
            obtain ⟨k1, hk1⟩ : ∃ k1, k1 = k - 1 := ⟨_, rfl⟩
            have hwk : IntKind.i64.wrap ((k : Int) - 1) = (k1 : Int) := by have := NN128.out; rw [IntKind.wrap]; simp [IntKind.bits, IntKind.signed]; omega
            obtain ⟨sb, so, s0, hsa, hsb, hs0, hc0⟩ := srw_cell IV.out.n4 k (by show k < xs.length; have := XSL.out; omega)
            subst hsa
            obtain ⟨sb', so', s1', hsa', _, hs1', hc1⟩ := srw_cell IV.out.n4 k1 (by show k1 < xs.length; have := XSL.out; omega)
            injection hsa' with hsa'
            injection hsa' with e1 e2 _
            subst e1
            subst e2
            have lt1 : ltB s1' s0 = true := riseTo_su HOI.out.list.rising hs1' (by rw [show k1 + 1 = k by omega]; exact hs0)
            have lno : ltB s0 s0 = true → False := fun h => by have h2 := ords_B.irr s0; rw [h] at h2; cases h2
            have lq : Op.bytesLess s0.toList s1'.toList = false := by
              cases h : Op.bytesLess s0.toList s1'.toList with
              | false => rfl
              | true => exact (lno (ords_B.tr _ _ _ h lt1)).elim
            have lq2 : (s0.toList == s1'.toList) = false := by
              cases h : s0.toList == s1'.toList with
              | false => rfl
              | true =>
                have e : s0.toList = s1'.toList := by simpa using h
                have h2 : Op.bytesLess s1'.toList s0.toList = true := lt1
                rw [← e] at h2
                exact (lno h2).elim
            have f0 := (hB.out.cell (p := ⟨sb, so + k, none⟩) hsb).trans hc0
            have f1 := (hB.out.cell (p := ⟨sb, so + k1, none⟩) hsb).trans hc1
            have q6 : (0 : Int) ≤ (k1 : Int) := by omega
            have q7 : (k1 : Int) < (nn : Int) := by omega
            clear hk1 hsb hs0 hc0 hs1' hc1 lt1 hk0 lno
            go_wp2_with fail
            go_quiet (fail)
            generalize hwv : wr.drewN nq = wv at *
            have hBv : Hid (Below w2.heap.size w2 wv) := by show Below _ _ _; rw [← hwv]; exact Sh.below_drewN hB.out _
            have hDv : Hid (Sh.Blk wv (w1.heap.size + 1) (rowD d n1) 3) := by show Sh.Blk _ _ _ _; rw [← hwv]; exact hD.out
            have hCv : Hid (Sh.Blk wv w3.heap.size (rowD c n1) 3) := by show Sh.Blk _ _ _ _; rw [← hwv]; exact hC.out
            have hXv : Hid (Sh.Blk wv X [.int .i64 xn, .int .i64 2, .int .i64 xm, .int .i64 xl, .slice da dn dc, .string xt, .slice (some ⟨sb, so, none⟩) nn nc, .slice (some ⟨zb, zo, none⟩) nn zc, .slice aa an ac] 46) := by show Sh.Blk _ _ _ _; rw [← hwv]; exact hX.out
            clear hwv hB hD hC hX j1 j6 j7 e7 d0 u1 u2 u2' t1 u3 u3' hwk lq lq2 f0 f1 q6 q7
            have e7 := (hBv.out.cell (p := ⟨zb, zo + k, none⟩) ZB.out).trans ZZ.out
            have x0 := (F2.out.below hBv.out (by have := S2.out; omega)).cell 0
            have j7 := hXv.out.cell 7
            simp only [List.getElem?_cons_zero, List.getElem?_cons_succ] at x0 j7
            obtain ⟨v, hv⟩ : ∃ v, l[y1]? = some v := ⟨_, List.getElem?_eq_getElem (by have := HQ.out; have := HY1.out; have := HYR.out; omega)⟩
            obtain ⟨fb', fo', e, hfbl, ea, en, ec, ga, gn, gc, ia, iN, ic, ha, hn', hc', h9, _⟩ := irw_at I2.out y1 v hv
            injection e with e
            injection e with e1 e2 _
            subst e1
            subst e2
            have h9' := h9.below hBv.out hfbl
            have HV := Lib.hid hv
            obtain ⟨vn, vk, vm, vl, vd, vt, vs, vz, va⟩ := v
            have k0 := h9'.k0
            have k1' := h9'.k1
            have k2 := h9'.k2
            have k3 := h9'.k3
            have k4 := h9'.k4
            have k5 := h9'.k5
            have k6 := h9'.k6
            have k7 := h9'.k7
            have k8 := h9'.k8
            simp only at k0 k1' k2 k3 k4 k5 k6 k7 k8
            have hwy : IntKind.i64.wrap ((yn : Int) - 1) = (y1 : Int) := by have := HY1.out; have := HYR.out; have := Q512.out; rw [IntKind.wrap]; simp [IntKind.bits, IntKind.signed]; omega
            have p1 : (0 : Int) ≤ (y1 : Int) := by omega
            have p2 : (y1 : Int) < (q : Int) := by have := HY1.out; have := HYR.out; omega
            have hBA : Below w2.heap.size w2 (wv.alloc (.cells #[.int .i64 0, .int .i64 0, .int .i64 0, .int .i64 0, .slice none 0 0, .string ⟨#[]⟩, .slice none 0 0, .slice none 0 0, .slice none 0 0] 46)) := hBv.out.alloc hBv.out.size _
            have h9A := h9.below hBA hfbl
            have k0A := h9A.k0
            have k1A := h9A.k1
            have k2A := h9A.k2
            have k3A := h9A.k3
            have k4A := h9A.k4
            have k5A := h9A.k5
            have k6A := h9A.k6
            have k7A := h9A.k7
            have k8A := h9A.k8
            have e7A := (hBA.cell (p := ⟨zb, zo + k, none⟩) ZB.out).trans ZZ.out
            have x0A := (F2.out.below hBA (by have := S2.out; omega)).cell 0
            have j7A := (hXv.out.alloc (.cells #[.int .i64 0, .int .i64 0, .int .i64 0, .int .i64 0, .slice none 0 0, .string ⟨#[]⟩, .slice none 0 0, .slice none 0 0, .slice none 0 0] 46)).cell 7
            simp only [List.getElem?_cons_zero, List.getElem?_cons_succ] at k0A k1A k2A k3A k4A k5A k6A k7A k8A x0A j7A
            clear h9 h9' hfbl hv h9A hBA
            go_wp2_with fail
            go_region
            all_goals
              as_aux_lemma =>
              have hBa : Hid (Below w2.heap.size w2 (wv.alloc (.cells #[.int .i64 vn, .int .i64 vk, .int .i64 vm, .int .i64 vl, .slice ea en ec, .string vt, .slice ga gn gc, .slice ia iN ic, .slice ha hn' hc'] 46)).drew) := (hBv.out.alloc hBv.out.size (.cells #[.int .i64 vn, .int .i64 vk, .int .i64 vm, .int .i64 vl, .slice ea en ec, .string vt, .slice ga gn gc, .slice ia iN ic, .slice ha hn' hc'] 46)).drew
              have hDa : Hid (Sh.Blk (wv.alloc (.cells #[.int .i64 vn, .int .i64 vk, .int .i64 vm, .int .i64 vl, .slice ea en ec, .string vt, .slice ga gn gc, .slice ia iN ic, .slice ha hn' hc'] 46)).drew (w1.heap.size + 1) (rowD d n1) 3) := hDv.out.alloc (.cells #[.int .i64 vn, .int .i64 vk, .int .i64 vm, .int .i64 vl, .slice ea en ec, .string vt, .slice ga gn gc, .slice ia iN ic, .slice ha hn' hc'] 46)
              have hCa : Hid (Sh.Blk (wv.alloc (.cells #[.int .i64 vn, .int .i64 vk, .int .i64 vm, .int .i64 vl, .slice ea en ec, .string vt, .slice ga gn gc, .slice ia iN ic, .slice ha hn' hc'] 46)).drew w3.heap.size (rowD c n1) 3) := hCv.out.alloc (.cells #[.int .i64 vn, .int .i64 vk, .int .i64 vm, .int .i64 vl, .slice ea en ec, .string vt, .slice ga gn gc, .slice ia iN ic, .slice ha hn' hc'] 46)
              have hXa : Hid (Sh.Blk (wv.alloc (.cells #[.int .i64 vn, .int .i64 vk, .int .i64 vm, .int .i64 vl, .slice ea en ec, .string vt, .slice ga gn gc, .slice ia iN ic, .slice ha hn' hc'] 46)).drew X [.int .i64 xn, .int .i64 2, .int .i64 xm, .int .i64 xl, .slice da dn dc, .string xt, .slice (some ⟨sb, so, none⟩) nn nc, .slice (some ⟨zb, zo, none⟩) nn zc, .slice aa an ac] 46) := hXv.out.alloc (.cells #[.int .i64 vn, .int .i64 vk, .int .i64 vm, .int .i64 vl, .slice ea en ec, .string vt, .slice ga gn gc, .slice ia iN ic, .slice ha hn' hc'] 46)
              have hYa : Hid (Sh.Blk (wv.alloc (.cells #[.int .i64 vn, .int .i64 vk, .int .i64 vm, .int .i64 vl, .slice ea en ec, .string vt, .slice ga gn gc, .slice ia iN ic, .slice ha hn' hc'] 46)).drew wv.heap.size [.int .i64 vn, .int .i64 vk, .int .i64 vm, .int .i64 vl, .slice ea en ec, .string vt, .slice ga gn gc, .slice ia iN ic, .slice ha hn' hc'] 46) := Sh.Blk.new wv [.int .i64 vn, .int .i64 vk, .int .i64 vm, .int .i64 vl, .slice ea en ec, .string vt, .slice ga gn gc, .slice ia iN ic, .slice ha hn' hc'] 46 _ rfl
              clear e7 x0 j7 k0 k1' k2 k3 k4 k5 k6 k7 k8 k0A k1A k2A k3A k4A k5A k6A k7A k8A e7A x0A j7A hwy p1 p2 hBv hDv hCv hXv
              generalize (wv.alloc (.cells #[.int .i64 vn, .int .i64 vk, .int .i64 vm, .int .i64 vl, .slice ea en ec, .string vt, .slice ga gn gc, .slice ia iN ic, .slice ha hn' hc'] 46)).drew = wa at *
              have hdn : Hid (d (yn : Int) ≠ 0 → vk ≠ 2) := fun h0 h2 => by
                have hmt := HM.out
                have hall := meets_all (nu := numsAt l) hmt HRE.out
                have hp : numsAt l ((i : Int) + 1) = xz.take k ++ (yn : Int) :: xz.drop (k + 1) := by
                  rw [HNU.out]
                  have h1 := HY.out
                  have h3 : k < xz.length := (List.getElem?_eq_some_iff.1 h1).1
                  have h4 : xz[k] = (yn : Int) := by rw [List.getElem?_eq_getElem h3] at h1; injection h1
                  rw [← h4, ← List.drop_eq_getElem_cons h3, List.take_append_drop]
                have h5 := hF.out.twice hall (by omega) HDV.out hp h0
                obtain ⟨_, h6, h7⟩ := HLK.out y1 _ HV.out
                simp only [h2, if_true] at h6 h7
                have h8 : ((y1 : Int) + 1) = (yn : Int) := by have := HY1.out; have := HYR.out; omega
                rw [h8] at h7
                omega
              have hcm : Hid (c (yn : Int) + 1 ≤ 600) := by
                have hmt := HM.out
                have hall := meets_all (nu := numsAt l) hmt HRE.out
                have hp : numsAt l ((i : Int) + 1) = xz.take k ++ (yn : Int) :: xz.drop (k + 1) := by
                  rw [HNU.out]
                  have h1 := HY.out
                  have h3 : k < xz.length := (List.getElem?_eq_some_iff.1 h1).1
                  have h4 : xz[k] = (yn : Int) := by rw [List.getElem?_eq_getElem h3] at h1; injection h1
                  rw [← h4, ← List.drop_eq_getElem_cons h3, List.take_append_drop]
                have h5 := hF.out.more (by omega) HDV.out hp
                obtain ⟨_, h6, h7⟩ := HLK.out y1 _ HV.out
                have h8 : ((y1 : Int) + 1) = (yn : Int) := by have := HY1.out; have := HYR.out; omega
                rw [h8, hall (yn : Int)] at h7
                have h9 : vl ≤ 64 := by
                  simp only at h6
                  split at h6 <;> omega
                simp only at h7
                show _ ≤ _
                omega
              have hyn : yn < n1 := by have := HYR.out; have := HN1.out; omega
              have p1 : (0 : Int) ≤ (yn : Int) := by omega
              have p2 : (yn : Int) < (n1 : Int) := by omega
              have e7 := (hBa.out.cell (p := ⟨zb, zo + k, none⟩) ZB.out).trans ZZ.out
              have j7 := hXa.out.cell 7
              have v1 := hYa.out.cell 1
              have c0 := hCa.out.cell yn
              have c1 := hCa.out.frozen yn
              have d0 := hDa.out.cell yn
              rw [rowD_get _ hyn] at c0 d0
              simp only [List.getElem?_cons_zero, List.getElem?_cons_succ] at j7 v1
              obtain ⟨cy1, hcy⟩ : ∃ cy1, cy1 = c (yn : Int) + 1 := ⟨_, rfl⟩
              have hwc : IntKind.i64.wrap ((c (yn : Int) : Int) + 1) = (cy1 : Int) := by have := hcm.out; rw [IntKind.wrap]; simp [IntKind.bits, IntKind.signed]; omega
              have HCY := Lib.hid hcy
              -- the world behind the count's store
              have gs := grownBy_setCell wa w3.heap.size yn (.int .i64 (cy1 : Int))
              have hBc := Lib.hid (below_gb (w := w2) hBa.out gs (fun j hj => by injection hj with hj; have := S3.out; have := S2.out; omega) (Nat.le_refl _))
              have hDc := Lib.hid (blk_grown hDa.out gs (by have := S3.out; omega))
              have hXc := Lib.hid (blk_grown hXa.out gs (by have := XBIG.out; omega))
              have hCc : Hid (Sh.Blk (wa.setCell ⟨w3.heap.size, yn, none⟩ (.int .i64 (cy1 : Int))) w3.heap.size (rowD (upd c (yn : Int) (c (yn : Int) + 1)) n1) 3) := by
                show Sh.Blk _ _ _ _
                rw [← rowD_set, ← hcy]
                exact hCa.out.set yn _
              have e7c := (hBc.out.cell (p := ⟨zb, zo + k, none⟩) ZB.out).trans ZZ.out
              have j7c := hXc.out.cell 7
              have d0c := hDc.out.cell yn
              have d1c := hDc.out.frozen yn
              rw [rowD_get _ hyn] at d0c
              simp only [List.getElem?_cons_zero, List.getElem?_cons_succ] at j7c
              have hwk1 : IntKind.i64.wrap ((k : Int) + 1) = (k : Int) + 1 := by have := NN128.out; rw [IntKind.wrap]; simp [IntKind.bits, IntKind.signed]; omega
              have TK : Hid (xz.take (k + 1) = xz.take k ++ [(yn : Int)]) := by
                show _ = _
                rw [List.take_add_one, HY.out]
                rfl
              clear hcy gs hyn
              by_cases hdy : d (yn : Int) = 0
              · as_aux_lemma =>
                rw [hdy] at d0 d0c
                simp only [Int.ofNat_zero] at d0 d0c
                have FB : Hid (Bfs (numsAt l) q s i (xz.take (k + 1)) (upd d (yn : Int) s1) (upd c (yn : Int) (c (yn : Int) + 1))) := by
                  show Bfs _ _ _ _ _ _ _
                  rw [TK.out, HS1.out]
                  exact hF.out.new hs1 HYR.out HDV.out hdy
                have FA : Hid (k + 1 = 0 ∨ upd d (yn : Int) s1 ((i : Int) + 1) = s) := by
                  refine .inr ?_
                  unfold upd
                  rw [if_neg (fun e => by have := HDV.out; rw [e, hdy] at this; omega)]
                  exact HDV.out
                have gd := grownBy_setCell (wa.setCell ⟨w3.heap.size, yn, none⟩ (.int .i64 (cy1 : Int))) (w1.heap.size + 1) yn (.int .i64 (s1 : Int))
                have hBd := Lib.hid (below_gb (w := w2) hBc.out gd (fun j hj => by injection hj with hj; have := S2.out; omega) (Nat.le_refl _))
                have hCd := Lib.hid (blk_grown hCc.out gd (by have := S3.out; omega))
                have hXd := Lib.hid (blk_grown hXc.out gd (by have := XBIG.out; omega))
                have hDd : Hid (Sh.Blk ((wa.setCell ⟨w3.heap.size, yn, none⟩ (.int .i64 (cy1 : Int))).setCell ⟨w1.heap.size + 1, yn, none⟩ (.int .i64 (s1 : Int))) (w1.heap.size + 1) (rowD (upd d (yn : Int) s1) n1) 3) := by
                  show Sh.Blk _ _ _ _
                  rw [← rowD_set]
                  exact hDc.out.set yn _
                clear hdy gd
                cases hvk : (vk == 2)
                all_goals
                  as_aux_lemma =>
                  go_wp2_with fail
                  go_still_tail 16, (by kernel_rfl)
                  change wpList _ _ _ _ _ wa.drew
                  go_wp2_with fail
                  go_roundw
                  case rel => exact ⟨k + 1, _, _, by omega, by go_num, FB.out, FA.out, hBd.out.drew, hDd.out, hCd.out, hXd.out⟩
                  case measure => simp [RowKit.intOf]; omega
              · as_aux_lemma =>
                have hvk : (vk == 2) = false := by have := hdn.out hdy; simpa using this
                have t8 : ((d (yn : Int) : Int) == 0) = false := by simp; omega
                have FB : Hid (Bfs (numsAt l) q s i (xz.take (k + 1)) d (upd c (yn : Int) (c (yn : Int) + 1))) := by
                  show Bfs _ _ _ _ _ _ _
                  rw [TK.out]
                  exact hF.out.old hdy
                clear hdy
                go_wp2_with fail
                go_still_tail 16, (by kernel_rfl)
                change wpList _ _ _ _ _ wa.drew
                go_wp2_with fail
                go_roundw
                case rel => exact ⟨k + 1, _, _, by omega, by go_num, FB.out, (.inr HDV.out : k + 1 = 0 ∨ d ((i : Int) + 1) = s), hBc.out.drew, hDc.out, hCc.out, hXc.out⟩
                case measure => simp [RowKit.intOf]; omega
end Go.Proofs.YtojhlhpbhoeplaaGreatDoor.Lw
namespace Go.Proofs.YtojhlhpbhoeplaaGreatDoor
namespace Sh
open Go.ChangeShapes Go.WideShapes Go.ChangeAt Go.RowKit Go.Lib Go.ChangeMaps

theorem tree_env (ao : Option Addr) (b : List UInt8) (c : Nat) (w : World) (hL : laidMetH Tryz.prog laidAll w) (h : Byt w ao b) (hn : ao = none → c = 0) (hc : b.length ≤ c) (hc2 : c ≤ 9223372036854775807) (hfar : ∀ x, ao = some x → x.block < w.heap.size) :
    Calls Tryz.prog 7 #[.slice ao b.length c] w fun e w' => e = .returned (.bool true) ∧ Below w.heap.size w w' := by
  obtain ⟨a, hE⟩ := env_of hL
  exact Lw.tree_law a ao b b.length c w hE h hn rfl hc hc2 hfar
set_option maxRecDepth 100000 in
/-- WHAT THE WALK GIVES, for every argument and every memory that meets the row. -/
theorem lowerTree_contract (H : Type) (enc : TypeId × Value → H) (W : World) (base : Nat) (args : Array Value) (ds gs : List (DataW H)) (before : List MemPlace)
    (hval : ∀ (j : Nat) t v, Tryz.f7.params[j]? = some t → args[j]? = some v → Value.okWide Tryz.prog W .any base t v)
    (hW : DataW.Whole enc Tryz.prog Tryz.f7.params.toList Rows.lowerTreeSpec.vars false W args.toList ds gs before) 
    (hsz0 : (DataW.weightsEach Tryz.prog (Tryz.f7.params.toList ++ (OpenSpec.ofChange Rows.lowerTreeSpec).bare.plain.varTypes Tryz.prog) (ds ++ gs)).all (· ≤ reachBytes) = true) (hL : laidMetH Tryz.prog Rows.lowerTreeRow.laid W) :
    Calls Tryz.prog 7 args W fun e W' => ∃ v, e = .returned v ∧ Rows.lowerTreeSpec.post enc Tryz.prog Tryz.f7 false true false false W args v W' := by
  have hsz := hsz0
  clear hsz0
  have hW' := hW
  obtain ⟨p, q, hA0, hV, rfl, hfz, hnd⟩ := hW
  have hA : DataW.TrodAll enc Tryz.prog W 0 (fun _ => true) true Tryz.f7.params.toList args.toList ds p := hA0
  have hAk := hA
  clear hA0
  rw [Tryz.params7] at hA hval hsz
  obtain ⟨rfl, rfl⟩ := trodVars_none hV
  simp only [List.append_nil] at hW' hsz
  have hlt : ∀ x ∈ p, x.block < W.heap.size := fun x hx => by simpa using hW'.lt x hx
  obtain ⟨v0, vs0, d0, ds0, p0, q0, hargs, rfl, hp0, h0, r0⟩ := trodAll_cons hA
  obtain ⟨rfl, rfl, hpn⟩ := trodAll_nil r0
  obtain rfl : args = #[v0] := by cases args; simp_all
  have hlt0 : ∀ x ∈ p0, x.block < W.heap.size := fun x hx => hlt x (by rw [hp0]; exact List.mem_append_left _ hx)
  have hltq0 : ∀ x ∈ q0, x.block < W.heap.size := fun x hx => hlt x (by rw [hp0]; exact List.mem_append_right _ hx)
  obtain ⟨ab, b, cb, rfl, hbc, hbm, hbr, hbn, e0⟩ := open_byt Tryz.underlying22 Tryz.underlying5 cells5 (hval 0 22 v0 rfl rfl) h0 hlt0
  have hbz := reach_byt hsz (j := 0) (d := d0) rfl rfl e0
  refine (tree_env ab b cb W hL hbr hbn hbc hbm (okWide_far Tryz.underlying22 (hval 0 22 _ rfl rfl))).mono fun e W' ⟨he, hb⟩ => ?_
  subst he
  exact ⟨_, rfl, _, _, _, [], p, [], hW', trodAll_mk1 (shut_bool Tryz.underlying4 _), below_trodAll laidOut hb _ _ _ _ (by kernel_rfl) hAk hlt, rfl, hb.frame _, fun h => by cases h⟩

theorem lowerTree_reads (os : Os) {H : Type} (enc : TypeId × Value → H) : ∃ places, DataW.whole enc Tryz.prog ((laidWorld os).forCall (fun _ _ => 0) ⟨#[], #[.slice none 0 0], []⟩).memory Tryz.f7.params.toList Rows.lowerTreeSpec.vars false (#[Value.slice none 0 0] : Array Value).toList 8 = some ([.nil], [], places) :=
  ⟨[], by kernel_rfl⟩

set_option maxRecDepth 100000 in
theorem lowerTree_lifted (os : Os) (started : os.Started) (H : Type) (enc : TypeId × Value → H) (F : Stop.Interp) :
    ReturnsInHanded {} Tryz.checked os 7 .any ((OpenSpec.ofChange Rows.lowerTreeSpec).preRow enc Tryz.prog Tryz.f7 Rows.lowerTreeRow.domain false Rows.lowerTreeRow.laid) (((OpenSpec.ofChange Rows.lowerTreeSpec).at F).post enc Tryz.prog Tryz.f7 false true false false) := by
  obtain ⟨places, hx⟩ := lowerTree_reads os enc
  refine returnsInHanded_of_row (C := Tryz.checked) (s := OpenSpec.ofChange Rows.lowerTreeSpec) own started (by kernel_rfl) Tryz.func7 ?_ ?_
  · refine ⟨laidWorld os, fun _ _ => 0, ⟨#[], #[.slice none 0 0], []⟩, laidWorld_os os, laidWorld_shaped os _, rfl, (Input.okWide_of_okWideB (by kernel_rfl)).2, ?_, ?_⟩
    · exact OpenSpec.preRow_of_cond 8 hx (by kernel_rfl) (fun k hk => by cases hk) (by kernel_rfl) (laidWorld_met os _)
    · simp only [Assume.holds]
      exact ⟨by simp, by simp, fun _ => Modest.zero, by simp, by simp⟩
  intro W base args ds gs before hval hW _ _ hsz hL hsh _
  exact lowerTree_contract H enc W base args ds gs before hval hW hsz hL

theorem lowerTree_said : Rows.LowerTreeSaid :=
  OpenClaim.holds_of_cond 7 Tryz.f7 rfl rfl rfl rfl rfl rfl rfl ⟨rfl, rfl, rfl, rfl, rfl⟩ rfl rfl rfl rfl rfl (by kernel_rfl) Tryz.func7 (by kernel_rfl)
    (of_decide_eq_true (by kernel_rfl)) (by unfold Func.isWrapper; first | (rw [if_pos (by decide +kernel)]; kernel_rfl) | (rw [if_neg (by decide +kernel)]; exact ⟨rfl, rfl⟩))
    (fun os started H enc _ F => by rw [OpenClaim.pre_eq_preRow]; exact lowerTree_lifted os started H enc F)
end Sh
theorem lowerTree_plain (f : FuncId) (fn : Func) (hf : Tryz.pinned.checked.prog.funcNamed Rows.lowerTreeRow.func = some f) (hfn : Tryz.pinned.checked.prog.funcs[f]? = some fn) :
    true = Tryz.pinned.checked.prog.looks [] ∧ ∀ (j : Nat) t, fn.params[j]? = some t → Tryz.pinned.checked.prog.wantsStandIn t = false := by
  obtain rfl : f = 7 := Option.some.inj ((show Tryz.prog.funcNamed Rows.lowerTreeRow.func = some 7 by kernel_rfl).symm.trans hf) |>.symm
  obtain rfl : fn = Tryz.f7 := (Option.some.inj (Tryz.func7.symm.trans hfn)).symm
  refine ⟨by kernel_rfl, fun j t ht => ?_⟩
  rw [Tryz.params7] at ht
  have hm : t ∈ [22] := by simpa using Array.mem_of_getElem? ht
  have hall : ([22].all fun u => !Tryz.prog.wantsStandIn u) = true := by kernel_rfl
  exact (show Tryz.prog.wantsStandIn t = false by simpa using List.all_eq_true.1 hall t hm)
/-- THE STATEMENT. -/
theorem lowerTree_card : Rows.LowerTreeCardSaid :=
  Claim7.holds_tied_plain_at .later [] _ _ _ _ Sh.lowerTree_said (fun _ h => by cases h) (by kernel_rfl) (fun _ h => by cases h) lowerTree_row_tie rfl ⟨rfl, rfl⟩ (by kernel_rfl) rfl lowerTree_plain (by kernel_rfl)
end Go.Proofs.YtojhlhpbhoeplaaGreatDoor
