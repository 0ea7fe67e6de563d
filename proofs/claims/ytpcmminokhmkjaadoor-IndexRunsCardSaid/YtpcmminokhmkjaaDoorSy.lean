/-
  Plain: what the package's Merge answers is what the document's own does: both rise by key, and have just the first entry of each key. Conditions: each law's own. No program is spoken of.
-/
import Derived.Test.YtpcmminokhmkjaaDoorSs
import Derived.Test.YtpcmminokhmkjaaDoorSw
namespace Go.Proofs.YtpcmminokhmkjaaDoor.St
open Go.Shelf Go.RowKit Go.Lib Go.Sort
theorem kl_iff (a b : ByteArray) : kl a b = true ↔ a.toList < b.toList := bl_lt _ _
theorem kl_ir (a : ByteArray) : kl a a = false := by
  cases h : kl a a with
  | false => rfl
  | true => exact absurd ((kl_iff _ _).1 h) (List.lt_irrefl _)
theorem kl_tr {a b c : ByteArray} (h : kl a b = true) (k : kl b c = true) : kl a c = true := (kl_iff _ _).2 (List.lt_trans ((kl_iff _ _).1 h) ((kl_iff _ _).1 k))
theorem kl_tot {a b : ByteArray} (h : kl a b = false) (k : kl b a = false) : a = b := by
  have n1 : ¬ a.toList < b.toList := fun hh => by rw [(kl_iff _ _).2 hh] at h; cases h
  have n2 : ¬ b.toList < a.toList := fun hh => by rw [(kl_iff _ _).2 hh] at k; cases k
  exact toList_inj (List.le_antisymm (List.not_lt.1 n2) (List.not_lt.1 n1))
theorem kl_as {a b : ByteArray} (h : kl a b = true) : kl b a = false := by
  cases k : kl b a with
  | false => rfl
  | true => have := kl_tr h k; rw [kl_ir] at this; cases this
/-- a row that rises by key -/
def Ri (l : List Ent) : Prop := l.Pairwise fun a b => kl a.key b.key = true
theorem ri_uniq : ∀ {a b : List Ent}, Ri a → Ri b → (∀ y, y ∈ a ↔ y ∈ b) → a = b
  | [], [], _, _, _ => rfl
  | [], z :: b, _, _, h => by have := (h z).2 (by simp); cases this
  | x :: a, [], _, _, h => by have := (h x).1 (by simp); cases this
  | x :: a, z :: b, ha, hb, h => by
    have ha' := List.pairwise_cons.1 ha
    have hb' := List.pairwise_cons.1 hb
    have hxz : x = z := by
      rcases List.mem_cons.1 ((h x).1 (by simp)) with e | m1
      · exact e
      rcases List.mem_cons.1 ((h z).2 (by simp)) with e | m2
      · exact e.symm
      have k1 := hb'.1 x m1
      have k2 := ha'.1 z m2
      rw [kl_as k1] at k2
      cases k2
    subst hxz
    rw [ri_uniq ha'.2 hb'.2 fun y => ⟨fun hy => ?_, fun hy => ?_⟩]
    · rcases List.mem_cons.1 ((h y).1 (List.mem_cons_of_mem _ hy)) with rfl | m
      · have := ha'.1 _ hy
        rw [kl_ir] at this
        cases this
      · exact m
    · rcases List.mem_cons.1 ((h y).2 (List.mem_cons_of_mem _ hy)) with rfl | m
      · have := hb'.1 _ hy
        rw [kl_ir] at this
        cases this
      · exact m
theorem chk_ri {l : List Ent} (h : chk l = true) : Ri l := by
  have h1 : ∀ i, i < l.length → kP l i = true := fun i hi => List.all_eq_true.1 h i (List.mem_range.2 hi)
  have h2 : ∀ j i, i < j → j < l.length → kl l[i]!.key l[j]!.key = true := by
    intro j
    induction j with
    | zero => intro i hi; omega
    | succ j ih =>
      intro i hi hj
      have := h1 (j + 1) hj
      unfold kP at this
      simp only [Bool.and_eq_true, Bool.or_eq_true, Nat.add_sub_cancel, beq_iff_eq] at this
      have h3 : kl l[j]!.key l[j + 1]!.key = true := by
        rcases this.2 with h0 | h0
        · omega
        · exact h0
      rcases Nat.lt_or_eq_of_le (Nat.le_of_lt_succ hi) with c | rfl
      · exact kl_tr (ih i c (by omega)) h3
      · exact h3
  refine List.pairwise_iff_getElem.2 fun i j hi hj hij => ?_
  have := h2 j i hij hj
  rwa [getElem!_pos l i hi, getElem!_pos l j hj] at this
def insE (x : Ent) : List Ent → List Ent
  | [] => [x]
  | y :: r => if kl y.key x.key then y :: insE x r else if y.key = x.key then x :: r else x :: y :: r
theorem plc_cons (y : Ent) (r : List Ent) (k : ByteArray) : plc (y :: r) k = if kl y.key k then plc r k + 1 else 0 := by
  unfold plc
  rw [List.takeWhile_cons]
  split <;> simp
theorem plcE_cons (y : Ent) (r : List Ent) (k : ByteArray) : plcE (y :: r) k = if kl y.key k then plcE r k + 1 else if y.key = k then 1 else 0 := by
  unfold plcE
  rw [plc_cons]
  cases h : kl y.key k with
  | true =>
    simp only [if_true, List.length_cons, Nat.add_lt_add_iff_right, List.getElem!_cons_succ]
    split <;> rfl
  | false => simp
theorem wth_ins : ∀ (l : List Ent) (x : Ent), wth l x = insE x l
  | [], x => by simp [wth, insE, plc, plcE]
  | y :: r, x => by
    have ih := wth_ins r x
    unfold wth at ih ⊢
    rw [plc_cons, plcE_cons]
    unfold insE
    cases h : kl y.key x.key with
    | true => simp only [if_true, List.take_succ_cons, List.drop_succ_cons, List.cons_append]; rw [ih]
    | false =>
      by_cases he : y.key = x.key
      · simp [he]
      · simp [he]
theorem ins_mem : ∀ (l : List Ent) (x : Ent), Ri l → ∀ y, y ∈ insE x l ↔ y = x ∨ (y ∈ l ∧ y.key ≠ x.key)
  | [], x, _, y => by simp [insE]
  | z :: r, x, h, y => by
    have h' := List.pairwise_cons.1 h
    have ih := ins_mem r x h'.2 y
    unfold insE
    cases hz : kl z.key x.key with
    | true =>
      have hne : z.key ≠ x.key := fun e => by rw [e, kl_ir] at hz; cases hz
      simp only [if_true, List.mem_cons, ih]
      constructor
      · rintro (rfl | rfl | ⟨h1, h2⟩)
        · exact .inr ⟨.inl rfl, hne⟩
        · exact .inl rfl
        · exact .inr ⟨.inr h1, h2⟩
      · rintro (rfl | ⟨rfl | h1, h2⟩)
        · exact .inr (.inl rfl)
        · exact .inl rfl
        · exact .inr (.inr ⟨h1, h2⟩)
    | false =>
      have up : ∀ y ∈ r, y.key ≠ x.key := fun y hy e => by
        have := h'.1 y hy
        rw [e, hz] at this
        cases this
      by_cases he : z.key = x.key
      · simp only [if_pos he, List.mem_cons, Bool.false_eq_true, if_false]
        constructor
        · rintro (rfl | h1)
          · exact .inl rfl
          · exact .inr ⟨.inr h1, up y h1⟩
        · rintro (rfl | ⟨rfl | h1, h2⟩)
          · exact .inl rfl
          · exact absurd he h2
          · exact .inr h1
      · simp only [if_neg he, List.mem_cons, Bool.false_eq_true, if_false]
        constructor
        · rintro (rfl | rfl | h1)
          · exact .inl rfl
          · exact .inr ⟨.inl rfl, he⟩
          · exact .inr ⟨.inr h1, up y h1⟩
        · rintro (rfl | ⟨rfl | h1, h2⟩)
          · exact .inl rfl
          · exact .inr (.inl rfl)
          · exact .inr (.inr h1)
theorem ins_ri : ∀ (l : List Ent) (x : Ent), Ri l → Ri (insE x l)
  | [], x, _ => by simp [insE, Ri]
  | z :: r, x, h => by
    have h' := List.pairwise_cons.1 h
    unfold insE
    cases hz : kl z.key x.key with
    | true =>
      simp only [if_true]
      refine List.pairwise_cons.2 ⟨fun y hy => ?_, ins_ri r x h'.2⟩
      rcases (ins_mem r x h'.2 y).1 hy with rfl | ⟨h1, _⟩
      · exact hz
      · exact h'.1 y h1
    | false =>
      by_cases he : z.key = x.key
      · simp only [if_pos he, Bool.false_eq_true, if_false]
        exact List.pairwise_cons.2 ⟨fun y hy => by rw [← he]; exact h'.1 y hy, h'.2⟩
      · simp only [if_neg he, Bool.false_eq_true, if_false]
        have hxz : kl x.key z.key = true := by
          cases k : kl x.key z.key with
          | true => rfl
          | false => exact absurd (kl_tot hz k) he
        refine List.pairwise_cons.2 ⟨fun y hy => ?_, h⟩
        rcases List.mem_cons.1 hy with rfl | h1
        · exact hxz
        · exact kl_tr hxz (h'.1 y h1)
theorem wth_ri {l : List Ent} (h : Ri l) (x : Ent) : Ri (wth l x) := by rw [wth_ins]; exact ins_ri l x h
theorem wth_mem {l : List Ent} (h : Ri l) (x y : Ent) : y ∈ wth l x ↔ y = x ∨ (y ∈ l ∧ y.key ≠ x.key) := by rw [wth_ins]; exact ins_mem l x h y
theorem fold_mem : ∀ (r acc : List Ent), Ri r → Ri acc → Ri (r.foldl wth acc) ∧ ∀ y, y ∈ r.foldl wth acc ↔ y ∈ r ∨ (y ∈ acc ∧ ∀ z ∈ r, z.key ≠ y.key)
  | [], acc, _, ha => ⟨ha, fun y => by simp⟩
  | x :: r, acc, hr, ha => by
    have hr' := List.pairwise_cons.1 hr
    obtain ⟨i1, i2⟩ := fold_mem r (wth acc x) hr'.2 (wth_ri ha x)
    refine ⟨i1, fun y => ?_⟩
    rw [List.foldl_cons, i2 y, wth_mem ha]
    have hx : ∀ z ∈ r, z.key ≠ x.key := fun z hz e => by
      have := hr'.1 z hz
      rw [e, kl_ir] at this
      cases this
    constructor
    · rintro (h1 | ⟨rfl | ⟨h1, h2⟩, h3⟩)
      · exact .inl (List.mem_cons_of_mem _ h1)
      · exact .inl (by simp)
      · refine .inr ⟨h1, fun z hz => ?_⟩
        rcases List.mem_cons.1 hz with rfl | hz
        · exact fun e => h2 e.symm
        · exact h3 z hz
    · rintro (h1 | ⟨h1, h2⟩)
      · rcases List.mem_cons.1 h1 with rfl | h1
        · exact .inr ⟨.inl rfl, hx⟩
        · exact .inl h1
      · exact .inr ⟨.inr ⟨h1, fun e => h2 x (by simp) e.symm⟩, fun z hz => h2 z (List.mem_cons_of_mem _ hz)⟩
/-- what the document's own Merge makes of rows -/
def mrg : List (List Ent) → List Ent
  | [] => []
  | r :: rs => r.foldl wth (mrg rs)
/-- the first of its key -/
def Fst (L : List Ent) (y : Ent) : Prop := ∃ q, L[q]? = some y ∧ ∀ (p : Nat) (z : Ent), p < q → L[p]? = some z → z.key ≠ y.key
theorem fst_app (r L : List Ent) (y : Ent) : Fst (r ++ L) y ↔ Fst r y ∨ (Fst L y ∧ ∀ z ∈ r, z.key ≠ y.key) := by
  constructor
  · rintro ⟨q, h1, h2⟩
    by_cases hq : q < r.length
    · rw [List.getElem?_append_left hq] at h1
      exact .inl ⟨q, h1, fun p z hp hz => h2 p z hp (by rw [List.getElem?_append_left (by omega)]; exact hz)⟩
    · rw [List.getElem?_append_right (by omega)] at h1
      refine .inr ⟨⟨q - r.length, h1, fun p z hp hz => h2 (p + r.length) z (by omega) (by rw [List.getElem?_append_right (by omega), Nat.add_sub_cancel]; exact hz)⟩, fun z hz => ?_⟩
      obtain ⟨p, hp, he⟩ := List.getElem_of_mem hz
      exact h2 p z (by omega) (by rw [List.getElem?_append_left hp, List.getElem?_eq_getElem hp, he])
  · rintro (⟨q, h1, h2⟩ | ⟨⟨q, h1, h2⟩, h3⟩)
    · have hq : q < r.length := (List.getElem?_eq_some_iff.1 h1).1
      exact ⟨q, by rw [List.getElem?_append_left hq]; exact h1, fun p z hp hz => h2 p z hp (by rwa [List.getElem?_append_left (by omega)] at hz)⟩
    · refine ⟨q + r.length, by rw [List.getElem?_append_right (by omega), Nat.add_sub_cancel]; exact h1, fun p z hp hz => ?_⟩
      by_cases hpr : p < r.length
      · rw [List.getElem?_append_left hpr] at hz
        exact h3 z (List.mem_of_getElem? hz)
      · rw [List.getElem?_append_right (by omega)] at hz
        exact h2 _ z (by omega) hz
theorem fst_ri {r : List Ent} (h : Ri r) (y : Ent) : Fst r y ↔ y ∈ r := by
  constructor
  · rintro ⟨q, h1, _⟩
    exact List.mem_of_getElem? h1
  · intro hy
    obtain ⟨q, hq, he⟩ := List.getElem_of_mem hy
    refine ⟨q, by rw [List.getElem?_eq_getElem hq, he], fun p z hp hz e => ?_⟩
    obtain ⟨hp', hz'⟩ := List.getElem?_eq_some_iff.1 hz
    have := List.pairwise_iff_getElem.1 h p q hp' hq hp
    rw [hz', he, e, kl_ir] at this
    cases this
theorem mrg_mem : ∀ (rows : List (List Ent)), (∀ r ∈ rows, Ri r) → Ri (mrg rows) ∧ ∀ y, y ∈ mrg rows ↔ Fst rows.flatten y
  | [], _ => ⟨List.Pairwise.nil, fun y => by
    simp only [mrg, List.flatten_nil, List.not_mem_nil, false_iff]
    rintro ⟨q, h, _⟩
    simp at h⟩
  | r :: rs, h => by
    obtain ⟨i1, i2⟩ := mrg_mem rs fun r hr => h r (List.mem_cons_of_mem _ hr)
    have hr := h r (by simp)
    obtain ⟨j1, j2⟩ := fold_mem r (mrg rs) hr i1
    refine ⟨j1, fun y => ?_⟩
    rw [List.flatten_cons, fst_app, fst_ri hr, ← i2]
    exact j2 y
theorem least {P : Nat → Prop} (h : ∃ i, P i) : ∃ i, P i ∧ ∀ j, j < i → ¬ P j := by
  obtain ⟨i, hi⟩ := h
  induction i using Nat.strongRecOn with
  | ind i ih =>
    by_cases hc : ∃ j, j < i ∧ P j
    · obtain ⟨j, h1, h2⟩ := hc
      exact ih j h1 h2
    · exact ⟨i, hi, fun j hj hp => hc ⟨j, hj, hp⟩⟩
theorem mem_filter_range {n : Nat} {p : Nat → Bool} {i : Nat} : i ∈ (List.range n).filter p ↔ i < n ∧ p i = true := by simp [List.mem_filter]
theorem mrgOf_mem {l r : List Ent} (h : MrgOf l r) : Ri r ∧ ∀ y, y ∈ r ↔ Fst l y := by
  obtain ⟨d, hp, hs, rfl⟩ := h
  obtain ⟨n, hn⟩ : ∃ n, n = l.length := ⟨_, rfl⟩
  rw [← hn] at hp hs ⊢
  have hts : (tagd l).size = n := by rw [tagd_size, hn]
  -- where each comes from, and goes
  have from_ : ∀ i, i < n → ∃ q, q < n ∧ d[i]! = (l[q]!, q) := fun i hi => by
    obtain ⟨q, _, h1, h2⟩ := perm_from (by omega) hp (Nat.zero_le i) hi
    exact ⟨q, h1, by rw [h2, tagd_get l q (by omega)]⟩
  have hps : PermIn 0 n d (tagd l) := ⟨hp.1.symm, fun i hi => (hp.2.1 i hi).symm, hp.2.2.symm⟩
  have to_ : ∀ q, q < n → ∃ i, i < n ∧ d[i]! = (l[q]!, q) := fun q hq => by
    obtain ⟨i, _, h1, h2⟩ := perm_from (by rw [hp.1]; omega) hps (Nat.zero_le q) hq
    exact ⟨i, h1, by rw [← h2, tagd_get l q (by omega)]⟩
  -- keys do not fall
  have le_ : ∀ i j, i < j → j < n → kl d[j]!.1.key d[i]!.1.key = false := fun i j hij hj => (lt2_false.1 (hs i j (Nat.zero_le _) hij hj)).1
  have tg_ : ∀ i j, i < j → j < n → d[i]!.1.key = d[j]!.1.key → d[i]!.2 ≤ d[j]!.2 := fun i j hij hj he => by
    rcases (lt2_false.1 (hs i j (Nat.zero_le _) hij hj)).2 with h1 | h1
    · have h1 : kl d[i]!.1.key d[j]!.1.key = true := h1
      rw [he, kl_ir] at h1
      cases h1
    · exact h1
  have squ : ∀ i j, i < j → j < n → d[i]!.1.key = d[j]!.1.key → d[j - 1]!.1.key = d[j]!.1.key := fun i j hij hj he => by
    rcases Nat.lt_or_eq_of_le (show i ≤ j - 1 by omega) with c | c
    · have h1 := le_ i (j - 1) c (by omega)
      have h2 := le_ (j - 1) j (by omega) hj
      rw [he] at h1
      exact kl_tot h1 h2
    · rw [← c, he]
  have hd_iff : ∀ i, hd d i = true ↔ (i = 0 ∨ d[i]!.1.key ≠ d[i - 1]!.1.key) := fun i => by
    unfold hd
    rw [ba_beq]
    simp
  have kmem : ∀ y, y ∈ (kp d n).map (·.1) ↔ ∃ i, i < n ∧ hd d i = true ∧ d[i]!.1 = y := fun y => by
    unfold kp
    simp only [List.map_map, List.mem_map, mem_filter_range, Function.comp]
    constructor
    · rintro ⟨i, ⟨h1, h2⟩, h3⟩; exact ⟨i, h1, h2, h3⟩
    · rintro ⟨i, h1, h2, h3⟩; exact ⟨i, ⟨h1, h2⟩, h3⟩
  refine ⟨?_, fun y => ?_⟩
  · unfold kp Ri
    rw [List.map_map, List.pairwise_map]
    have hpw : ((List.range n).filter (hd d)).Pairwise (· < ·) := List.Pairwise.filter _ List.pairwise_lt_range
    refine List.Pairwise.imp_of_mem ?_ hpw
    intro i j hi hj hij
    obtain ⟨hi1, _⟩ := mem_filter_range.1 hi
    obtain ⟨hj1, hj2⟩ := mem_filter_range.1 hj
    simp only [Function.comp]
    cases hk : kl d[i]!.1.key d[j]!.1.key with
    | true => rfl
    | false =>
      have he := kl_tot hk (le_ i j hij hj1)
      rcases (hd_iff j).1 hj2 with h0 | h0
      · omega
      · exact absurd (squ i j hij hj1 he).symm h0
  · rw [kmem]
    constructor
    · rintro ⟨i, hi, hh, rfl⟩
      obtain ⟨q, hq, hdq⟩ := from_ i hi
      refine ⟨q, by rw [hdq, List.getElem?_eq_getElem (by omega), getElem!_pos l q (by omega)], fun p z hp hz he => ?_⟩
      obtain ⟨hpl, hzp⟩ := List.getElem?_eq_some_iff.1 hz
      obtain ⟨j, hj, hdj⟩ := to_ p (by omega)
      have hjk : d[j]!.1.key = d[i]!.1.key := by rw [← he, ← hzp, hdj, getElem!_pos l p hpl]
      have hj2 : d[j]!.2 = p := by rw [hdj]
      have hi2 : d[i]!.2 = q := by rw [hdq]
      rcases Nat.lt_trichotomy j i with c | rfl | c
      · rcases (hd_iff i).1 hh with h0 | h0
        · omega
        · exact absurd (squ j i c hi hjk).symm h0
      · omega
      · have := tg_ i j c hj hjk.symm
        omega
    · rintro ⟨q, h1, h2⟩
      obtain ⟨hq, hy⟩ := List.getElem?_eq_some_iff.1 h1
      obtain ⟨i, ⟨hi, hdi⟩, hmin⟩ := least (to_ q (by omega))
      have hiy : d[i]!.1 = y := by rw [hdi, getElem!_pos l q hq, hy]
      refine ⟨i, hi, (hd_iff i).2 ?_, hiy⟩
      rcases Nat.eq_zero_or_pos i with h0 | h0
      · exact .inl h0
      · refine .inr fun he => ?_
        obtain ⟨p, hp, hdp⟩ := from_ (i - 1) (by omega)
        have ht := tg_ (i - 1) i (by omega) hi he.symm
        have hi2 : d[i]!.2 = q := by rw [hdi]
        have hp2 : d[i - 1]!.2 = p := by rw [hdp]
        have hkp : l[p]!.key = y.key := by rw [← hiy, he, hdp]
        rcases Nat.lt_or_eq_of_le (show p ≤ q by omega) with c | rfl
        · exact h2 p l[p]! c (by rw [List.getElem?_eq_getElem (by omega), getElem!_pos l p (by omega)]) hkp
        · exact hmin (i - 1) (by omega) ⟨by omega, hdp⟩
/-- what the package's Merge may answer is what the document's own does -/
theorem mrg_is {rows : List (List Ent)} {r : List Ent} (h : MrgOf rows.flatten r) (hc : ∀ x ∈ rows, chk x = true) : r = mrg rows := by
  obtain ⟨a1, a2⟩ := mrgOf_mem h
  obtain ⟨b1, b2⟩ := mrg_mem rows fun x hx => chk_ri (hc x hx)
  exact ri_uniq a1 b1 fun y => (a2 y).trans (b2 y).symm
end Go.Proofs.YtpcmminokhmkjaaDoor.St
