/-
  What is read is written as it was, by the program's own readers; rows of the call's own, as they read. Conditions: each law's own.
-/
import Derived.Test.YtojhlhpbhoeplaaGreatDoorOk
namespace Go.Proofs.YtojhlhpbhoeplaaGreatDoor.Sh
open Go.RowKit Go.Lib Lb

theorem ownG_below {α : Type} {e : TypeId} {size B : Nat} {cells : α → List Value} {w w' : World} {l : List α} {v : Value} (h : OwnG e size cells B w l v) (hb : Below w.heap.size w w') : OwnG e size cells B w' l v :=
  World.ownsRow.kept (row := none) h ⟨hb.os, hb.tape, hb.output, hb.size, fun i hi _ => hb.block i hi⟩ (Classical.em _)
theorem OwnA.below {w w' : World} {B : Nat} {v : Value} {l : List (ByteArray × List UInt8)} (h : OwnA B w l v) (hb : Below w.heap.size w w') : OwnA B w' l v := by
  obtain ⟨us, h1, h2, h3⟩ := h
  exact ⟨us, h1, World.ownsRow.kept (row := none) h2 ⟨hb.os, hb.tape, hb.output, hb.size, fun i hi _ => hb.block i hi⟩ (Classical.em _), fun i x u hx hu => Own.below (h3 i x u hx hu) hb⟩
/-- a row's cells, one behind the other -/
theorem flat_at {α : Type} (f : α → List Value) (k : Nat) (hk : ∀ x, (f x).length = k) : ∀ (l : List α) (j : Nat) (x : α) (i : Nat), l[j]? = some x → i < k → (l.flatMap f)[j * k + i]? = (f x)[i]?
  | [], j, x, i, h, _ => by simp at h
  | a :: l, 0, x, i, h, hi => by
    simp only [List.getElem?_cons_zero, Option.some.injEq] at h
    subst h
    rw [List.flatMap_cons, Nat.zero_mul, Nat.zero_add, List.getElem?_append_left (by rw [hk]; exact hi)]
  | a :: l, j + 1, x, i, h, hi => by
    rw [List.flatMap_cons, List.getElem?_append_right (by rw [hk, Nat.succ_mul]; omega), hk, Nat.succ_mul, show j * k + k + i - k = j * k + i by omega]
    exact flat_at f k hk l j x i (by simpa using h) hi
/-- a cell of a row of the call's own -/
theorem ownG_at {α : Type} {e : TypeId} {size B : Nat} {cells : α → List Value} {w : World} {l : List α} {v : Value} (h : OwnG e size cells B w l v) (hk : ∀ x, (cells x).length = size) : ∃ ao c, v = .slice ao l.length c ∧ l.length ≤ c ∧ c ≤ 9223372036854775807 ∧ (ao = none → c = 0) ∧
    (l ≠ [] → ∃ g, ao = some ⟨g, 0, none⟩ ∧ g < w.heap.size ∧ ∀ j x i u, l[j]? = some x → i < size → (cells x)[i]? = some u → w.cell? ⟨g, j * size + i, none⟩ = some u) := by
  have hh := h
  obtain ⟨h0, ⟨rfl, hl⟩ | ⟨g, cap, cur, rfl, _, hg, h1, h2, h3, h4⟩⟩ := h
  · have : l = [] := List.eq_nil_of_length_eq_zero hl
    subst this
    exact ⟨none, 0, rfl, Nat.le_refl _, by omega, fun _ => rfl, fun h => absurd rfl h⟩
  · refine ⟨_, cap, rfl, h1, by unfold maxLen at h2; omega, fun h => (by cases h), fun _ => ⟨g, rfl, (Array.getElem?_eq_some_iff.1 hg).1, fun j x i u hx hi hu => ?_⟩⟩
    have hc := World.ownsRow.cells hh (g := g) rfl (j * size + i) u (by rw [flat_at cells size hk l j x i hx hi]; exact hu)
    rw [WideShapes.add_plain, Nat.zero_add] at hc
    exact hc
theorem ownG_zrw {B : Nat} {w : World} {l : List Int} {v : Value} (h : OwnG 3 1 cellsI B w l v) : ∃ ao c, v = .slice ao l.length c ∧ l.length ≤ c ∧ c ≤ 9223372036854775807 ∧ (ao = none → c = 0) ∧ Zrw w ao l := by
  obtain ⟨ao, c, h1, h2, h3, h4, h5⟩ := ownG_at h (fun x => rfl)
  refine ⟨ao, c, h1, h2, h3, h4, fun hne => ?_⟩
  obtain ⟨g, e1, e2, e3⟩ := h5 hne
  exact ⟨g, 0, e1, e2, fun j hj => by have := e3 j l[j] 0 _ (List.getElem?_eq_getElem hj) (by decide) rfl; rw [Nat.mul_one, Nat.add_zero] at this; rw [Nat.zero_add]; exact this⟩
theorem ownG_srw {e : TypeId} {B : Nat} {w : World} {l : List ByteArray} {v : Value} (h : OwnG e 1 cellsS B w l v) : ∃ ao c, v = .slice ao l.length c ∧ l.length ≤ c ∧ c ≤ 9223372036854775807 ∧ (ao = none → c = 0) ∧ Srw w ao l := by
  obtain ⟨ao, c, h1, h2, h3, h4, h5⟩ := ownG_at h (fun x => rfl)
  refine ⟨ao, c, h1, h2, h3, h4, fun hne => ?_⟩
  obtain ⟨g, e1, e2, e3⟩ := h5 hne
  exact ⟨g, 0, e1, e2, fun j hj => by have := e3 j l[j] 0 _ (List.getElem?_eq_getElem hj) (by decide) rfl; rw [Nat.mul_one, Nat.add_zero] at this; rw [Nat.zero_add]; exact this⟩
theorem ownG_rrw {B : Nat} {w : World} {l : List RefP} {v : Value} (h : OwnG 145 4 cellsR B w l v) (hs : ∀ x ∈ l, x.key.size ≤ 9223372036854775807) : ∃ ao c, v = .slice ao l.length c ∧ l.length ≤ c ∧ c ≤ 9223372036854775807 ∧ (ao = none → c = 0) ∧ Rrw w ao l := by
  obtain ⟨ao, c, h1, h2, h3, h4, h5⟩ := ownG_at h (fun x => rfl)
  refine ⟨ao, c, h1, h2, h3, h4, fun hne => ?_⟩
  obtain ⟨g, e1, e2, e3⟩ := h5 hne
  exact ⟨g, 0, e1, e2, fun j x hj => by
    rw [Nat.zero_add]
    exact ⟨e3 j x 0 _ hj (by decide) rfl, e3 j x 1 _ hj (by decide) rfl, e3 j x 2 _ hj (by decide) rfl, e3 j x 3 _ hj (by decide) rfl, hs x (List.mem_of_getElem? hj)⟩⟩
theorem attC_at : ∀ (l : List (ByteArray × List UInt8)) (us : List Value) (j : Nat) (x : ByteArray × List UInt8) (u : Value), l[j]? = some x → us[j]? = some u → (attC l us)[j * 2]? = some (.string x.1) ∧ (attC l us)[j * 2 + 1]? = some u
  | [], us, j, x, u, h, _ => by simp at h
  | a :: l, [], j, x, u, _, h => by simp at h
  | a :: l, b :: us, 0, x, u, h1, h2 => by
    simp only [List.getElem?_cons_zero, Option.some.injEq] at h1 h2
    subst h1
    subst h2
    exact ⟨rfl, rfl⟩
  | a :: l, b :: us, j + 1, x, u, h1, h2 => by
    have ih := attC_at l us j x u (by simpa using h1) (by simpa using h2)
    have e : attC (a :: l) (b :: us) = .string a.1 :: b :: attC l us := rfl
    rw [e, show (j + 1) * 2 = j * 2 + 1 + 1 by omega]
    exact ih
theorem ownA_arw {B : Nat} {w : World} {l : List (ByteArray × List UInt8)} {v : Value} (h : OwnA B w l v) (hs : ∀ x ∈ l, x.1.size ≤ 9223372036854775807) : ∃ ao c, v = .slice ao l.length c ∧ l.length ≤ c ∧ c ≤ 9223372036854775807 ∧ (ao = none → c = 0) ∧ Arw w ao l := by
  obtain ⟨us, hu, hr, ha⟩ := h
  have hh := hr
  obtain ⟨h0, ⟨rfl, hl⟩ | ⟨g, cap, cur, rfl, _, hg, h1, h2, h3, h4⟩⟩ := hr
  · have : l = [] := List.eq_nil_of_length_eq_zero hl
    subst this
    exact ⟨none, 0, rfl, Nat.le_refl _, by omega, fun _ => rfl, fun h => absurd rfl h⟩
  · refine ⟨_, cap, rfl, h1, by unfold maxLen at h2; omega, fun h => (by cases h), fun _ => ⟨g, 0, rfl, (Array.getElem?_eq_some_iff.1 hg).1, fun j x hx => ?_⟩⟩
    obtain ⟨u, hu2⟩ : ∃ u, us[j]? = some u := ⟨_, List.getElem?_eq_getElem (by rw [hu]; exact (List.getElem?_eq_some_iff.1 hx).1)⟩
    obtain ⟨t1, t2⟩ := attC_at l us j x u hx hu2
    have c1 := World.ownsRow.cells hh (g := g) rfl (j * 2) _ t1
    have c2 := World.ownsRow.cells hh (g := g) rfl (j * 2 + 1) _ t2
    rw [WideShapes.add_plain] at c1 c2
    obtain ⟨a5, c5, rfl, y1, y2, y3, y4⟩ := own_byt (ha j x u hx hu2)
    exact ⟨c1, hs x (List.mem_of_getElem? hx), a5, x.2.length, c5, c2, rfl, y1, y2, y3, y4⟩
theorem law_org : Law pOrg (fun x => (x.1 = true ∧ keyOk x.2.1 ∧ x.2.2 = (0, 0)) ∨ (x.1 = false ∧ x.2.1 = noKey ∧ within x.2.2.1 0 32768 ∧ within x.2.2.2 0 32768)) (fun x => flagL x.1 ++ if x.1 = true then keyL x.2.1 else numL x.2.2.1 ++ numL x.2.2.2) := by
  intro l z s
  have h0 := law_seq (p := pFlag) (q := fun b : Bool => if b = true then pMap (fun k => (k, (0 : Int), (0 : Int))) pKey else pMap (fun z => (noKey, z.1, z.2)) (pSeq (pNum 32768) fun _ => pNum 32768)) law_flag
    (okq := fun b z => (b = true ∧ keyOk z.1 ∧ z.2 = (0, 0)) ∨ (b = false ∧ z.1 = noKey ∧ within z.2.1 0 32768 ∧ within z.2.2 0 32768)) (eq := fun b z => if b = true then keyL z.1 else numL z.2.1 ++ numL z.2.2) (fun b _ => by
      cases b with
      | true =>
        show Law (pMap (fun k => (k, (0 : Int), (0 : Int))) pKey) (fun z => (true = true ∧ keyOk z.1 ∧ z.2 = (0, 0)) ∨ (true = false ∧ z.1 = noKey ∧ within z.2.1 0 32768 ∧ within z.2.2 0 32768)) (fun z => keyL z.1)
        refine law_map law_key _ _ _ (fun k hk => ⟨.inl ⟨rfl, hk, rfl⟩, rfl⟩) ?_
        rintro ⟨k, a, b⟩ (⟨_, hk, h0⟩ | ⟨h0, _⟩)
        · exact ⟨k, hk, by simp only at h0 ⊢; rw [h0]⟩
        · cases h0
      | false =>
        show Law (pMap (fun z : Int × Int => (noKey, z.1, z.2)) (pSeq (pNum 32768) fun _ => pNum 32768)) (fun z => (false = true ∧ keyOk z.1 ∧ z.2 = (0, 0)) ∨ (false = false ∧ z.1 = noKey ∧ within z.2.1 0 32768 ∧ within z.2.2 0 32768)) (fun z => numL z.2.1 ++ numL z.2.2)
        refine law_map (law_seq (law_num 32768 (by decide)) fun x _ => law_num 32768 (by decide)) _ _ _ (fun z hz => ⟨.inr ⟨rfl, rfl, hz.1, hz.2⟩, rfl⟩) ?_
        rintro ⟨k, a, b⟩ (⟨h0, _⟩ | ⟨_, hk, ha, hb⟩)
        · cases h0
        · exact ⟨(a, b), ⟨ha, hb⟩, by simp only at hk ⊢; rw [hk]⟩)
  have h1 := h0 l z s
  simpa [pOrg] using h1
def refReadP (x : RefP) : Prop := ((keyOk x.key ∧ x.lower = 0 ∧ x.off = 0) ∨ (x.key = noKey ∧ within x.lower 0 32768 ∧ within x.off 0 32768)) ∧ within x.n 0 32768
theorem law_refP : Law pRefP refReadP refL := by
  refine law_map (law_seq law_org fun _ _ => law_num 32768 (by decide)) _ _ _ ?_ ?_
  · rintro ⟨⟨t, k, a, b⟩, n⟩ ⟨h, hn⟩
    simp only at h hn ⊢
    rcases h with ⟨rfl, hk, h0⟩ | ⟨rfl, hk, ha, hb⟩
    · obtain ⟨rfl, rfl⟩ := Prod.mk.inj h0
      refine ⟨⟨.inl ⟨hk, rfl, rfl⟩, hn⟩, ?_⟩
      have hne : k ≠ noKey := fun h0 => noKey_not (h0 ▸ hk)
      have e : flagL true = [1] := num_1
      rw [refL, if_pos hne, if_pos rfl, e]
      rfl
    · subst hk
      refine ⟨⟨.inr ⟨rfl, ha, hb⟩, hn⟩, ?_⟩
      have e : flagL false = [0] := num_0
      rw [refL, if_neg (by simp), if_neg (by decide), e]
      rfl
  · rintro ⟨k, a, b, n⟩ ⟨h, hn⟩
    rcases h with ⟨hk, ha, hb⟩ | ⟨hk, ha, hb⟩
    · exact ⟨((true, k, a, b), n), ⟨.inl ⟨rfl, hk, by simp only at ha hb ⊢; rw [ha, hb]⟩, hn⟩, rfl⟩
    · exact ⟨((false, k, a, b), n), ⟨.inr ⟨rfl, hk, ha, hb⟩, hn⟩, rfl⟩
theorem law_attP : Law pAttP (fun a => a.1.data.toList.length ≤ 1000 ∧ a.2.length ≤ 1000) attrL := law_seq (law_text 1000 (by decide)) fun _ _ => law_data 1000 (by decide)
def metaReadP (m : MetaP) : Prop := within m.kind 0 32768 ∧ within m.mode 0 32768 ∧ within m.links 0 32768 ∧ within m.size 0 32768 ∧ m.target.data.toList.length ≤ 1000 ∧ (m.attrs.length ≤ 32768 ∧ ∀ a ∈ m.attrs, a.1.data.toList.length ≤ 1000 ∧ a.2.length ≤ 1000) ∧ (m.refs.length ≤ 32768 ∧ ∀ x ∈ m.refs, refReadP x)
theorem law_metaP : Law pMetaP metaReadP metaL := by
  refine law_map (law_seq (law_num 32768 (by decide)) fun _ _ => law_seq (law_num 32768 (by decide)) fun _ _ => law_seq (law_num 32768 (by decide)) fun _ _ => law_seq (law_num 32768 (by decide)) fun _ _ => law_seq (law_text 1000 (by decide)) fun _ _ => law_seq (law_many law_attP 32768 (by decide)) fun _ _ => law_many law_refP 32768 (by decide)) _ _ _ ?_ ?_
  · rintro ⟨k, a, b, c, d, e, f⟩ h
    exact ⟨h, rfl⟩
  · rintro ⟨k, a, b, c, d, e, f⟩ h
    exact ⟨(k, a, b, c, d, e, f), h, rfl⟩
theorem metaReadP_of (m : MetaP) (h : OkMeta ltB nameOk m) : metaReadP m := by
  obtain ⟨h1, h2, h3, h4, h5, h6, h7⟩ := metaRead_of ltB nameOk nameOk_len m h
  refine ⟨by unfold within at *; omega, by unfold within at *; omega, by unfold within at *; omega, by unfold within at *; omega, h5, ⟨by omega, fun a ha => ?_⟩, ⟨by omega, fun x hx => ?_⟩⟩
  · have := h6.2 a ha
    omega
  · obtain ⟨k1 | k1, k2⟩ := h7.2 x hx
    · exact ⟨.inl k1, k2⟩
    · exact ⟨.inr ⟨k1.1, by have := k1.2.1; unfold within at *; omega, k1.2.2⟩, k2⟩
def listReadP (x : ListP) : Prop := x.names.length ≤ 32768 ∧ (∀ s ∈ x.names, s.data.toList.length ≤ 1000) ∧ x.nums.length = x.names.length ∧ ∀ n ∈ x.nums, within n 0 32768
theorem law_listP : Law pListP listReadP listL := by
  refine law_map (law_seq law_flag fun _ _ => law_seq (law_many (law_text 1000 (by decide)) 32768 (by decide)) fun a _ => law_row (law_num 32768 (by decide)) a.length) _ _ _ ?_ ?_
  · rintro ⟨b, a, c⟩ ⟨_, ⟨h2, h3⟩, h4, h5⟩
    simp only at h2 h3 h4 h5 ⊢
    refine ⟨⟨h2, h3, h4, h5⟩, ?_⟩
    simp [listL, manyL]
  · rintro ⟨b, a, c⟩ ⟨h1, h2, h3, h4⟩
    exact ⟨(b, a, c), ⟨trivial, ⟨h1, h2⟩, h3, h4⟩, rfl⟩
def pageReadP (x : PageP) : Prop := x.nums.length ≤ 32768 ∧ (∀ n ∈ x.nums, within n 0 32768) ∧ x.keys.length = x.nums.length ∧ ∀ k ∈ x.keys, keyOk k
theorem law_pageP : Law pPageP pageReadP pageL := by
  refine law_map (law_seq (law_many (law_num 32768 (by decide)) 32768 (by decide)) fun a _ => law_row law_key a.length) _ _ _ ?_ ?_
  · rintro ⟨a, c⟩ ⟨⟨h2, h3⟩, h4, h5⟩
    simp only at h2 h3 h4 h5 ⊢
    refine ⟨⟨h2, h3, h4, h5⟩, ?_⟩
    simp [pageL, manyL]
  · rintro ⟨a, c⟩ ⟨h1, h2, h3, h4⟩
    exact ⟨(a, c), ⟨⟨h1, h2⟩, h3, h4⟩, rfl⟩
theorem law_rootP : Law pRootP (fun x => within x.next 0 32768 ∧ x.pages.length ≤ 32768 ∧ ∀ k ∈ x.pages, keyOk k) rootL := by
  refine law_map (law_seq (law_num 32768 (by decide)) fun _ _ => law_many law_key 32768 (by decide)) _ _ _ ?_ ?_
  · rintro ⟨n, a⟩ h
    exact ⟨h, rfl⟩
  · rintro ⟨n, a⟩ h
    exact ⟨(n, a), h, rfl⟩
open Classical in
/-- read whole, by the program's own readers, is what the document's own give -/
theorem whole_same {α : Type} {p p' : List UInt8 → Option (α × List UInt8)} {ok ok' : α → Prop} {e : α → List UInt8} (hp : Law p ok e) (hp' : Law p' ok' e) (may : α → Prop) (h1 : ∀ x, may x → ok x) (h2 : ∀ x, may x → ok' x) (l : List UInt8) : whole p may l = whole p' may l := by
  apply Option.ext
  intro x
  rw [whole_iff hp may h1 l x, whole_iff hp' may h2 l x]
open Classical in
theorem getMeta_P (l : List UInt8) : whole pMetaP (OkMeta ltB nameOk) l = getMeta ltB nameOk l := whole_same law_metaP law_meta _ (metaReadP_of) (metaRead_of ltB nameOk nameOk_len) l
open Classical in
theorem getList_P (l : List UInt8) : whole pListP (OkList ltB nameOk) l = getList ltB nameOk l :=
  whole_same law_listP law_list _ (fun x h => ⟨by have := h.most; omega, fun s hs => by have := nameOk_len s (h.names s hs); omega, h.same, fun n hn => by have := h.nums n hn; unfold within at *; omega⟩) (fun x h => ⟨h.most, fun s hs => nameOk_len s (h.names s hs), h.same, h.nums⟩) l
open Classical in
theorem getPage_P (l : List UInt8) : whole pPageP OkPage l = getPage l :=
  whole_same law_pageP law_page _ (fun x h => ⟨by have := h.most; omega, fun n hn => by have := h.nums n hn; unfold within at *; omega, h.same, h.keys⟩) (fun x h => ⟨h.most, fun n hn => by have := h.nums n hn; unfold within at *; omega, h.same, h.keys⟩) l
open Classical in
theorem getRoot_P (l : List UInt8) : whole pRootP OkRoot l = getRoot l :=
  whole_same law_rootP law_root _ (fun x h => ⟨by have := h.next; unfold within at *; omega, by have := h.most; omega, h.keys⟩) (fun x h => ⟨by have := h.next; unfold within at *; omega, h.most, h.keys⟩) l
end Go.Proofs.YtojhlhpbhoeplaaGreatDoor.Sh
