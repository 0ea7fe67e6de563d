/-
  Objects as bytes, as plain mathematics: numbers, texts, keys, rows of them, read and written; what is read is just what was written. Names that may be are a predicate that is handed in. No condition; nothing of the program.
-/
import Derived.Test.YtcgbaiogbcodcaaGreatDoorPk
import Derived.Test.YtcgbaiogbcodcaaGreatDoorPn
namespace Go.Proofs.YtcgbaiogbcodcaaGreatDoor.Sh
open Lb

/-- a reader that reads just what was written: of x that may be, enc x, whatever stands behind -/
def Law {α : Type} (p : List UInt8 → Option (α × List UInt8)) (ok : α → Prop) (enc : α → List UInt8) : Prop := ∀ l x r, p l = some (x, r) ↔ ok x ∧ l = enc x ++ r
/-- a number up to a bound -/
def pNum (most : Nat) (l : List UInt8) : Option (Int × List UInt8) := if (getL l).2.2 = 0 ∧ (getL l).1 ≤ most then some (((getL l).1 : Int), l.drop (getL l).2.1) else none
def within (x lo hi : Int) : Prop := lo ≤ x ∧ x ≤ hi
instance (x lo hi : Int) : Decidable (within x lo hi) := inferInstanceAs (Decidable (_ ∧ _))
def numL (x : Int) : List UInt8 := putL x.toNat
theorem law_num (most : Nat) (h : most < 18446744073709551616) : Law (pNum most) (fun x => within x 0 most) numL := by
  intro l x r
  unfold pNum numL within
  constructor
  · intro hp
    split at hp
    · rename_i hc
      simp only [Option.some.injEq, Prod.mk.injEq] at hp
      obtain ⟨rfl, rfl⟩ := hp
      obtain ⟨h1, h2, h3, h4⟩ := getL_again l (getL l).1 (getL l).2.1 (by rw [← hc.1])
      refine ⟨⟨by omega, by omega⟩, ?_⟩
      rw [Int.toNat_natCast, h4, List.take_append_drop]
    · cases hp
  · rintro ⟨⟨h0, h1⟩, rfl⟩
    obtain ⟨n, rfl⟩ : ∃ n : Nat, x = (n : Int) := ⟨x.toNat, by omega⟩
    rw [Int.toNat_natCast, getL_put n (by omega) r, if_pos ⟨rfl, by simpa using h1⟩, List.drop_left]
/-- bytes with their length, up to a bound -/
def pData (most : Nat) (l : List UInt8) : Option (List UInt8 × List UInt8) :=
  match pNum most l with
  | none => none
  | some (x, r) => if x.toNat ≤ r.length then some (r.take x.toNat, r.drop x.toNat) else none
def dataL (d : List UInt8) : List UInt8 := putL d.length ++ d
theorem law_data (most : Nat) (h : most < 18446744073709551616) : Law (pData most) (fun d => d.length ≤ most) dataL := by
  intro l d r
  unfold pData dataL
  constructor
  · intro hp
    cases hn : pNum most l with
    | none => rw [hn] at hp; cases hp
    | some y =>
      obtain ⟨x, s⟩ := y
      rw [hn] at hp
      obtain ⟨⟨h0, h1⟩, rfl⟩ := (law_num most h l x s).1 hn
      simp only at hp
      split at hp
      · rename_i hc
        simp only [Option.some.injEq, Prod.mk.injEq] at hp
        obtain ⟨rfl, rfl⟩ := hp
        refine ⟨by show (List.take _ _).length ≤ most; rw [List.length_take]; omega, ?_⟩
        rw [List.length_take, Nat.min_eq_left hc, List.append_assoc, List.take_append_drop]
        rfl
      · cases hp
  · rintro ⟨h1, rfl⟩
    have hn : pNum most (putL d.length ++ d ++ r) = some ((d.length : Int), d ++ r) := (law_num most h _ _ _).2 ⟨⟨by omega, by omega⟩, by rw [numL, Int.toNat_natCast, List.append_assoc]⟩
    rw [hn]
    simp only [Int.toNat_natCast, List.length_append]
    rw [if_pos (by omega), List.take_left, List.drop_left]
/-- a key -/
def keyOk (k : ByteArray) : Prop := (keyBytes k.data.toList).isSome = true
instance (k : ByteArray) : Decidable (keyOk k) := inferInstanceAs (Decidable (_ = _))
def keyL (k : ByteArray) : List UInt8 := (keyBytes k.data.toList).getD []
def pKey (l : List UInt8) : Option (ByteArray × List UInt8) := if 32 ≤ l.length then some (⟨(hexL (l.take 32)).toArray⟩, l.drop 32) else none
theorem key_mk (b : List UInt8) (h : b.length = 32) : keyOk ⟨(hexL b).toArray⟩ ∧ keyL ⟨(hexL b).toArray⟩ = b := by
  unfold keyOk keyL
  rw [List.toList_toArray, keyBytes_back b h]
  exact ⟨rfl, rfl⟩
theorem key_of (k : ByteArray) (h : keyOk k) : (keyL k).length = 32 ∧ k = ⟨(hexL (keyL k)).toArray⟩ := by
  unfold keyOk at h
  unfold keyL
  cases hk : keyBytes k.data.toList with
  | none => rw [hk] at h; cases h
  | some b =>
    obtain ⟨h1, h2⟩ := keyBytes_some _ b hk
    refine ⟨h1, ?_⟩
    rw [Option.getD_some, h2]
theorem law_key : Law pKey keyOk keyL := by
  intro l k r
  unfold pKey
  constructor
  · intro hp
    split at hp
    · rename_i hc
      simp only [Option.some.injEq, Prod.mk.injEq] at hp
      obtain ⟨rfl, rfl⟩ := hp
      obtain ⟨h1, h2⟩ := key_mk (l.take 32) (by rw [List.length_take]; omega)
      exact ⟨h1, by rw [h2, List.take_append_drop]⟩
    · cases hp
  · rintro ⟨hk, rfl⟩
    obtain ⟨h1, h2⟩ := key_of k hk
    rw [if_pos (by rw [List.length_append]; omega)]
    rw [show (32 : Nat) = (keyL k).length from h1.symm, List.take_left, List.drop_left, ← h2]
/-- one behind the other -/
def pSeq {α β : Type} (p : List UInt8 → Option (α × List UInt8)) (q : α → List UInt8 → Option (β × List UInt8)) (l : List UInt8) : Option ((α × β) × List UInt8) :=
  match p l with
  | none => none
  | some (x, r) => match q x r with
    | none => none
    | some (y, s) => some ((x, y), s)
theorem law_seq {α β : Type} {p : List UInt8 → Option (α × List UInt8)} {q : α → List UInt8 → Option (β × List UInt8)} {okp : α → Prop} {okq : α → β → Prop} {ep : α → List UInt8} {eq : α → β → List UInt8}
    (hp : Law p okp ep) (hq : ∀ x, okp x → Law (q x) (okq x) (eq x)) : Law (pSeq p q) (fun z => okp z.1 ∧ okq z.1 z.2) (fun z => ep z.1 ++ eq z.1 z.2) := by
  intro l z s
  obtain ⟨x, y⟩ := z
  unfold pSeq
  constructor
  · intro h
    cases h1 : p l with
    | none => rw [h1] at h; cases h
    | some u =>
      obtain ⟨x', r⟩ := u
      rw [h1] at h
      simp only at h
      obtain ⟨k1, rfl⟩ := (hp l x' r).1 h1
      cases h2 : q x' r with
      | none => rw [h2] at h; cases h
      | some v =>
        obtain ⟨y', s'⟩ := v
        rw [h2] at h
        simp only [Option.some.injEq, Prod.mk.injEq] at h
        obtain ⟨⟨rfl, rfl⟩, rfl⟩ := h
        obtain ⟨k2, rfl⟩ := (hq x' k1 r y' s').1 h2
        exact ⟨⟨k1, k2⟩, by rw [List.append_assoc]⟩
  · rintro ⟨⟨k1, k2⟩, rfl⟩
    have h1 := (hp (ep x ++ (eq x y ++ s)) x (eq x y ++ s)).2 ⟨k1, rfl⟩
    have h2 := (hq x k1 (eq x y ++ s) y s).2 ⟨k2, rfl⟩
    rw [List.append_assoc, h1]
    simp only [h2]
/-- what is read, turned -/
def pMap {α β : Type} (f : α → β) (p : List UInt8 → Option (α × List UInt8)) (l : List UInt8) : Option (β × List UInt8) := (p l).map fun z => (f z.1, z.2)
theorem law_map {α β : Type} {p : List UInt8 → Option (α × List UInt8)} {ok : α → Prop} {e : α → List UInt8} (hp : Law p ok e) (f : α → β) (ok' : β → Prop) (e' : β → List UInt8)
    (h1 : ∀ x, ok x → ok' (f x) ∧ e' (f x) = e x) (h2 : ∀ y, ok' y → ∃ x, ok x ∧ f x = y) : Law (pMap f p) ok' e' := by
  intro l y r
  unfold pMap
  constructor
  · intro h
    cases h0 : p l with
    | none => rw [h0] at h; cases h
    | some u =>
      obtain ⟨x, s⟩ := u
      rw [h0] at h
      simp only [Option.map_some, Option.some.injEq, Prod.mk.injEq] at h
      obtain ⟨rfl, rfl⟩ := h
      obtain ⟨k1, rfl⟩ := (hp l x s).1 h0
      exact ⟨(h1 x k1).1, by rw [(h1 x k1).2]⟩
  · rintro ⟨hy, rfl⟩
    obtain ⟨x, hx, rfl⟩ := h2 y hy
    rw [(h1 x hx).2, (hp _ x r).2 ⟨hx, rfl⟩]
    rfl
/-- n of one kind -/
def pRow {α : Type} (p : List UInt8 → Option (α × List UInt8)) : Nat → List UInt8 → Option (List α × List UInt8)
  | 0, l => some ([], l)
  | n + 1, l => match p l with
    | none => none
    | some (x, r) => match pRow p n r with
      | none => none
      | some (xs, s) => some (x :: xs, s)
theorem law_row {α : Type} {p : List UInt8 → Option (α × List UInt8)} {ok : α → Prop} {e : α → List UInt8} (hp : Law p ok e) (n : Nat) : Law (pRow p n) (fun xs => xs.length = n ∧ ∀ x ∈ xs, ok x) (fun xs => xs.flatMap e) := by
  induction n with
  | zero =>
    intro l xs r
    rw [pRow]
    constructor
    · intro h
      simp only [Option.some.injEq, Prod.mk.injEq] at h
      obtain ⟨rfl, rfl⟩ := h
      exact ⟨⟨rfl, fun x hx => by cases hx⟩, rfl⟩
    · rintro ⟨⟨h1, _⟩, rfl⟩
      obtain rfl := List.eq_nil_of_length_eq_zero h1
      rfl
  | succ n ih =>
    intro l xs s
    rw [pRow]
    constructor
    · intro h
      cases h1 : p l with
      | none => rw [h1] at h; cases h
      | some u =>
        obtain ⟨x, r⟩ := u
        rw [h1] at h
        simp only at h
        obtain ⟨k1, rfl⟩ := (hp l x r).1 h1
        cases h2 : pRow p n r with
        | none => rw [h2] at h; cases h
        | some v =>
          obtain ⟨ys, s'⟩ := v
          rw [h2] at h
          simp only [Option.some.injEq, Prod.mk.injEq] at h
          obtain ⟨rfl, rfl⟩ := h
          obtain ⟨⟨k2, k3⟩, rfl⟩ := (ih r ys s').1 h2
          refine ⟨⟨by rw [List.length_cons, k2], fun z hz => ?_⟩, by show _ = (x :: ys).flatMap e ++ s'; rw [List.flatMap_cons, List.append_assoc]⟩
          rcases List.mem_cons.1 hz with rfl | hz
          · exact k1
          · exact k3 z hz
    · rintro ⟨⟨h1, h2⟩, rfl⟩
      cases xs with
      | nil => cases h1
      | cons x xs =>
        have k1 := (hp (e x ++ (xs.flatMap e ++ s)) x (xs.flatMap e ++ s)).2 ⟨h2 x List.mem_cons_self, rfl⟩
        have k2 := (ih (xs.flatMap e ++ s) xs s).2 ⟨⟨by simpa using h1, fun z hz => h2 z (List.mem_cons_of_mem _ hz)⟩, rfl⟩
        show (match p ((x :: xs).flatMap e ++ s) with | none => none | some (x, r) => match pRow p n r with | none => none | some (xs, s) => some (x :: xs, s)) = _
        rw [List.flatMap_cons, List.append_assoc, k1]
        simp only [k2]
/-- read whole -/
def whole {α : Type} (p : List UInt8 → Option (α × List UInt8)) (may : α → Prop) [DecidablePred may] (l : List UInt8) : Option α :=
  match p l with
  | none => none
  | some (x, r) => if r = [] ∧ may x then some x else none
theorem whole_iff {α : Type} {p : List UInt8 → Option (α × List UInt8)} {ok : α → Prop} {e : α → List UInt8} (hp : Law p ok e) (may : α → Prop) [DecidablePred may] (hm : ∀ x, may x → ok x) (l : List UInt8) (x : α) :
    whole p may l = some x ↔ may x ∧ e x = l := by
  unfold whole
  constructor
  · intro h
    cases h0 : p l with
    | none => rw [h0] at h; cases h
    | some u =>
      obtain ⟨y, r⟩ := u
      rw [h0] at h
      simp only at h
      split at h
      · rename_i hc
        simp only [Option.some.injEq] at h
        subst h
        obtain ⟨_, rfl⟩ := (hp l y r).1 h0
        obtain ⟨rfl, h3⟩ := hc
        exact ⟨h3, by simp⟩
      · cases h
  · rintro ⟨h1, rfl⟩
    have h0 := (hp (e x) x []).2 ⟨hm x h1, by simp⟩
    rw [h0]
    exact if_pos ⟨rfl, h1⟩
/-- a text up to a bound -/
def pText (most : Nat) : List UInt8 → Option (ByteArray × List UInt8) := pMap (fun d => (⟨d.toArray⟩ : ByteArray)) (pData most)
def textL (s : ByteArray) : List UInt8 := dataL s.data.toList
theorem law_text (most : Nat) (h : most < 18446744073709551616) : Law (pText most) (fun s => s.data.toList.length ≤ most) textL :=
  law_map (law_data most h) _ _ _ (fun _ hd => ⟨hd, rfl⟩) fun s hs => ⟨s.data.toList, hs, rfl⟩
/-- a row: how many, then each -/
def pMany {α : Type} (most : Nat) (p : List UInt8 → Option (α × List UInt8)) : List UInt8 → Option (List α × List UInt8) := pMap Prod.snd (pSeq (pNum most) fun n => pRow p n.toNat)
def manyL {α : Type} (e : α → List UInt8) (xs : List α) : List UInt8 := numL (xs.length : Int) ++ xs.flatMap e
theorem law_many {α : Type} {p : List UInt8 → Option (α × List UInt8)} {ok : α → Prop} {e : α → List UInt8} (hp : Law p ok e) (most : Nat) (h : most < 18446744073709551616) : Law (pMany most p) (fun xs => xs.length ≤ most ∧ ∀ x ∈ xs, ok x) (manyL e) := by
  refine law_map (law_seq (law_num most h) fun n _ => law_row hp n.toNat) _ _ _ ?_ ?_
  · rintro ⟨n, xs⟩ ⟨h1, h2, h3⟩
    simp only at h1 h2 h3 ⊢
    unfold within at h1
    refine ⟨⟨by omega, h3⟩, ?_⟩
    rw [manyL, show ((xs.length : Nat) : Int) = n by omega]
  · rintro xs ⟨h1, h2⟩
    refine ⟨((xs.length : Int), xs), ⟨by unfold within; simp only; omega, by simp only; omega, h2⟩, rfl⟩

/-- a piece of a content -/
structure RefP where
  key : ByteArray
  lower : Int
  off : Int
  n : Int
/-- a node -/
structure MetaP where
  kind : Int
  mode : Int
  links : Int
  size : Int
  target : ByteArray
  attrs : List (ByteArray × List UInt8)
  refs : List RefP
/-- a directory's entries -/
structure ListP where
  opq : Bool
  names : List ByteArray
  nums : List Int
structure PageP where
  nums : List Int
  keys : List ByteArray
structure RootP where
  next : Int
  pages : List ByteArray

def noKey : ByteArray := ⟨#[]⟩
theorem noKey_not : ¬ keyOk noKey := by decide
/-- a piece, as it is read: by 1 a key, by 0 two numbers; then how many -/
def pHead (t : Int) (l : List UInt8) : Option ((ByteArray × Int × Int) × List UInt8) :=
  if t = 1 then pMap (fun k => (k, 0, 0)) pKey l else pMap (fun z => (noKey, z.1, z.2)) (pSeq (pNum 512) fun _ => pNum 32768) l
def pRef (l : List UInt8) : Option (RefP × List UInt8) :=
  pMap (fun z : (Int × ByteArray × Int × Int) × Int => (⟨z.1.2.1, z.1.2.2.1, z.1.2.2.2, z.2⟩ : RefP)) (pSeq (pSeq (pNum 1) pHead) fun _ => pNum 32768) l
def refRead (x : RefP) : Prop := ((keyOk x.key ∧ x.lower = 0 ∧ x.off = 0) ∨ (x.key = noKey ∧ within x.lower 0 512 ∧ within x.off 0 32768)) ∧ within x.n 0 32768
def refL (x : RefP) : List UInt8 := (if x.key ≠ noKey then 1 :: keyL x.key else 0 :: (numL x.lower ++ numL x.off)) ++ numL x.n
theorem num_0 : numL 0 = [0] := by decide
theorem num_1 : numL 1 = [1] := by decide
theorem law_head (t : Int) (ht : within t 0 (1 : Nat)) : Law (pHead t) (fun z => (t = 1 ∧ keyOk z.1 ∧ z.2 = (0, 0)) ∨ (t = 0 ∧ z.1 = noKey ∧ within z.2.1 0 512 ∧ within z.2.2 0 32768)) (fun z => if z.1 ≠ noKey then keyL z.1 else numL z.2.1 ++ numL z.2.2) := by
  unfold within at ht
  by_cases h1 : t = 1
  · subst h1
    have e : pHead 1 = pMap (fun k => (k, ((0 : Int), (0 : Int)))) pKey := by funext l; exact if_pos rfl
    rw [e]
    refine law_map law_key _ _ _ (fun k hk => ⟨Or.inl ⟨rfl, hk, rfl⟩, ?_⟩) ?_
    · exact if_pos (fun h0 : k = noKey => noKey_not (h0 ▸ hk))
    · rintro ⟨k, a, b⟩ (⟨_, hk, h0⟩ | ⟨h0, _⟩)
      · exact ⟨k, hk, by simp only at h0 ⊢; rw [h0]⟩
      · cases h0
  · have h0 : t = 0 := by omega
    subst h0
    have e : pHead 0 = pMap (fun z => (noKey, z.1, z.2)) (pSeq (pNum 512) fun _ => pNum 32768) := by funext l; exact if_neg (by decide)
    rw [e]
    refine law_map (law_seq (law_num 512 (by decide)) fun x _ => law_num 32768 (by decide)) _ _ _ (fun z hz => ⟨Or.inr ⟨rfl, rfl, hz.1, hz.2⟩, ?_⟩) ?_
    · exact if_neg (by simp)
    · rintro ⟨k, a, b⟩ (⟨h0, _⟩ | ⟨_, hk, ha, hb⟩)
      · cases h0
      · exact ⟨(a, b), ⟨ha, hb⟩, by simp only at hk ⊢; rw [hk]⟩
theorem law_ref : Law pRef refRead refL := by
  refine law_map (law_seq (law_seq (law_num 1 (by decide)) law_head) fun _ _ => law_num 32768 (by decide)) _ _ _ ?_ ?_
  · rintro ⟨⟨t, k, a, b⟩, n⟩ ⟨⟨ht, h⟩, hn⟩
    simp only at ht h hn ⊢
    rcases h with ⟨rfl, hk, h0⟩ | ⟨rfl, hk, ha, hb⟩
    · obtain ⟨rfl, rfl⟩ := Prod.mk.inj h0
      refine ⟨⟨Or.inl ⟨hk, rfl, rfl⟩, hn⟩, ?_⟩
      have hne : k ≠ noKey := fun h0 => noKey_not (h0 ▸ hk)
      rw [refL, if_pos hne, if_pos hne, num_1]
      rfl
    · subst hk
      refine ⟨⟨Or.inr ⟨rfl, ha, hb⟩, hn⟩, ?_⟩
      rw [refL, if_neg (by simp), if_neg (by simp), num_0]
      rfl
  · rintro ⟨k, a, b, n⟩ ⟨h, hn⟩
    rcases h with ⟨hk, ha, hb⟩ | ⟨hk, ha, hb⟩
    · exact ⟨((1, k, a, b), n), ⟨⟨by show within 1 0 1; decide, Or.inl ⟨rfl, hk, by simp only at ha hb ⊢; rw [ha, hb]⟩⟩, hn⟩, rfl⟩
    · exact ⟨((0, k, a, b), n), ⟨⟨by show within 0 0 1; decide, Or.inr ⟨rfl, hk, ha, hb⟩⟩, hn⟩, rfl⟩

section
variable (lt : ByteArray → ByteArray → Bool) (nameOk : ByteArray → Prop)
def okRef (x : RefP) : Prop := (keyOk x.key ∧ x.lower = 0 ∧ x.off = 0 ∧ within x.n 1 2048) ∨ (x.key = noKey ∧ within x.lower 1 512 ∧ within x.off 0 32768 ∧ within x.n 1 32768)
theorem refRead_of (x : RefP) (h : okRef x) : refRead x := by
  rcases h with ⟨h1, h2, h3, h4⟩ | ⟨h1, h2, h3, h4⟩
  · exact ⟨Or.inl ⟨h1, h2, h3⟩, by unfold within at *; omega⟩
  · exact ⟨Or.inr ⟨h1, by unfold within at *; omega, h3⟩, by unfold within at *; omega⟩
/-- a node: may it be? -/
structure OkMeta (m : MetaP) : Prop where
  kind : within m.kind 1 3
  mode : within m.mode 0 4095
  links : within m.links 0 64
  size : within m.size 0 32768
  target : if m.kind = 3 then 1 ≤ m.target.size ∧ m.target.size ≤ 1000 ∧ 0 ∉ m.target.data.toList else m.target = noKey
  most : m.attrs.length ≤ 8
  values : ∀ a ∈ m.attrs, a.2.length ≤ 256
  names : ∀ a ∈ m.attrs, nameOk a.1
  rising : SU lt (m.attrs.map (·.1))
  many : m.refs.length ≤ 128
  refs : ∀ x ∈ m.refs, okRef x
  sum : (m.refs.map (·.n)).sum = m.size
  link : m.kind = 3 → m.size = 0
def attrL (a : ByteArray × List UInt8) : List UInt8 := textL a.1 ++ dataL a.2
def metaL (m : MetaP) : List UInt8 := numL m.kind ++ (numL m.mode ++ (numL m.links ++ (numL m.size ++ (textL m.target ++ (manyL attrL m.attrs ++ manyL refL m.refs)))))
def pAttr : List UInt8 → Option ((ByteArray × List UInt8) × List UInt8) := pSeq (pText 100) fun _ => pData 256
theorem law_attr : Law pAttr (fun a => a.1.data.toList.length ≤ 100 ∧ a.2.length ≤ 256) attrL := law_seq (law_text 100 (by decide)) fun _ _ => law_data 256 (by decide)
def pMeta : List UInt8 → Option (MetaP × List UInt8) :=
  pMap (fun z : Int × Int × Int × Int × ByteArray × List (ByteArray × List UInt8) × List RefP => (⟨z.1, z.2.1, z.2.2.1, z.2.2.2.1, z.2.2.2.2.1, z.2.2.2.2.2.1, z.2.2.2.2.2.2⟩ : MetaP))
    (pSeq (pNum 3) fun _ => pSeq (pNum 4095) fun _ => pSeq (pNum 64) fun _ => pSeq (pNum 32768) fun _ => pSeq (pText 1000) fun _ => pSeq (pMany 8 pAttr) fun _ => pMany 128 pRef)
def metaRead (m : MetaP) : Prop := within m.kind 0 3 ∧ within m.mode 0 4095 ∧ within m.links 0 64 ∧ within m.size 0 32768 ∧ m.target.data.toList.length ≤ 1000 ∧ (m.attrs.length ≤ 8 ∧ ∀ a ∈ m.attrs, a.1.data.toList.length ≤ 100 ∧ a.2.length ≤ 256) ∧ (m.refs.length ≤ 128 ∧ ∀ x ∈ m.refs, refRead x)
theorem law_meta : Law pMeta metaRead metaL := by
  refine law_map (law_seq (law_num 3 (by decide)) fun _ _ => law_seq (law_num 4095 (by decide)) fun _ _ => law_seq (law_num 64 (by decide)) fun _ _ => law_seq (law_num 32768 (by decide)) fun _ _ => law_seq (law_text 1000 (by decide)) fun _ _ => law_seq (law_many law_attr 8 (by decide)) fun _ _ => law_many law_ref 128 (by decide)) _ _ _ ?_ ?_
  · rintro ⟨k, a, b, c, d, e, f⟩ h
    exact ⟨h, rfl⟩
  · rintro ⟨k, a, b, c, d, e, f⟩ h
    exact ⟨(k, a, b, c, d, e, f), h, rfl⟩
theorem metaRead_of (hn : ∀ s, nameOk s → s.data.toList.length ≤ 100) (m : MetaP) (h : OkMeta lt nameOk m) : metaRead m := by
  have hk := h.kind
  refine ⟨by unfold within at *; omega, h.mode, h.links, h.size, ?_, ⟨h.most, fun a ha => ⟨hn _ (h.names a ha), h.values a ha⟩⟩, ⟨h.many, fun x hx => refRead_of x (h.refs x hx)⟩⟩
  have ht := h.target
  split at ht
  · exact ht.2.1
  · rw [ht]; decide
open Classical in
/-- the node that bytes are -/
noncomputable def getMeta (l : List UInt8) : Option MetaP := whole pMeta (OkMeta lt nameOk) l
theorem getMeta_iff (hn : ∀ s, nameOk s → s.data.toList.length ≤ 100) (l : List UInt8) (m : MetaP) : getMeta lt nameOk l = some m ↔ OkMeta lt nameOk m ∧ metaL m = l := by
  classical
  exact whole_iff law_meta _ (metaRead_of lt nameOk hn) l m

/-- a listing: may it be? -/
structure OkList (x : ListP) : Prop where
  most : x.names.length ≤ 256
  names : ∀ s ∈ x.names, nameOk s
  rising : SU lt x.names
  same : x.nums.length = x.names.length
  nums : ∀ n ∈ x.nums, within n 0 1024
  opq : x.opq = true → 0 ∉ x.nums
def flagL (b : Bool) : List UInt8 := numL (if b = true then 1 else 0)
def pFlag : List UInt8 → Option (Bool × List UInt8) := pMap (fun x => decide (x = 1)) (pNum 1)
theorem law_flag : Law pFlag (fun _ => True) flagL := by
  refine law_map (law_num 1 (by decide)) _ _ _ ?_ ?_
  · intro x hx
    unfold within at hx
    rcases (show x = 0 ∨ x = 1 by omega) with rfl | rfl
    · exact ⟨trivial, rfl⟩
    · exact ⟨trivial, rfl⟩
  · intro b _
    cases b
    · exact ⟨0, by decide, rfl⟩
    · exact ⟨1, by decide, rfl⟩
def listL (x : ListP) : List UInt8 := flagL x.opq ++ (numL (x.names.length : Int) ++ (x.names.flatMap textL ++ x.nums.flatMap numL))
def pList : List UInt8 → Option (ListP × List UInt8) :=
  pMap (fun z : Bool × Int × List ByteArray × List Int => (⟨z.1, z.2.2.1, z.2.2.2⟩ : ListP))
    (pSeq pFlag fun _ => pSeq (pNum 256) fun n => pSeq (pRow (pText 100) n.toNat) fun _ => pRow (pNum 1024) n.toNat)
def listRead (x : ListP) : Prop := x.names.length ≤ 256 ∧ (∀ s ∈ x.names, s.data.toList.length ≤ 100) ∧ x.nums.length = x.names.length ∧ ∀ n ∈ x.nums, within n 0 1024
theorem law_list : Law pList listRead listL := by
  refine law_map (law_seq law_flag fun _ _ => law_seq (law_num 256 (by decide)) fun n _ => law_seq (law_row (law_text 100 (by decide)) n.toNat) fun _ _ => law_row (law_num 1024 (by decide)) n.toNat) _ _ _ ?_ ?_
  · rintro ⟨b, n, a, c⟩ ⟨_, h1, ⟨h2, h3⟩, h4, h5⟩
    simp only at h1 h2 h3 h4 h5 ⊢
    unfold within at h1
    refine ⟨⟨by show a.length ≤ 256; omega, h3, by show c.length = a.length; omega, h5⟩, ?_⟩
    show flagL b ++ (numL (a.length : Int) ++ _) = _
    rw [show ((a.length : Nat) : Int) = n by omega]
  · rintro ⟨b, a, c⟩ ⟨h1, h2, h3, h4⟩
    simp only at h1 h2 h3 h4
    exact ⟨(b, (a.length : Int), a, c), ⟨trivial, by unfold within; simp only; omega, ⟨by simp only; omega, h2⟩, by simp only; omega, h4⟩, rfl⟩
open Classical in
noncomputable def getList (l : List UInt8) : Option ListP := whole pList (OkList lt nameOk) l
theorem getList_iff (hn : ∀ s, nameOk s → s.data.toList.length ≤ 100) (l : List UInt8) (x : ListP) : getList lt nameOk l = some x ↔ OkList lt nameOk x ∧ listL x = l := by
  classical
  exact whole_iff law_list _ (fun x h => ⟨h.most, fun s hs => hn s (h.names s hs), h.same, h.nums⟩) l x
end
/-- rising numbers -/
def ltI (a b : Int) : Bool := decide (a < b)
structure OkPage (x : PageP) : Prop where
  most : x.nums.length ≤ 32
  same : x.keys.length = x.nums.length
  nums : ∀ n ∈ x.nums, within n 1 1024
  rising : SU ltI x.nums
  keys : ∀ k ∈ x.keys, keyOk k
def pageL (x : PageP) : List UInt8 := numL (x.nums.length : Int) ++ (x.nums.flatMap numL ++ x.keys.flatMap keyL)
def pPage : List UInt8 → Option (PageP × List UInt8) :=
  pMap (fun z : Int × List Int × List ByteArray => (⟨z.2.1, z.2.2⟩ : PageP)) (pSeq (pNum 32) fun n => pSeq (pRow (pNum 1024) n.toNat) fun _ => pRow pKey n.toNat)
def pageRead (x : PageP) : Prop := x.nums.length ≤ 32 ∧ (∀ n ∈ x.nums, within n 0 1024) ∧ x.keys.length = x.nums.length ∧ ∀ k ∈ x.keys, keyOk k
theorem law_page : Law pPage pageRead pageL := by
  refine law_map (law_seq (law_num 32 (by decide)) fun n _ => law_seq (law_row (law_num 1024 (by decide)) n.toNat) fun _ _ => law_row law_key n.toNat) _ _ _ ?_ ?_
  · rintro ⟨n, a, c⟩ ⟨h1, ⟨h2, h3⟩, h4, h5⟩
    simp only at h1 h2 h3 h4 h5 ⊢
    unfold within at h1
    refine ⟨⟨by show a.length ≤ 32; omega, h3, by show c.length = a.length; omega, h5⟩, ?_⟩
    show numL (a.length : Int) ++ _ = _
    rw [show ((a.length : Nat) : Int) = n by omega]
  · rintro ⟨a, c⟩ ⟨h1, h2, h3, h4⟩
    simp only at h1 h2 h3 h4
    exact ⟨((a.length : Int), a, c), ⟨by unfold within; simp only; omega, ⟨by simp only; omega, h2⟩, by simp only; omega, h4⟩, rfl⟩
open Classical in
noncomputable def getPage (l : List UInt8) : Option PageP := whole pPage OkPage l
theorem getPage_iff (l : List UInt8) (x : PageP) : getPage l = some x ↔ OkPage x ∧ pageL x = l := by
  classical
  exact whole_iff law_page _ (fun x h => ⟨h.most, fun n hn => by have := h.nums n hn; unfold within at *; omega, h.same, h.keys⟩) l x
structure OkRoot (x : RootP) : Prop where
  next : within x.next 1 1025
  most : x.pages.length ≤ 64
  keys : ∀ k ∈ x.pages, keyOk k
def rootL (x : RootP) : List UInt8 := numL x.next ++ manyL keyL x.pages
def pRoot : List UInt8 → Option (RootP × List UInt8) := pMap (fun z : Int × List ByteArray => (⟨z.1, z.2⟩ : RootP)) (pSeq (pNum 1025) fun _ => pMany 64 pKey)
theorem law_root : Law pRoot (fun x => within x.next 0 1025 ∧ x.pages.length ≤ 64 ∧ ∀ k ∈ x.pages, keyOk k) rootL := by
  refine law_map (law_seq (law_num 1025 (by decide)) fun _ _ => law_many law_key 64 (by decide)) _ _ _ ?_ ?_
  · rintro ⟨n, a⟩ h
    exact ⟨h, rfl⟩
  · rintro ⟨n, a⟩ h
    exact ⟨(n, a), h, rfl⟩
open Classical in
noncomputable def getRoot (l : List UInt8) : Option RootP := whole pRoot OkRoot l
theorem getRoot_iff (l : List UInt8) (x : RootP) : getRoot l = some x ↔ OkRoot x ∧ rootL x = l := by
  classical
  exact whole_iff law_root _ (fun x h => ⟨by have := h.next; unfold within at *; omega, h.most, h.keys⟩) l x

/-- how many bytes a number has at most -/
theorem num_len (x : Int) (k : Nat) (hk : 1 ≤ k) (h1 : k ≤ 9) (h : x.toNat < 128 ^ k) : (numL x).length ≤ k := by
  have h64 : x.toNat < 18446744073709551616 := Nat.lt_of_lt_of_le h (Nat.le_trans (Nat.pow_le_pow_right (by decide) h1) (by decide))
  rcases Nat.lt_or_ge k (putL x.toNat).length with h2 | h2
  · exfalso
    have h3 := (putL_pow x.toNat h64).2 (by omega)
    have h4 : 128 ^ k ≤ 128 ^ ((putL x.toNat).length - 1) := Nat.pow_le_pow_right (by decide) (by omega)
    omega
  · exact h2
theorem flat_len {α : Type} (e : α → List UInt8) (xs : List α) (k : Nat) (h : ∀ x ∈ xs, (e x).length ≤ k) : (xs.flatMap e).length ≤ xs.length * k := by
  induction xs with
  | nil => simp
  | cons x r ih =>
    rw [List.flatMap_cons, List.length_append, List.length_cons, Nat.succ_mul]
    have h1 := h x List.mem_cons_self
    have h2 := ih fun z hz => h z (List.mem_cons_of_mem _ hz)
    omega
theorem data_len (d : List UInt8) (k : Nat) (h : d.length ≤ k) (hk : k < 16384) : (dataL d).length ≤ 2 + k := by
  rw [dataL, List.length_append]
  have := num_len (d.length : Int) 2 (by omega) (by omega) (by rw [Int.toNat_natCast]; show d.length < 16384; omega)
  rw [numL, Int.toNat_natCast] at this
  omega
theorem data_len1 (d : List UInt8) (k : Nat) (h : d.length ≤ k) (hk : k < 128) : (dataL d).length ≤ 1 + k := by
  rw [dataL, List.length_append]
  have := num_len (d.length : Int) 1 (by omega) (by omega) (by rw [Int.toNat_natCast]; show d.length < 128; omega)
  rw [numL, Int.toNat_natCast] at this
  omega
theorem ref_len (x : RefP) (h : okRef x) : (refL x).length ≤ 35 := by
  rw [refL, List.length_append]
  rcases h with ⟨h1, h2, h3, h4⟩ | ⟨h1, h2, h3, h4⟩
  · have hne : x.key ≠ noKey := fun h0 => noKey_not (h0 ▸ h1)
    rw [if_pos hne, List.length_cons, (key_of x.key h1).1]
    unfold within at h4
    have := num_len x.n 2 (by omega) (by omega) (by show x.n.toNat < 16384; omega)
    omega
  · rw [if_neg (by simp [h1]), List.length_cons, List.length_append]
    unfold within at h2 h3 h4
    have a1 := num_len x.lower 2 (by omega) (by omega) (by show x.lower.toNat < 16384; omega)
    have a2 := num_len x.off 3 (by omega) (by omega) (by show x.off.toNat < 2097152; omega)
    have a3 := num_len x.n 3 (by omega) (by omega) (by show x.n.toNat < 2097152; omega)
    omega
theorem sum_pos (l : List RefP) (h : ∀ x ∈ l, okRef x) : (l.length : Int) ≤ (l.map (·.n)).sum := by
  induction l with
  | nil => simp
  | cons x r ih =>
    have h1 := ih fun z hz => h z (List.mem_cons_of_mem _ hz)
    have h2 : 1 ≤ x.n := by
      rcases h x List.mem_cons_self with ⟨_, _, _, h4⟩ | ⟨_, _, _, h4⟩ <;> exact h4.1
    rw [List.map_cons, List.sum_cons, List.length_cons]
    omega
section
variable (lt : ByteArray → ByteArray → Bool) (nameOk : ByteArray → Prop)
/-- A NODE FITS A RECORD -/
theorem meta_len (hn : ∀ s, nameOk s → s.data.toList.length ≤ 100) (m : MetaP) (h : OkMeta lt nameOk m) : (metaL m).length ≤ 8192 := by
  have k := h.kind
  have a := h.mode
  have b := h.links
  have c := h.size
  unfold within at k a b c
  have l1 := num_len m.kind 1 (by omega) (by omega) (by show m.kind.toNat < 128; omega)
  have l2 := num_len m.mode 2 (by omega) (by omega) (by show m.mode.toNat < 16384; omega)
  have l3 := num_len m.links 1 (by omega) (by omega) (by show m.links.toNat < 128; omega)
  have l4 := num_len m.size 3 (by omega) (by omega) (by show m.size.toNat < 2097152; omega)
  have hm := h.most
  have l5 := num_len (m.attrs.length : Int) 1 (by omega) (by omega) (by rw [Int.toNat_natCast]; show m.attrs.length < 128; omega)
  have l6 := flat_len attrL m.attrs 359 fun x hx => by
    have h1 := hn _ (h.names x hx)
    have h2 := h.values x hx
    rw [attrL, List.length_append]
    have a1 := data_len1 x.1.data.toList 100 h1 (by omega)
    have a2 := data_len x.2 256 h2 (by omega)
    rw [textL]
    omega
  have hr := h.many
  have l7 := num_len (m.refs.length : Int) 2 (by omega) (by omega) (by rw [Int.toNat_natCast]; show m.refs.length < 16384; omega)
  have l8 := flat_len refL m.refs 35 fun x hx => ref_len x (h.refs x hx)
  have ht := h.target
  unfold metaL manyL
  simp only [List.length_append]
  split at ht
  · rename_i h3
    have l9 := data_len m.target.data.toList 1000 ht.2.1 (by omega)
    have hs := sum_pos m.refs h.refs
    rw [h.sum, h.link h3] at hs
    rw [textL]
    omega
  · have l9 : (textL m.target).length ≤ 1 := by rw [ht]; decide
    omega
/-- A LISTING FITS A FILE -/
theorem list_len (hn : ∀ s, nameOk s → s.data.toList.length ≤ 100) (x : ListP) (h : OkList lt nameOk x) : (listL x).length ≤ 32768 := by
  have hm := h.most
  have hs := h.same
  have l1 : (flagL x.opq).length ≤ 1 := by cases x.opq <;> decide
  have l2 := num_len (x.names.length : Int) 2 (by omega) (by omega) (by rw [Int.toNat_natCast]; show x.names.length < 16384; omega)
  have l3 := flat_len textL x.names 101 fun s hs => by
    have := data_len1 s.data.toList 100 (hn s (h.names s hs)) (by omega)
    rw [textL]
    omega
  have l4 := flat_len numL x.nums 2 fun n hn => by
    have := h.nums n hn
    unfold within at this
    exact num_len n 2 (by omega) (by omega) (by show n.toNat < 16384; omega)
  unfold listL
  simp only [List.length_append]
  omega
end
theorem page_len (x : PageP) (h : OkPage x) : (pageL x).length ≤ 8192 := by
  have hm := h.most
  have hs := h.same
  have l1 := num_len (x.nums.length : Int) 1 (by omega) (by omega) (by rw [Int.toNat_natCast]; show x.nums.length < 128; omega)
  have l2 := flat_len numL x.nums 2 fun n hn => by
    have := h.nums n hn
    unfold within at this
    exact num_len n 2 (by omega) (by omega) (by show n.toNat < 16384; omega)
  have l3 := flat_len keyL x.keys 32 fun k hk => by rw [(key_of k (h.keys k hk)).1]; omega
  unfold pageL
  simp only [List.length_append]
  omega
theorem root_len (x : RootP) (h : OkRoot x) : (rootL x).length ≤ 8192 := by
  have hm := h.most
  have hx := h.next
  unfold within at hx
  have l1 := num_len x.next 2 (by omega) (by omega) (by show x.next.toNat < 16384; omega)
  have l2 := num_len (x.pages.length : Int) 1 (by omega) (by omega) (by rw [Int.toNat_natCast]; show x.pages.length < 128; omega)
  have l3 := flat_len keyL x.pages 32 fun k hk => by rw [(key_of k (h.keys k hk)).1]; omega
  unfold rootL manyL
  simp only [List.length_append]
  omega
end Go.Proofs.YtcgbaiogbcodcaaGreatDoor.Sh
