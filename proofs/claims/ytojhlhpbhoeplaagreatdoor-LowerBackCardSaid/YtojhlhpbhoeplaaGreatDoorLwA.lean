/-
  A row of inodes as memory holds it, to be read; and the contract of lower's checkInodes. Conditions: each law's own.
-/
import Derived.Test.YtojhlhpbhoeplaaGreatDoorPo
import Derived.Test.YtojhlhpbhoeplaaGreatDoorProg
import Derived.ProofKit
import Derived.WalkKit
import Derived.Below
import Derived.Lib.Hide
import Derived.LaidEql
import Derived.Stop.Asserts
import Derived.RowKitTokens
import Derived.Test.YtojhlhpbhoeplaaGreatDoorOl
import Derived.Lib.SlBytesConst
import Derived.Test.YtojhlhpbhoeplaaGreatDoorShc
import Derived.WalkSmall
import Derived.Lib.AppendIntMem
import Derived.Lib.ItoaLen
namespace Go.Proofs.YtojhlhpbhoeplaaGreatDoor.Lw

section
variable (nu : Int → List Int)
/-- what is met on the ways from 1 -/
inductive Reach : Int → Prop
  | one : Reach 1
  | step {i x : Int} : Reach i → x ∈ nu i → Reach x
/-- in how many places x stands in these -/
def cntD (D : List Int) (x : Int) : Nat := (D.map fun d => (nu d).count x).sum
def first (x : Int) : Nat := if x = 1 then 1 else 0
theorem cntD_nil (x : Int) : cntD nu [] x = 0 := rfl
theorem cntD_snoc (D : List Int) (i x : Int) : cntD nu (D ++ [i]) x = cntD nu D x + (nu i).count x := by
  simp [cntD, List.sum_append]
theorem cntD_perm {D E : List Int} (h : D.Perm E) (x : Int) : cntD nu D x = cntD nu E x := List.Perm.sum_nat (h.map _)
theorem cntD_mem {D : List Int} {i x : Int} (h : i ∈ D) (hx : x ∈ nu i) : 1 ≤ cntD nu D x := by
  induction D with
  | nil => cases h
  | cons d r ih =>
    have e : cntD nu (d :: r) x = (nu d).count x + cntD nu r x := by simp [cntD]
    rw [e]
    rcases List.mem_cons.1 h with rfl | h
    · have := List.count_pos_iff.2 hx
      omega
    · have := ih h
      omega
theorem cntD_none {D : List Int} {x : Int} (h : ∀ i ∈ D, x ∉ nu i) : cntD nu D x = 0 := by
  induction D with
  | nil => rfl
  | cons d r ih =>
    have e : cntD nu (d :: r) x = (nu d).count x + cntD nu r x := by simp [cntD]
    rw [e, ih fun i hi => h i (List.mem_cons_of_mem _ hi), List.count_eq_zero.2 (h d List.mem_cons_self)]
/-- what a count says: met from the first one on, in how many places -/
def Meets (m : Int → Nat) : Prop := ∃ D : List Int, D.Nodup ∧ (∀ x, x ∈ D ↔ Reach nu x) ∧ ∀ x, m x = first x + cntD nu D x
theorem meets_unique {m m' : Int → Nat} (h : Meets nu m) (h' : Meets nu m') : m = m' := by
  obtain ⟨D, d1, d2, d3⟩ := h
  obtain ⟨E, e1, e2, e3⟩ := h'
  have hp : D.Perm E := (List.perm_ext_iff_of_nodup d1 e1).2 fun x => (d2 x).trans (e2 x).symm
  funext x
  rw [d3, e3, cntD_perm nu hp]
theorem meets_reach {m : Int → Nat} (h : Meets nu m) (x : Int) : 1 ≤ m x ↔ Reach nu x := by
  obtain ⟨D, d1, d2, d3⟩ := h
  rw [d3]
  constructor
  · intro h
    by_cases h1 : x = 1
    · rw [h1]; exact Reach.one
    · have h2 : first x = 0 := if_neg h1
      rw [h2] at h
      apply Classical.byContradiction
      intro hn
      have := cntD_none nu (D := D) (x := x) fun i hi hx => hn (Reach.step ((d2 i).1 hi) hx)
      omega
  · intro h
    cases h with
    | one => show 1 ≤ first 1 + _; have : first 1 = 1 := rfl; omega
    | step h1 h2 => have := cntD_mem nu ((d2 _).2 h1) h2; omega
/-- the walk between two rounds: gone through, and still to go through -/
structure Way (m : Int → Nat) (D Q : List Int) : Prop where
  cnt : ∀ x, m x = first x + cntD nu D x
  nod : (D ++ Q).Nodup
  met : ∀ x, 1 ≤ m x ↔ x ∈ D ++ Q
  rch : ∀ x ∈ D ++ Q, Reach nu x
/-- the walk within a round: p of i's are met -/
structure Within (m : Int → Nat) (D : List Int) (i : Int) (p Q : List Int) : Prop where
  cnt : ∀ x, m x = first x + cntD nu D x + p.count x
  nod : (D ++ i :: Q).Nodup
  met : ∀ x, 1 ≤ m x ↔ x ∈ D ++ i :: Q
  rch : ∀ x ∈ D ++ i :: Q, Reach nu x
theorem way_start : Way nu first [] [1] where
  cnt x := by simp [cntD_nil]
  nod := by simp
  met x := by
    unfold first
    by_cases h : x = 1 <;> simp [h]
  rch x hx := by
    simp at hx
    rw [hx]
    exact Reach.one
theorem Way.enter {m : Int → Nat} {D Q : List Int} {i : Int} (h : Way nu m D (i :: Q)) : Within nu m D i [] Q where
  cnt x := by rw [h.cnt x]; simp
  nod := h.nod
  met := h.met
  rch := h.rch
theorem Within.leave {m : Int → Nat} {D Q : List Int} {i : Int} (h : Within nu m D i (nu i) Q) : Way nu m (D ++ [i]) Q where
  cnt x := by rw [h.cnt x, cntD_snoc]; omega
  nod := by have := h.nod; simpa using this
  met x := by have := h.met x; simpa using this
  rch x hx := h.rch x (by simpa using hx)
def upd (m : Int → Nat) (a : Int) (v : Nat) (x : Int) : Nat := if x = a then v else m x
theorem Within.more {m : Int → Nat} {D Q p : List Int} {i a : Int} (h : Within nu m D i p Q) (ha : a ∈ nu i) (h0 : 1 ≤ m a) : Within nu (upd m a (m a + 1)) D i (p ++ [a]) Q where
  cnt x := by
    unfold upd
    rw [List.count_append]
    by_cases hx : x = a
    · subst hx
      rw [if_pos rfl, h.cnt x]
      simp
      omega
    · rw [if_neg hx, h.cnt x]
      rw [List.count_eq_zero.2 (by simpa using hx : x ∉ [a])]
      omega
  nod := h.nod
  met x := by
    unfold upd
    by_cases hx : x = a
    · subst hx
      rw [if_pos rfl, ← h.met x]
      omega
    · rw [if_neg hx, h.met x]
  rch := h.rch
theorem Within.fresh {m : Int → Nat} {D Q p : List Int} {i a : Int} (h : Within nu m D i p Q) (ha : a ∈ nu i) (h0 : m a = 0) : Within nu (upd m a (m a + 1)) D i (p ++ [a]) (Q ++ [a]) where
  cnt x := by
    unfold upd
    rw [List.count_append]
    by_cases hx : x = a
    · subst hx
      rw [if_pos rfl, h.cnt x]
      simp
      omega
    · rw [if_neg hx, h.cnt x]
      rw [List.count_eq_zero.2 (by simpa using hx : x ∉ [a])]
      omega
  nod := by
    have hn : a ∉ D ++ i :: Q := fun hm => by
      have := (h.met a).2 hm
      omega
    have e : D ++ i :: (Q ++ [a]) = (D ++ i :: Q) ++ [a] := by simp
    rw [e, List.nodup_append]
    refine ⟨h.nod, by simp, fun b hb c hc => ?_⟩
    rw [List.mem_singleton] at hc
    subst hc
    intro e
    subst e
    exact hn hb
  met x := by
    unfold upd
    have e : D ++ i :: (Q ++ [a]) = (D ++ i :: Q) ++ [a] := by simp
    rw [e, List.mem_append]
    by_cases hx : x = a
    · subst hx
      rw [if_pos rfl]
      simp
    · rw [if_neg hx, h.met x]
      simp [hx]
  rch x hx := by
    have e : D ++ i :: (Q ++ [a]) = (D ++ i :: Q) ++ [a] := by simp
    rw [e, List.mem_append] at hx
    rcases hx with hx | hx
    · exact h.rch x hx
    · rw [List.mem_singleton] at hx
      subst hx
      exact Reach.step (h.rch i (by simp)) ha
theorem Way.done {m : Int → Nat} {D : List Int} (h : Way nu m D []) : Meets nu m := by
  refine ⟨D, by have := h.nod; simpa using this, fun x => ⟨fun hx => h.rch x (by simpa using hx), fun hx => ?_⟩, h.cnt⟩
  induction hx with
  | one =>
    have := (h.met 1).1 (by rw [h.cnt]; have : first 1 = 1 := rfl; omega)
    simpa using this
  | @step i x h1 h2 ih =>
    have := (h.met x).1 (by have := cntD_mem nu ih h2; rw [h.cnt]; omega)
    simpa using this
/-- the numbers 1 to n -/
def upto (n : Nat) : List Int := (List.range n).map fun k : Nat => (k : Int) + 1
theorem mem_upto {n : Nat} {x : Int} : x ∈ upto n ↔ 1 ≤ x ∧ x ≤ n := by
  unfold upto
  rw [List.mem_map]
  constructor
  · rintro ⟨k, hk, rfl⟩
    rw [List.mem_range] at hk
    omega
  · rintro ⟨h1, h2⟩
    exact ⟨(x - 1).toNat, List.mem_range.2 (by omega), by omega⟩
theorem nodup_upto (n : Nat) : (upto n).Nodup := by
  unfold upto
  have h : ∀ k, ((List.range k).map fun k : Nat => (k : Int) + 1).Nodup := fun k => by
    induction k with
    | zero => simp
    | succ k ih =>
      rw [List.range_succ, List.map_append, List.nodup_append]
      refine ⟨ih, by simp, fun a ha b hb => ?_⟩
      rw [List.mem_map] at ha
      obtain ⟨j, hj, rfl⟩ := ha
      rw [List.mem_range] at hj
      simp at hb
      omega
  exact h n
theorem len_upto (n : Nat) : (upto n).length = n := by simp [upto]
/-- the walk has at most so many steps -/
theorem Way.steps {m : Int → Nat} {D Q : List Int} {n : Nat} (h : Way nu m D Q) (hn : ∀ x, Reach nu x → 1 ≤ x ∧ x ≤ (n : Int)) : D.length + Q.length ≤ n := by
  have := h.nod.length_le_of_subset (l₂ := upto n) fun x hx => mem_upto.2 (hn x (h.rch x hx))
  rw [List.length_append, len_upto] at this
  exact this
/-- where all are reached, what is met is the places of all -/
theorem meets_all {m : Int → Nat} {n : Nat} (h : Meets nu m) (h1 : ∀ x, Reach nu x ↔ 1 ≤ x ∧ x ≤ (n : Int)) (x : Int) : m x = first x + cntD nu (upto n) x := by
  obtain ⟨D, d1, d2, d3⟩ := h
  rw [d3, cntD_perm nu ((List.perm_ext_iff_of_nodup d1 (nodup_upto n)).2 fun x => by rw [d2, h1, mem_upto])]
end
end Go.Proofs.YtojhlhpbhoeplaaGreatDoor.Lw
namespace Go.Proofs.YtojhlhpbhoeplaaGreatDoor.Lw
open Go.Proofs.YtojhlhpbhoeplaaGreatDoor.Sh Go.Proofs.YtojhlhpbhoeplaaGreatDoor.Lb

structure InoP where
  num : Int
  kind : Int
  mode : Int
  links : Int
  data : List UInt8
  target : ByteArray
  names : List ByteArray
  nums : List Int
  attrs : List (ByteArray × List UInt8)
/-- what stands behind the attributes, by the kind -/
def tailL (k : Int) (t : List UInt8 × List ByteArray × List Int) : List UInt8 := if k = 1 then dataL t.1 else if k = 2 then manyL textL t.2.1 ++ t.2.2.flatMap numL else []
def pDir : List UInt8 → Option ((List ByteArray × List Int) × List UInt8) := pSeq (pMany 32768 (pText 32768)) fun ns => pRow (pNum 32768) ns.length
def pTail (k : Int) (l : List UInt8) : Option ((List UInt8 × List ByteArray × List Int) × List UInt8) :=
  if k = 1 then pMap (fun d => (d, ([] : List ByteArray), ([] : List Int))) (pData 32768) l
  else if k = 2 then pMap (fun z : List ByteArray × List Int => (([] : List UInt8), z.1, z.2)) pDir l
  else some (([], [], []), l)
def tailOk (k : Int) (t : List UInt8 × List ByteArray × List Int) : Prop :=
  (k = 1 ∧ t.1.length ≤ 32768 ∧ t.2.1 = [] ∧ t.2.2 = []) ∨ (k = 2 ∧ t.1 = [] ∧ (t.2.1.length ≤ 32768 ∧ (∀ s ∈ t.2.1, s.data.toList.length ≤ 32768)) ∧ t.2.2.length = t.2.1.length ∧ ∀ n ∈ t.2.2, Sh.within n 0 32768) ∨ (k ≠ 1 ∧ k ≠ 2 ∧ t = ([], [], []))
theorem law_dir : Law pDir (fun z => (z.1.length ≤ 32768 ∧ ∀ s ∈ z.1, s.data.toList.length ≤ 32768) ∧ z.2.length = z.1.length ∧ ∀ n ∈ z.2, Sh.within n 0 32768) (fun z => manyL textL z.1 ++ z.2.flatMap numL) :=
  law_seq (law_many (law_text 32768 (by decide)) 32768 (by decide)) fun ns _ => law_row (law_num 32768 (by decide)) ns.length
theorem law_tail (k : Int) : Law (pTail k) (tailOk k) (tailL k) := by
  by_cases h1 : k = 1
  · have e : pTail k = pMap (fun d => (d, ([] : List ByteArray), ([] : List Int))) (pData 32768) := by funext l; exact if_pos h1
    rw [e]
    refine law_map (law_data 32768 (by decide)) _ _ _ (fun d hd => ⟨Or.inl ⟨h1, hd, rfl, rfl⟩, by rw [tailL, if_pos h1]⟩) ?_
    rintro ⟨d, a, b⟩ (⟨_, hd, ha, hb⟩ | ⟨h2, _⟩ | ⟨h2, _⟩)
    · exact ⟨d, hd, by simp only at ha hb; rw [ha, hb]⟩
    · omega
    · exact absurd h1 h2
  · by_cases h2 : k = 2
    · have e : pTail k = pMap (fun z : List ByteArray × List Int => (([] : List UInt8), z.1, z.2)) pDir := by funext l; rw [pTail, if_neg h1, if_pos h2]
      rw [e]
      refine law_map law_dir _ _ _ (fun z hz => ⟨Or.inr (Or.inl ⟨h2, rfl, hz.1, hz.2.1, hz.2.2⟩), by rw [tailL, if_neg h1, if_pos h2]⟩) ?_
      rintro ⟨d, a, b⟩ (⟨h3, _⟩ | ⟨_, hd, h4, h5, h6⟩ | ⟨_, h3, _⟩)
      · exact absurd h3 h1
      · exact ⟨(a, b), ⟨h4, h5, h6⟩, by simp only at hd; rw [hd]⟩
      · exact absurd h2 h3
    · intro l t r
      have e : pTail k l = some (([], [], []), l) := by rw [pTail, if_neg h1, if_neg h2]
      rw [e, tailL, if_neg h1, if_neg h2]
      constructor
      · intro h
        simp only [Option.some.injEq, Prod.mk.injEq] at h
        obtain ⟨rfl, rfl⟩ := h
        exact ⟨Or.inr (Or.inr ⟨h1, h2, rfl⟩), rfl⟩
      · rintro ⟨⟨h3, _⟩ | ⟨h3, _⟩ | ⟨_, _, rfl⟩, rfl⟩
        · exact absurd h3 h1
        · exact absurd h3 h2
        · rfl
def inoL (x : InoP) : List UInt8 := numL x.kind ++ (numL x.mode ++ (textL x.target ++ (manyL attrL x.attrs ++ tailL x.kind (x.data, x.names, x.nums))))
def pAtt : List UInt8 → Option ((ByteArray × List UInt8) × List UInt8) := pSeq (pText 32768) fun _ => pData 32768
theorem law_att : Law pAtt (fun a => a.1.data.toList.length ≤ 32768 ∧ a.2.length ≤ 32768) attrL := law_seq (law_text 32768 (by decide)) fun _ _ => law_data 32768 (by decide)
def pIno : List UInt8 → Option (InoP × List UInt8) :=
  pMap (fun z : Int × Int × ByteArray × List (ByteArray × List UInt8) × List UInt8 × List ByteArray × List Int => (⟨0, z.1, z.2.1, 0, z.2.2.2.2.1, z.2.2.1, z.2.2.2.2.2.1, z.2.2.2.2.2.2, z.2.2.2.1⟩ : InoP))
    (pSeq (pNum 32768) fun k => pSeq (pNum 32768) fun _ => pSeq (pText 32768) fun _ => pSeq (pMany 32768 pAtt) fun _ => pTail k)
def inoRead (x : InoP) : Prop := x.num = 0 ∧ x.links = 0 ∧ Sh.within x.kind 0 32768 ∧ Sh.within x.mode 0 32768 ∧ x.target.data.toList.length ≤ 32768 ∧ (x.attrs.length ≤ 32768 ∧ ∀ a ∈ x.attrs, a.1.data.toList.length ≤ 32768 ∧ a.2.length ≤ 32768) ∧ tailOk x.kind (x.data, x.names, x.nums)
theorem law_ino : Law pIno inoRead inoL := by
  refine law_map (law_seq (law_num 32768 (by decide)) fun k _ => law_seq (law_num 32768 (by decide)) fun _ _ => law_seq (law_text 32768 (by decide)) fun _ _ => law_seq (law_many law_att 32768 (by decide)) fun _ _ => law_tail k) _ _ _ ?_ ?_
  · rintro ⟨k, m, t, a, d, ns, zs⟩ h
    exact ⟨⟨rfl, rfl, h⟩, rfl⟩
  · rintro ⟨nu, k, m, li, d, t, ns, zs, a⟩ ⟨h1, h2, h⟩
    simp only at h1 h2
    exact ⟨(k, m, t, a, d, ns, zs), h, by rw [h1, h2]⟩
def markL : List UInt8 := [80, 76, 76, 87]
def imgL (l : List InoP) : List UInt8 := markL ++ manyL inoL l
def pImg (b : List UInt8) : Option (List InoP × List UInt8) := if b.take 4 = markL then pMany 32768 pIno (b.drop 4) else none
theorem law_img : Law pImg (fun xs => xs.length ≤ 32768 ∧ ∀ x ∈ xs, inoRead x) imgL := by
  intro b xs r
  unfold pImg imgL
  constructor
  · intro h
    split at h
    · rename_i hm
      obtain ⟨h1, h2⟩ := (law_many law_ino 32768 (by decide) _ _ _).1 h
      exact ⟨h1, by rw [List.append_assoc, ← h2, ← hm, List.take_append_drop]⟩
    · cases h
  · rintro ⟨h1, rfl⟩
    rw [if_pos (by rfl)]
    exact (law_many law_ino 32768 (by decide) _ _ _).2 ⟨h1, rfl⟩

/-- who stands in a directory of this number -/
def numsAt (l : List InoP) (i : Int) : List Int := if 1 ≤ i then ((l[i.toNat - 1]?).map InoP.nums).getD [] else []
theorem numsAt_get {l : List InoP} {i : Nat} {x : InoP} (h : l[i]? = some x) : numsAt l ((i : Int) + 1) = x.nums := by
  unfold numsAt
  rw [if_pos (by omega), show ((i : Int) + 1).toNat - 1 = i by omega, h]
  rfl
theorem numsAt_congr {l l' : List InoP} (h : l.map InoP.nums = l'.map InoP.nums) : numsAt l = numsAt l' := by
  funext i
  unfold numsAt
  have e : ∀ j : Nat, (l[j]?).map InoP.nums = (l'[j]?).map InoP.nums := fun j => by rw [← List.getElem?_map, ← List.getElem?_map, h]
  rw [e]
theorem numsAt_mem {l : List InoP} {i z : Int} (h : z ∈ numsAt l i) : ∃ (j : Nat) (x : InoP), i = (j : Int) + 1 ∧ l[j]? = some x ∧ z ∈ x.nums := by
  unfold numsAt at h
  split at h
  · rename_i h1
    cases hx : l[i.toNat - 1]? with
    | none => rw [hx] at h; cases h
    | some x =>
      rw [hx] at h
      exact ⟨i.toNat - 1, x, by omega, hx, h⟩
  · cases h
section
variable (lt : ByteArray → ByteArray → Bool) (nm : ByteArray → Prop)
/-- an inode: may it be, one of n? -/
structure OkIno (n : Nat) (x : InoP) : Prop where
  node : OkMeta lt nm ⟨x.kind, x.mode, 0, 0, x.target, x.attrs, []⟩
  data : x.data.length ≤ 32768
  file : x.data ≠ [] → x.kind = 1
  list : OkList lt nm ⟨true, x.names, x.nums⟩
  most : x.names.length ≤ 128
  dir : x.names ≠ [] → x.kind = 2
  nums : ∀ z ∈ x.nums, z ≤ (n : Int)
structure OkInos (l : List InoP) (next : Int) : Prop where
  one : 1 ≤ l.length
  most : l.length ≤ 512
  next : next = (l.length : Int) + 1
  root : ∀ x, l[0]? = some x → x.kind = 2
  each : ∀ (i : Nat) (x : InoP), l[i]? = some x → x.num = (i : Int) + 1 ∧ OkIno lt nm l.length x
/-- each one's Links are right: in how many places it is met -/
def OkLinks (l : List InoP) (m : Int → Nat) : Prop := ∀ (i : Nat) (x : InoP), l[i]? = some x → 1 ≤ x.links ∧ x.links ≤ (if x.kind = 2 then 1 else 64) ∧ x.links = (m ((i : Int) + 1) : Int)
def OkFs (l : List InoP) (next : Int) : Prop := OkInos lt nm l next ∧ ∃ m, Meets (numsAt l) m ∧ OkLinks l m
variable {lt nm}
theorem OkIno.links {n : Nat} {x : InoP} (h : OkIno lt nm n x) (v : Int) (u : Int) : OkIno lt nm n { x with links := v, num := u } := ⟨h.node, h.data, h.file, h.list, h.most, h.dir, h.nums⟩
/-- nobody's numbers are out of 1 to n -/
theorem OkInos.range {l : List InoP} {next : Int} (h : OkInos lt nm l next) {i z : Int} (hz : z ∈ numsAt l i) : 1 ≤ z ∧ z ≤ (l.length : Int) := by
  obtain ⟨j, x, rfl, hx, hz⟩ := numsAt_mem hz
  obtain ⟨_, ho⟩ := h.each j x hx
  refine ⟨?_, ho.nums z hz⟩
  have h1 := ho.list.nums z hz
  have h2 := ho.list.opq rfl
  unfold Sh.within at h1
  rcases Int.lt_or_le z 1 with h3 | h3
  · have h0 : z = 0 := by omega
    subst h0
    exact absurd hz h2
  · exact h3
theorem OkInos.reach {l : List InoP} {next : Int} (h : OkInos lt nm l next) {z : Int} (hz : Reach (numsAt l) z) : 1 ≤ z ∧ z ≤ (l.length : Int) := by
  cases hz with
  | one => have := h.one; omega
  | step _ h2 => exact h.range h2
/-- as it is written: without Num and Links -/
def bare (x : InoP) : InoP := { x with num := 0, links := 0 }
def unlinked (x : InoP) : InoP := { x with links := 0 }
theorem bare_L (x : InoP) : inoL (bare x) = inoL x := rfl
def setNums (l : List InoP) : List InoP := l.mapIdx fun i x => { x with num := (i : Int) + 1 }
def setLinks (m : Int → Nat) (l : List InoP) : List InoP := l.mapIdx fun i x => { x with links := (m ((i : Int) + 1) : Int) }
theorem setNums_len (l : List InoP) : (setNums l).length = l.length := by simp [setNums]
theorem setLinks_len (m : Int → Nat) (l : List InoP) : (setLinks m l).length = l.length := by simp [setLinks]
theorem setNums_get (l : List InoP) (i : Nat) : (setNums l)[i]? = (l[i]?).map fun x => { x with num := (i : Int) + 1 } := by simp [setNums, List.getElem?_mapIdx]
theorem setLinks_get (m : Int → Nat) (l : List InoP) (i : Nat) : (setLinks m l)[i]? = (l[i]?).map fun x => { x with links := (m ((i : Int) + 1) : Int) } := by simp [setLinks, List.getElem?_mapIdx]
theorem map_nums_setLinks (m : Int → Nat) (l : List InoP) : (setLinks m l).map InoP.nums = l.map InoP.nums := by
  apply List.ext_getElem?
  intro i
  rw [List.getElem?_map, List.getElem?_map, setLinks_get, Option.map_map]
  rfl
theorem map_nums_setNums (l : List InoP) : (setNums l).map InoP.nums = l.map InoP.nums := by
  apply List.ext_getElem?
  intro i
  rw [List.getElem?_map, List.getElem?_map, setNums_get, Option.map_map]
  rfl
theorem okInos_setLinks {l : List InoP} {next : Int} (m : Int → Nat) (h : OkInos lt nm l next) : OkInos lt nm (setLinks m l) next where
  one := by rw [setLinks_len]; exact h.one
  most := by rw [setLinks_len]; exact h.most
  next := by rw [setLinks_len]; exact h.next
  root x hx := by
    rw [setLinks_get] at hx
    obtain ⟨y, hy, rfl⟩ := Option.map_eq_some_iff.1 hx
    exact h.root y hy
  each i x hx := by
    rw [setLinks_get] at hx
    obtain ⟨y, hy, rfl⟩ := Option.map_eq_some_iff.1 hx
    rw [setLinks_len]
    exact ⟨(h.each i y hy).1, (h.each i y hy).2.links _ _⟩
theorem inoL_flat {l l' : List InoP} (h : l.map bare = l'.map bare) : imgL l = imgL l' := by
  have e : ∀ k : List InoP, k.flatMap inoL = (k.map bare).flatMap inoL := fun k => by rw [List.flatMap_map]; rfl
  have hl : l.length = l'.length := by have := congrArg List.length h; simpa using this
  unfold imgL manyL
  rw [e l, e l', h, hl]
/-- what a file system's bytes are read as -/
theorem okIno_read (hn : ∀ s, nm s → s.data.toList.length ≤ 100) {n : Nat} {x : InoP} (h : OkIno lt nm n x) : inoRead (bare x) := by
  have hk := h.node.kind
  have hm := h.node.mode
  unfold Sh.within at hk hm
  simp only at hk hm
  refine ⟨rfl, rfl, by unfold Sh.within bare; simp only; omega, by unfold Sh.within bare; simp only; omega, ?_, ⟨?_, fun a ha => ⟨?_, ?_⟩⟩, ?_⟩
  · have ht := h.node.target
    show x.target.data.toList.length ≤ 32768
    split at ht
    · have e : x.target.data.toList.length = x.target.size := Array.length_toList
      have := ht.2.1
      simp only at this
      omega
    · simp only at ht; rw [ht]; decide
  · have := h.node.most
    show x.attrs.length ≤ 32768
    simp only at this
    omega
  · have := hn a.1 (h.node.names a ha)
    omega
  · have := h.node.values a ha
    omega
  · show tailOk x.kind (x.data, x.names, x.nums)
    have hs := h.list.same
    simp only at hs
    by_cases h1 : x.kind = 1
    · have hn0 : x.names = [] := Classical.byContradiction fun hc => by have := h.dir hc; omega
      have hz0 : x.nums = [] := by rw [hn0] at hs; exact List.eq_nil_of_length_eq_zero hs
      exact Or.inl ⟨h1, h.data, hn0, hz0⟩
    · have hd0 : x.data = [] := Classical.byContradiction fun hc => h1 (h.file hc)
      by_cases h2 : x.kind = 2
      · have := h.most
        refine Or.inr (Or.inl ⟨h2, hd0, ⟨by show x.names.length ≤ 32768; omega, fun s hs => ?_⟩, hs, fun z hz => ?_⟩)
        · have := hn s (h.list.names s hs)
          omega
        · have := h.list.nums z hz
          unfold Sh.within at *
          omega
      · have hn0 : x.names = [] := Classical.byContradiction fun hc => h2 (h.dir hc)
        have hz0 : x.nums = [] := by rw [hn0] at hs; exact List.eq_nil_of_length_eq_zero hs
        exact Or.inr (Or.inr ⟨h1, h2, by rw [hd0, hn0, hz0]⟩)
theorem img_bare (l : List InoP) : imgL (l.map bare) = imgL l := inoL_flat (by rw [List.map_map]; rfl)
theorem okFs_parse (hn : ∀ s, nm s → s.data.toList.length ≤ 100) {l : List InoP} {next : Int} (h : OkFs lt nm l next) (r : List UInt8) : pImg (imgL l ++ r) = some (l.map bare, r) := by
  refine (law_img _ _ _).2 ⟨⟨?_, fun x hx => ?_⟩, by rw [img_bare]⟩
  · rw [List.length_map]
    have := h.1.most
    omega
  · obtain ⟨y, hy, rfl⟩ := List.mem_map.1 hx
    obtain ⟨i, hi⟩ := List.getElem?_of_mem hy
    exact okIno_read hn (h.1.each i y hi).2
theorem numbered {l : List InoP} {next : Int} (h : OkInos lt nm l next) : setNums (l.map bare) = l.map unlinked := by
  apply List.ext_getElem?
  intro i
  rw [setNums_get, List.getElem?_map, List.getElem?_map, Option.map_map]
  cases hx : l[i]? with
  | none => rfl
  | some x =>
    have := (h.each i x hx).1
    simp only [Option.map_some, Function.comp_apply, Option.some.injEq]
    unfold bare unlinked
    rw [← this]
theorem linked {l : List InoP} {m : Int → Nat} (h : OkLinks l m) : setLinks m (l.map unlinked) = l := by
  apply List.ext_getElem?
  intro i
  rw [setLinks_get, List.getElem?_map, Option.map_map]
  cases hx : l[i]? with
  | none => rfl
  | some x =>
    have := (h i x hx).2.2
    simp only [Option.map_some, Function.comp_apply, Option.some.injEq]
    unfold unlinked
    rw [← this]
theorem okInos_unlinked {l : List InoP} {next : Int} (h : OkInos lt nm l next) : OkInos lt nm (l.map unlinked) next where
  one := by rw [List.length_map]; exact h.one
  most := by rw [List.length_map]; exact h.most
  next := by rw [List.length_map]; exact h.next
  root x hx := by
    rw [List.getElem?_map] at hx
    obtain ⟨y, hy, rfl⟩ := Option.map_eq_some_iff.1 hx
    exact h.root y hy
  each i x hx := by
    rw [List.getElem?_map] at hx
    obtain ⟨y, hy, rfl⟩ := Option.map_eq_some_iff.1 hx
    rw [List.length_map]
    exact ⟨(h.each i y hy).1, (h.each i y hy).2.links _ _⟩
theorem numsAt_unlinked (l : List InoP) : numsAt (l.map unlinked) = numsAt l := numsAt_congr (by rw [List.map_map]; rfl)
/-- the file system whose image stands ahead of noughts alone -/
def IsFs (lt : ByteArray → ByteArray → Bool) (nm : ByteArray → Prop) (b : List UInt8) (l : List InoP) : Prop := OkFs lt nm l ((l.length : Int) + 1) ∧ ∃ k, b = imgL l ++ List.replicate k 0
/-- all that is true of it, as reading finds it -/
theorem isFs_back (hn : ∀ s, nm s → s.data.toList.length ≤ 100) {b : List UInt8} {l : List InoP} (h : IsFs lt nm b l) :
    ∃ k, pImg b = some (l.map bare, List.replicate k 0) ∧ setNums (l.map bare) = l.map unlinked ∧ OkInos lt nm (l.map unlinked) ((l.length : Int) + 1) ∧ ∀ m, Meets (numsAt (l.map unlinked)) m → setLinks m (l.map unlinked) = l ∧ OkLinks l m := by
  obtain ⟨ho, k, rfl⟩ := h
  refine ⟨k, okFs_parse hn ho _, numbered ho.1, okInos_unlinked ho.1, fun m hm => ?_⟩
  obtain ⟨m', h1, h2⟩ := ho.2
  rw [numsAt_unlinked] at hm
  obtain rfl := meets_unique _ hm h1
  exact ⟨linked h2, h2⟩
theorem zeros_of {z : List UInt8} (h : ∀ c ∈ z, c = 0) : z = List.replicate z.length 0 := List.eq_replicate_of_mem h
theorem isFs_mk {b z : List UInt8} {xs : List InoP} {m : Int → Nat} (hp : pImg b = some (xs, z)) (hz : ∀ c ∈ z, c = 0) (ho : OkInos lt nm (setNums xs) ((xs.length : Int) + 1)) (hm : Meets (numsAt (setNums xs)) m) (hl : OkLinks (setLinks m (setNums xs)) m) : IsFs lt nm b (setLinks m (setNums xs)) := by
  obtain ⟨⟨_, h1⟩, h2⟩ := (law_img _ _ _).1 hp
  refine ⟨⟨by rw [setLinks_len, setNums_len]; exact okInos_setLinks m ho, m, by rw [numsAt_congr (map_nums_setLinks m _)]; exact hm, hl⟩, z.length, ?_⟩
  rw [← zeros_of hz, h2]
  congr 1
  refine inoL_flat ?_
  apply List.ext_getElem?
  intro i
  rw [List.getElem?_map, List.getElem?_map, setLinks_get, setNums_get, Option.map_map, Option.map_map]
  rfl
theorem isFs_unique (hn : ∀ s, nm s → s.data.toList.length ≤ 100) {b : List UInt8} {l l' : List InoP} (h : IsFs lt nm b l) (h' : IsFs lt nm b l') : l = l' := by
  obtain ⟨k, h1, h2, h3, h4⟩ := isFs_back hn h
  obtain ⟨k', h1', h2', h3', h4'⟩ := isFs_back hn h'
  rw [h1] at h1'
  injection h1' with e
  injection e with e _
  have e2 : l.map unlinked = l'.map unlinked := by rw [← h2, ← h2', e]
  obtain ⟨m, hm, _⟩ := h.1.2
  rw [← numsAt_unlinked] at hm
  have a1 := (h4 m hm).1
  rw [e2] at hm a1
  rw [← a1, (h4' m hm).1]
end
end Go.Proofs.YtojhlhpbhoeplaaGreatDoor.Lw
namespace Go.Proofs.YtojhlhpbhoeplaaGreatDoor.Lw
open Go.RowKit Go.Lib Go.Extern.Stop Go.Stop Go.Extern

theorem isTypeOf (v : Value) (w : World) : (Extern.ReflectliteType.typeOf #[.iface 242 v]).run Tryz.prog w = .ok (.iface 133 (.agg #[.pointer (some ⟨8, 242, none⟩)])) w := by kernel_rfl
/-- the library's entry of rtype's Comparable -/
def cmpM : Array Value → Sem Value := ReflectliteType.method fun t => do Rtype.noPackHeld "Comparable" t; pure (.bool (← typeInfo t).comparable)
theorem isComparable (w : World) : (cmpM #[.agg #[.pointer (some ⟨8, 242, none⟩)]]).run Tryz.prog w = .ok (.bool true) w := by kernel_rfl
theorem isMethodComparable (v : Value) (w : World) : (Go.method 373 133 v "Comparable").run Tryz.prog w = .ok (196, v) w := by kernel_rfl
theorem isComp : (Tryz.prog.info? 242).map (·.comparable) = some true := by kernel_rfl
theorem isSize : (Tryz.prog.info? 261).map (·.size) = some 1 := by kernel_rfl
theorem noIsE (v : Value) (xT : TypeId) (w : World) : (Instr.typeAssert (.iface 242 v) xT 135 true).run Tryz.prog w = .ok (.tuple #[.nilIface, .bool false]) w := run_typeAssert_lacksB Tryz.underlying135 (by kernel_rfl) (by kernel_rfl) v xT w
theorem noUnwrapE (v : Value) (xT : TypeId) (w : World) : (Instr.typeAssert (.iface 242 v) xT 138 true).run Tryz.prog w = .ok (.tuple #[.nilIface, .bool false]) w := run_typeAssert_lacksB Tryz.underlying138 (by kernel_rfl) (by kernel_rfl) v xT w
theorem noUnwrapsE (v : Value) (xT : TypeId) (w : World) : (Instr.typeAssert (.iface 242 v) xT 140 true).run Tryz.prog w = .ok (.tuple #[.nilIface, .bool false]) w := run_typeAssert_lacksB Tryz.underlying140 (by kernel_rfl) (by kernel_rfl) v xT w
theorem noIsW (v : Value) (xT : TypeId) (w : World) : (Instr.typeAssert (.iface 107 v) xT 135 true).run Tryz.prog w = .ok (.tuple #[.nilIface, .bool false]) w := run_typeAssert_lacksB Tryz.underlying135 (by kernel_rfl) (by kernel_rfl) v xT w
theorem hasUnwrapW (v : Value) (xT : TypeId) (w : World) : (Instr.typeAssert (.iface 107 v) xT 138 true).run Tryz.prog w = .ok (.tuple #[.iface 107 v, .bool true]) w := run_typeAssert_hasB Tryz.underlying138 (by kernel_rfl) v xT w
theorem methodUnwrap (v : Value) (w : World) : (Go.method 373 107 v "Unwrap").run Tryz.prog w = .ok (193, v) w := by kernel_rfl

/-- one of lower's flaws -/
def Flaw (a : Addr) (v : Value) : Prop :=
  (∃ s : ByteArray, v = .iface 107 (.agg #[.string s, .iface 242 (.pointer (some a))])) ∨ ∃ s t : ByteArray, v = .iface 107 (.agg #[.string s, .iface 107 (.agg #[.string t, .iface 242 (.pointer (some a))])])

theorem is_nil (b : Addr) (w : World) :
    Calls Tryz.prog 38 #[.nilIface, .iface 242 (.pointer (some b))] w fun e w' => e = .returned (.bool false) ∧ w' = w := by
  have hn := run_eql_iface_nil_left (P := Tryz.prog) w 242 (.pointer (some b)) Tryz.underlying48
  go_enter Tryz.func38, Tryz.ntmps38
  go_wp2
  go_ret
  exact ⟨rfl, rfl⟩

set_option maxHeartbeats 1000000 in
theorem is_flaw1 (s : ByteArray) (b : Addr) (w : World) :
    Calls Tryz.prog 38 #[.iface 107 (.agg #[.string s, .iface 242 (.pointer (some b))]), .iface 242 (.pointer (some b))] w fun e w' => e = .returned (.bool true) ∧ Below w.heap.size w w' := by
  obtain ⟨i, hi, hcmp⟩ := Option.map_eq_some_iff.1 isComp
  obtain ⟨j, hj, hjs⟩ := Option.map_eq_some_iff.1 isSize
  have h8 := @run_callFunc_extern Tryz.prog 64 _ Extern.ReflectliteType.typeOf Tryz.func64 (by kernel_rfl) (by kernel_rfl) (by kernel_rfl) (by kernel_rfl)
  have h32 := @run_callFunc_extern Tryz.prog 196 _ cmpM Tryz.func196 (by kernel_rfl) (by kernel_rfl) (by kernel_rfl) (by kernel_rfl)
  have tT := isTypeOf
  have cT := isComparable
  have mR := isMethodComparable
  have nE := noIsE
  have uE := noUnwrapE
  have vE := noUnwrapsE
  have nW := noIsW
  have uW := hasUnwrapW
  have mU := methodUnwrap
  have heq := fun w => run_eql_iface_ptr_same (P := Tryz.prog) w b Tryz.underlying48 Tryz.underlying242 hi hcmp hj
  have hty := fun w x => run_eql_iface_types (P := Tryz.prog) 107 242 x (.pointer (some b)) Tryz.underlying48 (by decide) w
  go_enter Tryz.func38, Tryz.ntmps38
  go_wp2
  refine wp_loop_rounds 2 ?_
  rw [rounds_succ]
  go_wp2
  rw [rounds_succ]
  go_wp2
  go_ret
  exact ⟨rfl, (Below.refl _ _).alloc (Nat.le_refl _) _⟩

set_option maxHeartbeats 1000000 in
theorem is_flaw2 (s t : ByteArray) (b : Addr) (w : World) :
    Calls Tryz.prog 38 #[.iface 107 (.agg #[.string s, .iface 107 (.agg #[.string t, .iface 242 (.pointer (some b))])]), .iface 242 (.pointer (some b))] w fun e w' => e = .returned (.bool true) ∧ Below w.heap.size w w' := by
  obtain ⟨i, hi, hcmp⟩ := Option.map_eq_some_iff.1 isComp
  obtain ⟨j, hj, hjs⟩ := Option.map_eq_some_iff.1 isSize
  have h8 := @run_callFunc_extern Tryz.prog 64 _ Extern.ReflectliteType.typeOf Tryz.func64 (by kernel_rfl) (by kernel_rfl) (by kernel_rfl) (by kernel_rfl)
  have h32 := @run_callFunc_extern Tryz.prog 196 _ cmpM Tryz.func196 (by kernel_rfl) (by kernel_rfl) (by kernel_rfl) (by kernel_rfl)
  have tT := isTypeOf
  have cT := isComparable
  have mR := isMethodComparable
  have nE := noIsE
  have uE := noUnwrapE
  have vE := noUnwrapsE
  have nW := noIsW
  have uW := hasUnwrapW
  have mU := methodUnwrap
  have heq := fun w => run_eql_iface_ptr_same (P := Tryz.prog) w b Tryz.underlying48 Tryz.underlying242 hi hcmp hj
  have hty := fun w x => run_eql_iface_types (P := Tryz.prog) 107 242 x (.pointer (some b)) Tryz.underlying48 (by decide) w
  go_enter Tryz.func38, Tryz.ntmps38
  go_wp2
  refine wp_loop_rounds 3 ?_
  rw [rounds_succ]
  go_wp2
  rw [rounds_succ]
  go_wp2
  rw [rounds_succ]
  go_wp2
  go_ret
  exact ⟨rfl, ((Below.refl _ _).alloc (Nat.le_refl _) _).alloc (by simp) _⟩

/-- lower's sentinel -/
def Sen (w : World) (a : Addr) : Prop := w.cell? ⟨0, 0, none⟩ = some (.iface 242 (.pointer (some a)))
theorem lt_of_cell {w : World} {p : Addr} {v : Value} (h : w.cell? p = some v) : p.block < w.heap.size := by
  rcases Nat.lt_or_ge p.block w.heap.size with h1 | h0
  · exact h1
  · simp [World.cell?, Array.getElem?_eq_none h0] at h
theorem Sen.pos {w : World} {a : Addr} (h : Sen w a) : 0 < w.heap.size := lt_of_cell (p := ⟨0, 0, none⟩) h
theorem Sen.below {w w' : World} {a : Addr} (h : Sen w a) (hb : Below w.heap.size w w') : Sen w' a := (hb.cell (p := ⟨0, 0, none⟩) h.pos).trans h
/-- an error: none, or a flaw -/
def ErrV (a : Addr) (ok : Prop) (v : Value) : Prop := (ok ∧ v = .nilIface) ∨ (¬ ok ∧ Flaw a v)

set_option maxHeartbeats 1000000 in
theorem errno_ok (v : Value) (a : Addr) (w : World) (hs : Sen w a) (hv : v = .nilIface) :
    Calls Tryz.prog 19 #[v] w fun e w' => e = .returned (.int .i64 0) ∧ w = w' := by
  subst hv
  have C0 := Lib.hid (is_nil a w)
  have g0 : w.cell? ⟨0, 0, none⟩ = some (.iface 242 (.pointer (some a))) := hs
  clear hs
  go_enter Tryz.func19, Tryz.ntmps19
  go_wp2_with fail
  refine C0.out.mono ?_
  rintro e w' ⟨rfl, rfl⟩
  go_wp2_with fail
  go_ret
  exact ⟨rfl, rfl⟩
set_option maxHeartbeats 1000000 in
theorem errno_no (v : Value) (a : Addr) (w : World) (hs : Sen w a) (hv : Flaw a v) :
    Calls Tryz.prog 19 #[v] w fun e w' => e = .returned (.int .i64 160) ∧ Below w.heap.size w w' := by
  have C0 : Hid (Calls Tryz.prog 38 #[v, .iface 242 (.pointer (some a))] w fun e w' => e = .returned (.bool true) ∧ Below w.heap.size w w') := by
    rcases hv with ⟨s, rfl⟩ | ⟨s, t, rfl⟩
    · exact is_flaw1 s a w
    · exact is_flaw2 s t a w
  have g0 : w.cell? ⟨0, 0, none⟩ = some (.iface 242 (.pointer (some a))) := hs
  clear hs hv
  go_enter Tryz.func19, Tryz.ntmps19
  go_wp2_with fail
  refine C0.out.mono ?_
  rintro e w' ⟨rfl, b1⟩
  have B := Lib.hid b1
  clear b1
  go_wp2_with fail
  go_ret
  exact ⟨rfl, B.out⟩
end Go.Proofs.YtojhlhpbhoeplaaGreatDoor.Lw
namespace Go.Proofs.YtojhlhpbhoeplaaGreatDoor.Lw
open Go.RowKit Go.Lib Go.Proofs.YtojhlhpbhoeplaaGreatDoor.Sh Go.Proofs.YtojhlhpbhoeplaaGreatDoor.Lb

/-- lower's reader, as memory holds it: what is left, and its error -/
structure Rp (w : World) (g : Nat) (a : Addr) (l : List UInt8) (ao : Option Addr) (m c : Nat) (ev : Value) : Prop where
  blk : Sh.Blk w g [.slice ao m c, ev] 67
  byt : Byt w ao l
  hn : ao = none → c = 0
  len : l.length = m
  cap : m ≤ c
  max : c ≤ 9223372036854775807
  most : m ≤ 140737488355328
  far : ∀ x, ao = some x → x.block < g
  err : ErrT w
  sen : Sen w a
  one : 1 < g
/-- the reader's state: what is left, or that it failed -/
def EvOf (a : Addr) (s : Option (List UInt8)) (ev : Value) : Prop := (∃ l, s = some l ∧ ev = .nilIface) ∨ (s = none ∧ Flaw a ev)
def Rdr (w : World) (g : Nat) (a : Addr) (s : Option (List UInt8)) : Prop := ∃ ao m c ev, Rp w g a (s.getD []) ao m c ev ∧ EvOf a s ev
section
variable {w w' : World} {g : Nat} {a : Addr} {l l' : List UInt8} {ao ao' : Option Addr} {m c m' c' : Nat} {ev : Value} {s : Option (List UInt8)}
theorem Rp.grown (h : Rp w g a l ao m c ev) (hb : Below w.heap.size w w') : Rp w' g a l ao m c ev :=
  { blk := h.blk.low hb, byt := h.byt.below hb, hn := h.hn, len := h.len, cap := h.cap, max := h.max, most := h.most, far := h.far, err := h.err.below hb, sen := h.sen.below hb, one := h.one }
theorem Rdr.grown (h : Rdr w g a s) (hb : Below w.heap.size w w') : Rdr w' g a s := by
  obtain ⟨ao, m, c, ev, h, h2⟩ := h
  exact ⟨ao, m, c, ev, h.grown hb, h2⟩
theorem Sen.row {k : Option Nat} (h : Sen w a) (hg : w.grownBy w' k) (hk : ∀ b, k = some b → 0 < b) : Sen w' a := hg.cell h (fun e => by have := hk 0 e.symm; omega)
theorem Rp.row {k : Option Nat} (h : Rp w g a l ao m c ev) (hg : w.grownBy w' k) (hk : ∀ b, k = some b → g < b) : Rp w' g a l ao m c ev :=
  { blk := blk_row h.blk hg (fun e => by have := hk g e.symm; omega)
    byt := fun hne => by
      obtain ⟨b, o, h1, h2, h3⟩ := h.byt hne
      have hb : b < g := h.far _ h1
      exact ⟨b, o, h1, Nat.lt_of_lt_of_le h2 hg.size, fun j hj => hg.cell (h3 j hj) (fun e => by have := hk b e.symm; omega)⟩
    hn := h.hn, len := h.len, cap := h.cap, max := h.max, most := h.most, far := h.far, err := h.err.row hg (fun b hb => by have := hk b hb; have := h.one; omega), sen := h.sen.row hg (fun b hb => by have := hk b hb; have := h.one; omega), one := h.one }
theorem Rdr.row {k : Option Nat} (h : Rdr w g a s) (hg : w.grownBy w' k) (hk : ∀ b, k = some b → g < b) : Rdr w' g a s := by
  obtain ⟨ao, m, c, ev, h, h2⟩ := h
  exact ⟨ao, m, c, ev, h.row hg hk, h2⟩
/-- what is left, set -/
theorem Rp.rest (h : Rp w g a l ao m c ev) (hb : Byt w ao' l') (hn : ao' = none → c' = 0) (hl : l'.length = m') (hc : m' ≤ c') (hm : c' ≤ 9223372036854775807) (h47 : m' ≤ 140737488355328) (hf : ∀ x, ao' = some x → x.block < g) :
    Rp (w.setCell ⟨g, 0, none⟩ (.slice ao' m' c')) g a l' ao' m' c' ev :=
  { blk := by have := h.blk.set 0 (.slice ao' m' c'); simpa using this
    byt := byt_grown hb (grownBy_setCell w g 0 _) hf
    hn := hn, len := hl, cap := hc, max := hm, most := h47, far := hf
    err := h.err.row (grownBy_setCell w g 0 _) (fun b e => by injection e with e; have := h.one; omega)
    sen := h.sen.row (grownBy_setCell w g 0 _) (fun b e => by injection e with e; have := h.one; omega)
    one := h.one }
theorem Rp.setErr (h : Rp w g a l ao m c ev) (ev' : Value) : Rp (w.setCell ⟨g, 1, none⟩ ev') g a l ao m c ev' :=
  { blk := by have := h.blk.set 1 ev'; simpa using this
    byt := byt_grown h.byt (grownBy_setCell w g 1 _) h.far
    hn := h.hn, len := h.len, cap := h.cap, max := h.max, most := h.most, far := h.far
    err := h.err.row (grownBy_setCell w g 1 _) (fun b e => by injection e with e; have := h.one; omega)
    sen := h.sen.row (grownBy_setCell w g 1 _) (fun b e => by injection e with e; have := h.one; omega)
    one := h.one }
end
/-- what is read, and what is left behind it -/
def Aft {α : Type} (p : List UInt8 → Option (α × List UInt8)) (s : Option (List UInt8)) (x : α) (s' : Option (List UInt8)) : Prop :=
  match s.bind p with
  | some (y, r) => x = y ∧ s' = some r
  | none => s' = none
theorem aft_some {α : Type} {p : List UInt8 → Option (α × List UInt8)} {l r : List UInt8} {x : α} (h : p l = some (x, r)) : Aft p (some l) x (some r) := by
  unfold Aft
  rw [show (some l).bind p = p l from rfl, h]
  exact ⟨rfl, rfl⟩
theorem aft_none {α : Type} {p : List UInt8 → Option (α × List UInt8)} {s : Option (List UInt8)} {x : α} (h : s.bind p = none) : Aft p s x none := by
  unfold Aft
  rw [h]
theorem aft_bad {α : Type} {p : List UInt8 → Option (α × List UInt8)} {s : Option (List UInt8)} {x : α} (h : p (s.getD []) = none) : Aft p s x none := by
  refine aft_none ?_
  cases s with
  | none => rfl
  | some l => exact h
/-- what a reader's call leaves -/
def Ans {α : Type} (w : World) (g : Nat) (a : Addr) (V : World → α → Value → Prop) (p : List UInt8 → Option (α × List UInt8)) (s : Option (List UInt8)) (e : Ending) (w' : World) : Prop :=
  w.grownBy w' (some g) ∧ ∃ x v s', e = .returned v ∧ V w' x v ∧ Rdr w' g a s' ∧ Aft p s x s'
set_option maxHeartbeats 1000000 in
set_option maxRecDepth 100000 in
theorem fail_any (g : Nat) (a : Addr) (t : ByteArray) (s : Option (List UInt8)) (w : World) (h : Rdr w g a s) :
    Calls Tryz.prog 52 #[.pointer (some ⟨g, 0, none⟩), .string t] w fun e w' => e = .returned (.tuple #[]) ∧ w.grownBy w' (some g) ∧ Rdr w' g a none := by
  obtain ⟨ao, m, c, ev, h, _⟩ := h
  have g0 : w.cell? ⟨0, 0, none⟩ = some (.iface 242 (.pointer (some a))) := h.sen
  have c0 := h.blk.cell 0
  have c1 := h.blk.cell 1
  have f0 := h.blk.frozen 0
  have f1 := h.blk.frozen 1
  simp only [List.getElem?_cons_zero, List.getElem?_cons_succ] at c0 c1
  have h1 := Rp.rest (ao' := none) (l' := []) (m' := 0) (c' := 0) h (byt_nil _ _) (fun _ => rfl) rfl (Nat.le_refl _) (by omega) (by omega) (fun x hx => by cases hx)
  have R2 := Lib.hid (h1.setErr (.iface 107 (.agg #[.string t, .iface 242 (.pointer (some a))])))
  have G2 := Lib.hid (grownBy_trans (grownBy_setCell w g 0 (.slice none 0 0)) (grownBy_setCell (w.setCell ⟨g, 0, none⟩ (.slice none 0 0)) g 1 (.iface 107 (.agg #[.string t, .iface 242 (.pointer (some a))]))))
  clear h h1
  go_enter Tryz.func52, Tryz.ntmps52
  go_wp2_with fail
  exact ⟨rfl, _, results_none rfl _ _ _, rfl, G2.out, none, 0, 0, _, R2.out, .inr ⟨rfl, .inl ⟨t, rfl⟩⟩⟩
def VNum (_ : World) (x : Int) (v : Value) : Prop := v = .int .i64 x ∧ 0 ≤ x ∧ x ≤ 32768
def VStr (_ : World) (s : ByteArray) (v : Value) : Prop := v = .string s ∧ s.size ≤ 32768
def VOwn (B : Nat) (w : World) (l : List UInt8) (v : Value) : Prop := Own w B v l ∧ l.length ≤ 32768
theorem num_nil (k : Nat) : pNum k [] = none := by
  have h := getL_all [] (fun j hj => by simp at hj)
  rw [pNum, if_neg (fun hc => h hc.1)]
theorem data_nil (k : Nat) : pData k [] = none := by rw [pData, num_nil]
theorem ev_some {a : Addr} {s : Option (List UInt8)} {ev : Value} {α : Type} {p : List UInt8 → Option (α × List UInt8)} (h : EvOf a s ev) (hp : p (s.getD []) ≠ none) (hn : p [] = none) : s = some (s.getD []) ∧ ev = .nilIface := by
  rcases h with ⟨l, rfl, he⟩ | ⟨rfl, _⟩
  · exact ⟨rfl, he⟩
  · exact absurd hn hp
set_option maxHeartbeats 2000000 in
set_option maxRecDepth 100000 in
theorem number_rd (g : Nat) (a : Addr) (s : Option (List UInt8)) (w : World) (h0 : Rdr w g a s) :
    Calls Tryz.prog 32 #[.pointer (some ⟨g, 0, none⟩)] w (Ans w g a VNum (pNum 32768) s) := by
  have R0 := Lib.hid h0
  obtain ⟨ao, m, c, ev, h, hev⟩ := h0
  have hev' := ev_some (p := pNum 32768) hev
  have hbad := aft_bad (p := pNum 32768) (s := s) (x := (0 : Int))
  obtain ⟨l, hl⟩ : ∃ l, l = s.getD [] := ⟨_, rfl⟩
  rw [← hl] at h hev' hbad
  have RD := Lib.hid h
  have c0 := h.blk.cell 0
  simp only [List.getElem?_cons_zero] at c0
  have cg := get_any ao l c w h.err h.byt (by rw [h.len]; exact h.cap) h.max
  rw [h.len] at cg
  have hpn : pNum 32768 l = if (getL l).2.2 = 0 ∧ (getL l).1 ≤ 32768 then some (((getL l).1 : Int), l.drop (getL l).2.1) else none := rfl
  have hag := fun x n => getL_again l x n
  obtain ⟨x, n, q, hg⟩ : ∃ x n q, getL l = (x, n, q) := ⟨_, _, _, rfl⟩
  rw [hg] at cg hpn hag
  simp only at cg hpn
  have CG := Lib.hid cg
  by_cases hq : q = 0 ∧ x ≤ 32768
  · obtain ⟨rfl, hx⟩ := hq
    rw [if_pos ⟨rfl, hx⟩] at hpn
    obtain ⟨hs, rfl⟩ := hev' (by rw [hpn]; exact fun h => by cases h) (num_nil _)
    have HS := Lib.hid hs
    obtain ⟨g1, g2, g3, _⟩ := hag x n rfl
    obtain ⟨af, s1, s2, s3, s4⟩ := slice_rest ao m c n l (by rw [← h.len]; exact g2) h.len.symm h.hn h.cap
    have S2 := Lib.hid s2
    have S3 := Lib.hid s3
    have S4 := Lib.hid (s4 g h.far)
    have G2 : n ≤ m := by rw [← h.len]; exact g2
    have HO : Hid (pNum 32768 l = some ((x : Int), l.drop n)) := hpn
    have t1 : decide ((32768 : Int) < (x : Int)) = false := by simp; omega
    have t2 : decide (32768 < x) = false := by simp; omega
    have w4 : IntKind.i64.wrap (x : Int) = (x : Int) := IntWalk.i64_in _ (by omega)
    clear cg hpn hag hg g1 g2 g3 s2 s3 s4 h hev hev' hbad hl hs R0
    go_enter Tryz.func32, Tryz.ntmps32
    go_wp2_with fail
    refine CG.out.mono ?_
    clear CG
    rintro e w1 ⟨rfl, hb⟩
    have R1 := Lib.hid (RD.out.grown hb)
    have G1 := Lib.hid (grown_below hb (some g))
    have d0 := R1.out.blk.cell 0
    have f0 := R1.out.blk.frozen 0
    simp only [List.getElem?_cons_zero] at d0
    clear hb c0 RD
    have RN := Lib.hid (R1.out.rest (ao' := af) (l' := l.drop n) (m' := m - n) (c' := c - n) (S2.out w1 R1.out.byt) S3.out (by rw [List.length_drop, R1.out.len]) (by have := R1.out.cap; omega) (by have := R1.out.max; omega) (by have := R1.out.most; omega) S4.out)
    have GN := Lib.hid (grownBy_trans G1.out (grownBy_setCell w1 g 0 (.slice af (m - n) (c - n))))
    go_wp2_with fail
    go_ret
    exact ⟨GN.out, (x : Int), _, some (l.drop n), rfl, ⟨rfl, by omega, by omega⟩, ⟨af, m - n, c - n, _, RN.out, .inl ⟨_, rfl, rfl⟩⟩, by rw [HS.out]; exact aft_some HO.out⟩
  · rw [if_neg hq] at hpn
    have HB := Lib.hid (hbad hpn)
    have t1 : ((q : Int) == 0) = true → decide ((32768 : Int) < (x : Int)) = true := fun hqq => by
      have : q = 0 := by simpa using hqq
      simp
      omega
    have TT := Lib.hid t1
    clear cg hpn hag hg h hev hev' hbad hl RD t1 hq
    by_cases hq0 : q = 0
    · have t2 : decide ((32768 : Int) < (x : Int)) = true := TT.out (by simp [hq0])
      have t3 : decide (32768 < x) = true := by simp at t2 ⊢; omega
      subst hq0
      clear TT
      go_enter Tryz.func32, Tryz.ntmps32
      go_wp2_with fail
      refine CG.out.mono ?_
      clear CG
      rintro e w1 ⟨rfl, hb⟩
      have R1 := Lib.hid (R0.out.grown hb)
      have G1 := Lib.hid (grown_below hb (some g))
      clear hb c0 R0
      go_wp2_with fail
      refine (fail_any g a _ s w1 R1.out).mono ?_
      rintro e w2 ⟨rfl, hg, hr⟩
      have GN := Lib.hid (grownBy_trans G1.out hg)
      have RN := Lib.hid hr
      clear hg hr
      go_wp2_with fail
      go_ret
      exact ⟨GN.out, 0, _, none, rfl, ⟨rfl, by omega, by omega⟩, RN.out, HB.out⟩
    · have t2 : ((q : Int) == 0) = false := by simp; omega
      have t3 : (q == 0) = false := by simp; omega
      have t4 : ((q : Int) != 0) = true := by simp; omega
      have t5 : (q != 0) = true := by simp; omega
      clear TT
      go_enter Tryz.func32, Tryz.ntmps32
      go_wp2_with fail
      refine CG.out.mono ?_
      clear CG
      rintro e w1 ⟨rfl, hb⟩
      have R1 := Lib.hid (R0.out.grown hb)
      have G1 := Lib.hid (grown_below hb (some g))
      clear hb c0 R0
      go_wp2_with fail
      refine (fail_any g a _ s w1 R1.out).mono ?_
      rintro e w2 ⟨rfl, hg, hr⟩
      have GN := Lib.hid (grownBy_trans G1.out hg)
      have RN := Lib.hid hr
      clear hg hr
      go_wp2_with fail
      go_ret
      exact ⟨GN.out, 0, _, none, rfl, ⟨rfl, by omega, by omega⟩, RN.out, HB.out⟩
set_option maxHeartbeats 2000000 in
set_option maxRecDepth 100000 in
theorem counted_rd (g : Nat) (a : Addr) (s : Option (List UInt8)) (w : World) (h0 : Rdr w g a s) :
    Calls Tryz.prog 57 #[.pointer (some ⟨g, 0, none⟩)] w (Ans w g a (VOwn w.heap.size) (pData 32768) s) := by
  have R0 := Lib.hid h0
  obtain ⟨ao, m, c, ev, h, hev⟩ := h0
  have hev' := ev_some (p := pData 32768) hev
  have hbad := aft_bad (p := pData 32768) (s := s) (x := ([] : List UInt8))
  obtain ⟨l, hl⟩ : ∃ l, l = s.getD [] := ⟨_, rfl⟩
  rw [← hl] at h hev' hbad
  have RD := Lib.hid h
  have c0 := h.blk.cell 0
  simp only [List.getElem?_cons_zero] at c0
  have cg := take_any ao l c 32768 w h.err h.byt (by rw [h.len]; exact h.cap) h.max (by rw [h.len]; exact h.most) (by decide) (by decide)
  rw [h.len] at cg
  have ht := take_data l 32768
  rw [show ((32768 : Nat) : Int) = 32768 from rfl] at ht
  obtain ⟨r, k, q, hr⟩ : ∃ r k q, takeR l 32768 = (r, k, q) := ⟨_, _, _, rfl⟩
  rw [hr] at cg ht
  simp only at ht
  have CG := Lib.hid cg
  have GLT := Lib.hid h.blk.lt
  clear cg hr
  rcases ht with ⟨rfl, hk, hp⟩ | ⟨hq, hp⟩
  · obtain ⟨hs, rfl⟩ := hev' (by rw [hp]; exact fun h => by cases h) (data_nil _)
    have HS := Lib.hid hs
    obtain ⟨af, s1, s2, s3, s4⟩ := slice_rest ao m c k l (by rw [← h.len]; exact hk) h.len.symm h.hn h.cap
    have S2 := Lib.hid s2
    have S3 := Lib.hid s3
    have S4 := Lib.hid (s4 g h.far)
    have G2 : k ≤ m := by rw [← h.len]; exact hk
    have HO := Lib.hid hp
    have HL : Hid (r.length ≤ 32768) := ((law_data 32768 (by decide) l r (l.drop k)).1 hp).1
    clear s2 s3 s4 hk hp h hev hev' hbad hl hs R0
    go_enter Tryz.func57, Tryz.ntmps57
    go_wp2_with fail
    refine CG.out.mono ?_
    clear CG
    rintro e w1 ⟨hb, v, rfl, ho⟩
    have R1 := Lib.hid (RD.out.grown hb)
    have G1 := Lib.hid (grown_below hb (some g))
    have O1 : Hid (Own w1 w.heap.size v r) := Lib.hid ho
    have d0 := R1.out.blk.cell 0
    have f0 := R1.out.blk.frozen 0
    simp only [List.getElem?_cons_zero] at d0
    clear hb c0 RD ho
    have RN := Lib.hid (R1.out.rest (ao' := af) (l' := l.drop k) (m' := m - k) (c' := c - k) (S2.out w1 R1.out.byt) S3.out (by rw [List.length_drop, R1.out.len]) (by have := R1.out.cap; omega) (by have := R1.out.max; omega) (by have := R1.out.most; omega) S4.out)
    have GN := Lib.hid (grownBy_trans G1.out (grownBy_setCell w1 g 0 (.slice af (m - k) (c - k))))
    have ON : Hid (Own (w1.setCell ⟨g, 0, none⟩ (.slice af (m - k) (c - k))) w.heap.size v r) := ownsRow_setCell_below O1.out (a := ⟨g, 0, none⟩) GLT.out _
    go_wp2_with fail
    go_ret
    exact ⟨GN.out, r, _, some (l.drop k), rfl, ⟨ON.out, HL.out⟩, ⟨af, m - k, c - k, _, RN.out, .inl ⟨_, rfl, rfl⟩⟩, by rw [HS.out]; exact aft_some HO.out⟩
  · have t0 : ((q : Int) == 0) = false := by simp; omega
    have t3 : (q == 0) = false := by simp; omega
    have HB := Lib.hid (hbad hp)
    clear hq hp h hev hev' hbad hl RD
    go_enter Tryz.func57, Tryz.ntmps57
    go_wp2_with fail
    refine CG.out.mono ?_
    clear CG
    rintro e w1 ⟨hb, v, rfl, ho⟩
    have R1 := Lib.hid (R0.out.grown hb)
    have G1 := Lib.hid (grown_below hb (some g))
    clear hb c0 ho R0
    go_wp2_with fail
    refine (fail_any g a _ s w1 R1.out).mono ?_
    rintro e w2 ⟨rfl, hg, hr⟩
    have GN := Lib.hid (grownBy_trans G1.out hg)
    have RN := Lib.hid hr
    clear hg hr
    go_wp2_with fail
    go_ret
    exact ⟨GN.out, [], _, none, rfl, ⟨own_nil _ _, by simp⟩, RN.out, HB.out⟩
theorem aft_map {α β : Type} {p : List UInt8 → Option (α × List UInt8)} {s s' : Option (List UInt8)} {x : α} (f : α → β) (h : Aft p s x s') : Aft (pMap f p) s (f x) s' := by
  unfold Aft at *
  cases s with
  | none => exact h
  | some l =>
    simp only [Option.bind_some] at h ⊢
    unfold pMap
    cases hp : p l with
    | none => rw [hp] at h; exact h
    | some u =>
      rw [hp] at h
      obtain ⟨rfl, rfl⟩ := h
      exact ⟨rfl, rfl⟩
theorem aft_seq {α β : Type} {p : List UInt8 → Option (α × List UInt8)} {q : α → List UInt8 → Option (β × List UInt8)} {s s1 s2 : Option (List UInt8)} {x : α} {y : β} (h1 : Aft p s x s1) (h2 : Aft (q x) s1 y s2) : Aft (pSeq p q) s (x, y) s2 := by
  unfold Aft at *
  cases s with
  | none =>
    simp only [Option.bind_none] at h1
    subst h1
    exact h2
  | some l =>
    simp only [Option.bind_some] at h1 ⊢
    unfold pSeq
    cases hp : p l with
    | none =>
      rw [hp] at h1
      simp only at h1
      subst h1
      exact h2
    | some u =>
      obtain ⟨x', r⟩ := u
      rw [hp] at h1
      obtain ⟨rfl, rfl⟩ := h1
      simp only [Option.bind_some] at h2 ⊢
      cases hq : q x r with
      | none => rw [hq] at h2; exact h2
      | some v =>
        obtain ⟨y', r'⟩ := v
        rw [hq] at h2
        obtain ⟨rfl, rfl⟩ := h2
        exact ⟨rfl, rfl⟩
theorem grown_size {w w' : World} {g : Nat} {a : Addr} {s : Option (List UInt8)} (h : Rdr w g a s) (_ : w.grownBy w' (some g)) : g < w.heap.size := by
  obtain ⟨_, _, _, _, h, _⟩ := h
  exact h.blk.lt
set_option maxHeartbeats 1000000 in
set_option maxRecDepth 100000 in
theorem text_rd (g : Nat) (a : Addr) (s : Option (List UInt8)) (w : World) (h0 : Rdr w g a s) :
    Calls Tryz.prog 54 #[.pointer (some ⟨g, 0, none⟩)] w (Ans w g a VStr (pText 32768) s) := by
  have C := Lib.hid (counted_rd g a s w h0)
  clear h0
  go_enter Tryz.func54, Tryz.ntmps54
  go_wp2_with fail
  refine C.out.mono ?_
  clear C
  rintro e w1 ⟨hg, x, v, s', rfl, ⟨ho, hx⟩, hr, ha⟩
  obtain ⟨ao, c, rfl, _, _, hb, hn⟩ := own_byt (show w1.ownsRow w.heap.size 5 1 v x.length (bs x) from ho)
  have kc := fun W (hW : Byt W ao x) => conv_byt (P := Tryz.prog) (w := W) (t := 22) (e := 5) (d := 9) Tryz.underlying22 Tryz.underlying5 Tryz.underlying9 ao x c hW hn
  have k1 := kc w1 hb
  have G1 := Lib.hid hg
  have R1 := Lib.hid hr
  have A1 := Lib.hid (aft_map (fun d : List UInt8 => (⟨d.toArray⟩ : ByteArray)) ha)
  have X1 : (⟨x.toArray⟩ : ByteArray).size ≤ 32768 := by show x.toArray.size ≤ 32768; simpa using hx
  have XS := Lib.hid X1
  clear hg ho hx hr ha hb hn kc X1
  go_wp2_with fail
  go_ret
  exact ⟨G1.out, _, _, s', rfl, ⟨rfl, XS.out⟩, R1.out, A1.out⟩
/-- an attribute, in a struct -/
def VAtt (B : Nat) (w : World) (x : ByteArray × List UInt8) (v : Value) : Prop := ∃ u, v = .agg #[.string x.1, u] ∧ Own w B u x.2 ∧ x.1.size ≤ 32768 ∧ x.2.length ≤ 32768
theorem size82 : (Tryz.prog.info? 82).map (·.size) = some 2 := by kernel_rfl
set_option maxHeartbeats 1000000 in
set_option maxRecDepth 100000 in
theorem attr_rd (g : Nat) (a : Addr) (s : Option (List UInt8)) (w : World) (h0 : Rdr w g a s) :
    Calls Tryz.prog 56 #[.pointer (some ⟨g, 0, none⟩)] w (Ans w g a (VAtt w.heap.size) pAtt s) := by
  obtain ⟨w0, hwa⟩ : ∃ wa, wa = w.alloc (.cells #[.string ⟨#[]⟩, .slice none 0 0] 82) := ⟨_, rfl⟩
  have ba : Below w.heap.size w w0 := by rw [hwa]; exact (Below.refl _ w).alloc (Nat.le_refl _) _
  have sa : w0.heap.size = w.heap.size + 1 := by rw [hwa]; simp
  have K0 : Hid (Sh.Blk w0 w.heap.size [.string ⟨#[]⟩, .slice none 0 0] 82) := by show Sh.Blk _ _ _ _; rw [hwa]; exact Sh.Blk.new w [.string ⟨#[]⟩, .slice none 0 0] 82 _ rfl
  have gl : g < w.heap.size := grown_size h0 (World.grownBy.refl w _)
  have G0 := Lib.hid (grown_below ba (some g))
  have HA := Lib.hid hwa
  have R0 := Lib.hid (h0.grown ba)
  have S0 : w.heap.size + 1 ≤ w0.heap.size := by omega
  clear h0 ba sa hwa
  go_enter Tryz.func56, Tryz.ntmps56
  have C := Lib.hid (text_rd g a s w0 R0.out)
  go_wp2_with fail
  rw [← HA.out]
  clear HA
  refine C.out.mono ?_
  clear C
  rintro e w1 ⟨hg, x1, v, s1, rfl, ⟨rfl, hx1⟩, hr, ha⟩
  have G1 := Lib.hid (gb_then G0.out hg (fun j hj => .inr hj))
  have K1 := Lib.hid (blk_grown K0.out hg (by omega))
  have R1 := Lib.hid hr
  have H1 := Lib.hid ha
  have X1 := Lib.hid hx1
  have S1 : w.heap.size + 1 ≤ w1.heap.size := by have := hg.size; omega
  clear hg hr ha hx1 K0 G0 R0
  have C := Lib.hid (counted_rd g a s1 w1 R1.out)
  go_wp2_with fail
  refine C.out.mono ?_
  clear C
  rintro e w2 ⟨hg, x2, v, s2, rfl, ⟨hv, hx2⟩, hr, ha⟩
  obtain ⟨a2, c2, rfl, _, _, _, _⟩ := own_byt (show w2.ownsRow w1.heap.size 5 1 v x2.length (bs x2) from hv)
  have O2 : Hid (Own w2 (w.heap.size + 1) (.slice a2 x2.length c2) x2) := Own.low hv S1
  have G2 := Lib.hid (gb_then G1.out hg (fun j hj => .inr hj))
  have K2 := Lib.hid (blk_grown K1.out hg (by omega))
  have R2 := Lib.hid hr
  have H2 : Hid (Aft pAtt s (x1, x2) s2) := aft_seq H1.out ha
  have X2 := Lib.hid hx2
  clear hv hg hr ha hx2 K1 G1 R1 H1
  have k0 := K2.out.cell 0
  have f0 := K2.out.frozen 0
  have k1 := K2.out.cell 1
  have f1 := K2.out.frozen 1
  simp only [List.getElem?_cons_zero, List.getElem?_cons_succ] at k0 k1
  go_wp2_with fail
  have KZ := set_two K2.out (.string x1) (.slice a2 x2.length c2)
  have GZ := gb_set (gb_set (G2.out) (b := w.heap.size) (i := 0) (Nat.le_refl _) (.string x1)) (b := w.heap.size) (i := 1) (Nat.le_refl _) (.slice a2 x2.length c2)
  have RZ := ((R2.out).row (grownBy_setCell _ w.heap.size 0 (.string x1)) (fun j hj => by injection hj with hj; omega)).row (grownBy_setCell _ w.heap.size 1 (.slice a2 x2.length c2)) (fun j hj => by injection hj with hj; omega)
  have Z2 := own_kept (own_kept (O2.out) (grownBy_setCell _ w.heap.size 0 (.string x1)) (Nat.lt_succ_self _)) (grownBy_setCell _ w.heap.size 1 (.slice a2 x2.length c2)) (Nat.lt_succ_self _)
  exact bodyPost_ret (results_cell_row rfl _ _ w.heap.size 82 _ (0, 0) _ rfl KZ Tryz.underlying82 rfl size82) rfl ⟨GZ, (x1, x2), _, s2, rfl, ⟨_, rfl, Own.low Z2 (Nat.le_succ _), X1.out, X2.out⟩, RZ, H2.out⟩
end Go.Proofs.YtojhlhpbhoeplaaGreatDoor.Lw
namespace Go.Proofs.YtojhlhpbhoeplaaGreatDoor.Lw
open Go.RowKit Go.Lib Go.Proofs.YtojhlhpbhoeplaaGreatDoor.Sh Go.Proofs.YtojhlhpbhoeplaaGreatDoor.Lb

def lenV : Value → Nat
  | .slice _ n _ => n
  | _ => 0
theorem own_len {w : World} {B e size n : Nat} {v : Value} {xs : List Value} (h : w.ownsRow B e size v n xs) : ∃ ao c, v = .slice ao n c := by
  obtain ⟨_, ⟨rfl, hl⟩ | ⟨g, cap, cur, rfl, _⟩⟩ := h
  · exact ⟨none, 0, by rw [hl]⟩
  · exact ⟨_, _, rfl⟩
theorem flaw_iface {a : Addr} {v : Value} (h : Flaw a v) : ∃ x, v = .iface 107 x := by
  rcases h with ⟨s, rfl⟩ | ⟨s, t, rfl⟩
  · exact ⟨_, rfl⟩
  · exact ⟨_, rfl⟩
theorem aft_row {α : Type} {p : List UInt8 → Option (α × List UInt8)} {i : Nat} {s s1 s2 : Option (List UInt8)} {P : List α} {x : α} (h1 : Aft (pRow p i) s P s1) (h2 : Aft p s1 x s2) : Aft (pRow p (i + 1)) s (P ++ [x]) s2 := by
  unfold Aft at *
  cases s with
  | none =>
    simp only [Option.bind_none] at h1
    subst h1
    exact h2
  | some l =>
    simp only [Option.bind_some] at h1 ⊢
    rw [row_snoc]
    cases hp : pRow p i l with
    | none =>
      rw [hp] at h1
      simp only at h1
      subst h1
      exact h2
    | some u =>
      obtain ⟨xs, r⟩ := u
      rw [hp] at h1
      obtain ⟨rfl, rfl⟩ := h1
      simp only [Option.bind_some] at h2 ⊢
      cases hq : p r with
      | none => rw [hq] at h2; exact h2
      | some v =>
        obtain ⟨y', r'⟩ := v
        rw [hq] at h2
        obtain ⟨rfl, rfl⟩ := h2
        exact ⟨rfl, rfl⟩
theorem aft_start {α : Type} {p : List UInt8 → Option (α × List UInt8)} (s : Option (List UInt8)) : Aft (pRow p 0) s [] s := by
  unfold Aft
  cases s with
  | none => rfl
  | some l => exact ⟨rfl, rfl⟩
/-- once it failed, no row is read -/
theorem aft_stop {α : Type} {p : List UInt8 → Option (α × List UInt8)} {i n : Nat} {s : Option (List UInt8)} {P Q : List α} (h : Aft (pRow p i) s P none) (hi : i ≤ n) : Aft (pRow p n) s Q none := by
  unfold Aft at *
  cases s with
  | none => rfl
  | some l =>
    simp only [Option.bind_some] at h ⊢
    cases hp : pRow p i l with
    | none => rw [row_none p l i n hp hi]; trivial
    | some u =>
      rw [hp] at h
      obtain ⟨_, h⟩ := h
      cases h
def VTexts (B : Nat) (w : World) (l : List ByteArray) (v : Value) : Prop := OwnG 9 1 cellsS B w l v ∧ ∀ x ∈ l, x.size ≤ 32768
def VNums (B : Nat) (w : World) (l : List Int) (v : Value) : Prop := OwnG 3 1 cellsI B w l v ∧ ∀ x ∈ l, 0 ≤ x ∧ x ≤ 32768
def VAtts (B : Nat) (w : World) (l : List (ByteArray × List UInt8)) (v : Value) : Prop := OwnA B w l v ∧ ∀ x ∈ l, x.1.size ≤ 32768 ∧ x.2.length ≤ 32768
theorem vtexts_len {B : Nat} {w : World} {l : List ByteArray} {v : Value} (h : VTexts B w l v) : ∃ ao c, v = .slice ao l.length c := own_len h.1
theorem vnums_len {B : Nat} {w : World} {l : List Int} {v : Value} (h : VNums B w l v) : ∃ ao c, v = .slice ao l.length c := own_len h.1
theorem vatts_len {B : Nat} {w : World} {l : List (ByteArray × List UInt8)} {v : Value} (h : VAtts B w l v) : ∃ ao c, v = .slice ao l.length c := by
  obtain ⟨⟨us, _, h, _⟩, _⟩ := h
  exact own_len h
theorem VTexts.kept {w w' : World} {B g : Nat} {v : Value} {l : List ByteArray} (h : VTexts B w l v) (hg : w.grownBy w' (some g)) (hb : g < B) : VTexts B w' l v := ⟨row_kept h.1 hg hb, h.2⟩
theorem VNums.kept {w w' : World} {B g : Nat} {v : Value} {l : List Int} (h : VNums B w l v) (hg : w.grownBy w' (some g)) (hb : g < B) : VNums B w' l v := ⟨row_kept h.1 hg hb, h.2⟩
theorem VAtts.kept {w w' : World} {B g : Nat} {v : Value} {l : List (ByteArray × List UInt8)} (h : VAtts B w l v) (hg : w.grownBy w' (some g)) (hb : g < B) : VAtts B w' l v := ⟨h.1.kept hg hb, h.2⟩
theorem VTexts.alloc {w : World} {B : Nat} {v : Value} {l : List ByteArray} (h : VTexts B w l v) (o : Obj) : VTexts B (w.alloc o) l v := ⟨row_kept_alloc h.1 o, h.2⟩
theorem VNums.alloc {w : World} {B : Nat} {v : Value} {l : List Int} (h : VNums B w l v) (o : Obj) : VNums B (w.alloc o) l v := ⟨row_kept_alloc h.1 o, h.2⟩
theorem VAtts.alloc {w : World} {B : Nat} {v : Value} {l : List (ByteArray × List UInt8)} (h : VAtts B w l v) (o : Obj) : VAtts B (w.alloc o) l v := ⟨h.1.alloc o, h.2⟩
theorem enters54 (args : Array Value) (w : World) : (callFunc 54 args).run Tryz.prog w = .ok (.enter 54 args) w := by kernel_rfl
theorem enters32 (args : Array Value) (w : World) : (callFunc 32 args).run Tryz.prog w = .ok (.enter 32 args) w := by kernel_rfl
theorem enters56 (args : Array Value) (w : World) : (callFunc 56 args).run Tryz.prog w = .ok (.enter 56 args) w := by kernel_rfl
set_option maxHeartbeats 2000000 in
set_option maxRecDepth 100000 in
theorem several_text (g : Nat) (a : Addr) (s : Option (List UInt8)) (n : Nat) (hn : n ≤ 32768) (w : World) (h : Rdr w g a s) :
    Calls Tryz.prog 58 #[.pointer (some ⟨g, 0, none⟩), .int .i64 (n : Int), .func (.func 54) #[.pointer (some ⟨g, 0, none⟩)] #[]] w (Ans w g a (fun w' l v => VTexts w.heap.size w' l v ∧ l.length ≤ n) (pRow (pText 32768) n) s) := by
  have HR := Lib.hid h
  have GLT : Hid (g < w.heap.size) := grown_size h (World.grownBy.refl w _)
  clear h
  have G0 := Lib.hid (World.grownBy.refl w (some g))
  have hE := enters54
  go_enter Tryz.func58, Tryz.ntmps58
  go_wp2_with fail
  go_loopw [7] (fun v wr => ∃ (i : Nat) (P : List ByteArray) (st : Option (List UInt8)), i ≤ n ∧ P.length = i ∧ Hid (Aft (pRow (pText 32768) i) s P st) ∧ Hid (Rdr wr g a st) ∧ Hid (VTexts w.heap.size wr P v) ∧ Hid (w.grownBy wr (some g))) (fun v _ => n - lenV v)
  case atStart => exact ⟨0, [], s, by omega, rfl, aft_start s, HR.out, ⟨World.ownsRow_nil _ _ _ _, fun x hx => by simp at hx⟩, G0.out⟩
  case round =>
    obtain ⟨i, P, st, hi, hPl, hA, hR, hO, hG⟩ := hrel
    obtain ⟨ao, c, rfl⟩ := vtexts_len hO.out
    rw [hPl] at hO
    obtain ⟨ra, rm, rc, ev, hrp, hev⟩ := hR.out
    have e1 := hrp.blk.cell 1
    simp only [List.getElem?_cons_zero, List.getElem?_cons_succ] at e1
    clear hrp
    by_cases hin : i < n
    · have q2 : (i : Int) < (n : Int) := by omega
      rcases hev with ⟨lr, rfl, rfl⟩ | ⟨rfl, hfl⟩
      · have C := Lib.hid (text_rd g a (some lr) wr hR.out)
        have PL := Lib.hid hPl
        clear hPl hR
        rw [PL.out]
        go_wp2_with fail
        refine C.out.mono ?_
        clear C
        rintro e w1 ⟨hg, x, v, s', rfl, hv, hr, ha⟩
        obtain ⟨hv, hvx⟩ := hv
        subst hv
        have gl := GLT.out
        have G1 := Lib.hid (grownBy_trans hG.out hg)
        have O1 := Lib.hid (VTexts.kept hO.out hg gl)
        have R1 := Lib.hid hr
        have A1 : Hid (Aft (pRow (pText 32768) (i + 1)) s (P ++ [x]) s') := aft_row hA.out ha
        have hsz := G1.out.size
        have KX : Hid (Sh.Blk (w1.alloc (.cells #[.string x] 9)) w1.heap.size [.string x] 9) := Sh.Blk.new w1 [.string x] 9 _ rfl
        have O2 := Lib.hid (VTexts.alloc O1.out (.cells #[.string x] 9))
        have ROW : Hid ((w1.alloc (.cells #[.string x] 9)).ownsRow w.heap.size 9 1 (.slice ao i c) i (P.flatMap cellsS)) := by have := O2.out.1; unfold OwnG at this; rw [PL.out] at this; exact this
        have hb2 : w.heap.size ≤ (w1.alloc (.cells #[.string x] 9)).heap.size := by simp; omega
        have VX := Lib.hid hvx
        clear hvx
        clear hg hr hO hG hA ha
        go_wp2_with (at_builtin; refine wpl_one (t := 42) (e := 9) rfl (.tmp 19) (.tmp 22) rfl Tryz.underlying42 infoT rfl (by decide) w.heap.size (.slice ao i c) i _ rfl ROW.out w1.heap.size [.string x] rfl KX.out rfl (by simp [Value.oneCell']) (by omega) (by decide) hb2 ?_; intro v' w' hown' hgrow)
        have G2 : Hid (w.grownBy w' (some g)) := gb_then (grownBy_allocR G1.out (.cells #[.string x] 9)) hgrow (fun j hj => .inl (ROW.out.lt j hj).1)
        have R2 : Hid (Rdr w' g a s') := (R1.out.grown ((Below.refl _ w1).alloc (Nat.le_refl _) (.cells #[.string x] 9))).row hgrow (fun j hj => by have := (ROW.out.lt j hj).1; omega)
        have O3 : Hid (VTexts w.heap.size w' (P ++ [x]) v') := by
          refine ⟨by unfold OwnG; rw [flat_snoc, show (P ++ [x]).length = i + 1 by simp [PL.out]]; exact hown', fun y hy => ?_⟩
          rcases List.mem_append.1 hy with h | h
          · exact O1.out.2 y h
          · rw [List.mem_singleton] at h; rw [h]; exact VX.out
        have hl2 : Hid ((P ++ [x]).length = i + 1) := by show _ = _; simp [PL.out]
        obtain ⟨ao', c', rfl⟩ := own_len hown'
        clear hown' hgrow hb2
        go_wp2_with fail
        go_roundw
        case rel => exact ⟨i + 1, P ++ [x], s', by omega, hl2.out, A1, R2, O3, G2⟩
        case measure => simp [lenV]; omega
      · obtain ⟨x, rfl⟩ := flaw_iface hfl
        have PL := Lib.hid hPl
        clear hPl hfl
        rw [PL.out]
        go_wp2_with fail
        go_ret
        exact ⟨hG.out, P, _, none, rfl, ⟨hO.out, by have := PL.out; omega⟩, hR.out, aft_stop hA.out hi⟩
    · obtain rfl : i = n := by omega
      have PL := Lib.hid hPl
      clear hPl hev
      rw [PL.out]
      go_wp2_with fail
      go_ret
      exact ⟨hG.out, P, _, st, rfl, ⟨hO.out, by have := PL.out; omega⟩, hR.out, hA.out⟩
set_option maxHeartbeats 2000000 in
set_option maxRecDepth 100000 in
theorem several_int (g : Nat) (a : Addr) (s : Option (List UInt8)) (n : Nat) (hn : n ≤ 32768) (w : World) (h : Rdr w g a s) :
    Calls Tryz.prog 59 #[.pointer (some ⟨g, 0, none⟩), .int .i64 (n : Int), .func (.func 32) #[.pointer (some ⟨g, 0, none⟩)] #[]] w (Ans w g a (fun w' l v => VNums w.heap.size w' l v ∧ l.length ≤ n) (pRow (pNum 32768) n) s) := by
  have HR := Lib.hid h
  have GLT : Hid (g < w.heap.size) := grown_size h (World.grownBy.refl w _)
  clear h
  have G0 := Lib.hid (World.grownBy.refl w (some g))
  have hE := enters32
  go_enter Tryz.func59, Tryz.ntmps59
  go_wp2_with fail
  go_loopw [7] (fun v wr => ∃ (i : Nat) (P : List Int) (st : Option (List UInt8)), i ≤ n ∧ P.length = i ∧ Hid (Aft (pRow (pNum 32768) i) s P st) ∧ Hid (Rdr wr g a st) ∧ Hid (VNums w.heap.size wr P v) ∧ Hid (w.grownBy wr (some g))) (fun v _ => n - lenV v)
  case atStart => exact ⟨0, [], s, by omega, rfl, aft_start s, HR.out, ⟨World.ownsRow_nil _ _ _ _, fun x hx => by simp at hx⟩, G0.out⟩
  case round =>
    obtain ⟨i, P, st, hi, hPl, hA, hR, hO, hG⟩ := hrel
    obtain ⟨ao, c, rfl⟩ := vnums_len hO.out
    rw [hPl] at hO
    obtain ⟨ra, rm, rc, ev, hrp, hev⟩ := hR.out
    have e1 := hrp.blk.cell 1
    simp only [List.getElem?_cons_zero, List.getElem?_cons_succ] at e1
    clear hrp
    by_cases hin : i < n
    · have q2 : (i : Int) < (n : Int) := by omega
      rcases hev with ⟨lr, rfl, rfl⟩ | ⟨rfl, hfl⟩
      · have C := Lib.hid (number_rd g a (some lr) wr hR.out)
        have PL := Lib.hid hPl
        clear hPl hR
        rw [PL.out]
        go_wp2_with fail
        refine C.out.mono ?_
        clear C
        rintro e w1 ⟨hg, x, v, s', rfl, hv, hr, ha⟩
        obtain ⟨hv, hvx⟩ := hv
        subst hv
        have gl := GLT.out
        have G1 := Lib.hid (grownBy_trans hG.out hg)
        have O1 := Lib.hid (VNums.kept hO.out hg gl)
        have R1 := Lib.hid hr
        have A1 : Hid (Aft (pRow (pNum 32768) (i + 1)) s (P ++ [x]) s') := aft_row hA.out ha
        have hsz := G1.out.size
        have KX : Hid (Sh.Blk (w1.alloc (.cells #[.int .i64 x] 3)) w1.heap.size [.int .i64 x] 3) := Sh.Blk.new w1 [.int .i64 x] 3 _ rfl
        have O2 := Lib.hid (VNums.alloc O1.out (.cells #[.int .i64 x] 3))
        have ROW : Hid ((w1.alloc (.cells #[.int .i64 x] 3)).ownsRow w.heap.size 3 1 (.slice ao i c) i (P.flatMap cellsI)) := by have := O2.out.1; unfold OwnG at this; rw [PL.out] at this; exact this
        have hb2 : w.heap.size ≤ (w1.alloc (.cells #[.int .i64 x] 3)).heap.size := by simp; omega
        have VX := Lib.hid hvx
        clear hvx
        clear hg hr hO hG hA ha
        go_wp2_with (at_builtin; refine wpl_one (t := 43) (e := 3) rfl (.tmp 19) (.tmp 22) rfl Tryz.underlying43 infoI rfl (by decide) w.heap.size (.slice ao i c) i _ rfl ROW.out w1.heap.size [.int .i64 x] rfl KX.out rfl (by simp [Value.oneCell']) (by omega) (by decide) hb2 ?_; intro v' w' hown' hgrow)
        have G2 : Hid (w.grownBy w' (some g)) := gb_then (grownBy_allocR G1.out (.cells #[.int .i64 x] 3)) hgrow (fun j hj => .inl (ROW.out.lt j hj).1)
        have R2 : Hid (Rdr w' g a s') := (R1.out.grown ((Below.refl _ w1).alloc (Nat.le_refl _) (.cells #[.int .i64 x] 3))).row hgrow (fun j hj => by have := (ROW.out.lt j hj).1; omega)
        have O3 : Hid (VNums w.heap.size w' (P ++ [x]) v') := by
          refine ⟨by unfold OwnG; rw [flat_snoc, show (P ++ [x]).length = i + 1 by simp [PL.out]]; exact hown', fun y hy => ?_⟩
          rcases List.mem_append.1 hy with h | h
          · exact O1.out.2 y h
          · rw [List.mem_singleton] at h; rw [h]; exact VX.out
        have hl2 : Hid ((P ++ [x]).length = i + 1) := by show _ = _; simp [PL.out]
        obtain ⟨ao', c', rfl⟩ := own_len hown'
        clear hown' hgrow hb2
        go_wp2_with fail
        go_roundw
        case rel => exact ⟨i + 1, P ++ [x], s', by omega, hl2.out, A1, R2, O3, G2⟩
        case measure => simp [lenV]; omega
      · obtain ⟨x, rfl⟩ := flaw_iface hfl
        have PL := Lib.hid hPl
        clear hPl hfl
        rw [PL.out]
        go_wp2_with fail
        go_ret
        exact ⟨hG.out, P, _, none, rfl, ⟨hO.out, by have := PL.out; omega⟩, hR.out, aft_stop hA.out hi⟩
    · obtain rfl : i = n := by omega
      have PL := Lib.hid hPl
      clear hPl hev
      rw [PL.out]
      go_wp2_with fail
      go_ret
      exact ⟨hG.out, P, _, st, rfl, ⟨hO.out, by have := PL.out; omega⟩, hR.out, hA.out⟩
set_option maxHeartbeats 2000000 in
set_option maxRecDepth 100000 in
theorem several_attr (g : Nat) (a : Addr) (s : Option (List UInt8)) (n : Nat) (hn : n ≤ 32768) (w : World) (h : Rdr w g a s) :
    Calls Tryz.prog 55 #[.pointer (some ⟨g, 0, none⟩), .int .i64 (n : Int), .func (.func 56) #[.pointer (some ⟨g, 0, none⟩)] #[]] w (Ans w g a (fun w' l v => VAtts w.heap.size w' l v ∧ l.length ≤ n) (pRow pAtt n) s) := by
  have HR := Lib.hid h
  have GLT : Hid (g < w.heap.size) := grown_size h (World.grownBy.refl w _)
  clear h
  have G0 := Lib.hid (World.grownBy.refl w (some g))
  have hE := enters56
  go_enter Tryz.func55, Tryz.ntmps55
  go_wp2_with fail
  go_loopw [7] (fun v wr => ∃ (i : Nat) (P : List (ByteArray × List UInt8)) (st : Option (List UInt8)), i ≤ n ∧ P.length = i ∧ Hid (Aft (pRow pAtt i) s P st) ∧ Hid (Rdr wr g a st) ∧ Hid (VAtts w.heap.size wr P v) ∧ Hid (w.grownBy wr (some g))) (fun v _ => n - lenV v)
  case atStart => exact ⟨0, [], s, by omega, rfl, aft_start s, HR.out, ⟨ownA_nil _ _, fun x hx => by simp at hx⟩, G0.out⟩
  case round =>
    obtain ⟨i, P, st, hi, hPl, hA, hR, hO, hG⟩ := hrel
    obtain ⟨ao, c, rfl⟩ := vatts_len hO.out
    rw [hPl] at hO
    obtain ⟨ra, rm, rc, ev, hrp, hev⟩ := hR.out
    have e1 := hrp.blk.cell 1
    simp only [List.getElem?_cons_zero, List.getElem?_cons_succ] at e1
    clear hrp
    by_cases hin : i < n
    · have q2 : (i : Int) < (n : Int) := by omega
      rcases hev with ⟨lr, rfl, rfl⟩ | ⟨rfl, hfl⟩
      · have C := Lib.hid (attr_rd g a (some lr) wr hR.out)
        have PL := Lib.hid hPl
        clear hPl hR
        rw [PL.out]
        go_wp2_with fail
        refine C.out.mono ?_
        clear C
        rintro e w1 ⟨hg, x, v, s', rfl, hv, hr, ha⟩
        obtain ⟨u, rfl, hv, hx1, hx2⟩ := hv
        obtain ⟨a5, c5, rfl, _, _, _, _⟩ := own_byt (show w1.ownsRow wr.heap.size 5 1 u x.2.length (bs x.2) from hv)
        have gl := GLT.out
        have G1 := Lib.hid (grownBy_trans hG.out hg)
        have O1 := Lib.hid (VAtts.kept hO.out hg gl)
        have R1 := Lib.hid hr
        have A1 : Hid (Aft (pRow pAtt (i + 1)) s (P ++ [x]) s') := aft_row hA.out ha
        have hsz := G1.out.size
        have KX : Hid (Sh.Blk (w1.alloc (.cells #[.string x.1, .slice a5 x.2.length c5] 82)) w1.heap.size [.string x.1, .slice a5 x.2.length c5] 82) := Sh.Blk.new w1 [.string x.1, .slice a5 x.2.length c5] 82 _ rfl
        have O2 := Lib.hid (VAtts.alloc O1.out (.cells #[.string x.1, .slice a5 x.2.length c5] 82))
        obtain ⟨us, U1, U2, U3⟩ := O2.out.1
        have UL := Lib.hid U1
        have UA := Lib.hid U3
        have ROW : Hid ((w1.alloc (.cells #[.string x.1, .slice a5 x.2.length c5] 82)).ownsRow w.heap.size 82 2 (.slice ao i c) i (attC P us)) := by rw [PL.out] at U2; exact U2
        have V1 : Hid (Own (w1.alloc (.cells #[.string x.1, .slice a5 x.2.length c5] 82)) w.heap.size (.slice a5 x.2.length c5) x.2) := row_kept_alloc (Own.low hv hG.out.size) _
        clear U1 U2 U3
        have hb2 : w.heap.size ≤ (w1.alloc (.cells #[.string x.1, .slice a5 x.2.length c5] 82)).heap.size := by simp; omega
        have VX : Hid (x.1.size ≤ 32768 ∧ x.2.length ≤ 32768) := ⟨hx1, hx2⟩
        clear hx1 hx2
        clear hg hr hO hG hv hA ha
        go_wp2_with (at_builtin; refine wpl_one (t := 44) (e := 82) rfl (.tmp 19) (.tmp 22) rfl Tryz.underlying44 infoA rfl (by decide) w.heap.size (.slice ao i c) i _ rfl ROW.out w1.heap.size [.string x.1, .slice a5 x.2.length c5] rfl KX.out rfl (by simp [Value.oneCell']) (by omega) (by decide) hb2 ?_; intro v' w' hown' hgrow)
        have G2 : Hid (w.grownBy w' (some g)) := gb_then (grownBy_allocR G1.out (.cells #[.string x.1, .slice a5 x.2.length c5] 82)) hgrow (fun j hj => .inl (ROW.out.lt j hj).1)
        have R2 : Hid (Rdr w' g a s') := (R1.out.grown ((Below.refl _ w1).alloc (Nat.le_refl _) (.cells #[.string x.1, .slice a5 x.2.length c5] 82))).row hgrow (fun j hj => by have := (ROW.out.lt j hj).1; omega)
        have O3 : Hid (VAtts w.heap.size w' (P ++ [x]) v') := by
          refine ⟨⟨us ++ [.slice a5 x.2.length c5], by simp [UL.out], by rw [attC_snoc UL.out, show (P ++ [x]).length = i + 1 by simp [PL.out]]; exact hown', fun j y u hy hu => ?_⟩, fun y hy => ?_⟩
          · rcases Nat.lt_or_ge j P.length with h1 | h1
            · rw [List.getElem?_append_left h1] at hy
              rw [List.getElem?_append_left (by rw [UL.out]; exact h1)] at hu
              exact own_apart (UA.out j y u hy hu) ROW.out hgrow
            · rw [List.getElem?_append_right h1] at hy
              rw [List.getElem?_append_right (by rw [UL.out]; exact h1), UL.out] at hu
              have h2 : j - P.length = 0 := by
                have := (List.getElem?_eq_some_iff.1 hy).1
                simp at this
                omega
              rw [h2] at hy hu
              simp only [List.getElem?_cons_zero, Option.some.injEq] at hy hu
              subst hy
              subst hu
              exact own_apart V1.out ROW.out hgrow
          · rcases List.mem_append.1 hy with h | h
            · exact O1.out.2 y h
            · rw [List.mem_singleton] at h; rw [h]; exact VX.out
        have hl2 : Hid ((P ++ [x]).length = i + 1) := by show _ = _; simp [PL.out]
        obtain ⟨ao', c', rfl⟩ := own_len hown'
        clear hown' hgrow hb2
        go_wp2_with fail
        go_roundw
        case rel => exact ⟨i + 1, P ++ [x], s', by omega, hl2.out, A1, R2, O3, G2⟩
        case measure => simp [lenV]; omega
      · obtain ⟨x, rfl⟩ := flaw_iface hfl
        have PL := Lib.hid hPl
        clear hPl hfl
        rw [PL.out]
        go_wp2_with fail
        go_ret
        exact ⟨hG.out, P, _, none, rfl, ⟨hO.out, by have := PL.out; omega⟩, hR.out, aft_stop hA.out hi⟩
    · obtain rfl : i = n := by omega
      have PL := Lib.hid hPl
      clear hPl hev
      rw [PL.out]
      go_wp2_with fail
      go_ret
      exact ⟨hG.out, P, _, st, rfl, ⟨hO.out, by have := PL.out; omega⟩, hR.out, hA.out⟩
end Go.Proofs.YtojhlhpbhoeplaaGreatDoor.Lw
namespace Go.Proofs.YtojhlhpbhoeplaaGreatDoor.Lw
open Go.RowKit Go.Lib Go.Proofs.YtojhlhpbhoeplaaGreatDoor.Sh Go.Proofs.YtojhlhpbhoeplaaGreatDoor.Lb

/-- what an inode's four slices are -/
structure SubV where
  d : Value
  ns : Value
  zs : Value
  at_ : Value
def inoV (x : InoP) (u : SubV) : List Value := [.int .i64 x.num, .int .i64 x.kind, .int .i64 x.mode, .int .i64 x.links, u.d, .string x.target, u.ns, u.zs, u.at_]
def SubOk (B : Nat) (w : World) (x : InoP) (u : SubV) : Prop := Own w B u.d x.data ∧ OwnG 9 1 cellsS B w x.names u.ns ∧ OwnG 3 1 cellsI B w x.nums u.zs ∧ OwnA B w x.attrs u.at_
structure Small (x : InoP) : Prop where
  kind : 0 ≤ x.kind ∧ x.kind ≤ 32768
  mode : 0 ≤ x.mode ∧ x.mode ≤ 32768
  data : x.data.length ≤ 32768
  target : x.target.size ≤ 32768
  names : ∀ s ∈ x.names, s.size ≤ 32768
  nums : ∀ z ∈ x.nums, 0 ≤ z ∧ z ≤ 32768
  attrs : ∀ a ∈ x.attrs, a.1.size ≤ 32768 ∧ a.2.length ≤ 32768
def VIno (B : Nat) (w : World) (x : InoP) (v : Value) : Prop := ∃ u, v = .agg (inoV x u).toArray ∧ SubOk B w x u ∧ Small x
def zeroIno : List Value := [.int .i64 0, .int .i64 0, .int .i64 0, .int .i64 0, .slice none 0 0, .string ⟨#[]⟩, .slice none 0 0, .slice none 0 0, .slice none 0 0]
theorem size46 : (Tryz.prog.info? 46).map (·.size) = some 9 := by kernel_rfl
theorem set_nine {w : World} {b : Nat} {t : TypeId} {z0 z1 z2 z3 z4 z5 z6 z7 z8 : Value} (h : Sh.Blk w b [z0, z1, z2, z3, z4, z5, z6, z7, z8] t) (v0 v1 v2 v3 v4 v5 v6 v7 v8 : Value) :
    Sh.Blk (((((((((w.setCell ⟨b, 0, none⟩ v0).setCell ⟨b, 1, none⟩ v1).setCell ⟨b, 2, none⟩ v2).setCell ⟨b, 3, none⟩ v3).setCell ⟨b, 4, none⟩ v4).setCell ⟨b, 5, none⟩ v5).setCell ⟨b, 6, none⟩ v6).setCell ⟨b, 7, none⟩ v7).setCell ⟨b, 8, none⟩ v8) b [v0, v1, v2, v3, v4, v5, v6, v7, v8] t ∧
    w.grownBy (((((((((w.setCell ⟨b, 0, none⟩ v0).setCell ⟨b, 1, none⟩ v1).setCell ⟨b, 2, none⟩ v2).setCell ⟨b, 3, none⟩ v3).setCell ⟨b, 4, none⟩ v4).setCell ⟨b, 5, none⟩ v5).setCell ⟨b, 6, none⟩ v6).setCell ⟨b, 7, none⟩ v7).setCell ⟨b, 8, none⟩ v8) (some b) := by
  constructor
  · have h1 := ((((((((h.set 0 v0).set 1 v1).set 2 v2).set 3 v3).set 4 v4).set 5 v5).set 6 v6).set 7 v7).set 8 v8
    simpa using h1
  · exact grownBy_trans (grownBy_trans (grownBy_trans (grownBy_trans (grownBy_trans (grownBy_trans (grownBy_trans (grownBy_trans (grownBy_setCell _ _ _ _) (grownBy_setCell _ _ _ _)) (grownBy_setCell _ _ _ _)) (grownBy_setCell _ _ _ _)) (grownBy_setCell _ _ _ _)) (grownBy_setCell _ _ _ _)) (grownBy_setCell _ _ _ _)) (grownBy_setCell _ _ _ _)) (grownBy_setCell _ _ _ _)
theorem SubOk.kept {w w' : World} {B g : Nat} {x : InoP} {u : SubV} (h : SubOk B w x u) (hg : w.grownBy w' (some g)) (hb : g < B) : SubOk B w' x u :=
  ⟨own_kept h.1 hg hb, row_kept h.2.1 hg hb, row_kept h.2.2.1 hg hb, h.2.2.2.kept hg hb⟩
theorem SubOk.low {w : World} {B B' : Nat} {x : InoP} {u : SubV} (h : SubOk B w x u) (hb : B' ≤ B) : SubOk B' w x u :=
  ⟨Own.low h.1 hb, OwnG.low h.2.1 hb, OwnG.low h.2.2.1 hb, h.2.2.2.low hb⟩
theorem aft_many {α : Type} {p : List UInt8 → Option (α × List UInt8)} {k n : Nat} {s s1 s2 : Option (List UInt8)} {P : List α} (h1 : Aft (pNum k) s (n : Int) s1) (h2 : Aft (pRow p n) s1 P s2) : Aft (pMany k p) s P s2 :=
  aft_map (Prod.snd : Int × List α → List α) (aft_seq (q := fun n : Int => pRow p n.toNat) h1 (by simpa using h2))
theorem aft_tail1 {s s' : Option (List UInt8)} {d : List UInt8} (h : Aft (pData 32768) s d s') : Aft (pTail 1) s (d, [], []) s' := aft_map (fun d => (d, ([] : List ByteArray), ([] : List Int))) h
theorem aft_tail2 {s s1 s2 s3 : Option (List UInt8)} {n : Nat} {ns : List ByteArray} {zs : List Int} (h1 : Aft (pNum 32768) s (n : Int) s1) (h2 : Aft (pRow (pText 32768) n) s1 ns s2) (h3 : Aft (pRow (pNum 32768) ns.length) s2 zs s3) : Aft (pTail 2) s ([], ns, zs) s3 := by
  have h : Aft pDir s (ns, zs) s3 := aft_seq (q := fun ns : List ByteArray => pRow (pNum 32768) ns.length) (aft_many h1 h2) h3
  exact aft_map (fun z : List ByteArray × List Int => (([] : List UInt8), z.1, z.2)) h
theorem aft_tail3 {s : Option (List UInt8)} {k : Int} (h1 : k ≠ 1) (h2 : k ≠ 2) : Aft (pTail k) s ([], [], []) s := by
  unfold Aft
  cases s with
  | none => rfl
  | some l =>
    rw [show (some l).bind (pTail k) = pTail k l from rfl, pTail, if_neg h1, if_neg h2]
    exact ⟨rfl, rfl⟩
theorem aft_ino {s s1 s2 s3 s4 s5 : Option (List UInt8)} {k m : Int} {t : ByteArray} {al : List (ByteArray × List UInt8)} {d : List UInt8} {ns : List ByteArray} {zs : List Int} (h1 : Aft (pNum 32768) s k s1) (h2 : Aft (pNum 32768) s1 m s2) (h3 : Aft (pText 32768) s2 t s3) (h4 : Aft (pMany 32768 pAtt) s3 al s4) (h5 : Aft (pTail k) s4 (d, ns, zs) s5) : Aft pIno s ⟨0, k, m, 0, d, t, ns, zs, al⟩ s5 := by
  have e5 : Aft (pSeq (pMany 32768 pAtt) fun _ => pTail k) s3 (al, d, ns, zs) s5 := aft_seq (q := fun _ => pTail k) h4 h5
  have e4 : Aft (pSeq (pText 32768) fun _ => pSeq (pMany 32768 pAtt) fun _ => pTail k) s2 (t, al, d, ns, zs) s5 := aft_seq (q := fun _ => pSeq (pMany 32768 pAtt) fun _ => pTail k) h3 e5
  have e3 : Aft (pSeq (pNum 32768) fun _ => pSeq (pText 32768) fun _ => pSeq (pMany 32768 pAtt) fun _ => pTail k) s1 (m, t, al, d, ns, zs) s5 := aft_seq (q := fun _ => pSeq (pText 32768) fun _ => pSeq (pMany 32768 pAtt) fun _ => pTail k) h2 e4
  have e2 := aft_seq (q := fun k => pSeq (pNum 32768) fun _ => pSeq (pText 32768) fun _ => pSeq (pMany 32768 pAtt) fun _ => pTail k) h1 e3
  exact aft_map (fun z : Int × Int × ByteArray × List (ByteArray × List UInt8) × List UInt8 × List ByteArray × List Int => (⟨0, z.1, z.2.1, 0, z.2.2.2.2.1, z.2.2.1, z.2.2.2.2.2.1, z.2.2.2.2.2.2, z.2.2.2.1⟩ : InoP)) e2
/-- the last step: the inode out of its box into the result -/
theorem ino_end (w w' : World) (b : Nat) (g : Nat) (a : Addr) (s s' : Option (List UInt8)) (x : InoP) (u : SubV) (hB : w.heap.size ≤ b) (hs : SubOk (b + 1) w' x u) (hm : Small x) (hA : Aft pIno s x s') (hR : Rdr w' g a s') (hg : w.grownBy w' (some g)) (hk : Sh.Blk w' w.heap.size zeroIno 46) (hgb : g < w.heap.size) :
    Sh.Blk (((((((((w'.setCell ⟨w.heap.size, 0, none⟩ (.int .i64 x.num)).setCell ⟨w.heap.size, 1, none⟩ (.int .i64 x.kind)).setCell ⟨w.heap.size, 2, none⟩ (.int .i64 x.mode)).setCell ⟨w.heap.size, 3, none⟩ (.int .i64 x.links)).setCell ⟨w.heap.size, 4, none⟩ u.d).setCell ⟨w.heap.size, 5, none⟩ (.string x.target)).setCell ⟨w.heap.size, 6, none⟩ u.ns).setCell ⟨w.heap.size, 7, none⟩ u.zs).setCell ⟨w.heap.size, 8, none⟩ u.at_) w.heap.size (inoV x u) 46 ∧ Ans w g a (VIno w.heap.size) pIno s (.returned (.agg (inoV x u).toArray)) (((((((((w'.setCell ⟨w.heap.size, 0, none⟩ (.int .i64 x.num)).setCell ⟨w.heap.size, 1, none⟩ (.int .i64 x.kind)).setCell ⟨w.heap.size, 2, none⟩ (.int .i64 x.mode)).setCell ⟨w.heap.size, 3, none⟩ (.int .i64 x.links)).setCell ⟨w.heap.size, 4, none⟩ u.d).setCell ⟨w.heap.size, 5, none⟩ (.string x.target)).setCell ⟨w.heap.size, 6, none⟩ u.ns).setCell ⟨w.heap.size, 7, none⟩ u.zs).setCell ⟨w.heap.size, 8, none⟩ u.at_) := by
  have hk' : Sh.Blk w' w.heap.size [.int .i64 0, .int .i64 0, .int .i64 0, .int .i64 0, .slice none 0 0, .string ⟨#[]⟩, .slice none 0 0, .slice none 0 0, .slice none 0 0] 46 := hk
  obtain ⟨K, G⟩ := set_nine hk' (.int .i64 x.num) (.int .i64 x.kind) (.int .i64 x.mode) (.int .i64 x.links) u.d (.string x.target) u.ns u.zs u.at_
  exact ⟨K, gb_then hg G (fun j hj => .inl (by injection hj with hj; omega)), x, _, s', rfl, ⟨u, rfl, (hs.kept G (by omega)).low (by omega), hm⟩, hR.row G (fun j hj => by injection hj with hj; omega), hA⟩
theorem VAtts.low {w : World} {B B' : Nat} {v : Value} {l : List (ByteArray × List UInt8)} (h : VAtts B w l v) (hb : B' ≤ B) : VAtts B' w l v := ⟨h.1.low hb, h.2⟩
theorem VTexts.low {w : World} {B B' : Nat} {v : Value} {l : List ByteArray} (h : VTexts B w l v) (hb : B' ≤ B) : VTexts B' w l v := ⟨OwnG.low h.1 hb, h.2⟩
theorem VNums.low {w : World} {B B' : Nat} {v : Value} {l : List Int} (h : VNums B w l v) (hb : B' ≤ B) : VNums B' w l v := ⟨OwnG.low h.1 hb, h.2⟩
end Go.Proofs.YtojhlhpbhoeplaaGreatDoor.Lw
namespace Go.Proofs.YtojhlhpbhoeplaaGreatDoor.Lw
open Go.RowKit Go.Lib Go.Proofs.YtojhlhpbhoeplaaGreatDoor.Sh Go.Proofs.YtojhlhpbhoeplaaGreatDoor.Lb

set_option maxHeartbeats 8000000 in
set_option maxRecDepth 100000 in
theorem inode_rd (g : Nat) (a : Addr) (s : Option (List UInt8)) (w : World) (h0 : Rdr w g a s) :
    Calls Tryz.prog 33 #[.pointer (some ⟨g, 0, none⟩)] w (Ans w g a (VIno w.heap.size) pIno s) := by
  have hmf : ∀ (fn : Fn) (first cap : Array Value) (w : World), (Instr.makeFunc fn first cap).run Tryz.prog w = .ok (.func fn first cap) w := fun _ _ _ _ => rfl
  obtain ⟨w0, hwa⟩ : ∃ wa, wa = w.alloc (.cells #[.int .i64 0, .int .i64 0, .int .i64 0, .int .i64 0, .slice none 0 0, .string ⟨#[]⟩, .slice none 0 0, .slice none 0 0, .slice none 0 0] 46) := ⟨_, rfl⟩
  have ba : Below w.heap.size w w0 := by rw [hwa]; exact (Below.refl _ w).alloc (Nat.le_refl _) _
  have sa : w0.heap.size = w.heap.size + 1 := by rw [hwa]; simp
  have K0 : Hid (Sh.Blk w0 w.heap.size zeroIno 46) := by show Sh.Blk _ _ _ _; rw [hwa]; exact Sh.Blk.new w zeroIno 46 _ rfl
  have gl : g < w.heap.size := grown_size h0 (World.grownBy.refl w _)
  have G0 := Lib.hid (grown_below ba (some g))
  have HA := Lib.hid hwa
  have R0 := Lib.hid (h0.grown ba)
  have S0 : w.heap.size + 1 ≤ w0.heap.size := by omega
  clear h0 ba sa hwa
  go_enter Tryz.func33, Tryz.ntmps33
  have C := Lib.hid (number_rd g a s w0 R0.out)
  go_wp2_with fail
  rw [← HA.out]
  clear HA
  refine C.out.mono ?_
  clear C
  rintro e w1 ⟨hg, k, v, s1, rfl, ⟨rfl, k0, k1⟩, hr, ha⟩
  have G1 := Lib.hid (gb_then G0.out hg (fun j hj => .inr hj))
  have K1 := Lib.hid (blk_grown K0.out hg (by omega))
  have R1 := Lib.hid hr
  have H1 := Lib.hid ha
  have S1 : w.heap.size + 1 ≤ w1.heap.size := by have := hg.size; omega
  clear hg hr ha K0 G0 R0
  have C := Lib.hid (number_rd g a s1 w1 R1.out)
  go_wp2_with fail
  refine C.out.mono ?_
  clear C
  rintro e w2 ⟨hg, m, v, s2, rfl, ⟨rfl, m0, m1⟩, hr, ha⟩
  have G2 := Lib.hid (gb_then G1.out hg (fun j hj => .inr hj))
  have K2 := Lib.hid (blk_grown K1.out hg (by omega))
  have R2 := Lib.hid hr
  have H2 := Lib.hid ha
  have S2 : w.heap.size + 1 ≤ w2.heap.size := by have := hg.size; omega
  clear hg hr ha K1 G1 R1
  have C := Lib.hid (text_rd g a s2 w2 R2.out)
  go_wp2_with fail
  refine C.out.mono ?_
  clear C
  rintro e w3 ⟨hg, t, v, s3, rfl, ⟨rfl, ht⟩, hr, ha⟩
  have G3 := Lib.hid (gb_then G2.out hg (fun j hj => .inr hj))
  have K3 := Lib.hid (blk_grown K2.out hg (by omega))
  have R3 := Lib.hid hr
  have H3 := Lib.hid ha
  have HT := Lib.hid ht
  have S3 : w.heap.size + 1 ≤ w3.heap.size := by have := hg.size; omega
  clear hg hr ha ht K2 G2 R2
  obtain ⟨b, hb⟩ : ∃ b, b = w3.heap.size := ⟨_, rfl⟩
  obtain ⟨w4, hw4⟩ : ∃ w4, w4 = w3.alloc (.cells #[.int .i64 0, .int .i64 k, .int .i64 m, .int .i64 0, .slice none 0 0, .string t, .slice none 0 0, .slice none 0 0, .slice none 0 0] 46) := ⟨_, rfl⟩
  have b4 : Below w3.heap.size w3 w4 := by rw [hw4]; exact (Below.refl _ w3).alloc (Nat.le_refl _) _
  have B4 : Hid (Sh.Blk w4 b [.int .i64 0, .int .i64 k, .int .i64 m, .int .i64 0, .slice none 0 0, .string t, .slice none 0 0, .slice none 0 0, .slice none 0 0] 46) := by show Sh.Blk _ _ _ _; rw [hw4]; exact Sh.Blk.new w3 [.int .i64 0, .int .i64 k, .int .i64 m, .int .i64 0, .slice none 0 0, .string t, .slice none 0 0, .slice none 0 0, .slice none 0 0] 46 _ hb
  have G4 := Lib.hid (gb_then G3.out (grown_below b4 none) (fun j hj => by cases hj))
  have K4 := Lib.hid (K3.out.low b4)
  have R4 := Lib.hid (R3.out.grown b4)
  have S4 : b + 1 ≤ w4.heap.size := by rw [hw4, hb]; simp
  have SB : w.heap.size + 1 ≤ b := by omega
  have HB := Lib.hid hb
  have HW4 := Lib.hid hw4
  clear hb hw4 b4 K3 G3 R3
  have C := Lib.hid (number_rd g a s3 w4 R4.out)
  go_wp2_with fail
  rw [← HW4.out, ← HB.out]
  refine C.out.mono ?_
  clear C HW4 HB
  rintro e w5 ⟨hg, n', v, s4, rfl, ⟨rfl, n0, n1⟩, hr, ha⟩
  obtain ⟨n, rfl⟩ : ∃ n : Nat, n' = (n : Int) := ⟨n'.toNat, by omega⟩
  have G5 := Lib.hid (gb_then G4.out hg (fun j hj => .inr hj))
  have K5 := Lib.hid (blk_grown K4.out hg (by omega))
  have B5 := Lib.hid (blk_grown B4.out hg (by omega))
  have R5 := Lib.hid hr
  have H4 := Lib.hid ha
  have S5 : b + 1 ≤ w5.heap.size := by have := hg.size; omega
  clear hg hr ha K4 G4 R4 B4
  have C := Lib.hid (several_attr g a s4 n (by omega) w5 R5.out)
  go_wp2_with fail
  refine C.out.mono ?_
  clear C
  rintro e w6 ⟨hg, al, va, s5, rfl, ⟨hv, _⟩, hr, ha⟩
  obtain ⟨a6, c6, hva⟩ := vatts_len hv
  obtain ⟨q6, hq6⟩ : ∃ q, q = al.length := ⟨_, rfl⟩
  rw [← hq6] at hva
  clear hq6
  subst hva
  have gs := grownBy_setCell w6 b 8 (.slice a6 q6 c6)
  have G6 := Lib.hid (gb_then (gb_then G5.out hg (fun j hj => .inr hj)) gs (fun j hj => .inl (by injection hj with hj; omega)))
  have K6 := Lib.hid (blk_grown (blk_grown K5.out hg (by omega)) gs (by omega))
  have B60 := blk_grown B5.out hg (by omega)
  have B6 : Hid (Sh.Blk (w6.setCell ⟨b, 8, none⟩ (.slice a6 q6 c6)) b [.int .i64 0, .int .i64 k, .int .i64 m, .int .i64 0, .slice none 0 0, .string t, .slice none 0 0, .slice none 0 0, .slice a6 q6 c6] 46) := by have := B60.set 8 (.slice a6 q6 c6); show Sh.Blk _ _ _ _; simpa using this
  have V6 := Lib.hid ((hv.low S5).kept gs (Nat.lt_succ_self b))
  have R6 := Lib.hid (hr.row gs (fun j hj => by injection hj with hj; omega))
  have H5 := Lib.hid (aft_many H4.out ha)
  have S6 : b + 1 ≤ (w6.setCell ⟨b, 8, none⟩ (.slice a6 q6 c6)).heap.size := by have := hg.size; simp; omega
  have c1 := B60.cell 1
  have c8 := B60.cell 8
  have f8 := B60.frozen 8
  simp only [List.getElem?_cons_zero, List.getElem?_cons_succ] at c1 c8
  clear hg hr ha hv K5 G5 R5 B5 B60 gs H4
  by_cases hk1 : k = 1
  · subst hk1
    have C := Lib.hid (counted_rd g a s5 _ R6.out)
    go_wp2_with fail
    refine C.out.mono ?_
    clear C c1 c8 f8
    generalize w6.setCell ⟨b, 8, none⟩ (.slice a6 q6 c6) = w7 at *
    rintro e w8 ⟨hg, d, vd, s6, rfl, ⟨hd, hdl⟩, hr, ha⟩
    obtain ⟨a8, c8', hvd⟩ := own_len (show w8.ownsRow w7.heap.size 5 1 vd d.length (bs d) from hd)
    obtain ⟨q8, hq8⟩ : ∃ q, q = d.length := ⟨_, rfl⟩
    rw [← hq8] at hvd
    clear hq8
    subst hvd
    have gs := grownBy_setCell w8 b 4 (.slice a8 q8 c8')
    have G8 := Lib.hid (gb_then (gb_then G6.out hg (fun j hj => .inr hj)) gs (fun j hj => .inl (by injection hj with hj; omega)))
    have K8 := Lib.hid (blk_grown (blk_grown K6.out hg (by omega)) gs (by omega))
    have B80 := blk_grown B6.out hg (by omega)
    have V8 := Lib.hid ((V6.out.kept hg (by omega)).kept gs (Nat.lt_succ_self b))
    have D8 := Lib.hid (own_kept (Own.low hd S6) gs (Nat.lt_succ_self b))
    have R8 := Lib.hid (hr.row gs (fun j hj => by injection hj with hj; omega))
    have H8 := Lib.hid (aft_ino H1.out H2.out H3.out H5.out (aft_tail1 ha))
    have DL := Lib.hid hdl
    have c0 := B80.cell 0
    have c1 := B80.cell 1
    have c2 := B80.cell 2
    have c3 := B80.cell 3
    have c4 := B80.cell 4
    have c5 := B80.cell 5
    have c6' := B80.cell 6
    have c7 := B80.cell 7
    have c8 := B80.cell 8
    have f4 := B80.frozen 4
    have z0 := (blk_grown K6.out hg (by omega)).cell 0
    have z1 := (blk_grown K6.out hg (by omega)).cell 1
    have z2 := (blk_grown K6.out hg (by omega)).cell 2
    have z3 := (blk_grown K6.out hg (by omega)).cell 3
    have z4 := (blk_grown K6.out hg (by omega)).cell 4
    have z5 := (blk_grown K6.out hg (by omega)).cell 5
    have z6 := (blk_grown K6.out hg (by omega)).cell 6
    have z7 := (blk_grown K6.out hg (by omega)).cell 7
    have z8 := (blk_grown K6.out hg (by omega)).cell 8
    have y0 := (blk_grown K6.out hg (by omega)).frozen 0
    have y1 := (blk_grown K6.out hg (by omega)).frozen 1
    have y2 := (blk_grown K6.out hg (by omega)).frozen 2
    have y3 := (blk_grown K6.out hg (by omega)).frozen 3
    have y4 := (blk_grown K6.out hg (by omega)).frozen 4
    have y5 := (blk_grown K6.out hg (by omega)).frozen 5
    have y6 := (blk_grown K6.out hg (by omega)).frozen 6
    have y7 := (blk_grown K6.out hg (by omega)).frozen 7
    have y8 := (blk_grown K6.out hg (by omega)).frozen 8
    simp only [zeroIno, List.getElem?_cons_zero, List.getElem?_cons_succ] at c0 c1 c2 c3 c4 c5 c6' c7 c8 z0 z1 z2 z3 z4 z5 z6 z7 z8
    have nb : ¬ b = w.heap.size := by omega
    have nb2 : ¬ w.heap.size = b := by omega
    clear hg hr ha hd hdl K6 G6 R6 B6 B80 gs V6
    go_wp2_with fail
    obtain ⟨KZ, hA⟩ := ino_end w _ b g a s s6 ⟨0, 1, m, 0, d, t, [], [], al⟩ ⟨.slice a8 q8 c8', .slice none 0 0, .slice none 0 0, .slice a6 q6 c6⟩ (by omega) ⟨D8.out, World.ownsRow_nil _ _ _ _, World.ownsRow_nil _ _ _ _, V8.out.1⟩ ⟨⟨by simp only; omega, by simp only; omega⟩, ⟨m0, m1⟩, DL.out, HT.out, fun x hx => by simp at hx, fun x hx => by simp at hx, V8.out.2⟩ H8.out R8.out G8.out K8.out gl
    exact bodyPost_ret (results_cell_row rfl _ _ w.heap.size 46 _ (0, 0) _ rfl KZ Tryz.underlying46 rfl size46) rfl hA
  by_cases hk2 : k = 2
  · subst hk2
    have C := Lib.hid (number_rd g a s5 _ R6.out)
    go_wp2_with fail
    refine C.out.mono ?_
    clear C c1 c8 f8
    generalize w6.setCell ⟨b, 8, none⟩ (.slice a6 q6 c6) = w7 at *
    rintro e w8 ⟨hg, n2', v, s6, rfl, ⟨rfl, p0, p1⟩, hr, ha⟩
    obtain ⟨n2, rfl⟩ : ∃ n : Nat, n2' = (n : Int) := ⟨n2'.toNat, by omega⟩
    have G8 := Lib.hid (gb_then G6.out hg (fun j hj => .inr hj))
    have K8 := Lib.hid (blk_grown K6.out hg (by omega))
    have B8 := Lib.hid (blk_grown B6.out hg (by omega))
    have V8 := Lib.hid (V6.out.kept hg (by omega))
    have R8 := Lib.hid hr
    have H6 := Lib.hid ha
    have S8 : b + 1 ≤ w8.heap.size := by have := hg.size; omega
    clear hg hr ha K6 G6 R6 B6 V6
    have C := Lib.hid (several_text g a s6 n2 (by omega) w8 R8.out)
    go_wp2_with fail
    refine C.out.mono ?_
    clear C
    rintro e w9 ⟨hg, ns, vn, s7, rfl, ⟨hv, hnl0⟩, hr, ha⟩
    obtain ⟨a9, c9, hvn⟩ := vtexts_len hv
    have gs := grownBy_setCell w9 b 6 vn
    have G9 := Lib.hid (gb_then (gb_then G8.out hg (fun j hj => .inr hj)) gs (fun j hj => .inl (by injection hj with hj; omega)))
    have K9 := Lib.hid (blk_grown (blk_grown K8.out hg (by omega)) gs (by omega))
    have B90 := blk_grown B8.out hg (by omega)
    have B9 : Hid (Sh.Blk (w9.setCell ⟨b, 6, none⟩ vn) b [.int .i64 0, .int .i64 2, .int .i64 m, .int .i64 0, .slice none 0 0, .string t, vn, .slice none 0 0, .slice a6 q6 c6] 46) := by have := B90.set 6 vn; show Sh.Blk _ _ _ _; simpa using this
    have V9 := Lib.hid ((V8.out.kept hg (by omega)).kept gs (Nat.lt_succ_self b))
    have N9 := Lib.hid ((hv.low S8).kept gs (Nat.lt_succ_self b))
    have R9 := Lib.hid (hr.row gs (fun j hj => by injection hj with hj; omega))
    have S9 : b + 1 ≤ (w9.setCell ⟨b, 6, none⟩ vn).heap.size := by have := hg.size; simp; omega
    have H7 := Lib.hid ha
    have c6x := B90.cell 6
    have f6 := B90.frozen 6
    simp only [List.getElem?_cons_zero, List.getElem?_cons_succ] at c6x
    have NL : Hid (ns.length ≤ 32768) := by show ns.length ≤ 32768; omega
    clear hnl0
    clear hg hr ha hv K8 G8 R8 B8 B90 gs V8
    have hnl : ns.length ≤ 32768 := NL.out
    have C := Lib.hid (several_int g a s7 ns.length hnl _ R9.out)
    obtain ⟨q9, hq9⟩ : ∃ q, q = ns.length := ⟨_, rfl⟩
    have HQ := Lib.hid hq9
    rw [← hq9] at C hvn hnl
    clear hq9
    subst hvn
    go_wp2_with fail
    refine C.out.mono ?_
    clear C c6x f6
    generalize w9.setCell ⟨b, 6, none⟩ (.slice a9 q9 c9) = w10 at *
    rintro e w11 ⟨hg, zs, vz, s8, rfl, ⟨hv, _⟩, hr, ha⟩
    obtain ⟨a11, c11, hvz⟩ := vnums_len hv
    obtain ⟨q11, hq11⟩ : ∃ q, q = zs.length := ⟨_, rfl⟩
    rw [← hq11] at hvz
    clear hq11
    subst hvz
    have gs := grownBy_setCell w11 b 7 (.slice a11 q11 c11)
    have G8 := Lib.hid (gb_then (gb_then G9.out hg (fun j hj => .inr hj)) gs (fun j hj => .inl (by injection hj with hj; omega)))
    have K8 := Lib.hid (blk_grown (blk_grown K9.out hg (by omega)) gs (by omega))
    have B80 := blk_grown B9.out hg (by omega)
    have V8 := Lib.hid ((V9.out.kept hg (by omega)).kept gs (Nat.lt_succ_self b))
    have N8 := Lib.hid ((N9.out.kept hg (by omega)).kept gs (Nat.lt_succ_self b))
    have Z8 := Lib.hid ((hv.low S9).kept gs (Nat.lt_succ_self b))
    have R8 := Lib.hid (hr.row gs (fun j hj => by injection hj with hj; omega))
    have H8 : Hid (Aft pIno s _ s8) := Lib.hid (aft_ino H1.out H2.out H3.out H5.out (aft_tail2 H6.out H7.out (by rw [← HQ.out]; exact ha)))
    have f7 := B80.frozen 7
    have c0 := B80.cell 0
    have c1 := B80.cell 1
    have c2 := B80.cell 2
    have c3 := B80.cell 3
    have c4 := B80.cell 4
    have c5 := B80.cell 5
    have c6x := B80.cell 6
    have c7 := B80.cell 7
    have c8 := B80.cell 8
    have z0 := (blk_grown K9.out hg (by omega)).cell 0
    have z1 := (blk_grown K9.out hg (by omega)).cell 1
    have z2 := (blk_grown K9.out hg (by omega)).cell 2
    have z3 := (blk_grown K9.out hg (by omega)).cell 3
    have z4 := (blk_grown K9.out hg (by omega)).cell 4
    have z5 := (blk_grown K9.out hg (by omega)).cell 5
    have z6 := (blk_grown K9.out hg (by omega)).cell 6
    have z7 := (blk_grown K9.out hg (by omega)).cell 7
    have z8 := (blk_grown K9.out hg (by omega)).cell 8
    have y0 := (blk_grown K9.out hg (by omega)).frozen 0
    have y1 := (blk_grown K9.out hg (by omega)).frozen 1
    have y2 := (blk_grown K9.out hg (by omega)).frozen 2
    have y3 := (blk_grown K9.out hg (by omega)).frozen 3
    have y4 := (blk_grown K9.out hg (by omega)).frozen 4
    have y5 := (blk_grown K9.out hg (by omega)).frozen 5
    have y6 := (blk_grown K9.out hg (by omega)).frozen 6
    have y7 := (blk_grown K9.out hg (by omega)).frozen 7
    have y8 := (blk_grown K9.out hg (by omega)).frozen 8
    simp only [zeroIno, List.getElem?_cons_zero, List.getElem?_cons_succ] at c0 c1 c2 c3 c4 c5 c6x c7 c8 z0 z1 z2 z3 z4 z5 z6 z7 z8
    have nb : ¬ b = w.heap.size := by omega
    have nb2 : ¬ w.heap.size = b := by omega
    clear hg hr ha hv K9 G9 R9 B9 B80 gs V9 N9 HQ NL
    go_wp2_with fail
    obtain ⟨KZ, hA⟩ := ino_end w _ b g a s s8 ⟨0, 2, m, 0, [], t, ns, zs, al⟩ ⟨.slice none 0 0, .slice a9 q9 c9, .slice a11 q11 c11, .slice a6 q6 c6⟩ (by omega) ⟨own_nil _ _, N8.out.1, Z8.out.1, V8.out.1⟩ ⟨⟨by simp only; omega, by simp only; omega⟩, ⟨m0, m1⟩, by simp, HT.out, N8.out.2, Z8.out.2, V8.out.2⟩ H8.out R8.out G8.out K8.out gl
    exact bodyPost_ret (results_cell_row rfl _ _ w.heap.size 46 _ (0, 0) _ rfl KZ Tryz.underlying46 rfl size46) rfl hA
  · have t1 : ((k : Int) == 1) = false := by simp; omega
    have t2 : ((k : Int) == 2) = false := by simp; omega
    have H8 := Lib.hid (aft_ino H1.out H2.out H3.out H5.out (aft_tail3 (s := s5) hk1 hk2))
    have B80 := B6.out
    have c0 := B80.cell 0
    have d1 := B80.cell 1
    have c2 := B80.cell 2
    have c3 := B80.cell 3
    have c4 := B80.cell 4
    have c5 := B80.cell 5
    have c6x := B80.cell 6
    have c7 := B80.cell 7
    have d8 := B80.cell 8
    have z0 := (K6.out).cell 0
    have z1 := (K6.out).cell 1
    have z2 := (K6.out).cell 2
    have z3 := (K6.out).cell 3
    have z4 := (K6.out).cell 4
    have z5 := (K6.out).cell 5
    have z6 := (K6.out).cell 6
    have z7 := (K6.out).cell 7
    have z8 := (K6.out).cell 8
    have y0 := (K6.out).frozen 0
    have y1 := (K6.out).frozen 1
    have y2 := (K6.out).frozen 2
    have y3 := (K6.out).frozen 3
    have y4 := (K6.out).frozen 4
    have y5 := (K6.out).frozen 5
    have y6 := (K6.out).frozen 6
    have y7 := (K6.out).frozen 7
    have y8 := (K6.out).frozen 8
    simp only [zeroIno, List.getElem?_cons_zero, List.getElem?_cons_succ] at c0 d1 c2 c3 c4 c5 c6x c7 d8 z0 z1 z2 z3 z4 z5 z6 z7 z8
    have nb : ¬ b = w.heap.size := by omega
    have nb2 : ¬ w.heap.size = b := by omega
    clear B80
    go_wp2_with fail
    obtain ⟨KZ, hA⟩ := ino_end w _ b g a s s5 ⟨0, k, m, 0, [], t, [], [], al⟩ ⟨.slice none 0 0, .slice none 0 0, .slice none 0 0, .slice a6 q6 c6⟩ (by omega) ⟨own_nil _ _, World.ownsRow_nil _ _ _ _, World.ownsRow_nil _ _ _ _, V6.out.1⟩ ⟨⟨k0, k1⟩, ⟨m0, m1⟩, by simp, HT.out, fun x hx => by simp at hx, fun x hx => by simp at hx, V6.out.2⟩ H8.out R6.out G6.out K6.out gl
    exact bodyPost_ret (results_cell_row rfl _ _ w.heap.size 46 _ (0, 0) _ rfl KZ Tryz.underlying46 rfl size46) rfl hA
end Go.Proofs.YtojhlhpbhoeplaaGreatDoor.Lw
namespace Go.Proofs.YtojhlhpbhoeplaaGreatDoor.Lw
open Go.RowKit Go.Lib Go.Proofs.YtojhlhpbhoeplaaGreatDoor.Sh Go.Proofs.YtojhlhpbhoeplaaGreatDoor.Lb

/-- rows of unlike elements are apart -/
theorem apart_ne {w w' : World} {B n n' s s' : Nat} {e e' : TypeId} {u v : Value} {ys xs : List Value} (hne : e ≠ e') (h : w.ownsRow B e s u n' ys) (ho : w.ownsRow B e' s' v n xs) (hg : w.grownBy w' v.ownBlock) : w'.ownsRow B e s u n' ys := by
  refine World.ownsRow.kept h hg ?_
  cases hu : u.ownBlock with
  | none => exact .inl rfl
  | some j =>
    refine .inr fun he => ?_
    obtain ⟨_, ⟨rfl, _⟩ | ⟨k, c1, cur1, rfl, _, h1, _⟩⟩ := h
    · cases hu
    · obtain ⟨_, ⟨rfl, _⟩ | ⟨k2, c2, cur2, rfl, _, h2, _⟩⟩ := ho
      · cases he
      · have e1 : k = j := by injection hu
        have e2 : j = k2 := by injection he
        subst e1
        subst e2
        rw [h1] at h2
        injection h2 with h2
        injection h2 with _ h3 _
        exact hne h3
theorem SubOk.apart {w w' : World} {B n s' : Nat} {v : Value} {xs : List Value} {x : InoP} {u : SubV} (h : SubOk B w x u) (ho : w.ownsRow B 46 s' v n xs) (hg : w.grownBy w' v.ownBlock) : SubOk B w' x u := by
  obtain ⟨h1, h2, h3, us, h4, h5, h6⟩ := h
  exact ⟨apart_ne (by decide) h1 ho hg, apart_ne (by decide) h2 ho hg, apart_ne (by decide) h3 ho hg, us, h4, apart_ne (by decide) h5 ho hg, fun i x u hx hu => apart_ne (by decide) (h6 i x u hx hu) ho hg⟩
theorem SubOk.alloc {w : World} {B : Nat} {x : InoP} {u : SubV} (h : SubOk B w x u) (o : Obj) : SubOk B (w.alloc o) x u :=
  ⟨row_kept_alloc h.1 o, row_kept_alloc h.2.1 o, row_kept_alloc h.2.2.1 o, h.2.2.2.alloc o⟩
def inoC (l : List InoP) (us : List SubV) : List Value := (l.zip us).flatMap fun z => inoV z.1 z.2
theorem inoC_snoc {l : List InoP} {us : List SubV} (h : us.length = l.length) (x : InoP) (u : SubV) : inoC (l ++ [x]) (us ++ [u]) = inoC l us ++ inoV x u := by
  unfold inoC
  rw [List.zip_append h.symm]
  simp
/-- a row of inodes of the call's own, with all that is in them -/
def OwnI (B : Nat) (w : World) (l : List InoP) (v : Value) : Prop :=
  ∃ us : List SubV, us.length = l.length ∧ w.ownsRow B 46 9 v l.length (inoC l us) ∧ ∀ (i : Nat) (x : InoP) (u : SubV), l[i]? = some x → us[i]? = some u → SubOk B w x u
def VInos (B : Nat) (w : World) (l : List InoP) (v : Value) : Prop := OwnI B w l v ∧ ∀ x ∈ l, Small x
theorem vinos_len {B : Nat} {w : World} {l : List InoP} {v : Value} (h : VInos B w l v) : ∃ ao c, v = .slice ao l.length c := by
  obtain ⟨⟨us, _, h, _⟩, _⟩ := h
  exact own_len h
theorem OwnI.kept {w w' : World} {B g : Nat} {v : Value} {l : List InoP} (h : OwnI B w l v) (hg : w.grownBy w' (some g)) (hb : g < B) : OwnI B w' l v := by
  obtain ⟨us, h1, h2, h3⟩ := h
  exact ⟨us, h1, row_kept h2 hg hb, fun i x u hx hu => (h3 i x u hx hu).kept hg hb⟩
theorem OwnI.alloc {w : World} {B : Nat} {v : Value} {l : List InoP} (h : OwnI B w l v) (o : Obj) : OwnI B (w.alloc o) l v := by
  obtain ⟨us, h1, h2, h3⟩ := h
  exact ⟨us, h1, row_kept_alloc h2 o, fun i x u hx hu => (h3 i x u hx hu).alloc o⟩
theorem OwnI.low {w : World} {B B' : Nat} {v : Value} {l : List InoP} (h : OwnI B w l v) (hb : B' ≤ B) : OwnI B' w l v := by
  obtain ⟨us, h1, ⟨h2, h2'⟩, h3⟩ := h
  refine ⟨us, h1, ⟨h2, ?_⟩, fun i x u hx hu => (h3 i x u hx hu).low hb⟩
  rcases h2' with h2' | ⟨g, c, cur, e1, e2, e3⟩
  · exact .inl h2'
  · exact .inr ⟨g, c, cur, e1, Nat.le_trans hb e2, e3⟩
theorem VInos.kept {w w' : World} {B g : Nat} {v : Value} {l : List InoP} (h : VInos B w l v) (hg : w.grownBy w' (some g)) (hb : g < B) : VInos B w' l v := ⟨h.1.kept hg hb, h.2⟩
theorem VInos.alloc {w : World} {B : Nat} {v : Value} {l : List InoP} (h : VInos B w l v) (o : Obj) : VInos B (w.alloc o) l v := ⟨h.1.alloc o, h.2⟩
theorem VInos.low {w : World} {B B' : Nat} {v : Value} {l : List InoP} (h : VInos B w l v) (hb : B' ≤ B) : VInos B' w l v := ⟨h.1.low hb, h.2⟩
theorem ownI_nil (B : Nat) (w : World) : OwnI B w [] (.slice none 0 0) := ⟨[], rfl, World.ownsRow_nil _ _ _ _, fun i x u h => by simp at h⟩
theorem info46 : (Tryz.prog.info? 46).map (fun i => (i.zero, i.size, i.bytes)) = some (some (.agg #[.int .i64 0, .int .i64 0, .int .i64 0, .int .i64 0, .slice none 0 0, .string ⟨#[]⟩, .slice none 0 0, .slice none 0 0, .slice none 0 0]), 9, 144) := by kernel_rfl
theorem enters33 (args : Array Value) (w : World) : (callFunc 33 args).run Tryz.prog w = .ok (.enter 33 args) w := by kernel_rfl
set_option maxHeartbeats 2000000 in
set_option maxRecDepth 100000 in
theorem several_inode (g : Nat) (a : Addr) (s : Option (List UInt8)) (n : Nat) (hn : n ≤ 32768) (w : World) (h : Rdr w g a s) :
    Calls Tryz.prog 31 #[.pointer (some ⟨g, 0, none⟩), .int .i64 (n : Int), .func (.func 33) #[.pointer (some ⟨g, 0, none⟩)] #[]] w (Ans w g a (fun w' l v => VInos w.heap.size w' l v ∧ l.length ≤ n) (pRow pIno n) s) := by
  have HR := Lib.hid h
  have GLT : Hid (g < w.heap.size) := grown_size h (World.grownBy.refl w _)
  clear h
  have G0 := Lib.hid (World.grownBy.refl w (some g))
  have hE := enters33
  go_enter Tryz.func31, Tryz.ntmps31
  go_wp2_with fail
  go_loopw [7] (fun v wr => ∃ (i : Nat) (P : List InoP) (st : Option (List UInt8)), i ≤ n ∧ P.length = i ∧ Hid (Aft (pRow pIno i) s P st) ∧ Hid (Rdr wr g a st) ∧ Hid (VInos w.heap.size wr P v) ∧ Hid (w.grownBy wr (some g))) (fun v _ => n - lenV v)
  case atStart => exact ⟨0, [], s, by omega, rfl, aft_start s, HR.out, ⟨ownI_nil _ _, fun x hx => by simp at hx⟩, G0.out⟩
  case round =>
    obtain ⟨i, P, st, hi, hPl, hA, hR, hO, hG⟩ := hrel
    obtain ⟨ao, c, rfl⟩ := vinos_len hO.out
    rw [hPl] at hO
    obtain ⟨ra, rm, rc, ev, hrp, hev⟩ := hR.out
    have e1 := hrp.blk.cell 1
    simp only [List.getElem?_cons_zero, List.getElem?_cons_succ] at e1
    clear hrp
    by_cases hin : i < n
    · have q2 : (i : Int) < (n : Int) := by omega
      rcases hev with ⟨lr, rfl, rfl⟩ | ⟨rfl, hfl⟩
      · have C := Lib.hid (inode_rd g a (some lr) wr hR.out)
        have PL := Lib.hid hPl
        clear hPl hR
        rw [PL.out]
        go_wp2_with fail
        refine C.out.mono ?_
        clear C
        rintro e w1 ⟨hg, x, v, s', rfl, hv, hr, ha⟩
        obtain ⟨⟨vd, vn, vz, va⟩, hvv, hsub, hsm⟩ := hv
        obtain ⟨xn, xk, xm, xl, xd, xt, xs, xz, xa⟩ := x
        obtain ⟨da, dc, hd1⟩ := own_len (show w1.ownsRow wr.heap.size 5 1 vd xd.length (bs xd) from hsub.1)
        obtain ⟨na, nc, hn1⟩ := own_len (show w1.ownsRow wr.heap.size 9 1 vn xs.length (xs.flatMap cellsS) from hsub.2.1)
        obtain ⟨za, zc, hz1⟩ := own_len (show w1.ownsRow wr.heap.size 3 1 vz xz.length (xz.flatMap cellsI) from hsub.2.2.1)
        obtain ⟨aa, ac, ha1⟩ := vatts_len (show VAtts wr.heap.size w1 xa va from ⟨hsub.2.2.2, hsm.attrs⟩)
        obtain ⟨dq, hdq⟩ : ∃ q, q = xd.length := ⟨_, rfl⟩
        obtain ⟨nq, hnq⟩ : ∃ q, q = xs.length := ⟨_, rfl⟩
        obtain ⟨zq, hzq⟩ : ∃ q, q = xz.length := ⟨_, rfl⟩
        obtain ⟨aq, haq⟩ : ∃ q, q = xa.length := ⟨_, rfl⟩
        rw [← hdq] at hd1
        rw [← hnq] at hn1
        rw [← hzq] at hz1
        rw [← haq] at ha1
        clear hdq hnq hzq haq
        subst hd1
        subst hn1
        subst hz1
        subst ha1
        have hvv' : v = .agg #[.int .i64 xn, .int .i64 xk, .int .i64 xm, .int .i64 xl, .slice da dq dc, .string xt, .slice na nq nc, .slice za zq zc, .slice aa aq ac] := hvv
        subst hvv'
        clear hvv
        obtain ⟨x, hx⟩ : ∃ x : InoP, x = ⟨xn, xk, xm, xl, xd, xt, xs, xz, xa⟩ := ⟨_, rfl⟩
        rw [← hx] at hsub hsm ha
        have HX := Lib.hid hx
        clear hx
        have gl := GLT.out
        have G1 := Lib.hid (grownBy_trans hG.out hg)
        have O1 := Lib.hid (VInos.kept hO.out hg gl)
        have R1 := Lib.hid hr
        have A1 : Hid (Aft (pRow pIno (i + 1)) s (P ++ [x]) s') := aft_row hA.out ha
        have hsz := G1.out.size
        have KX : Hid (Sh.Blk (w1.alloc (.cells #[.int .i64 xn, .int .i64 xk, .int .i64 xm, .int .i64 xl, .slice da dq dc, .string xt, .slice na nq nc, .slice za zq zc, .slice aa aq ac] 46)) w1.heap.size [.int .i64 xn, .int .i64 xk, .int .i64 xm, .int .i64 xl, .slice da dq dc, .string xt, .slice na nq nc, .slice za zq zc, .slice aa aq ac] 46) := Sh.Blk.new w1 [.int .i64 xn, .int .i64 xk, .int .i64 xm, .int .i64 xl, .slice da dq dc, .string xt, .slice na nq nc, .slice za zq zc, .slice aa aq ac] 46 _ rfl
        have O2 := Lib.hid (VInos.alloc O1.out (.cells #[.int .i64 xn, .int .i64 xk, .int .i64 xm, .int .i64 xl, .slice da dq dc, .string xt, .slice na nq nc, .slice za zq zc, .slice aa aq ac] 46))
        obtain ⟨us, U1, U2, U3⟩ := O2.out.1
        have UL := Lib.hid U1
        have UA := Lib.hid U3
        have ROW : Hid ((w1.alloc (.cells #[.int .i64 xn, .int .i64 xk, .int .i64 xm, .int .i64 xl, .slice da dq dc, .string xt, .slice na nq nc, .slice za zq zc, .slice aa aq ac] 46)).ownsRow w.heap.size 46 9 (.slice ao i c) i (inoC P us)) := by rw [PL.out] at U2; exact U2
        have V1 : Hid (SubOk w.heap.size (w1.alloc (.cells #[.int .i64 xn, .int .i64 xk, .int .i64 xm, .int .i64 xl, .slice da dq dc, .string xt, .slice na nq nc, .slice za zq zc, .slice aa aq ac] 46)) x ⟨.slice da dq dc, .slice na nq nc, .slice za zq zc, .slice aa aq ac⟩) := (hsub.low hG.out.size).alloc _
        clear U1 U2 U3 hsub
        have hb2 : w.heap.size ≤ (w1.alloc (.cells #[.int .i64 xn, .int .i64 xk, .int .i64 xm, .int .i64 xl, .slice da dq dc, .string xt, .slice na nq nc, .slice za zq zc, .slice aa aq ac] 46)).heap.size := by simp; omega
        have VX : Hid (Small x) := hsm
        clear hsm
        clear hg hr hO hG hA ha
        go_wp2_with (at_builtin; refine wpl_one (t := 24) (e := 46) rfl (.tmp 19) (.tmp 22) rfl Tryz.underlying24 info46 rfl (by decide) w.heap.size (.slice ao i c) i _ rfl ROW.out w1.heap.size [.int .i64 xn, .int .i64 xk, .int .i64 xm, .int .i64 xl, .slice da dq dc, .string xt, .slice na nq nc, .slice za zq zc, .slice aa aq ac] rfl KX.out rfl (by simp [Value.oneCell']) (by omega) (by decide) hb2 ?_; intro v' w' hown' hgrow)
        have G2 : Hid (w.grownBy w' (some g)) := gb_then (grownBy_allocR G1.out (.cells #[.int .i64 xn, .int .i64 xk, .int .i64 xm, .int .i64 xl, .slice da dq dc, .string xt, .slice na nq nc, .slice za zq zc, .slice aa aq ac] 46)) hgrow (fun j hj => .inl (ROW.out.lt j hj).1)
        have R2 : Hid (Rdr w' g a s') := (R1.out.grown ((Below.refl _ w1).alloc (Nat.le_refl _) (.cells #[.int .i64 xn, .int .i64 xk, .int .i64 xm, .int .i64 xl, .slice da dq dc, .string xt, .slice na nq nc, .slice za zq zc, .slice aa aq ac] 46))).row hgrow (fun j hj => by have := (ROW.out.lt j hj).1; omega)
        have O3 : Hid (VInos w.heap.size w' (P ++ [x]) v') := by
          refine ⟨⟨us ++ [⟨.slice da dq dc, .slice na nq nc, .slice za zq zc, .slice aa aq ac⟩], by simp [UL.out], by rw [inoC_snoc UL.out, show (P ++ [x]).length = i + 1 by simp [PL.out], HX.out]; exact hown', fun j y u hy hu => ?_⟩, fun y hy => ?_⟩
          · rcases Nat.lt_or_ge j P.length with h1 | h1
            · rw [List.getElem?_append_left h1] at hy
              rw [List.getElem?_append_left (by rw [UL.out]; exact h1)] at hu
              exact (UA.out j y u hy hu).apart ROW.out hgrow
            · rw [List.getElem?_append_right h1] at hy
              rw [List.getElem?_append_right (by rw [UL.out]; exact h1), UL.out] at hu
              have h2 : j - P.length = 0 := by
                have := (List.getElem?_eq_some_iff.1 hy).1
                simp at this
                omega
              rw [h2] at hy hu
              simp only [List.getElem?_cons_zero, Option.some.injEq] at hy hu
              subst hy
              subst hu
              exact V1.out.apart ROW.out hgrow
          · rcases List.mem_append.1 hy with h | h
            · exact O1.out.2 y h
            · rw [List.mem_singleton] at h; rw [h]; exact VX.out
        have hl2 : Hid ((P ++ [x]).length = i + 1) := by show _ = _; simp [PL.out]
        obtain ⟨ao', c', rfl⟩ := own_len hown'
        clear hown' hgrow hb2
        go_wp2_with fail
        go_roundw
        case rel => exact ⟨i + 1, P ++ [x], s', by omega, hl2.out, A1, R2, O3, G2⟩
        case measure => simp [lenV]; omega
      · obtain ⟨x, rfl⟩ := flaw_iface hfl
        have PL := Lib.hid hPl
        clear hPl hfl
        rw [PL.out]
        go_wp2_with fail
        go_ret
        exact ⟨hG.out, P, _, none, rfl, ⟨hO.out, by have := PL.out; omega⟩, hR.out, aft_stop hA.out hi⟩
    · obtain rfl : i = n := by omega
      have PL := Lib.hid hPl
      clear hPl hev
      rw [PL.out]
      go_wp2_with fail
      go_ret
      exact ⟨hG.out, P, _, st, rfl, ⟨hO.out, by have := PL.out; omega⟩, hR.out, hA.out⟩
end Go.Proofs.YtojhlhpbhoeplaaGreatDoor.Lw
namespace Go.Proofs.YtojhlhpbhoeplaaGreatDoor.Lw
open Go.RowKit Go.Lib Go.Proofs.YtojhlhpbhoeplaaGreatDoor.Sh Go.Proofs.YtojhlhpbhoeplaaGreatDoor.Lb

theorem beq_dec (l m : List UInt8) : decide (l = m) = (l == m) := by by_cases h : l = m <;> simp [h]
/-- Same -/
theorem same_any (ao bo : Option Addr) (l m : List UInt8) (n k c d : Nat) (w : World) (hl : l.length = n) (hm : m.length = k) (h1 : Byt w ao l) (h2 : Byt w bo m) (n1 : ao = none → c = 0) (n2 : bo = none → d = 0) :
    Calls Tryz.prog 11 #[.slice ao n c, .slice bo k d] w fun e w' => e = .returned (.bool (decide (l = m))) ∧ w = w' := by
  subst hl
  subst hm
  have k1 := conv_byt (P := Tryz.prog) Tryz.underlying22 Tryz.underlying5 Tryz.underlying9 ao l c h1 n1
  have k2 := conv_byt (P := Tryz.prog) Tryz.underlying22 Tryz.underlying5 Tryz.underlying9 bo m d h2 n2
  rw [beq_dec]
  clear h1 h2
  go_enter Tryz.func11, Tryz.ntmps11
  go_wp2_with fail
  go_ret
  exact ⟨rfl, rfl⟩
theorem equal_any (ao bo : Option Addr) (l m : List UInt8) (n k c d : Nat) (w : World) (hl : l.length = n) (hm : m.length = k) (h1 : Byt w ao l) (h2 : Byt w bo m) (n1 : ao = none → c = 0) (n2 : bo = none → d = 0) :
    Calls Tryz.prog 85 #[.slice ao n c, .slice bo k d] w fun e w' => e = .returned (.bool (decide (l = m))) ∧ w = w' := by
  subst hl
  subst hm
  have k1 := conv_byt (P := Tryz.prog) Tryz.underlying22 Tryz.underlying5 Tryz.underlying9 ao l c h1 n1
  have k2 := conv_byt (P := Tryz.prog) Tryz.underlying22 Tryz.underlying5 Tryz.underlying9 bo m d h2 n2
  rw [beq_dec]
  clear h1 h2
  go_enter Tryz.func85, Tryz.ntmps85
  go_wp2_with fail
  go_ret
  exact ⟨rfl, rfl⟩
theorem prefix_any (ao bo : Option Addr) (l m : List UInt8) (n c d : Nat) (w : World) (hl : l.length = n) (hnc : n ≤ c) (hm : m.length = 4) (h1 : Byt w ao l) (h2 : Byt w bo m) (n1 : ao = none → c = 0) (n2 : bo = none → d = 0) :
    Calls Tryz.prog 72 #[.slice ao n c, .slice bo 4 d] w fun e w' => e = .returned (.bool (decide (l.take 4 = m))) ∧ w = w' := by
  by_cases h4 : 4 ≤ n
  · have t1 : decide ((4 : Int) ≤ (n : Int)) = true := by simp; omega
    have t2 : decide (4 ≤ n) = true := by simp; omega
    have st := slice_to ao n c 4 (by omega)
    have st' : ∀ W, (Instr.slice 22 (.slice ao n c) none (some (.int .i64 4)) none).run Tryz.prog W = .ok (.slice ao 4 c) W := st
    have C := Lib.hid (equal_any ao bo (l.take 4) m 4 4 c d w (by rw [List.length_take]; omega) hm (h1.take 4) h2 n1 n2)
    obtain ⟨b, hb⟩ : ∃ b, b = decide (l.take 4 = m) := ⟨_, rfl⟩
    rw [← hb] at C ⊢
    clear hl hm h1 h2 n1 n2 hb st
    go_enter Tryz.func72, Tryz.ntmps72
    go_wp2_with fail
    refine C.out.mono ?_
    rintro e w' ⟨rfl, rfl⟩
    go_wp2_with fail
    go_ret
    exact ⟨rfl, rfl⟩
  · have t1 : decide ((4 : Int) ≤ (n : Int)) = false := by simp; omega
    have t2 : decide (4 ≤ n) = false := by simp; omega
    have hb : decide (l.take 4 = m) = false := by
      refine decide_eq_false fun h => ?_
      have := congrArg List.length h
      rw [List.length_take] at this
      omega
    rw [hb]
    clear hl hm h1 h2 n1 n2 hb
    go_enter Tryz.func72, Tryz.ntmps72
    go_wp2_with fail
    go_ret
    exact ⟨rfl, rfl⟩
set_option maxHeartbeats 1000000 in
/-- CutPrefix, four bytes ahead -/
theorem cut_any (ao bo : Option Addr) (l m : List UInt8) (n c d : Nat) (w : World) (hl : l.length = n) (hnc : n ≤ c) (hm : m.length = 4) (h1 : Byt w ao l) (h2 : Byt w bo m) (n1 : ao = none → c = 0) (n2 : bo = none → d = 0) :
    ∃ af, Calls Tryz.prog 51 #[.slice ao n c, .slice bo 4 d] w (fun e w' => e = .returned (if l.take 4 = m then .tuple #[.slice af (n - 4) (c - 4), .bool true] else .tuple #[.slice ao n c, .bool false]) ∧ w = w') ∧ (l.take 4 = m → 4 ≤ n ∧ (∀ w, Byt w ao l → Byt w af (l.drop 4)) ∧ (af = none → c - 4 = 0) ∧ (∀ g, (∀ a, ao = some a → a.block < g) → ∀ a, af = some a → a.block < g)) := by
  have C := prefix_any ao bo l m n c d w hl hnc hm h1 h2 n1 n2
  by_cases h : l.take 4 = m
  · have h4 : 4 ≤ n := by
      have := congrArg List.length h
      rw [List.length_take] at this
      omega
    obtain ⟨af, s1, s2, s3, s4⟩ := slice_rest ao n c 4 l h4 hl.symm n1 hnc
    have s1' : ∀ W, (Instr.slice 22 (.slice ao n c) (some (.int .i64 4)) none none).run Tryz.prog W = .ok (.slice af (n - 4) (c - 4)) W := s1
    refine ⟨af, ?_, fun _ => ⟨h4, s2, s3, s4⟩⟩
    rw [if_pos h]
    rw [decide_eq_true h] at C
    have CC := Lib.hid C
    clear C hl hm h1 h2 n1 n2 s1 s2 s3 s4 h
    go_enter Tryz.func51, Tryz.ntmps51
    go_wp2_with fail
    refine CC.out.mono ?_
    rintro e w' ⟨rfl, rfl⟩
    go_wp2_with fail
    go_ret2
    exact ⟨rfl, rfl⟩
  · refine ⟨none, ?_, fun hc => absurd hc h⟩
    rw [if_neg h]
    rw [decide_eq_false h] at C
    have CC := Lib.hid C
    clear C hl hm h1 h2 n1 n2 h
    go_enter Tryz.func51, Tryz.ntmps51
    go_wp2_with fail
    refine CC.out.mono ?_
    rintro e w' ⟨rfl, rfl⟩
    go_wp2_with fail
    go_ret2
    exact ⟨rfl, rfl⟩
theorem mark_byt (w : World) (l : List UInt8) (fr : Nat × Nat) : Byt (w.alloc (.cells (bs l).toArray 5 fr)) (some ⟨w.heap.size, 0, none⟩) l := fun _ => ⟨w.heap.size, 0, rfl, by simp, fun j hj => by
  rw [Nat.zero_add, cell_mark]
  have := bs_get l j hj
  simpa using this⟩
/-- what is left behind the mark -/
def afterMark (l : List UInt8) : Option (List UInt8) := if l.take 4 = markL then some (l.drop 4) else none
set_option maxHeartbeats 2000000 in
set_option maxRecDepth 100000 in
theorem begin_any (g : Nat) (a : Addr) (l : List UInt8) (w : World) (h0 : Rdr w g a (some l)) :
    Calls Tryz.prog 30 #[.pointer (some ⟨g, 0, none⟩)] w fun e w' => e = .returned (.tuple #[]) ∧ w.grownBy w' (some g) ∧ Rdr w' g a (afterMark l) := by
  obtain ⟨ao, m, c, ev, h, hev⟩ := h0
  have h' : Rp w g a l ao m c ev := h
  clear h
  have b1 : Below w.heap.size w (w.alloc (.cells #[.int .u8 80, .int .u8 76, .int .u8 76, .int .u8 87] 5 (4, 5))) := (Below.refl _ w).alloc (Nat.le_refl _) _
  have hm : Byt (w.alloc (.cells #[.int .u8 80, .int .u8 76, .int .u8 76, .int .u8 87] 5 (4, 5))) (some ⟨w.heap.size, 0, none⟩) markL := mark_byt w markL (4, 5)
  have h1 := h'.grown b1
  obtain ⟨af, hc, hy⟩ := cut_any ao (some ⟨w.heap.size, 0, none⟩) l markL m c 4 _ h1.len h1.cap rfl h1.byt hm h1.hn (fun h => by cases h)
  have kc := Lib.run_convert_bytes_const (P := Tryz.prog) w 22 5 #[.int .u8 80, .int .u8 76, .int .u8 76, .int .u8 87] 4 4 Tryz.underlying22 Tryz.underlying5
  have c0 := h'.blk.cell 0
  have e0 := h1.blk.cell 0
  have f0 := h1.blk.frozen 0
  simp only [List.getElem?_cons_zero] at c0 e0
  have C := Lib.hid hc
  have HY := Lib.hid hy
  have R1 := Lib.hid h1
  have B1 := Lib.hid (grown_below b1 (some g))
  have EV := Lib.hid hev
  clear hc hy h1 b1 hm hev
  by_cases hk : l.take 4 = markL
  · obtain ⟨h4, s2, s3, s4⟩ := HY.out hk
    have RN := Lib.hid (R1.out.rest (ao' := af) (l' := l.drop 4) (m' := m - 4) (c' := c - 4) (s2 _ R1.out.byt) s3 (by rw [List.length_drop, R1.out.len]) (by have := R1.out.cap; omega) (by have := R1.out.max; omega) (by have := R1.out.most; omega) (s4 g h'.far))
    have hcc := C.out
    rw [if_pos hk] at hcc
    have CC := Lib.hid hcc
    have HM : Hid (afterMark l = some (l.drop 4)) := if_pos hk
    clear hcc C s2 s3 s4 HY h' hk
    go_enter Tryz.func30, Tryz.ntmps30
    go_wp2_with fail
    refine CC.out.mono ?_
    rintro e w' ⟨rfl, rfl⟩
    go_wp2_with fail
    refine ⟨rfl, _, results_none rfl _ _ _, rfl, grownBy_trans B1.out (grownBy_setCell _ g 0 _), ?_⟩
    rw [HM.out]
    rcases EV.out with ⟨l', hl', rfl⟩ | ⟨hn, _⟩
    · exact ⟨af, m - 4, c - 4, _, RN.out, .inl ⟨_, rfl, rfl⟩⟩
    · cases hn
  · have RN := Lib.hid (R1.out.rest (ao' := ao) (l' := l) (m' := m) (c' := c) R1.out.byt R1.out.hn R1.out.len R1.out.cap R1.out.max R1.out.most R1.out.far)
    have hcc := C.out
    rw [if_neg hk] at hcc
    have CC := Lib.hid hcc
    have HM : Hid (afterMark l = none) := if_neg hk
    clear hcc C HY h' hk
    go_enter Tryz.func30, Tryz.ntmps30
    go_wp2_with fail
    refine CC.out.mono ?_
    rintro e w' ⟨rfl, rfl⟩
    go_wp2_with fail
    refine (fail_any g a _ (some l) _ ⟨ao, m, c, _, RN.out, EV.out⟩).mono ?_
    rintro e w2 ⟨rfl, hg, hr⟩
    have G2 := Lib.hid (grownBy_trans (grownBy_trans B1.out (grownBy_setCell _ g 0 _)) hg)
    have R2 := Lib.hid hr
    clear hg hr
    go_wp2_with fail
    refine ⟨rfl, _, results_none rfl _ _ _, rfl, G2.out, ?_⟩
    rw [HM.out]
    exact R2.out
end Go.Proofs.YtojhlhpbhoeplaaGreatDoor.Lw
namespace Go.Proofs.YtojhlhpbhoeplaaGreatDoor.Lw
open Go.RowKit Go.Lib Go.Proofs.YtojhlhpbhoeplaaGreatDoor.Sh Go.Proofs.YtojhlhpbhoeplaaGreatDoor.Lb

theorem enters61 (args : Array Value) (w : World) : (callFunc 61 args).run Tryz.prog w = .ok (.enter 61 args) w := by kernel_rfl
theorem enters80 (args : Array Value) (w : World) : (callFunc 80 args).run Tryz.prog w = .ok (.enter 80 args) w := by kernel_rfl
theorem clo61 (c : UInt8) (w : World) : Calls Tryz.prog 61 #[.int .u8 (c.toNat : Int)] w fun e w' => e = .returned (.bool (decide (c ≠ 0))) ∧ w = w' := by
  have hc : ((c.toNat : Int) != 0) = decide (c ≠ 0) := by
    by_cases h : c = 0
    · subst h; rfl
    · have h1 : ¬ c.toNat = 0 := fun h2 => h (UInt8.toNat_inj.1 (by simpa using h2))
      simp [h]
      omega
  rw [← hc]
  clear hc
  go_enter Tryz.func61, Tryz.ntmps61
  go_wp2
  go_ret
  exact ⟨rfl, rfl⟩
def IdxP (P : Prop) (w : World) (e : Ending) (w' : World) : Prop := ∃ z : Int, e = .returned (.int .i64 z) ∧ (0 ≤ z ↔ P) ∧ w = w'
set_option maxHeartbeats 1000000 in
set_option maxRecDepth 100000 in
theorem indexb_any (ao : Option Addr) (l : List UInt8) (n c : Nat) (w : World) (h : Byt w ao l) (hl : l.length = n) (hc : n ≤ c) (hcc : c ≤ 9223372036854775807) :
    Calls Tryz.prog 76 #[.slice ao n c, .func (.func 61) #[] #[]] w (IdxP (∃ x ∈ l, x ≠ 0) w) := by
  have hE := enters61
  have HB := Lib.hid h
  have HL := Lib.hid hl
  clear h hl
  go_enter Tryz.func76, Tryz.ntmps76
  go_wp2_with fail
  go_loop [8] (fun vi => ∃ i : Nat, i ≤ n ∧ vi = .int .i64 i ∧ Hid (∀ j x, j < i → l[j]? = some x → x = 0)) (fun vi => n - (RowKit.intOf vi).toNat)
  case atStart => exact ⟨0, by omega, rfl, (fun j x hj => by omega : ∀ j x, j < 0 → l[j]? = some x → x = 0)⟩
  case round =>
    obtain ⟨i, hi, rfl, hz⟩ := hrel
    by_cases hin : i < n
    · have q1 : (0 : Int) ≤ (i : Int) := by omega
      have q2 : (i : Int) < (n : Int) := by omega
      have hil : i < l.length := by rw [HL.out]; exact hin
      obtain ⟨b, o, hao, hbl, hcell⟩ := HB.out (fun h0 => by rw [h0] at hil; simp at hil)
      subst hao
      have hci := hcell i hil
      obtain ⟨x, hx⟩ : ∃ x, x = l[i] := ⟨_, rfl⟩
      rw [← hx] at hci
      have HX : Hid (l[i]? = some x) := by show _ = _; rw [List.getElem?_eq_getElem hil, hx]
      have C := Lib.hid (clo61 x w)
      clear hcell hx hil hbl
      by_cases hx0 : x = 0
      · have hd : decide (x ≠ 0) = false := by simp [hx0]
        rw [hd] at C
        have X0 := Lib.hid hx0
        clear hd hx0
        go_wp2_with fail
        refine C.out.mono ?_
        rintro e w' ⟨rfl, rfl⟩
        go_wp2_with fail
        go_round
        case rel => exact ⟨i + 1, by omega, by go_num, (fun j y hj hy => by
          rcases Nat.lt_or_ge j i with h1 | h1
          · exact hz.out j y h1 hy
          · obtain rfl : j = i := by omega
            rw [HX.out] at hy
            injection hy with hy
            rw [← hy]; exact X0.out : ∀ j x, j < i + 1 → l[j]? = some x → x = 0)⟩
        case measure => simp [RowKit.intOf]; omega
      · have hd : decide (x ≠ 0) = true := by simp [hx0]
        rw [hd] at C
        have X0 := Lib.hid hx0
        clear hd hx0
        go_wp2_with fail
        refine C.out.mono ?_
        rintro e w' ⟨rfl, rfl⟩
        go_wp2_with fail
        go_ret
        exact ⟨i, rfl, ⟨fun _ => ⟨x, List.mem_of_getElem? HX.out, X0.out⟩, fun _ => by omega⟩, rfl⟩
    · obtain rfl : i = n := by omega
      go_wp2_with fail
      go_ret
      exact ⟨-1, rfl, ⟨fun h => by omega, fun ⟨x, hx, hne⟩ => by
        obtain ⟨j, hj⟩ := List.getElem?_of_mem hx
        exact absurd (hz.out j x (by have := (List.getElem?_eq_some_iff.1 hj).1; have := HL.out; omega) hj) hne⟩, rfl⟩
def BoolP (P : Prop) (w : World) (e : Ending) (w' : World) : Prop := ∃ b : Bool, e = .returned (.bool b) ∧ (b = true ↔ P) ∧ w = w'
theorem containsb_any (ao : Option Addr) (l : List UInt8) (n c : Nat) (w : World) (h : Byt w ao l) (hl : l.length = n) (hc : n ≤ c) (hcc : c ≤ 9223372036854775807) :
    Calls Tryz.prog 60 #[.slice ao n c, .func (.func 61) #[] #[]] w (BoolP (∃ x ∈ l, x ≠ 0) w) := by
  have C := Lib.hid (indexb_any ao l n c w h hl hc hcc)
  clear h hl
  go_enter Tryz.func60, Tryz.ntmps60
  go_wp2_with fail
  refine C.out.mono ?_
  rintro e w' ⟨z, rfl, hz, rfl⟩
  have HZ := Lib.hid hz
  clear hz
  go_wp2_with fail
  go_ret
  exact ⟨_, rfl, by rw [decide_eq_true_iff]; exact HZ.out, rfl⟩
theorem clo80 (x n : Int) (p : Addr) (w : World) (hp : w.cell? p = some (.int .i64 n)) : Calls Tryz.prog 80 #[.int .i64 x, .pointer (some p)] w fun e w' => e = .returned (.bool (decide (n < x))) ∧ w = w' := by
  go_enter Tryz.func80, Tryz.ntmps80
  go_wp2
  go_ret
  exact ⟨rfl, rfl⟩
set_option maxHeartbeats 1000000 in
set_option maxRecDepth 100000 in
theorem indexz_any (ao : Option Addr) (l : List Int) (n c : Nat) (k : Int) (p : Addr) (w : World) (hp : w.cell? p = some (.int .i64 k)) (h : Zrw w ao l) (hl : l.length = n) (hc : n ≤ c) (hcc : c ≤ 9223372036854775807) :
    Calls Tryz.prog 94 #[.slice ao n c, .func (.func 80) #[] #[.pointer (some p)]] w (IdxP (∃ x ∈ l, k < x) w) := by
  have hE := enters80
  have HB := Lib.hid h
  have HL := Lib.hid hl
  have HP := Lib.hid hp
  clear h hl hp
  go_enter Tryz.func94, Tryz.ntmps94
  go_wp2_with fail
  go_loop [8] (fun vi => ∃ i : Nat, i ≤ n ∧ vi = .int .i64 i ∧ Hid (∀ j x, j < i → l[j]? = some x → x ≤ k)) (fun vi => n - (RowKit.intOf vi).toNat)
  case atStart => exact ⟨0, by omega, rfl, (fun j x hj => by omega : ∀ j x, j < 0 → l[j]? = some x → x ≤ k)⟩
  case round =>
    obtain ⟨i, hi, rfl, hz⟩ := hrel
    by_cases hin : i < n
    · have q1 : (0 : Int) ≤ (i : Int) := by omega
      have q2 : (i : Int) < (n : Int) := by omega
      have hil : i < l.length := by rw [HL.out]; exact hin
      obtain ⟨b, o, hao, hbl, hcell⟩ := zrw_cell HB.out i hil
      subst hao
      obtain ⟨x, hx⟩ : ∃ x, x = l[i] := ⟨_, rfl⟩
      have HX : Hid (l[i]? = some x) := by show _ = _; rw [List.getElem?_eq_getElem hil, hx]
      have hci := hcell i x HX.out
      have C := Lib.hid (clo80 x k p w HP.out)
      clear hcell hx hil hbl
      by_cases hx0 : k < x
      · have hd : decide (k < x) = true := by simp [hx0]
        rw [hd] at C
        have X0 := Lib.hid hx0
        clear hd hx0
        go_wp2_with fail
        refine C.out.mono ?_
        rintro e w' ⟨rfl, rfl⟩
        go_wp2_with fail
        go_ret
        exact ⟨i, rfl, ⟨fun _ => ⟨x, List.mem_of_getElem? HX.out, X0.out⟩, fun _ => by omega⟩, rfl⟩
      · have hd : decide (k < x) = false := by simp [hx0]
        rw [hd] at C
        have X0 : Hid (x ≤ k) := by show x ≤ k; omega
        clear hd hx0
        go_wp2_with fail
        refine C.out.mono ?_
        rintro e w' ⟨rfl, rfl⟩
        go_wp2_with fail
        go_round
        case rel => exact ⟨i + 1, by omega, by go_num, (fun j y hj hy => by
          rcases Nat.lt_or_ge j i with h1 | h1
          · exact hz.out j y h1 hy
          · obtain rfl : j = i := by omega
            rw [HX.out] at hy
            injection hy with hy
            rw [← hy]; exact X0.out : ∀ j x, j < i + 1 → l[j]? = some x → x ≤ k)⟩
        case measure => simp [RowKit.intOf]; omega
    · obtain rfl : i = n := by omega
      go_wp2_with fail
      go_ret
      exact ⟨-1, rfl, ⟨fun h => by omega, fun ⟨x, hx, hne⟩ => by
        obtain ⟨j, hj⟩ := List.getElem?_of_mem hx
        have := hz.out j x (by have := (List.getElem?_eq_some_iff.1 hj).1; have := HL.out; omega) hj
        omega⟩, rfl⟩
theorem containsz_any (ao : Option Addr) (l : List Int) (n c : Nat) (k : Int) (p : Addr) (w : World) (hp : w.cell? p = some (.int .i64 k)) (h : Zrw w ao l) (hl : l.length = n) (hc : n ≤ c) (hcc : c ≤ 9223372036854775807) :
    Calls Tryz.prog 79 #[.slice ao n c, .func (.func 80) #[] #[.pointer (some p)]] w (BoolP (∃ x ∈ l, k < x) w) := by
  have C := Lib.hid (indexz_any ao l n c k p w hp h hl hc hcc)
  clear h hl hp
  go_enter Tryz.func79, Tryz.ntmps79
  go_wp2_with fail
  refine C.out.mono ?_
  rintro e w' ⟨z, rfl, hz, rfl⟩
  have HZ := Lib.hid hz
  clear hz
  go_wp2_with fail
  go_ret
  exact ⟨_, rfl, by rw [decide_eq_true_iff]; exact HZ.out, rfl⟩
/-- what is left once it was looked at -/
def AtEnd (s s' : Option (List UInt8)) : Prop := (s = none ∧ s' = none) ∨ (∃ l, s = some l ∧ (∀ c ∈ l, c = 0) ∧ s' = some l) ∨ ∃ l, s = some l ∧ (¬ ∀ c ∈ l, c = 0) ∧ s' = none
set_option maxHeartbeats 1000000 in
set_option maxRecDepth 100000 in
theorem end_any (g : Nat) (a : Addr) (s : Option (List UInt8)) (w : World) (h0 : Rdr w g a s) :
    Calls Tryz.prog 34 #[.pointer (some ⟨g, 0, none⟩)] w fun e w' => e = .returned (.tuple #[]) ∧ w.grownBy w' (some g) ∧ ∃ s', Rdr w' g a s' ∧ AtEnd s s' := by
  have R0 := Lib.hid h0
  obtain ⟨ao, m, c, ev, h, hev⟩ := h0
  have C := Lib.hid (containsb_any ao (s.getD []) m c w h.byt h.len h.cap h.max)
  have c0 := h.blk.cell 0
  simp only [List.getElem?_cons_zero] at c0
  clear h hev
  by_cases hz : ∃ x ∈ s.getD [], x ≠ 0
  · have HS : Hid (∃ l, s = some l ∧ ¬ ∀ c ∈ l, c = 0) := by
      obtain ⟨x, hx, hne⟩ := hz
      cases s with
      | none => simp at hx
      | some l => exact ⟨l, rfl, fun h => hne (h x hx)⟩
    have HZ := Lib.hid hz
    clear hz
    go_enter Tryz.func34, Tryz.ntmps34
    go_wp2_with fail
    refine C.out.mono ?_
    rintro e w' ⟨b, rfl, hb, rfl⟩
    have hbt : b = true := hb.2 HZ.out
    subst hbt
    clear hb
    go_wp2_with fail
    refine (fail_any g a _ s w R0.out).mono ?_
    rintro e w2 ⟨rfl, hg, hr⟩
    have G2 := Lib.hid hg
    have R2 := Lib.hid hr
    clear hg hr
    go_wp2_with fail
    refine ⟨rfl, _, results_none rfl _ _ _, rfl, G2.out, none, R2.out, .inr (.inr ?_)⟩
    obtain ⟨l, h1, h2⟩ := HS.out
    exact ⟨l, h1, h2, rfl⟩
  · have HZ := Lib.hid hz
    clear hz
    go_enter Tryz.func34, Tryz.ntmps34
    go_wp2_with fail
    refine C.out.mono ?_
    rintro e w' ⟨b, rfl, hb, rfl⟩
    have hbt : b = false := by
      cases b
      · rfl
      · exact absurd (hb.1 rfl) HZ.out
    subst hbt
    clear hb
    go_wp2_with fail
    refine ⟨rfl, _, results_none rfl _ _ _, rfl, World.grownBy.refl _ _, s, R0.out, ?_⟩
    have hz2 := HZ.out
    cases s with
    | none => exact .inl ⟨rfl, rfl⟩
    | some l => exact .inr (.inl ⟨l, rfl, fun x hx => Classical.byContradiction fun hc => hz2 ⟨x, hx, hc⟩, rfl⟩)
end Go.Proofs.YtojhlhpbhoeplaaGreatDoor.Lw
namespace Go.Proofs.YtojhlhpbhoeplaaGreatDoor.Lw
open Go.RowKit Go.Lib Go.Proofs.YtojhlhpbhoeplaaGreatDoor.Sh Go.Proofs.YtojhlhpbhoeplaaGreatDoor.Lb

/-- an inode's slices, as memory holds them -/
structure IvP (w : World) (x : InoP) (da : Option Addr) (dn dc : Nat) (na : Option Addr) (nn nc : Nat) (za : Option Addr) (zn zc : Nat) (aa : Option Addr) (an ac : Nat) : Prop where
  d1 : x.data.length = dn
  d2 : dn ≤ dc
  d3 : dc ≤ 9223372036854775807
  d4 : Byt w da x.data
  d5 : da = none → dc = 0
  n1 : x.names.length = nn
  n2 : nn ≤ nc
  n3 : nc ≤ 9223372036854775807
  n4 : Srw w na x.names
  z1 : x.nums.length = zn
  z2 : zn ≤ zc
  z3 : zc ≤ 9223372036854775807
  z4 : Zrw w za x.nums
  a1 : x.attrs.length = an
  a2 : an ≤ ac
  a3 : ac ≤ 9223372036854775807
  a4 : Arw w aa x.attrs
  ts : x.target.size ≤ 9223372036854775807
theorem IvP.below {w w' : World} {x : InoP} {da na za aa : Option Addr} {dn dc nn nc zn zc an ac : Nat} (h : IvP w x da dn dc na nn nc za zn zc aa an ac) (hb : Below w.heap.size w w') : IvP w' x da dn dc na nn nc za zn zc aa an ac :=
  { h with d4 := h.d4.below hb, n4 := h.n4.below hb, z4 := h.z4.below hb, a4 := h.a4.below hb }
def ivC (x : InoP) (da : Option Addr) (dn dc : Nat) (na : Option Addr) (nn nc : Nat) (za : Option Addr) (zn zc : Nat) (aa : Option Addr) (an ac : Nat) : List Value :=
  [.int .i64 x.num, .int .i64 x.kind, .int .i64 x.mode, .int .i64 x.links, .slice da dn dc, .string x.target, .slice na nn nc, .slice za zn zc, .slice aa an ac]
theorem putR_gen {w : World} {ok : Prop} {l : List UInt8} {e : Ending} {w' : World} (h : PutR w ok l e w') : Below w.heap.size w w' ∧ ∃ v z, e = .returned (.tuple #[v, .int .i64 z]) ∧ ((ok ∧ z = 0) ∨ (¬ ok ∧ z = 80)) := by
  obtain ⟨hb, ⟨h1, v, rfl, _⟩ | ⟨h1, rfl⟩⟩ := h
  · exact ⟨hb, v, 0, rfl, .inl ⟨h1, rfl⟩⟩
  · exact ⟨hb, _, 80, rfl, .inr ⟨h1, rfl⟩⟩
/-- what a check answers -/
def Chk (w : World) (a : Addr) (ok : Prop) (e : Ending) (w' : World) : Prop := Below w.heap.size w w' ∧ ∃ v, e = .returned v ∧ ErrV a ok v
def Flaw1 (a : Addr) (v : Value) : Prop := ∃ s : ByteArray, v = .iface 107 (.agg #[.string s, .iface 242 (.pointer (some a))])
def Chk1 (w : World) (a : Addr) (ok : Prop) (e : Ending) (w' : World) : Prop := Below w.heap.size w w' ∧ ∃ v, e = .returned v ∧ ((ok ∧ v = .nilIface) ∨ (¬ ok ∧ Flaw1 a v))
theorem no_len {α : Type} {l : List α} {n : Nat} (h : l.length = n) (h0 : n = 0) : l = [] := List.eq_nil_of_length_eq_zero (by omega)
set_option maxHeartbeats 8000000 in
set_option maxRecDepth 100000 in
theorem checkinode_any (a : Addr) (xn xk xm xl : Int) (xd : List UInt8) (xt : ByteArray) (xs : List ByteArray) (xz : List Int) (xa : List (ByteArray × List UInt8)) (k : Nat) (da na za aa : Option Addr) (dn dc nn nc zn zc an ac : Nat) (w : World) (hs : Sen w a) (h : IvP w ⟨xn, xk, xm, xl, xd, xt, xs, xz, xa⟩ da dn dc na nn nc za zn zc aa an ac) :
    Calls Tryz.prog 62 #[.agg #[.int .i64 xn, .int .i64 xk, .int .i64 xm, .int .i64 xl, .slice da dn dc, .string xt, .slice na nn nc, .slice za zn zc, .slice aa an ac], .int .i64 (k : Int)] w (Chk1 w a (OkIno ltB nameOk k ⟨xn, xk, xm, xl, xd, xt, xs, xz, xa⟩)) := by
  have hmf : ∀ (fn : Fn) (first cap : Array Value) (w : World), (Instr.makeFunc fn first cap).run Tryz.prog w = .ok (.func fn first cap) w := fun _ _ _ _ => rfl
  obtain ⟨w1, hw1⟩ : ∃ w1, w1 = w.alloc (.cells #[.int .i64 xn, .int .i64 xk, .int .i64 xm, .int .i64 xl, .slice da dn dc, .string xt, .slice na nn nc, .slice za zn zc, .slice aa an ac] 46) := ⟨_, rfl⟩
  obtain ⟨w2, hw2⟩ : ∃ w2, w2 = w1.alloc (.cells #[.int .i64 (k : Int)] 3) := ⟨_, rfl⟩
  have s1 : w1.heap.size = w.heap.size + 1 := by rw [hw1]; simp
  have b1 : Below w.heap.size w w1 := by rw [hw1]; exact (Below.refl _ w).alloc (Nat.le_refl _) _
  have b2 : Below w.heap.size w w2 := by rw [hw2]; exact b1.alloc b1.size _
  have x1 : Sh.Blk w1 w.heap.size [.int .i64 xn, .int .i64 xk, .int .i64 xm, .int .i64 xl, .slice da dn dc, .string xt, .slice na nn nc, .slice za zn zc, .slice aa an ac] 46 := by rw [hw1]; exact Sh.Blk.new w [.int .i64 xn, .int .i64 xk, .int .i64 xm, .int .i64 xl, .slice da dn dc, .string xt, .slice na nn nc, .slice za zn zc, .slice aa an ac] 46 _ rfl
  have x2 : Sh.Blk w2 w.heap.size [.int .i64 xn, .int .i64 xk, .int .i64 xm, .int .i64 xl, .slice da dn dc, .string xt, .slice na nn nc, .slice za zn zc, .slice aa an ac] 46 := by rw [hw2]; exact x1.alloc _
  have k2 : Sh.Blk w2 (w.heap.size + 1) [.int .i64 (k : Int)] 3 := by rw [hw2]; exact Sh.Blk.new w1 [.int .i64 (k : Int)] 3 _ s1.symm
  have V2 := Lib.hid (h.below b2)
  have S2 := Lib.hid (hs.below b2)
  have X2 := Lib.hid x2
  have K2 := Lib.hid k2
  have B2 := Lib.hid b2
  have HW1 := Lib.hid hw1
  have HW2 := Lib.hid hw2
  have c1 := x2.cell 1
  have c2 := x2.cell 2
  have c5 := x2.cell 5
  have c8 := x2.cell 8
  simp only [List.getElem?_cons_zero, List.getElem?_cons_succ] at c1 c2 c5 c8
  have CM := Lib.hid (oputmeta_any xk xm 0 0 xt aa none an ac 0 0 xa [] w2 h.ts V2.out.a4 V2.out.a1 V2.out.a2 V2.out.a3 (fun hne => absurd rfl hne) rfl (Nat.le_refl _) (by omega))
  clear hs h x1 x2 k2 b1 b2 s1 hw1 hw2
  go_enter Tryz.func62, Tryz.ntmps62
  go_wp2_with fail
  rw [← HW1.out, ← HW2.out]
  refine CM.out.mono ?_
  clear CM HW1 HW2 c1 c2 c5 c8
  intro e w3 h3
  obtain ⟨hb, v1, z1, rfl, hz1⟩ := putR_gen h3
  have V3 := Lib.hid (V2.out.below hb)
  have S3 := Lib.hid (S2.out.below hb)
  have X3 := Lib.hid (X2.out.low hb)
  have K3 := Lib.hid (K2.out.low hb)
  have B3 := Lib.hid (below_chain B2.out hb)
  have Z1 := Lib.hid hz1
  have c6 := X3.out.cell 6
  have c7 := X3.out.cell 7
  simp only [List.getElem?_cons_zero, List.getElem?_cons_succ] at c6 c7
  have CL := Lib.hid (oputlisting_any true na za nn nc zn zc xs xz w3 V3.out.z4 V3.out.z1 V3.out.z2 V3.out.z3 V3.out.n4 V3.out.n1 V3.out.n2 V3.out.n3)
  clear hb hz1 h3 V2 S2 X2 K2 B2
  go_wp2_with fail
  refine CL.out.mono ?_
  clear CL c6 c7
  intro e w4 h4
  obtain ⟨hb, v2, z2, rfl, hz2⟩ := putR_gen h4
  have V4 := Lib.hid (V3.out.below hb)
  have S4 := Lib.hid (S3.out.below hb)
  have X4 := Lib.hid (X3.out.low hb)
  have K4 := Lib.hid (K3.out.low hb)
  have B4 := Lib.hid (below_chain B3.out hb)
  have Z2 := Lib.hid hz2
  have g0 : w4.cell? ⟨0, 0, none⟩ = some (.iface 242 (.pointer (some a))) := S4.out
  have c1 := X4.out.cell 1
  have c4 := X4.out.cell 4
  have c6 := X4.out.cell 6
  have c7 := X4.out.cell 7
  simp only [List.getElem?_cons_zero, List.getElem?_cons_succ] at c1 c4 c6 c7
  clear hb hz2 h4 V3 S3 X3 K3 B3
  rcases Z1.out with ⟨hm, rfl⟩ | ⟨hm, rfl⟩
  rotate_left
  · have HM := Lib.hid hm
    clear hm
    go_wp2_with fail
    go_ret
    exact ⟨B4.out, _, rfl, .inr ⟨fun ho => HM.out ho.node, ⟨_, rfl⟩⟩⟩
  have HM := Lib.hid hm
  clear hm Z1
  by_cases hd : 32768 < dn
  · have t1 : decide ((32768 : Int) < (dn : Int)) = true := by simp; omega
    have t2 : decide (32768 < dn) = true := by simp; omega
    go_wp2_with fail
    go_ret
    exact ⟨B4.out, _, rfl, .inr ⟨fun ho => by have h1 := ho.data; have h2 := V4.out.d1; simp only at h1 h2; omega, ⟨_, rfl⟩⟩⟩
  have t1 : decide ((32768 : Int) < (dn : Int)) = false := by simp; omega
  have t2 : decide (32768 < dn) = false := by simp; omega
  by_cases hd1 : 0 < dn ∧ xk ≠ 1
  · obtain ⟨hd0, hk1⟩ := hd1
    have t3 : decide ((0 : Int) < (dn : Int)) = true := by simp; omega
    have t4 : decide (0 < dn) = true := by simp; omega
    have t5 : (xk != 1) = true := by simp; omega
    have t6 : (xk == 1) = false := by simp; omega
    go_wp2_with fail
    go_ret
    exact ⟨B4.out, _, rfl, .inr ⟨fun ho => hk1 (ho.file (fun h0 => by have h2 := V4.out.d1; simp only at h0 h2; rw [h0] at h2; simp at h2; omega)), ⟨_, rfl⟩⟩⟩
  have HD : Hid (xd ≠ [] → xk = 1) := fun h0 => by
    have h2 := V4.out.d1
    simp only at h2
    have : 0 < dn := by rw [← h2]; exact List.length_pos_iff.2 h0
    exact Classical.byContradiction fun hc => hd1 ⟨this, hc⟩
  have HD2 : Hid (xd.length ≤ 32768) := by show _ ≤ _; have h2 := V4.out.d1; simp only at h2; omega
  have hdc : (decide ((0 : Int) < (dn : Int)) = true ∧ decide (0 < dn) = true ∧ (xk != 1) = false ∧ (xk == 1) = true) ∨ (decide ((0 : Int) < (dn : Int)) = false ∧ decide (0 < dn) = false) := by
    by_cases h0 : 0 < dn
    · have h1 : xk = 1 := Classical.byContradiction fun hc => hd1 ⟨h0, hc⟩
      exact .inl ⟨by simp; omega, by simp; omega, by simp [h1], by simp [h1]⟩
    · exact .inr ⟨by simp; omega, by simp; omega⟩
  have HDC := Lib.hid hdc
  clear hd hd1 hdc
  rcases Z2.out with ⟨hl, rfl⟩ | ⟨hl, rfl⟩
  rotate_left
  · have HL := Lib.hid hl
    clear hl Z2
    rcases HDC.out with ⟨u1, u2, u3, u4⟩ | ⟨u1, u2⟩
    all_goals
      go_wp2_with fail
      go_ret
      exact ⟨B4.out, _, rfl, .inr ⟨fun ho => HL.out ho.list, ⟨_, rfl⟩⟩⟩
  have HL := Lib.hid hl
  clear hl Z2
  by_cases hn : 128 < nn
  · have r1 : decide ((128 : Int) < (nn : Int)) = true := by simp; omega
    have r2 : decide (128 < nn) = true := by simp; omega
    rcases HDC.out with ⟨u1, u2, u3, u4⟩ | ⟨u1, u2⟩
    all_goals
      go_wp2_with fail
      go_ret
      exact ⟨B4.out, _, rfl, .inr ⟨fun ho => by have h1 := ho.most; have h2 := V4.out.n1; simp only at h1 h2; omega, ⟨_, rfl⟩⟩⟩
  have r1 : decide ((128 : Int) < (nn : Int)) = false := by simp; omega
  have r2 : decide (128 < nn) = false := by simp; omega
  by_cases hn1 : 0 < nn ∧ xk ≠ 2
  · obtain ⟨hn0, hk1⟩ := hn1
    have t3 : decide ((0 : Int) < (nn : Int)) = true := by simp; omega
    have t4 : decide (0 < nn) = true := by simp; omega
    have t5 : (xk != 2) = true := by simp; omega
    have t6 : (xk == 2) = false := by simp; omega
    rcases HDC.out with ⟨u1, u2, u3, u4⟩ | ⟨u1, u2⟩
    all_goals
      go_wp2_with fail
      go_ret
      exact ⟨B4.out, _, rfl, .inr ⟨fun ho => hk1 (ho.dir (fun h0 => by have h2 := V4.out.n1; simp only at h0 h2; rw [h0] at h2; simp at h2; omega)), ⟨_, rfl⟩⟩⟩
  have HN : Hid (xs ≠ [] → xk = 2) := fun h0 => by
    have h2 := V4.out.n1
    simp only at h2
    have : 0 < nn := by rw [← h2]; exact List.length_pos_iff.2 h0
    exact Classical.byContradiction fun hc => hn1 ⟨this, hc⟩
  have HN2 : Hid (xs.length ≤ 128) := by show _ ≤ _; have h2 := V4.out.n1; simp only at h2; omega
  have hnc : (decide ((0 : Int) < (nn : Int)) = true ∧ decide (0 < nn) = true ∧ (xk != 2) = false ∧ (xk == 2) = true) ∨ (decide ((0 : Int) < (nn : Int)) = false ∧ decide (0 < nn) = false) := by
    by_cases h0 : 0 < nn
    · have h1 : xk = 2 := Classical.byContradiction fun hc => hn1 ⟨h0, hc⟩
      exact .inl ⟨by simp; omega, by simp; omega, by simp [h1], by simp [h1]⟩
    · exact .inr ⟨by simp; omega, by simp; omega⟩
  have HNC := Lib.hid hnc
  have CZ := Lib.hid (containsz_any za xz zn zc k ⟨w.heap.size + 1, 0, none⟩ w4 (by rw [K4.out.cell 0]; rfl) V4.out.z4 V4.out.z1 V4.out.z2 V4.out.z3)
  clear hn hn1 hnc
  rcases HDC.out with ⟨u1, u2, u3, u4⟩ | ⟨u1, u2⟩
  all_goals
    clear HDC
    rcases HNC.out with ⟨y1, y2, y3, y4⟩ | ⟨y1, y2⟩
    all_goals
      clear HNC
      go_wp2_with fail
      refine CZ.out.mono ?_
      clear CZ
      rintro e w5 ⟨b, rfl, hb, rfl⟩
      have HB := Lib.hid hb
      clear hb
      cases b
      · go_wp2_with fail
        go_ret
        exact ⟨B4.out, _, rfl, .inl ⟨⟨HM.out, HD2.out, HD.out, HL.out, HN2.out, HN.out, fun z hz => Classical.byContradiction fun hc => absurd (HB.out.2 ⟨z, hz, by omega⟩) (by simp)⟩, rfl⟩⟩
      · go_wp2_with fail
        go_ret
        refine ⟨B4.out, _, rfl, .inr ⟨fun ho => ?_, ⟨_, rfl⟩⟩⟩
        obtain ⟨z, hz, hc⟩ := HB.out.1 (by simp)
        have := ho.nums z hz
        omega
end Go.Proofs.YtojhlhpbhoeplaaGreatDoor.Lw
namespace Go.Proofs.YtojhlhpbhoeplaaGreatDoor.Lw
open Go.RowKit Go.Lib Go.Proofs.YtojhlhpbhoeplaaGreatDoor.Sh Go.Proofs.YtojhlhpbhoeplaaGreatDoor.Lb

/-- the library's table of powers of ten -/
def Tab (w : World) : Prop := Lib.TabIs Tryz.prog w "internal/strconv.uint64pow10" .u64 Lib.pow10Tab
theorem kTab : Tryz.prog.globalNamed "internal/strconv.uint64pow10" = some 2 := by kernel_rfl
theorem Tab.below {w w' : World} (h : Tab w) (h2 : 2 < w.heap.size) (hb : Below w.heap.size w w') : Tab w' := var?_below hb kTab h2 h
/-- what the rows list of the program's variables -/
structure Env (w : World) (a : Addr) : Prop where
  err : ErrT w
  sen : Sen w a
  tab : Tab w
  two : 2 < w.heap.size
theorem Env.below {w w' : World} {a : Addr} (h : Env w a) (hb : Below w.heap.size w w') : Env w' a := ⟨h.err.below hb, h.sen.below hb, h.tab.below h.two hb, Nat.lt_of_lt_of_le h.two hb.size⟩
theorem itoa_any (n : Int) (h0 : -9223372036854775808 ≤ n) (h1 : n ≤ 9223372036854775807) (w : World) (h : Tab w) : Calls Tryz.prog 63 #[.int .i64 n] w fun e w' => ∃ s : ByteArray, e = .returned (.string s) ∧ s.size ≤ 21 ∧ Below w.heap.size w w' :=
  (Tryz.strconv_Itoa n h0 h1 w h).mono fun e w' ⟨he, k, os, hw⟩ => ⟨_, he, by show (Lib.itoa n).toArray.size ≤ 21; rw [List.size_toArray]; exact itoa_length_le n h0 h1, by rw [hw]; exact below_grow _ _ (Nat.le_refl _) _ _⟩
/-- the nine cells of an inode -/
structure At9 (w : World) (b p : Nat) (x : InoP) (da : Option Addr) (dn dc : Nat) (na : Option Addr) (nn nc : Nat) (za : Option Addr) (zn zc : Nat) (aa : Option Addr) (an ac : Nat) : Prop where
  k0 : w.cell? ⟨b, p, none⟩ = some (.int .i64 x.num)
  k1 : w.cell? ⟨b, p + 1, none⟩ = some (.int .i64 x.kind)
  k2 : w.cell? ⟨b, p + 2, none⟩ = some (.int .i64 x.mode)
  k3 : w.cell? ⟨b, p + 3, none⟩ = some (.int .i64 x.links)
  k4 : w.cell? ⟨b, p + 4, none⟩ = some (.slice da dn dc)
  k5 : w.cell? ⟨b, p + 5, none⟩ = some (.string x.target)
  k6 : w.cell? ⟨b, p + 6, none⟩ = some (.slice na nn nc)
  k7 : w.cell? ⟨b, p + 7, none⟩ = some (.slice za zn zc)
  k8 : w.cell? ⟨b, p + 8, none⟩ = some (.slice aa an ac)
theorem At9.below {w w' : World} {b p : Nat} {x : InoP} {da na za aa : Option Addr} {dn dc nn nc zn zc an ac : Nat} (h : At9 w b p x da dn dc na nn nc za zn zc aa an ac) (hb : Below w.heap.size w w') (h2 : b < w.heap.size) : At9 w' b p x da dn dc na nn nc za zn zc aa an ac :=
  ⟨(hb.cell (p := ⟨b, _, none⟩) h2).trans h.k0, (hb.cell (p := ⟨b, _, none⟩) h2).trans h.k1, (hb.cell (p := ⟨b, _, none⟩) h2).trans h.k2, (hb.cell (p := ⟨b, _, none⟩) h2).trans h.k3, (hb.cell (p := ⟨b, _, none⟩) h2).trans h.k4, (hb.cell (p := ⟨b, _, none⟩) h2).trans h.k5, (hb.cell (p := ⟨b, _, none⟩) h2).trans h.k6, (hb.cell (p := ⟨b, _, none⟩) h2).trans h.k7, (hb.cell (p := ⟨b, _, none⟩) h2).trans h.k8⟩
def Irw (w : World) (ao : Option Addr) (l : List InoP) : Prop :=
  l ≠ [] → ∃ b o, ao = some ⟨b, o, none⟩ ∧ b < w.heap.size ∧ ∀ (j : Nat) (x : InoP), l[j]? = some x → ∃ da dn dc na nn nc za zn zc aa an ac, At9 w b (o + j * 9) x da dn dc na nn nc za zn zc aa an ac ∧ IvP w x da dn dc na nn nc za zn zc aa an ac
theorem Irw.below {w w' : World} {ao : Option Addr} {l : List InoP} (h : Irw w ao l) (hb : Below w.heap.size w w') : Irw w' ao l := fun hne => by
  obtain ⟨b, o, h1, h2, h3⟩ := h hne
  refine ⟨b, o, h1, Nat.lt_of_lt_of_le h2 hb.size, fun j x hx => ?_⟩
  obtain ⟨da, dn, dc, na, nn, nc, za, zn, zc, aa, an, ac, h4, h5⟩ := h3 j x hx
  exact ⟨da, dn, dc, na, nn, nc, za, zn, zc, aa, an, ac, h4.below hb h2, h5.below hb⟩
theorem irw_at {w : World} {ao : Option Addr} {l : List InoP} (h : Irw w ao l) (j : Nat) (x : InoP) (hx : l[j]? = some x) : ∃ b o, ao = some ⟨b, o, none⟩ ∧ b < w.heap.size ∧ ∃ da dn dc na nn nc za zn zc aa an ac, At9 w b (o + j * 9) x da dn dc na nn nc za zn zc aa an ac ∧ IvP w x da dn dc na nn nc za zn zc aa an ac := by
  obtain ⟨b, o, h1, h2, h3⟩ := h (fun h0 => by rw [h0] at hx; simp at hx)
  exact ⟨b, o, h1, h2, h3 j x hx⟩
theorem okInos_no1 {l : List InoP} {next : Int} (h : l.length < 1 ∨ 512 < l.length) : ¬ OkInos ltB nameOk l next := fun ho => by
  have h1 := ho.one
  have h2 := ho.most
  omega
set_option maxHeartbeats 8000000 in
set_option maxRecDepth 100000 in
theorem checkinodes_any (a : Addr) (ao : Option Addr) (l : List InoP) (n c : Nat) (next : Int) (w : World) (he : Env w a) (h : Irw w ao l) (hl : l.length = n) (hc : n ≤ c) (_ : c ≤ 9223372036854775807) :
    Calls Tryz.prog 35 #[.agg #[.slice ao n c, .int .i64 next]] w (Chk w a (OkInos ltB nameOk l next)) := by
  have b1 : Below w.heap.size w (w.alloc (.cells #[.slice ao n c, .int .i64 next] 26)) := (Below.refl _ w).alloc (Nat.le_refl _) _
  have x1 : Sh.Blk (w.alloc (.cells #[.slice ao n c, .int .i64 next] 26)) w.heap.size [.slice ao n c, .int .i64 next] 26 := Sh.Blk.new w [.slice ao n c, .int .i64 next] 26 _ rfl
  have E1 := Lib.hid (he.below b1)
  have I1 := Lib.hid (h.below b1)
  have HL := Lib.hid hl
  have B1 := Lib.hid b1
  have X1 := Lib.hid x1
  have g0 : ((w.alloc (.cells #[.slice ao n c, .int .i64 next] 26))).cell? ⟨0, 0, none⟩ = some (.iface 242 (.pointer (some a))) := E1.out.sen
  clear he h hl b1 x1
  by_cases h1 : n < 1 ∨ 512 < n
  · have H1 : Hid (¬ OkInos ltB nameOk l next) := okInos_no1 (by rw [HL.out]; exact h1)
    have t1 : decide ((n : Int) < 1) = true ∨ (decide ((n : Int) < 1) = false ∧ decide ((512 : Int) < (n : Int)) = true ∧ decide (512 < n) = true) := by
      by_cases h2 : n < 1
      · exact .inl (by simp; omega)
      · exact .inr ⟨by simp; omega, by simp; omega, by simp; omega⟩
    clear h1
    rcases t1 with t1 | ⟨t1, t2, t3⟩
    all_goals
      go_enter Tryz.func35, Tryz.ntmps35
      go_wp2_with fail
      go_ret
      exact ⟨B1.out, _, rfl, .inr ⟨H1.out, .inl ⟨_, rfl⟩⟩⟩
  have n1 : 1 ≤ n := by omega
  have n2 : n ≤ 512 := by omega
  have t1 : decide ((n : Int) < 1) = false := by simp; omega
  have t2 : decide ((512 : Int) < (n : Int)) = false := by simp; omega
  have t3 : decide (512 < n) = false := by simp; omega
  clear h1
  by_cases h2 : next = (n : Int) + 1
  rotate_left
  · have H1 : Hid (¬ OkInos ltB nameOk l next) := fun ho => h2 (by have := ho.next; rw [HL.out] at this; exact this)
    have t4 : (next != (n : Int) + 1) = true := by simp; omega
    have t5 : (next == (n : Int) + 1) = false := by simp; omega
    clear h2
    go_enter Tryz.func35, Tryz.ntmps35
    go_wp2_with fail
    go_ret
    exact ⟨B1.out, _, rfl, .inr ⟨H1.out, .inl ⟨_, rfl⟩⟩⟩
  subst h2
  obtain ⟨x0, hx0⟩ : ∃ x, l[0]? = some x := ⟨_, List.getElem?_eq_getElem (by have := HL.out; omega)⟩
  obtain ⟨b, o, rfl, hb, da, dn, dc, na, nn, nc, za, zn, zc, aa, an, ac, h9, hv⟩ := irw_at I1.out 0 x0 hx0
  have k1 := h9.k1
  rw [Nat.zero_mul, Nat.add_zero] at k1
  have HX0 := Lib.hid hx0
  clear h9 hv hx0
  by_cases h3 : x0.kind = 2
  rotate_left
  · have H1 : Hid (¬ OkInos ltB nameOk l ((n : Int) + 1)) := fun ho => h3 (ho.root x0 HX0.out)
    obtain ⟨kk, hkk⟩ : ∃ k, k = x0.kind := ⟨_, rfl⟩
    rw [← hkk] at k1 h3
    have t4 : (kk != 2) = true := by simp; omega
    have t5 : (kk == 2) = false := by simp; omega
    clear h3 hkk hb
    go_enter Tryz.func35, Tryz.ntmps35
    go_wp2_with fail
    go_ret
    exact ⟨B1.out, _, rfl, .inr ⟨H1.out, .inl ⟨_, rfl⟩⟩⟩
  rw [h3] at k1
  have K3 := Lib.hid h3
  clear h3 hb
  go_enter Tryz.func35, Tryz.ntmps35
  go_wp2_with fail
  have G0 := Lib.hid (B1.out)
  go_loopw [42] (fun vi wr => ∃ i : Nat, i ≤ n ∧ vi = .int .i64 i ∧ Hid (Below w.heap.size w wr) ∧ Hid (Env wr a) ∧ Hid (Irw wr (some ⟨b, o, none⟩) l) ∧ Hid (∀ (j : Nat) (x : InoP), j < i → l[j]? = some x → x.num = (j : Int) + 1 ∧ OkIno ltB nameOk l.length x)) (fun vi _ => n - (RowKit.intOf vi).toNat)
  case atStart => exact ⟨0, by omega, rfl, B1.out, E1.out, I1.out, (fun j x hj => by omega : ∀ (j : Nat) (x : InoP), j < 0 → l[j]? = some x → x.num = (j : Int) + 1 ∧ OkIno ltB nameOk l.length x)⟩
  case round =>
    obtain ⟨i, hi, rfl, hB, hE, hI, hO⟩ := hrel
    clear g0 k1
    by_cases hin : i < n
    · have q1 : (0 : Int) ≤ (i : Int) := by omega
      have q2 : (i : Int) < (n : Int) := by omega
      obtain ⟨x, hx⟩ : ∃ x, l[i]? = some x := ⟨_, List.getElem?_eq_getElem (by have := HL.out; omega)⟩
      obtain ⟨b', o', hbo, hb, ea, en, ec, fa, fn, fc, ga, gn, gc, ha, hn', hc', h9, hv⟩ := irw_at hI.out i x hx
      injection hbo with hbo
      injection hbo with hb1 ho1
      subst hb1
      subst ho1
      have HX := Lib.hid hx
      obtain ⟨xn, xk, xm, xl, xd, xt, xs, xz, xa⟩ := x
      have k0 := h9.k0
      have k1 := h9.k1
      have k2 := h9.k2
      have k3 := h9.k3
      have k4 := h9.k4
      have k5 := h9.k5
      have k6 := h9.k6
      have k7 := h9.k7
      have k8 := h9.k8
      simp only at k0 k1 k2 k3 k4 k5 k6 k7 k8
      have bb : Below wr.heap.size wr (wr.alloc (.cells #[.int .i64 xn, .int .i64 xk, .int .i64 xm, .int .i64 xl, .slice ea en ec, .string xt, .slice fa fn fc, .slice ga gn gc, .slice ha hn' hc'] 46)) := (Below.refl _ wr).alloc (Nat.le_refl _) _
      have g0 : ((wr.alloc (.cells #[.int .i64 xn, .int .i64 xk, .int .i64 xm, .int .i64 xl, .slice ea en ec, .string xt, .slice fa fn fc, .slice ga gn gc, .slice ha hn' hc'] 46))).cell? ⟨0, 0, none⟩ = some (.iface 242 (.pointer (some a))) := (hE.out.below bb).sen
      have BX := Lib.hid (Sh.Blk.new wr [.int .i64 xn, .int .i64 xk, .int .i64 xm, .int .i64 xl, .slice ea en ec, .string xt, .slice fa fn fc, .slice ga gn gc, .slice ha hn' hc'] 46 _ rfl)
      have BB := Lib.hid (below_chain hB.out bb)
      have EE := Lib.hid (hE.out.below bb)
      have II := Lib.hid (hI.out.below bb)
      have C := Lib.hid (checkinode_any a xn xk xm xl xd xt xs xz xa n ea fa ga ha en ec fn fc gn gc hn' hc' (wr.alloc (.cells #[.int .i64 xn, .int .i64 xk, .int .i64 xm, .int .i64 xl, .slice ea en ec, .string xt, .slice fa fn fc, .slice ga gn gc, .slice ha hn' hc'] 46)) EE.out.sen (hv.below bb))
      clear hb h9 hv hx bb hB hE hI
      by_cases hnum : xn = (i : Int) + 1
      rotate_left
      · have t4 : (xn != (i : Int) + 1) = true := by simp; omega
        have t5 : (xn == (i : Int) + 1) = false := by simp; omega
        have H1 : Hid (¬ OkInos ltB nameOk l ((n : Int) + 1)) := fun ho => hnum (ho.each i _ HX.out).1
        clear hnum
        go_wp2_with fail
        go_ret
        exact ⟨BB.out, _, rfl, .inr ⟨H1.out, .inl ⟨_, rfl⟩⟩⟩
      subst hnum
      go_wp2_with fail
      refine C.out.mono ?_
      clear C g0
      rintro e w5 ⟨hb, v, rfl, hv⟩
      have B5 := Lib.hid (below_chain BB.out hb)
      have E5 := Lib.hid (EE.out.below hb)
      have I5 := Lib.hid (II.out.below hb)
      have c0 := (BX.out.low hb).cell 0
      simp only [List.getElem?_cons_zero] at c0
      clear hb BB EE II BX
      rcases hv with ⟨hok, rfl⟩ | ⟨hno, t, rfl⟩
      · have OK := Lib.hid hok
        clear hok c0
        go_wp2_with fail
        go_roundw
        case rel => exact ⟨i + 1, by omega, by go_num, B5.out, E5.out, I5.out, (fun j x hj hx => by
          rcases Nat.lt_or_ge j i with h1 | h1
          · exact hO.out j x h1 hx
          · obtain rfl : j = i := by omega
            rw [HX.out] at hx
            injection hx with hx
            rw [← hx, HL.out]
            exact ⟨rfl, OK.out⟩ : ∀ (j : Nat) (x : InoP), j < i + 1 → l[j]? = some x → x.num = (j : Int) + 1 ∧ OkIno ltB nameOk l.length x)⟩
        case measure => simp [RowKit.intOf]; omega
      · have NO : Hid (¬ OkInos ltB nameOk l ((n : Int) + 1)) := fun ho => hno (by have := (ho.each i _ HX.out).2; rw [HL.out] at this; exact this)
        clear hno
        have CI := Lib.hid (itoa_any ((i : Int) + 1) (by omega) (by omega) w5 E5.out.tab)
        go_wp2_with fail
        refine CI.out.mono ?_
        clear CI c0
        rintro e w6 ⟨s, rfl, hs21, hb⟩
        have hs6 : (⟨#[105, 110, 111, 100, 101, 32]⟩ ++ s : ByteArray).size ≤ 27 := by
          have e6 : (⟨#[105, 110, 111, 100, 101, 32]⟩ : ByteArray).size = 6 := rfl
          rw [ByteArray.size_append, e6]
          omega
        have B6 := Lib.hid (below_chain B5.out hb)
        clear hb
        go_wp2_with fail
        go_ret
        exact ⟨B6.out, _, rfl, .inr ⟨NO.out, .inr ⟨_, _, rfl⟩⟩⟩
    · obtain rfl : i = n := by omega
      have OK : Hid (OkInos ltB nameOk l ((i : Int) + 1)) := ⟨by rw [HL.out]; exact n1, by rw [HL.out]; exact n2, by rw [HL.out], fun x hx => by rw [HX0.out] at hx; injection hx with hx; rw [← hx]; exact K3.out, fun j x hx => hO.out j x (by have := (List.getElem?_eq_some_iff.1 hx).1; have := HL.out; omega) hx⟩
      go_wp2_with fail
      go_ret
      exact ⟨hB.out, _, rfl, .inl ⟨OK.out, rfl⟩⟩
end Go.Proofs.YtojhlhpbhoeplaaGreatDoor.Lw
