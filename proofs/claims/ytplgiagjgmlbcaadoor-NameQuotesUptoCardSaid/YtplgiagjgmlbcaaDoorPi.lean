/-
  Plain facts on a path's pieces: Split at one byte is the pieces between the strokes; a run over the bytes tells the same names as the run over the pieces; whether a path must be a directory's is told by its last piece. No condition.
-/
import Derived.Test.YtplgiagjgmlbcaaDoorPd
import Derived.Lib.SplitLaws
import Derived.Lib.IndexBytes
namespace Go.Proofs.YtplgiagjgmlbcaaDoor.Nm
open Go.Lib

/-- a byte ahead of the first piece -/
def headC (c : UInt8) : List (List UInt8) → List (List UInt8)
  | [] => [[c]]
  | p :: q => (c :: p) :: q
/-- the pieces between the strokes -/
def pieces : List UInt8 → List (List UInt8)
  | [] => [[]]
  | c :: r => if c = 47 then [] :: pieces r else headC c (pieces r)
theorem headC_ne (c : UInt8) : ∀ l, headC c l ≠ []
  | [] => by simp [headC]
  | _ :: _ => by simp [headC]
theorem pieces_ne : ∀ l, pieces l ≠ []
  | [] => by simp [pieces]
  | c :: r => by
    unfold pieces
    split
    · simp
    · exact headC_ne c _

theorem splitK_stroke (k : Nat) (r : List UInt8) : splitK [47] 0 (k + 1) (47 :: r) = [] :: splitK [47] 0 k r := by
  have e : index (47 :: r) [47] = 0 := by rw [index_one, indexByte]; simp
  rw [splitK, e]
  simp
theorem splitK_other (c : UInt8) (hc : c ≠ 47) (r : List UInt8) : ∀ k, splitK [47] 0 k (c :: r) = headC c (splitK [47] 0 k r)
  | 0 => rfl
  | k + 1 => by
    have e : index (c :: r) [47] = if index r [47] == -1 then -1 else index r [47] + 1 := by
      rw [index_one, indexByte, ← index_one r 47, if_neg (by simpa using hc)]
    have hg := index_ge r [47]
    rw [splitK, splitK, e]
    by_cases h : index r [47] = -1
    · rw [h]; rfl
    · have hb : (index r [47] == -1) = false := by simpa using h
      rw [hb]
      obtain ⟨n, hn⟩ : ∃ n : Nat, index r [47] = n := ⟨(index r [47]).toNat, by omega⟩
      have h1 : (((n : Int) + 1) == -1) = false := by simp; omega
      simp only [hn, Bool.false_eq_true, if_false, h1]
      have t1 : ((n : Int) + 1).toNat = n + 1 := by omega
      have t2 : (n : Int).toNat = n := by omega
      rw [t1, t2]
      simp only [headC, List.length_cons, List.length_nil, Nat.add_zero, Nat.zero_add, List.take_succ_cons, List.drop_succ_cons]
theorem pieces_split : ∀ l : List UInt8, splitK [47] 0 (l.count 47) l = pieces l
  | [] => rfl
  | c :: r => by
    have ih := pieces_split r
    by_cases h : c = 47
    · subst h
      rw [List.count_cons_self, splitK_stroke, ih, pieces, if_pos rfl]
    · rw [List.count_cons_of_ne h, splitK_other c h, ih, pieces, if_neg h]
theorem splitB_pieces (s : ByteArray) : (splitB ⟨#[47]⟩ 0 (countB s ⟨#[47]⟩) s).map (·.data.toList) = pieces s.data.toList := by
  rw [splitB_data, ← pieces_split]
  have : countB s ⟨#[47]⟩ = s.data.toList.count 47 := count_one 47 s.data.toList
  rw [this]

/-- bytes ahead of the first piece -/
def headL (cur : List UInt8) : List (List UInt8) → List (List UInt8)
  | [] => [cur]
  | p :: q => (cur ++ p) :: q
theorem headL_nil : ∀ l, l ≠ [] → headL [] l = l
  | [], h => absurd rfl h
  | _ :: _, _ => rfl
theorem headL_C (cur : List UInt8) (c : UInt8) : ∀ l, l ≠ [] → headL cur (headC c l) = headL (cur ++ [c]) l
  | [], h => absurd rfl h
  | p :: q, _ => by simp [headC, headL]

/-- a text of bytes -/
def mkB (p : List UInt8) : ByteArray := ⟨p.toArray⟩
theorem mkB_data (p : List UInt8) : (mkB p).data.toList = p := rfl
theorem mkB_of (n : ByteArray) : mkB n.data.toList = n := by cases n; simp [mkB]
/-- goN over pieces -/
def goP (acc : List ByteArray) : List (List UInt8) → List ByteArray × Int
  | [] => (acc, 0)
  | p :: r => if p = [] ∨ p = [46] then goP acc r else if p = [46, 46] then goP (acc ++ [mkB p]) r else if checkL p = 0 then goP (acc ++ [mkB p]) r else ([], checkL p)
theorem goN_P : ∀ (l : List ByteArray) (acc : List ByteArray), goN acc l = goP acc (l.map (·.data.toList))
  | [], _ => rfl
  | n :: r, acc => by
    rw [goN, List.map_cons, goP, mkB_of, goN_P r, goN_P r]

/-- the last piece leads to a directory -/
def dirP (p : List UInt8) : Bool := decide (p = [] ∨ p = [46])
def lastP (ps : List (List UInt8)) : List UInt8 := ps.getLastD []
/-- what a run over the bytes leaves -/
def runS (acc : List ByteArray) (last : List UInt8) (ps : List (List UInt8)) : List ByteArray × Bool × Int :=
  if (goP acc ps).2 = 0 then ((goP acc ps).1, dirP ((last :: ps).getLastD []), 0) else ([], false, (goP acc ps).2)
theorem runS_end (acc : List ByteArray) (last : List UInt8) : runS acc last [] = (acc, dirP last, 0) := rfl
theorem runS_skip (acc : List ByteArray) (last p : List UInt8) (r : List (List UInt8)) (h : p = [] ∨ p = [46]) : runS acc last (p :: r) = runS acc p r := by
  unfold runS
  rw [goP, if_pos h]
  rfl
theorem runS_up (acc : List ByteArray) (last p : List UInt8) (r : List (List UInt8)) (h : p = [46, 46]) : runS acc last (p :: r) = runS (acc ++ [mkB p]) p r := by
  have e : goP acc (p :: r) = goP (acc ++ [mkB p]) r := by rw [goP, if_neg (by rw [h]; simp), if_pos h]
  unfold runS
  rw [e]
  rfl
theorem runS_name (acc : List ByteArray) (last p : List UInt8) (r : List (List UInt8)) (h : ¬ (p = [] ∨ p = [46])) (h1 : ¬ p = [46, 46]) (h2 : checkL p = 0) : runS acc last (p :: r) = runS (acc ++ [mkB p]) p r := by
  have e : goP acc (p :: r) = goP (acc ++ [mkB p]) r := by rw [goP, if_neg h, if_neg h1, if_pos h2]
  unfold runS
  rw [e]
  rfl
theorem runS_bad (acc : List ByteArray) (last p : List UInt8) (r : List (List UInt8)) (h : ¬ (p = [] ∨ p = [46])) (h1 : ¬ p = [46, 46]) (h2 : ¬ checkL p = 0) : runS acc last (p :: r) = ([], false, checkL p) := by
  unfold runS
  rw [goP, if_neg h, if_neg h1, if_neg h2]
  simp only [if_neg h2]

/-- what is before the last piece ends in a stroke, and the last piece has none -/
theorem last_piece : ∀ l : List UInt8, ∃ pre, 47 :: l = pre ++ 47 :: (pieces l).getLastD [] ∧ (47 : UInt8) ∉ (pieces l).getLastD [] ∧ ((pieces l).length = 1 → pre = [])
  | [] => ⟨[], by simp [pieces], by simp [pieces], fun _ => rfl⟩
  | c :: r => by
    obtain ⟨pre, h1, h2, h3⟩ := last_piece r
    by_cases h : c = 47
    · subst h
      rw [pieces, if_pos rfl]
      have e : ([] :: pieces r).getLastD [] = (pieces r).getLastD [] := by
        cases hp : pieces r with
        | nil => exact absurd hp (pieces_ne r)
        | cons _ _ => simp
      rw [e]
      refine ⟨47 :: pre, by rw [h1]; rfl, h2, fun hl => ?_⟩
      exact absurd (by simpa using hl) (pieces_ne r)
    · rw [pieces, if_neg h]
      cases hp : pieces r with
      | nil => exact absurd hp (pieces_ne r)
      | cons p q =>
        rw [hp] at h1 h2 h3
        cases q with
        | nil =>
          have hpre := h3 rfl
          subst hpre
          simp only [headC, List.getLastD_cons, List.getLastD_nil, List.nil_append, List.cons.injEq, true_and] at h1 h2 ⊢
          refine ⟨[], by simp [h1], ?_, fun _ => rfl⟩
          intro hm
          rcases List.mem_cons.1 hm with hm | hm
          · exact h hm.symm
          · exact h2 hm
        | cons a q =>
          have e : (headC c (p :: a :: q)).getLastD [] = (p :: a :: q).getLastD [] := by simp [headC]
          rw [e]
          match pre, h1 with
          | [], h1 =>
            exfalso
            simp only [List.nil_append, List.cons.injEq, true_and] at h1
            have hne : (47 : UInt8) ∈ r := by
              have : (pieces r).length ≠ 1 := by rw [hp]; simp
              apply Classical.byContradiction
              intro hm
              exact this (one_piece r hm)
            rw [h1] at hne
            exact h2 hne
          | x :: pre, h1 =>
            simp only [List.cons_append, List.cons.injEq] at h1
            exact ⟨47 :: c :: pre, by rw [h1.2]; simp, h2, fun hl => by simp [headC] at hl⟩
where
  one_piece : ∀ r : List UInt8, (47 : UInt8) ∉ r → (pieces r).length = 1
    | [], _ => rfl
    | c :: r, h => by
      have hc : ¬ c = 47 := fun e => h (by rw [e]; simp)
      have ih := one_piece r (fun hm => h (List.mem_cons_of_mem _ hm))
      rw [pieces, if_neg hc]
      cases hp : pieces r with
      | nil => exact absurd hp (pieces_ne r)
      | cons p q => rw [hp] at ih; simpa [headC] using ih

theorem suf1 (pre p : List UInt8) (h : (47 : UInt8) ∉ p) : hasSuffix (pre ++ 47 :: p) [47] = decide (p = []) := by
  rw [Bool.eq_iff_iff, hasSuffix, List.isSuffixOf_iff_suffix, decide_eq_true_eq]
  constructor
  · rintro ⟨t, ht⟩
    cases hp : p with
    | nil => rfl
    | cons a q =>
      exfalso
      have h1 := congrArg (fun l => l.getLast?) ht
      simp only [List.getLast?_append, List.getLast?_singleton, hp] at h1
      have h2 : (47 :: a :: q : List UInt8).getLast? = (a :: q).getLast? := by simp
      rw [h2] at h1
      have h3 : (a :: q).getLast? = some 47 := by
        cases hq : (a :: q).getLast? with
        | none => simp at hq
        | some z => rw [hq] at h1; simpa using h1.symm
      exact h (by rw [hp]; exact List.mem_of_getLast? h3)
  · rintro rfl
    exact ⟨pre, rfl⟩
theorem suf2 (pre p : List UInt8) (h : (47 : UInt8) ∉ p) : hasSuffix (pre ++ 47 :: p) [47, 46] = decide (p = [46]) := by
  rw [Bool.eq_iff_iff, hasSuffix, List.isSuffixOf_iff_suffix, decide_eq_true_eq]
  constructor
  · rintro ⟨t, ht⟩
    have hr := congrArg List.reverse ht
    simp only [List.reverse_append, List.reverse_cons, List.reverse_nil, List.nil_append, List.singleton_append] at hr
    have hm : (47 : UInt8) ∉ p.reverse := by simpa using h
    have e : p = p.reverse.reverse := by simp
    rw [e]
    cases hp : p.reverse with
    | nil => rw [hp] at hr; simp at hr
    | cons a q =>
      rw [hp] at hr hm
      cases q with
      | nil => simp at hr; rw [← hr.1]; rfl
      | cons b q =>
        exfalso
        simp at hr
        exact hm (by rw [← hr.2.1]; simp)
  · rintro rfl
    exact ⟨pre, by simp⟩
theorem dir_suffix (r : List UInt8) : (hasSuffix (47 :: r) [47] || hasSuffix (47 :: r) [47, 46]) = dirP ((pieces r).getLastD []) := by
  obtain ⟨pre, h1, h2, _⟩ := last_piece r
  rw [h1, suf1 _ _ h2, suf2 _ _ h2]
  unfold dirP
  rw [Bool.eq_iff_iff]
  simp

theorem goP_len : ∀ (ps : List (List UInt8)) (acc : List ByteArray), (goP acc ps).1.length ≤ acc.length + ps.length
  | [], _ => by simp [goP]
  | p :: r, acc => by
    unfold goP
    have h1 := goP_len r acc
    have h2 := goP_len r (acc ++ [mkB p])
    rw [List.length_append] at h2
    simp only [List.length_cons, List.length_nil] at h2 ⊢
    repeat' split
    all_goals first
      | omega
      | (simp; done)
theorem pieces_len : ∀ l : List UInt8, (pieces l).length ≤ l.length + 1
  | [] => by simp [pieces]
  | c :: r => by
    have ih := pieces_len r
    unfold pieces
    split
    · simp; omega
    · cases hp : pieces r with
      | nil => simp [headC]
      | cons p q => rw [hp] at ih; simp [headC] at ih ⊢; omega

/-- THE WHOLE: of a text that begins with a stroke the run over the rest's pieces is name.Split's -/
theorem splitN_run (s : ByteArray) (h0 : s.data.toList ≠ []) (h1 : ¬ 1000 < s.size) (h2 : s.data.toList.getD 0 0 = 47) :
    splitN s = runS [] [] (pieces (s.data.toList.drop 1)) := by
  obtain ⟨r, hr⟩ : ∃ r, s.data.toList = 47 :: r := by
    cases hd : s.data.toList with
    | nil => exact absurd hd h0
    | cons c r => rw [hd] at h2; simp at h2; exact ⟨r, by rw [h2]⟩
  have hg : goN [] (splitB ⟨#[47]⟩ 0 (countB s ⟨#[47]⟩) s) = goP [] (pieces r) := by
    rw [goN_P, splitB_pieces, hr, pieces, if_pos rfl, goP, if_pos (Or.inl rfl)]
  unfold splitN runS
  rw [if_neg h0, if_neg h1, if_neg (fun h => h h2), hg, hr, dir_suffix]
  rw [show (47 :: r : List UInt8).drop 1 = r from rfl]
  have e : ([] :: pieces r).getLastD [] = (pieces r).getLastD [] := by
    cases hp : pieces r with
    | nil => exact absurd hp (pieces_ne r)
    | cons _ _ => simp
  rw [e]
theorem splitN_len (s : ByteArray) : (splitN s).1.length ≤ 1001 := by
  by_cases h0 : s.data.toList = []
  · unfold splitN; rw [if_pos h0]; simp
  by_cases h1 : 1000 < s.size
  · unfold splitN; rw [if_neg h0, if_pos h1]; simp
  by_cases h2 : s.data.toList.getD 0 0 = 47
  · rw [splitN_run s h0 h1 h2]
    unfold runS
    have l1 := goP_len (pieces (s.data.toList.drop 1)) []
    have l2 := pieces_len (s.data.toList.drop 1)
    rw [List.length_drop, ← size_eq] at l2
    split
    · simp only [List.length_nil] at l1 ⊢; omega
    · simp
  · unfold splitN; rw [if_neg h0, if_neg h1, if_pos h2]; simp
end Go.Proofs.YtplgiagjgmlbcaaDoor.Nm
