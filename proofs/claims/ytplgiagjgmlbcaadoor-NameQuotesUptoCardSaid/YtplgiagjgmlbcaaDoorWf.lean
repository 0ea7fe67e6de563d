/-
  The contract of name.first: for every text that is not empty, what its front stands for and what is behind it, or that it stands for nothing. Conditions: the library's variables as their texts lay them; the text shorter than 2^32 - 15 bytes.
-/
import Derived.Test.YtplgiagjgmlbcaaDoorWe
import Derived.BigQuiet
import Derived.Deep.QuietTactic
import Derived.RegionTactic
import Derived.Laws.Strings2
import Derived.WalkSpells
namespace Go.Proofs.YtplgiagjgmlbcaaDoor.Nm
open Go.RowKit Go.Lib

/-- what first leaves -/
def FPost (o : Option (List UInt8 × List UInt8)) (w : World) (e : Ending) (w' : World) : Prop :=
  Below w.heap.size w w' ∧ match o with
    | some (p, b) => e = .returned (.tuple #[.string ⟨p.toArray⟩, .string ⟨b.toArray⟩, .bool true])
    | none => ∃ p b : ByteArray, e = .returned (.tuple #[.string p, .string b, .bool false])

theorem bytes_of {a : ByteArray} {l : List UInt8} (h : a.data.toList = l) : a = ⟨l.toArray⟩ := by
  subst h; cases a; simp
theorem extract_take (s : ByteArray) (a b : Nat) : (s.extract a b).data.toList = (s.data.toList.drop a).take (b - a) := extract_data s a b

theorem below_drewN {B : Nat} {a w : World} (h : Below B a w) (n : Nat) : Below B a (w.drewN n) := ⟨h.os, h.tape, h.output, h.size, h.block⟩

set_option maxRecDepth 100000 in
theorem first_plain (s : ByteArray) (w : World) (h0 : 0 < s.size) (hb : (((s[0]'h0).toNat : Int) != 92) = true) :
    Calls Tryd.prog 27 #[.string s] w fun e w' => (∃ p b : ByteArray, p = s.extract 0 1 ∧ b = s.extract 1 s.size ∧ e = .returned (.tuple #[.string p, .string b, .bool true])) ∧ Below w.heap.size w w' := by
  go_enter Tryd.func27, Tryd.ntmps27
  go_wp2_with fail
  go_quiet (fail)
  go_wp2_with fail
  go_ret3
  exact ⟨⟨_, _, rfl, rfl, rfl⟩, below_drewN (Below.refl _ _) _⟩

set_option maxRecDepth 100000 in
theorem first_mark (s : ByteArray) (w : World) (h0 : 0 < s.size) (h2 : 2 ≤ s.size) (hb : (((s[0]'h0).toNat : Int) != 92) = false) (q : Bool) (h1 : Hid (hasPrefix s.data.toList [92, 34] = q)) (h3 : q = false → Hid (hasPrefix s.data.toList [92, 92] = true)) :
    Calls Tryd.prog 27 #[.string s] w fun e w' => (∃ p b : ByteArray, p = s.extract 1 2 ∧ b = s.extract 2 s.size ∧ e = .returned (.tuple #[.string p, .string b, .bool true])) ∧ Below w.heap.size w w' := by
  have hsl : ∀ W, (Instr.slice 9 (.string s) (some (.int .i64 1)) (some (.int .i64 2)) none).run Tryd.prog W = .ok (.string (s.extract 1 2)) W := fun W => run_slice_string W 9 s .i64 .i64 1 2 Tryd.underlying9 (by omega) (by omega) (by omega)
  cases q with
  | true =>
    clear h3
    have c1 := Tryd.strings_HasPrefix s ⟨#[92, 34]⟩
    rw [show (⟨#[92, 34]⟩ : ByteArray).data.toList = [92, 34] from rfl, h1.out] at c1
    have C1 := Lib.hid c1
    clear c1 h1
    go_enter Tryd.func27, Tryd.ntmps27
    go_wp2_with (go_at_call 41; refine (C1.out _).mono ?_; rintro e w' ⟨rfl, rfl⟩)
    go_quiet (fail)
    go_wp2_with fail
    go_ret3
    exact ⟨⟨_, _, rfl, rfl, rfl⟩, below_drewN (Below.refl _ _) _⟩
  | false =>
    have h3' := h3 rfl
    clear h3
    have c1 := Tryd.strings_HasPrefix s ⟨#[92, 34]⟩
    rw [show (⟨#[92, 34]⟩ : ByteArray).data.toList = [92, 34] from rfl, h1.out] at c1
    have C1 := Lib.hid c1
    have c2 := Tryd.strings_HasPrefix s ⟨#[92, 92]⟩
    rw [show (⟨#[92, 92]⟩ : ByteArray).data.toList = [92, 92] from rfl, h3'.out] at c2
    have C2 := Lib.hid c2
    clear c1 h1 c2 h3'
    go_enter Tryd.func27, Tryd.ntmps27
    go_wp2_with fail
    refine (C1.out _).mono ?_
    rintro e w' ⟨rfl, rfl⟩
    go_wp2_with fail
    refine (C2.out _).mono ?_
    rintro e w' ⟨rfl, rfl⟩
    go_wp2_with fail
    go_quiet (fail)
    go_wp2_with fail
    go_ret3
    exact ⟨⟨_, _, rfl, rfl, rfl⟩, below_drewN (Below.refl _ _) _⟩

set_option maxRecDepth 100000 in
theorem first_uni (s : ByteArray) (w : World) (hg : Glob w) (h0 : 0 < s.size) (hs : s.size < 4294967281) (hb : (((s[0]'h0).toNat : Int) != 92) = false) (h1 : Hid (hasPrefix s.data.toList [92, 34] = false)) (h2 : Hid (hasPrefix s.data.toList [92, 92] = false))
    (h3 : Hid (hasPrefix s.data.toList [92, 117, 123] = true)) (hsz : 3 ≤ s.size) (cb ca : List UInt8) (cf : Bool) (hcut : Hid (Lib.cut (s.data.toList.drop 3) [125] = (cb, ca, cf))) (hcbl : cb.length ≤ s.size) (n : Nat) (hn : Hid (pU 2097151 cb = some n)) :
    Calls Tryd.prog 27 #[.string s] w fun e w' => (∃ p : ByteArray, p = Utf8.encode (n : Int) ∧ e = .returned (.tuple #[.string p, .string ⟨ca.toArray⟩, .bool cf])) ∧ Below w.heap.size w w' := by
  have c1 := Tryd.strings_HasPrefix s ⟨#[92, 34]⟩
  rw [show (⟨#[92, 34]⟩ : ByteArray).data.toList = [92, 34] from rfl, h1.out] at c1
  have C1 := Lib.hid c1
  have c2 := Tryd.strings_HasPrefix s ⟨#[92, 92]⟩
  rw [show (⟨#[92, 92]⟩ : ByteArray).data.toList = [92, 92] from rfl, h2.out] at c2
  have C2 := Lib.hid c2
  have c3 := Tryd.strings_HasPrefix s ⟨#[92, 117, 123]⟩
  rw [show (⟨#[92, 117, 123]⟩ : ByteArray).data.toList = [92, 117, 123] from rfl, h3.out] at c3
  have C3 := Lib.hid c3
  obtain ⟨m, hm⟩ := hg.mlen
  have c4 := Tryd.strings_Cut (s.extract 3 s.size) ⟨#[125]⟩ m w (by rw [size_eq, extract_drop, List.length_drop, ← size_eq]; omega) hm
  rw [extract_drop, show (⟨#[125]⟩ : ByteArray).data.toList = [125] from rfl, hcut.out] at c4
  have C4 := Lib.hid c4
  have hnle := pU_le _ _ _ hn.out
  clear c1 h1 c2 h2 c3 h3 c4 hm
  cases cf with
  | true =>
    go_enter Tryd.func27, Tryd.ntmps27
    go_wp2_with fail
    refine (C1.out _).mono ?_
    rintro e w' ⟨rfl, rfl⟩
    go_wp2_with fail
    refine (C2.out _).mono ?_
    rintro e w' ⟨rfl, rfl⟩
    go_wp2_with fail
    refine (C3.out _).mono ?_
    rintro e w' ⟨rfl, rfl⟩
    go_wp2_with fail
    refine C4.out.mono ?_
    rintro e w1 ⟨rfl, nd, hw1⟩
    have hb1 : Below w'.heap.size w' w1 := by rw [hw1]; exact below_drewN (Below.refl _ _) _
    clear hw1
    go_wp2_with fail
    refine (parse_pub_ok 21 2097151 n (Or.inr ⟨rfl, rfl⟩) ⟨cb.toArray⟩ (by show cb.length ≤ _; omega) _ hn).mono ?_
    rintro e w2 ⟨rfl, hb2⟩
    go_wp2_with fail
    go_quiet (fail)
    go_wp2_with fail
    go_ret3
    exact ⟨⟨_, rfl, rfl⟩, below_drewN (hb1.trans (hb2.mono hb1.size)) _⟩
  | false =>
    go_enter Tryd.func27, Tryd.ntmps27
    go_wp2_with fail
    refine (C1.out _).mono ?_
    rintro e w' ⟨rfl, rfl⟩
    go_wp2_with fail
    refine (C2.out _).mono ?_
    rintro e w' ⟨rfl, rfl⟩
    go_wp2_with fail
    refine (C3.out _).mono ?_
    rintro e w' ⟨rfl, rfl⟩
    go_wp2_with fail
    refine C4.out.mono ?_
    rintro e w1 ⟨rfl, nd, hw1⟩
    have hb1 : Below w'.heap.size w' w1 := by rw [hw1]; exact below_drewN (Below.refl _ _) _
    clear hw1
    go_wp2_with fail
    refine (parse_pub_ok 21 2097151 n (Or.inr ⟨rfl, rfl⟩) ⟨cb.toArray⟩ (by show cb.length ≤ _; omega) _ hn).mono ?_
    rintro e w2 ⟨rfl, hb2⟩
    go_wp2_with fail
    go_quiet (fail)
    go_wp2_with fail
    go_ret3
    exact ⟨⟨_, rfl, rfl⟩, below_drewN (hb1.trans (hb2.mono hb1.size)) _⟩

set_option maxRecDepth 100000 in
theorem first_uni_bad (s : ByteArray) (w : World) (hg : Glob w) (h0 : 0 < s.size) (hs : s.size < 4294967281) (hb : (((s[0]'h0).toNat : Int) != 92) = false) (h1 : Hid (hasPrefix s.data.toList [92, 34] = false)) (h2 : Hid (hasPrefix s.data.toList [92, 92] = false))
    (h3 : Hid (hasPrefix s.data.toList [92, 117, 123] = true)) (hsz : 3 ≤ s.size) (cb ca : List UInt8) (cf : Bool) (hcut : Hid (Lib.cut (s.data.toList.drop 3) [125] = (cb, ca, cf))) (hcbl : cb.length ≤ s.size) (hn : Hid (pU 2097151 cb = none)) :
    Calls Tryd.prog 27 #[.string s] w fun e w' => (∃ p b : ByteArray, e = .returned (.tuple #[.string p, .string b, .bool false])) ∧ Below w.heap.size w w' := by
  have c1 := Tryd.strings_HasPrefix s ⟨#[92, 34]⟩
  rw [show (⟨#[92, 34]⟩ : ByteArray).data.toList = [92, 34] from rfl, h1.out] at c1
  have C1 := Lib.hid c1
  have c2 := Tryd.strings_HasPrefix s ⟨#[92, 92]⟩
  rw [show (⟨#[92, 92]⟩ : ByteArray).data.toList = [92, 92] from rfl, h2.out] at c2
  have C2 := Lib.hid c2
  have c3 := Tryd.strings_HasPrefix s ⟨#[92, 117, 123]⟩
  rw [show (⟨#[92, 117, 123]⟩ : ByteArray).data.toList = [92, 117, 123] from rfl, h3.out] at c3
  have C3 := Lib.hid c3
  obtain ⟨m, hm⟩ := hg.mlen
  have c4 := Tryd.strings_Cut (s.extract 3 s.size) ⟨#[125]⟩ m w (by rw [size_eq, extract_drop, List.length_drop, ← size_eq]; omega) hm
  rw [extract_drop, show (⟨#[125]⟩ : ByteArray).data.toList = [125] from rfl, hcut.out] at c4
  have C4 := Lib.hid c4
  clear c1 h1 c2 h2 c3 h3 c4 hm
  cases cf with
  | true =>
    go_enter Tryd.func27, Tryd.ntmps27
    go_wp2_with fail
    refine (C1.out _).mono ?_
    rintro e w' ⟨rfl, rfl⟩
    go_wp2_with fail
    refine (C2.out _).mono ?_
    rintro e w' ⟨rfl, rfl⟩
    go_wp2_with fail
    refine (C3.out _).mono ?_
    rintro e w' ⟨rfl, rfl⟩
    go_wp2_with fail
    refine C4.out.mono ?_
    rintro e w1 ⟨rfl, nd, hw1⟩
    have hb1 : Below w'.heap.size w' w1 := by rw [hw1]; exact below_drewN (Below.refl _ _) _
    clear hw1
    go_wp2_with fail
    refine (parse_pub_bad 21 2097151 (Or.inr ⟨rfl, rfl⟩) ⟨cb.toArray⟩ (by show cb.length ≤ _; omega) _ (hg.below hb1) hn).mono ?_
    rintro e w2 ⟨⟨x, pv, rfl⟩, hb2⟩
    go_wp2_with fail
    go_quiet (fail)
    go_wp2_with fail
    go_ret3
    exact ⟨⟨_, _, rfl⟩, below_drewN (hb1.trans (hb2.mono hb1.size)) _⟩
  | false =>
    go_enter Tryd.func27, Tryd.ntmps27
    go_wp2_with fail
    refine (C1.out _).mono ?_
    rintro e w' ⟨rfl, rfl⟩
    go_wp2_with fail
    refine (C2.out _).mono ?_
    rintro e w' ⟨rfl, rfl⟩
    go_wp2_with fail
    refine (C3.out _).mono ?_
    rintro e w' ⟨rfl, rfl⟩
    go_wp2_with fail
    refine C4.out.mono ?_
    rintro e w1 ⟨rfl, nd, hw1⟩
    have hb1 : Below w'.heap.size w' w1 := by rw [hw1]; exact below_drewN (Below.refl _ _) _
    clear hw1
    go_wp2_with fail
    refine (parse_pub_bad 21 2097151 (Or.inr ⟨rfl, rfl⟩) ⟨cb.toArray⟩ (by show cb.length ≤ _; omega) _ (hg.below hb1) hn).mono ?_
    rintro e w2 ⟨⟨x, pv, rfl⟩, hb2⟩
    go_wp2_with fail
    go_quiet (fail)
    go_wp2_with fail
    go_ret3
    exact ⟨⟨_, _, rfl⟩, below_drewN (hb1.trans (hb2.mono hb1.size)) _⟩

end Go.Proofs.YtplgiagjgmlbcaaDoor.Nm
