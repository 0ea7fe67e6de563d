/-
  The contracts of obj's reader's field, at each shape but a row's, and of read at each type. Conditions: each law's own.
-/
import Derived.Test.YtpjgkboafmebbaaGreatDoorOh
namespace Go.Proofs.YtpjgkboafmebbaaGreatDoor.Sh
open Go.RowKit Go.Lib Lb

/-- a value of a type, as an interface holds it -/
def VIf {α : Type} (T : TypeId) (V : World → α → Value → Prop) (w : World) (x : α) (v : Value) : Prop := ∃ u, v = .iface T u ∧ V w x u
def VBool (_ : World) (b : Bool) (v : Value) : Prop := v = .bool b
/-- a flag, by a number -/
theorem flag_num (l : List UInt8) : pFlag l = match pNum 32768 l with | none => none | some (x, r) => if x ≤ 1 then some (decide (x = 1), r) else none := by
  unfold pFlag pMap pNum
  obtain ⟨x, n, q, hg⟩ : ∃ x n q, getL l = (x, n, q) := ⟨_, _, _, rfl⟩
  rw [hg]
  by_cases hq : q = 0
  · by_cases h1 : x ≤ 1
    · have h2 : x ≤ 32768 := by omega
      have h3 : (x : Int) ≤ 1 := by omega
      simp [hq, h1, h2, h3]
    · by_cases h2 : x ≤ 32768
      · have h3 : ¬ (x : Int) ≤ 1 := by omega
        simp [hq, h1, h2, h3]
      · simp [hq, h1, h2]
  · simp [hq]
theorem num_some {most : Nat} {l : List UInt8} {x : Int} {r : List UInt8} (h : pNum most l = some (x, r)) : 0 ≤ x ∧ x ≤ most := by
  unfold pNum at h
  split at h
  · rename_i hc
    simp only [Option.some.injEq, Prod.mk.injEq] at h
    obtain ⟨rfl, rfl⟩ := h
    omega
  · cases h
set_option maxHeartbeats 1000000 in
set_option maxRecDepth 100000 in
theorem field_number (g : Nat) (l : List UInt8) (w : World) (h : Rdr w g l) :
    Calls Tryz.prog 112 #[.pointer (some ⟨g, 0, none⟩), .int .i64 0] w (AnsP w g (VIf 3 VInt) (pNum 32768 l)) := by
  have C := Lib.hid (number_rd g l w h)
  clear h
  go_enter Tryz.func112, Tryz.ntmps112
  go_wp2_with fail
  refine C.out.mono ?_
  clear C
  rintro e w1 ⟨hg, ⟨ho, rfl⟩ | ⟨x, r, v, ho, rfl, hv, hr⟩⟩
  · exact ⟨rfl, hg, .inl ⟨ho, rfl⟩⟩
  have HV := Lib.hid hv
  have HG := Lib.hid hg
  have HR := Lib.hid hr
  have HO := Lib.hid ho
  clear hv hg hr ho
  go_wp2_with fail
  go_ret
  exact ⟨HG.out, .inr ⟨_, _, _, HO.out, rfl, ⟨_, rfl, HV.out⟩, HR.out⟩⟩
set_option maxHeartbeats 1000000 in
set_option maxRecDepth 100000 in
theorem field_kind (g : Nat) (l : List UInt8) (w : World) (h : Rdr w g l) :
    Calls Tryz.prog 112 #[.pointer (some ⟨g, 0, none⟩), .int .i64 1] w (AnsP w g (VIf 22 VInt) (pNum 32768 l)) := by
  have C := Lib.hid (number_rd g l w h)
  clear h
  go_enter Tryz.func112, Tryz.ntmps112
  go_wp2_with fail
  refine C.out.mono ?_
  clear C
  rintro e w1 ⟨hg, ⟨ho, rfl⟩ | ⟨x, r, v, ho, rfl, hv, hr⟩⟩
  · exact ⟨rfl, hg, .inl ⟨ho, rfl⟩⟩
  have HV := Lib.hid hv
  have HG := Lib.hid hg
  have HR := Lib.hid hr
  have HO := Lib.hid ho
  clear hv hg hr ho
  go_wp2_with fail
  go_ret
  exact ⟨HG.out, .inr ⟨_, _, _, HO.out, rfl, ⟨_, rfl, HV.out⟩, HR.out⟩⟩
set_option maxHeartbeats 1000000 in
set_option maxRecDepth 100000 in
theorem field_value (g : Nat) (l : List UInt8) (w : World) (h : Rdr w g l) :
    Calls Tryz.prog 112 #[.pointer (some ⟨g, 0, none⟩), .int .i64 4] w (AnsP w g (VIf 36 (VOwn w.heap.size)) (pData 1000 l)) := by
  have C := Lib.hid (counted_rd g l w h)
  clear h
  go_enter Tryz.func112, Tryz.ntmps112
  go_wp2_with fail
  refine C.out.mono ?_
  clear C
  rintro e w1 ⟨hg, ⟨ho, rfl⟩ | ⟨x, r, v, ho, rfl, hv, hr⟩⟩
  · exact ⟨rfl, hg, .inl ⟨ho, rfl⟩⟩
  have HV := Lib.hid hv
  have HG := Lib.hid hg
  have HR := Lib.hid hr
  have HO := Lib.hid ho
  clear hv hg hr ho
  go_wp2_with fail
  go_ret
  exact ⟨HG.out, .inr ⟨_, _, _, HO.out, rfl, ⟨_, rfl, HV.out⟩, HR.out⟩⟩
set_option maxHeartbeats 1000000 in
set_option maxRecDepth 100000 in
theorem field_digest (g : Nat) (l : List UInt8) (w : World) (h : Rdr w g l) :
    Calls Tryz.prog 112 #[.pointer (some ⟨g, 0, none⟩), .int .i64 5] w (AnsP w g (VIf 47 VStr) (pKey l)) := by
  have C := Lib.hid (key_rd g l w h)
  clear h
  go_enter Tryz.func112, Tryz.ntmps112
  go_wp2_with fail
  refine C.out.mono ?_
  clear C
  rintro e w1 ⟨hg, ⟨ho, rfl⟩ | ⟨x, r, v, ho, rfl, hv, hr⟩⟩
  · exact ⟨rfl, hg, .inl ⟨ho, rfl⟩⟩
  have HV := Lib.hid hv
  have HG := Lib.hid hg
  have HR := Lib.hid hr
  have HO := Lib.hid ho
  clear hv hg hr ho
  go_wp2_with fail
  go_ret
  exact ⟨HG.out, .inr ⟨_, _, _, HO.out, rfl, ⟨_, rfl, HV.out⟩, HR.out⟩⟩
set_option maxHeartbeats 1000000 in
set_option maxRecDepth 100000 in
theorem field_text (g : Nat) (l : List UInt8) (w : World) (h : Rdr w g l) :
    Calls Tryz.prog 112 #[.pointer (some ⟨g, 0, none⟩), .int .i64 3] w (AnsP w g (VIf 9 VStr) (pText 1000 l)) := by
  have C := Lib.hid (counted_rd g l w h)
  clear h
  go_enter Tryz.func112, Tryz.ntmps112
  go_wp2_with fail
  refine C.out.mono ?_
  clear C
  rintro e w1 ⟨hg, ⟨ho, rfl⟩ | ⟨x, r, v, ho, rfl, hv, hr⟩⟩
  · exact ⟨rfl, hg, .inl ⟨by rw [pText, pMap, ho]; rfl, rfl⟩⟩
  obtain ⟨a5, c5, rfl, _, _, y3, y4⟩ := own_byt (show w1.ownsRow w.heap.size 5 1 v x.length (bs x) from hv)
  have kc := conv_byt (P := Tryz.prog) (t := 36) (e := 5) (d := 9) (w := w1) Tryz.underlying36 Tryz.underlying5 Tryz.underlying9 a5 x c5 y3 y4
  clear y3
  have HV := Lib.hid hv
  have HG := Lib.hid hg
  have HR := Lib.hid hr
  have HO := Lib.hid ho
  clear hv hg hr ho
  go_wp2_with fail
  go_ret
  exact ⟨HG.out, .inr ⟨_, _, _, by rw [pText, pMap, HO.out]; rfl, rfl, ⟨_, rfl, rfl⟩, HR.out⟩⟩
set_option maxHeartbeats 1000000 in
set_option maxRecDepth 100000 in
theorem field_truth (g : Nat) (l : List UInt8) (w : World) (h : Rdr w g l) :
    Calls Tryz.prog 112 #[.pointer (some ⟨g, 0, none⟩), .int .i64 2] w (AnsP w g (VIf 4 VBool) (pFlag l)) := by
  have C := Lib.hid (number_rd g l w h)
  have FN := Lib.hid (flag_num l)
  clear h
  go_enter Tryz.func112, Tryz.ntmps112
  go_wp2_with fail
  refine C.out.mono ?_
  clear C
  rintro e w1 ⟨hg, ⟨ho, rfl⟩ | ⟨x, r, v, ho, rfl, hv, hr⟩⟩
  · exact ⟨rfl, hg, .inl ⟨by rw [FN.out, ho], rfl⟩⟩
  obtain ⟨x0, x1⟩ := num_some ho
  have hv' : v = .int .i64 x := hv
  subst hv'
  have HG := Lib.hid hg
  have HR := Lib.hid hr
  have HO := Lib.hid ho
  clear hv hg hr ho
  by_cases h1 : x ≤ 1
  · rcases (show x = 0 ∨ x = 1 by omega) with rfl | rfl
    all_goals
      go_wp2_with fail
      refine (need_yes _).mono ?_
      rintro e w2 ⟨rfl, rfl⟩
      go_wp2_with fail
      go_ret
      exact ⟨HG.out, .inr ⟨_, _, _, by rw [FN.out, HO.out]; rfl, rfl, ⟨_, rfl, rfl⟩, HR.out⟩⟩
  · have t1 : decide (x ≤ 1) = false := by simpa using h1
    have H1 := Lib.hid h1
    clear h1
    go_wp2_with fail
    refine (need_no _).mono ?_
    rintro e w2 ⟨rfl, rfl⟩
    exact ⟨rfl, HG.out, .inl ⟨by rw [FN.out, HO.out]; exact if_neg (by have := H1.out; omega), rfl⟩⟩
set_option maxHeartbeats 1000000 in
set_option maxRecDepth 100000 in
theorem read_int (g : Nat) (l : List UInt8) (w : World) (h : Rdr w g l) :
    Calls Tryz.prog 78 #[.pointer (some ⟨g, 0, none⟩), .int .i64 0] w (AnsP w g VInt (pNum 32768 l)) := by
  have C := Lib.hid (field_number g l w h)
  have hb := be3
  clear h
  go_enter Tryz.func78, Tryz.ntmps78
  go_wp2_with fail
  refine C.out.mono ?_
  clear C
  rintro e w1 ⟨hg, ⟨ho, rfl⟩ | ⟨x, r, v, ho, rfl, ⟨u, rfl, hv⟩, hr⟩⟩
  · exact ⟨rfl, hg, .inl ⟨ho, rfl⟩⟩
  have HV := Lib.hid hv
  have HG := Lib.hid hg
  have HR := Lib.hid hr
  have HO := Lib.hid ho
  clear hv hg hr ho
  go_wp2_with fail
  go_ret
  exact ⟨HG.out, .inr ⟨_, _, _, HO.out, rfl, HV.out, HR.out⟩⟩
set_option maxHeartbeats 1000000 in
set_option maxRecDepth 100000 in
theorem read_kind (g : Nat) (l : List UInt8) (w : World) (h : Rdr w g l) :
    Calls Tryz.prog 77 #[.pointer (some ⟨g, 0, none⟩), .int .i64 1] w (AnsP w g VInt (pNum 32768 l)) := by
  have C := Lib.hid (field_kind g l w h)
  have hb := be22
  clear h
  go_enter Tryz.func77, Tryz.ntmps77
  go_wp2_with fail
  refine C.out.mono ?_
  clear C
  rintro e w1 ⟨hg, ⟨ho, rfl⟩ | ⟨x, r, v, ho, rfl, ⟨u, rfl, hv⟩, hr⟩⟩
  · exact ⟨rfl, hg, .inl ⟨ho, rfl⟩⟩
  have HV := Lib.hid hv
  have HG := Lib.hid hg
  have HR := Lib.hid hr
  have HO := Lib.hid ho
  clear hv hg hr ho
  go_wp2_with fail
  go_ret
  exact ⟨HG.out, .inr ⟨_, _, _, HO.out, rfl, HV.out, HR.out⟩⟩
set_option maxHeartbeats 1000000 in
set_option maxRecDepth 100000 in
theorem read_bool (g : Nat) (l : List UInt8) (w : World) (h : Rdr w g l) :
    Calls Tryz.prog 93 #[.pointer (some ⟨g, 0, none⟩), .int .i64 2] w (AnsP w g VBool (pFlag l)) := by
  have C := Lib.hid (field_truth g l w h)
  have hb := be4
  clear h
  go_enter Tryz.func93, Tryz.ntmps93
  go_wp2_with fail
  refine C.out.mono ?_
  clear C
  rintro e w1 ⟨hg, ⟨ho, rfl⟩ | ⟨x, r, v, ho, rfl, ⟨u, rfl, hv⟩, hr⟩⟩
  · exact ⟨rfl, hg, .inl ⟨ho, rfl⟩⟩
  have HV := Lib.hid hv
  have HG := Lib.hid hg
  have HR := Lib.hid hr
  have HO := Lib.hid ho
  clear hv hg hr ho
  go_wp2_with fail
  go_ret
  exact ⟨HG.out, .inr ⟨_, _, _, HO.out, rfl, HV.out, HR.out⟩⟩
set_option maxHeartbeats 1000000 in
set_option maxRecDepth 100000 in
theorem read_string (g : Nat) (l : List UInt8) (w : World) (h : Rdr w g l) :
    Calls Tryz.prog 79 #[.pointer (some ⟨g, 0, none⟩), .int .i64 3] w (AnsP w g VStr (pText 1000 l)) := by
  have C := Lib.hid (field_text g l w h)
  have hb := be9
  clear h
  go_enter Tryz.func79, Tryz.ntmps79
  go_wp2_with fail
  refine C.out.mono ?_
  clear C
  rintro e w1 ⟨hg, ⟨ho, rfl⟩ | ⟨x, r, v, ho, rfl, ⟨u, rfl, hv⟩, hr⟩⟩
  · exact ⟨rfl, hg, .inl ⟨ho, rfl⟩⟩
  have HV := Lib.hid hv
  have HG := Lib.hid hg
  have HR := Lib.hid hr
  have HO := Lib.hid ho
  clear hv hg hr ho
  go_wp2_with fail
  go_ret
  exact ⟨HG.out, .inr ⟨_, _, _, HO.out, rfl, HV.out, HR.out⟩⟩
set_option maxHeartbeats 1000000 in
set_option maxRecDepth 100000 in
theorem read_bytes (g : Nat) (l : List UInt8) (w : World) (h : Rdr w g l) :
    Calls Tryz.prog 130 #[.pointer (some ⟨g, 0, none⟩), .int .i64 4] w (AnsP w g (VOwn w.heap.size) (pData 1000 l)) := by
  have C := Lib.hid (field_value g l w h)
  have hb := be36
  clear h
  go_enter Tryz.func130, Tryz.ntmps130
  go_wp2_with fail
  refine C.out.mono ?_
  clear C
  rintro e w1 ⟨hg, ⟨ho, rfl⟩ | ⟨x, r, v, ho, rfl, ⟨u, rfl, hv⟩, hr⟩⟩
  · exact ⟨rfl, hg, .inl ⟨ho, rfl⟩⟩
  have HV := Lib.hid hv
  have HG := Lib.hid hg
  have HR := Lib.hid hr
  have HO := Lib.hid ho
  clear hv hg hr ho
  go_wp2_with fail
  go_ret
  exact ⟨HG.out, .inr ⟨_, _, _, HO.out, rfl, HV.out, HR.out⟩⟩
set_option maxHeartbeats 1000000 in
set_option maxRecDepth 100000 in
theorem read_key (g : Nat) (l : List UInt8) (w : World) (h : Rdr w g l) :
    Calls Tryz.prog 122 #[.pointer (some ⟨g, 0, none⟩), .int .i64 5] w (AnsP w g VStr (pKey l)) := by
  have C := Lib.hid (field_digest g l w h)
  have hb := be47
  clear h
  go_enter Tryz.func122, Tryz.ntmps122
  go_wp2_with fail
  refine C.out.mono ?_
  clear C
  rintro e w1 ⟨hg, ⟨ho, rfl⟩ | ⟨x, r, v, ho, rfl, ⟨u, rfl, hv⟩, hr⟩⟩
  · exact ⟨rfl, hg, .inl ⟨ho, rfl⟩⟩
  have HV := Lib.hid hv
  have HG := Lib.hid hg
  have HR := Lib.hid hr
  have HO := Lib.hid ho
  clear hv hg hr ho
  go_wp2_with fail
  go_ret
  exact ⟨HG.out, .inr ⟨_, _, _, HO.out, rfl, HV.out, HR.out⟩⟩
theorem gb_then {a b c : World} {row row' : Option Nat} (h : a.grownBy b row) (k : b.grownBy c row') (hr : ∀ j, row' = some j → a.heap.size ≤ j ∨ row = some j) : a.grownBy c row :=
  ⟨k.os.trans h.os, k.tape.trans h.tape, k.output.trans h.output, Nat.le_trans h.size k.size, fun i hi hne => (k.block i (Nat.lt_of_lt_of_le hi h.size) (fun e => by
    rcases hr i e.symm with h1 | h1
    · omega
    · exact hne h1.symm)).trans (h.block i hi hne)⟩
/-- where a piece of a content is, by a flag -/
def pOrg : List UInt8 → Option ((Bool × ByteArray × Int × Int) × List UInt8) :=
  pSeq pFlag fun b => if b = true then pMap (fun k => (k, (0 : Int), (0 : Int))) pKey else pMap (fun z => (noKey, z.1, z.2)) (pSeq (pNum 32768) fun _ => pNum 32768)
def VOrg (_ : World) (x : Bool × ByteArray × Int × Int) (v : Value) : Prop := v = if x.1 = true then .iface 47 (.string x.2.1) else .iface 182 (.agg #[.int .i64 x.2.2.1, .int .i64 x.2.2.2])
theorem org_none {l : List UInt8} (h : pFlag l = none) : pOrg l = none := by rw [pOrg, pSeq, h]
theorem org_key {l r : List UInt8} (h : pFlag l = some (true, r)) : pOrg l = match pKey r with | none => none | some (k, s) => some ((true, k, 0, 0), s) := by
  rw [pOrg, pSeq, h]
  simp only [if_true, pMap]
  cases pKey r with
  | none => rfl
  | some u => rfl
theorem org_place {l r : List UInt8} (h : pFlag l = some (false, r)) : pOrg l = match pNum 32768 r with | none => none | some (a, s) => match pNum 32768 s with | none => none | some (b, t) => some ((false, noKey, a, b), t) := by
  rw [pOrg, pSeq, h]
  simp only [Bool.false_eq_true, if_false, pMap, pSeq]
  cases pNum 32768 r with
  | none => rfl
  | some u =>
    obtain ⟨a, s⟩ := u
    simp only
    cases pNum 32768 s with
    | none => rfl
    | some z => rfl
set_option maxHeartbeats 1000000 in
set_option maxRecDepth 100000 in
theorem field_origin (g : Nat) (l : List UInt8) (w : World) (h : Rdr w g l) :
    Calls Tryz.prog 112 #[.pointer (some ⟨g, 0, none⟩), .int .i64 6] w (AnsP w g VOrg (pOrg l)) := by
  have C := Lib.hid (read_bool g l w h)
  clear h
  go_enter Tryz.func112, Tryz.ntmps112
  go_wp2_with fail
  refine C.out.mono ?_
  clear C
  rintro e w1 ⟨hg, ⟨ho, rfl⟩ | ⟨x, r, v, ho, rfl, hv, hr⟩⟩
  · exact ⟨rfl, hg, .inl ⟨org_none ho, rfl⟩⟩
  have hv' : v = .bool x := hv
  subst hv'
  have HG := Lib.hid hg
  cases x with
  | true =>
    have HO := Lib.hid (org_key ho)
    have CK := Lib.hid (key_rd g r w1 hr)
    clear hv hg hr ho
    go_wp2_with fail
    refine CK.out.mono ?_
    clear CK
    rintro e w2 ⟨hg, ⟨ho, rfl⟩ | ⟨k, s, v, ho, rfl, hv, hr⟩⟩
    · exact ⟨rfl, grownBy_trans HG.out hg, .inl ⟨by rw [HO.out, ho], rfl⟩⟩
    have hv' : v = .string k := hv
    subst hv'
    have HG2 := Lib.hid (grownBy_trans HG.out hg)
    have HR := Lib.hid hr
    have HO2 : Hid (pOrg l = some ((true, k, 0, 0), s)) := by show _ = _; rw [HO.out, ho]
    clear hv hg hr ho
    go_wp2_with fail
    go_ret
    exact ⟨HG2.out, .inr ⟨_, _, _, HO2.out, rfl, rfl, HR.out⟩⟩
  | false =>
    have HO := Lib.hid (org_place ho)
    have CK := Lib.hid (number_rd g r w1 hr)
    clear hv hg hr ho
    go_wp2_with fail
    refine CK.out.mono ?_
    clear CK
    rintro e w2 ⟨hg, ⟨ho, rfl⟩ | ⟨a, s, v, ho, rfl, hv, hr⟩⟩
    · exact ⟨rfl, grownBy_trans HG.out hg, .inl ⟨by rw [HO.out, ho], rfl⟩⟩
    have hv' : v = .int .i64 a := hv
    subst hv'
    have HG2 := Lib.hid (grownBy_trans HG.out hg)
    have CN := Lib.hid (number_rd g s w2 hr)
    have HO2 := Lib.hid ho
    clear hv hg hr ho
    go_wp2_with fail
    refine CN.out.mono ?_
    clear CN
    rintro e w3 ⟨hg, ⟨ho, rfl⟩ | ⟨b, t, v, ho, rfl, hv, hr⟩⟩
    · exact ⟨rfl, grownBy_trans HG2.out hg, .inl ⟨by rw [HO.out, HO2.out]; simp only; rw [ho], rfl⟩⟩
    have hv' : v = .int .i64 b := hv
    subst hv'
    have HG3 := Lib.hid (grownBy_trans HG2.out hg)
    have HR := Lib.hid hr
    have HO3 : Hid (pOrg l = some ((false, noKey, a, b), t)) := by show _ = _; rw [HO.out, HO2.out]; simp only; rw [ho]
    clear hv hg hr ho
    go_wp2_with fail
    go_ret
    exact ⟨HG3.out, .inr ⟨_, _, _, HO3.out, rfl, rfl, HR.out⟩⟩
/-- an attribute -/
def pAttP : List UInt8 → Option ((ByteArray × List UInt8) × List UInt8) := pSeq (pText 1000) fun _ => pData 1000
def VAtt (B : Nat) (w : World) (x : ByteArray × List UInt8) (v : Value) : Prop := ∃ u, v = .agg #[.string x.1, u] ∧ Own w B u x.2
set_option maxHeartbeats 1000000 in
set_option maxRecDepth 100000 in
theorem field_attr (g : Nat) (l : List UInt8) (w : World) (h : Rdr w g l) :
    Calls Tryz.prog 112 #[.pointer (some ⟨g, 0, none⟩), .int .i64 7] w (AnsP w g (VIf 95 (VAtt w.heap.size)) (pAttP l)) := by
  have C := Lib.hid (read_string g l w h)
  clear h
  go_enter Tryz.func112, Tryz.ntmps112
  go_wp2_with fail
  refine C.out.mono ?_
  clear C
  rintro e w1 ⟨hg, ⟨ho, rfl⟩ | ⟨x, r, v, ho, rfl, hv, hr⟩⟩
  · exact ⟨rfl, hg, .inl ⟨by rw [pAttP, pSeq, ho], rfl⟩⟩
  have hv' : v = .string x := hv
  subst hv'
  have HG := Lib.hid hg
  have CK := Lib.hid (read_bytes g r w1 hr)
  have HO := Lib.hid ho
  clear hv hg hr ho
  go_wp2_with fail
  refine CK.out.mono ?_
  clear CK
  rintro e w2 ⟨hg, ⟨ho, rfl⟩ | ⟨d, s, v, ho, rfl, hv, hr⟩⟩
  · exact ⟨rfl, grownBy_trans HG.out hg, .inl ⟨by rw [pAttP, pSeq, HO.out]; simp only; rw [ho], rfl⟩⟩
  have HG2 := Lib.hid (grownBy_trans HG.out hg)
  have HR := Lib.hid hr
  obtain ⟨a5, c5, rfl, _, _, _, _⟩ := own_byt (show w2.ownsRow w1.heap.size 5 1 v d.length (bs d) from hv)
  have HV : Hid (Own w2 w.heap.size (.slice a5 d.length c5) d) := Own.low hv HG.out.size
  have HO2 : Hid (pAttP l = some ((x, d), s)) := by show _ = _; rw [pAttP, pSeq, HO.out]; simp only; rw [ho]
  clear hv hg hr ho
  go_wp2_with fail
  go_ret
  exact ⟨HG2.out, .inr ⟨_, _, _, HO2.out, rfl, ⟨_, rfl, _, rfl, HV.out⟩, HR.out⟩⟩
/-- a piece of a content, as the program reads it -/
def pRefP : List UInt8 → Option (RefP × List UInt8) := pMap (fun z : (Bool × ByteArray × Int × Int) × Int => (⟨z.1.2.1, z.1.2.2.1, z.1.2.2.2, z.2⟩ : RefP)) (pSeq pOrg fun _ => pNum 32768)
def VRef (_ : World) (x : RefP) (v : Value) : Prop := v = .agg #[.string x.key, .int .i64 x.lower, .int .i64 x.off, .int .i64 x.n]
theorem refP_none {l : List UInt8} (h : pOrg l = none) : pRefP l = none := by rw [pRefP, pMap, pSeq, h]; rfl
theorem refP_some {l r : List UInt8} {x : Bool × ByteArray × Int × Int} (h : pOrg l = some (x, r)) : pRefP l = match pNum 32768 r with | none => none | some (n, s) => some (⟨x.2.1, x.2.2.1, x.2.2.2, n⟩, s) := by
  rw [pRefP, pMap, pSeq, h]
  simp only
  cases pNum 32768 r with
  | none => rfl
  | some u => rfl
theorem org_false {l r : List UInt8} {x : Bool × ByteArray × Int × Int} (h : pOrg l = some (x, r)) : (x.1 = true ∧ x.2.2.1 = 0 ∧ x.2.2.2 = 0) ∨ (x.1 = false ∧ x.2.1 = noKey) := by
  cases hf : pFlag l with
  | none => rw [org_none hf] at h; cases h
  | some u =>
    obtain ⟨b, s⟩ := u
    cases b with
    | true =>
      rw [org_key hf] at h
      cases hk : pKey s with
      | none => rw [hk] at h; cases h
      | some z =>
        rw [hk] at h
        simp only [Option.some.injEq, Prod.mk.injEq] at h
        obtain ⟨rfl, _⟩ := h
        exact .inl ⟨rfl, rfl, rfl⟩
    | false =>
      rw [org_place hf] at h
      cases h1 : pNum 32768 s with
      | none => rw [h1] at h; cases h
      | some z =>
        obtain ⟨a, t⟩ := z
        rw [h1] at h
        simp only at h
        cases h2 : pNum 32768 t with
        | none => rw [h2] at h; cases h
        | some y =>
          rw [h2] at h
          simp only [Option.some.injEq, Prod.mk.injEq] at h
          obtain ⟨rfl, _⟩ := h
          exact .inr ⟨rfl, rfl⟩
theorem set_four {w : World} {g : Nat} {a b c d : Value} {t : TypeId} (h : Blk w g [a, b, c, d] t) (a' b' c' d' : Value) : Blk ((((w.setCell ⟨g, 0, none⟩ a').setCell ⟨g, 1, none⟩ b').setCell ⟨g, 2, none⟩ c').setCell ⟨g, 3, none⟩ d') g [a', b', c', d'] t := by
  have h1 := h.set 0 a'
  have h2 := h1.set 1 b'
  have h3 := h2.set 2 c'
  have h4 := h3.set 3 d'
  simpa using h4
theorem gb_set {a w : World} {row : Option Nat} (h : a.grownBy w row) {b i : Nat} (hb : a.heap.size ≤ b) (v : Value) : a.grownBy (w.setCell ⟨b, i, none⟩ v) row := gb_then h (grownBy_setCell w b i v) (fun j hj => .inl (by injection hj with hj; omega))
theorem gb_drew {a w : World} {row : Option Nat} (h : a.grownBy w row) : a.grownBy w.drew row := ⟨h.os, h.tape, h.output, h.size, h.block⟩
theorem size49 : (Tryz.prog.info? 49).map (·.size) = some 4 := by kernel_rfl
theorem zero49 (w : World) : (zeroValue 49).run Tryz.prog w = .ok (.agg #[.string ⟨#[]⟩, .int .i64 0, .int .i64 0, .int .i64 0]) w := by kernel_rfl
theorem be182 (v : Value) (w : World) : (Instr.typeAssert (.iface 182 v) 20 182 false).run Tryz.prog w = .ok v w := assert_is Tryz.underlying182 rfl v 20 w
set_option maxHeartbeats 2000000 in
set_option maxRecDepth 100000 in
theorem piece_rd (g : Nat) (l : List UInt8) (w : World) (h : Rdr w g l) :
    Calls Tryz.prog 131 #[.pointer (some ⟨g, 0, none⟩)] w (AnsP w g VRef (pRefP l)) := by
  obtain ⟨wa, hwa⟩ : ∃ wa, wa = w.alloc (.cells #[.string ⟨#[]⟩, .int .i64 0, .int .i64 0, .int .i64 0] 49) := ⟨_, rfl⟩
  obtain ⟨wb, hwb⟩ : ∃ wb, wb = wa.alloc (.cells #[.string ⟨#[]⟩, .int .i64 0, .int .i64 0, .int .i64 0] 49) := ⟨_, rfl⟩
  have sa : wa.heap.size = w.heap.size + 1 := by rw [hwa]; simp
  have sb : wb.heap.size = w.heap.size + 2 := by rw [hwb]; simp [sa]
  have ba : Below w.heap.size w wa := by rw [hwa]; exact (Below.refl _ w).alloc (Nat.le_refl _) _
  have bb : Below w.heap.size w wb := by rw [hwb]; exact ba.alloc ba.size _
  have KA : Blk wa w.heap.size [.string ⟨#[]⟩, .int .i64 0, .int .i64 0, .int .i64 0] 49 := by rw [hwa]; exact Blk.new w [.string ⟨#[]⟩, .int .i64 0, .int .i64 0, .int .i64 0] 49 _ rfl
  have KA2 : Hid (Blk wb w.heap.size [.string ⟨#[]⟩, .int .i64 0, .int .i64 0, .int .i64 0] 49) := by show Blk _ _ _ _; rw [hwb]; exact KA.alloc _
  have KB : Hid (Blk wb (w.heap.size + 1) [.string ⟨#[]⟩, .int .i64 0, .int .i64 0, .int .i64 0] 49) := by show Blk _ _ _ _; rw [hwb]; exact Blk.new wa [.string ⟨#[]⟩, .int .i64 0, .int .i64 0, .int .i64 0] 49 _ sa.symm
  have GLT : Hid (g < w.heap.size) := by
    obtain ⟨ao, m, c, hr⟩ := h
    exact hr.blk.lt
  have C := Lib.hid (field_origin g l wb (h.grown bb))
  have BB := Lib.hid bb
  have HA := Lib.hid hwa
  have HB := Lib.hid hwb
  have HSB := Lib.hid sb
  clear h sa sb ba bb KA hwa hwb
  go_enter Tryz.func131, Tryz.ntmps131
  go_wp2_with fail
  rw [← HA.out, ← HB.out]
  refine C.out.mono ?_
  clear C
  rintro e w1 ⟨hg, ⟨ho, rfl⟩ | ⟨x, r, v, ho, rfl, hv, hr⟩⟩
  · exact ⟨rfl, gb_then (grown_below BB.out (some g)) hg (fun j hj => .inr hj), .inl ⟨refP_none ho, rfl⟩⟩
  have HG := Lib.hid (gb_then (grown_below BB.out (some g)) hg (fun j hj => .inr hj))
  have HO := Lib.hid (refP_some ho)
  have glt := GLT.out
  have K1 := Lib.hid (blk_grown KA2.out hg (by omega))
  have P1 := Lib.hid (blk_grown KB.out hg (by omega))
  have HR := Lib.hid hr
  have S1 : Hid (w.heap.size + 2 ≤ w1.heap.size) := by show _ ≤ _; have := hg.size; have := HSB.out; omega
  have OF := Lib.hid (org_false ho)
  obtain ⟨b, k, a, o⟩ := x
  have hv' : v = if b = true then .iface 47 (.string k) else .iface 182 (.agg #[.int .i64 a, .int .i64 o]) := hv
  clear hg ho hr KA2 KB HA HB HSB BB hv
  cases b with
  | true =>
    rw [if_pos rfl] at hv'
    subst hv'
    have a1 := is47
    have p0 := P1.out.cell 0
    have f0 := P1.out.frozen 0
    simp only [List.getElem?_cons_zero] at p0
    have s1 := S1.out
    have P2 := Lib.hid (P1.out.set 0 (.string k))
    have K2 := Lib.hid (K1.out.other (a := ⟨w.heap.size + 1, 0, none⟩) (.string k) (by show w.heap.size ≠ w.heap.size + 1; omega))
    have HG2 := Lib.hid (gb_set HG.out (b := w.heap.size + 1) (i := 0) (Nat.le_succ _) (.string k))
    have C2 := Lib.hid (read_int g r (w1.setCell ⟨w.heap.size + 1, 0, none⟩ (.string k)) (HR.out.row (grownBy_setCell w1 (w.heap.size + 1) 0 _) (fun j hj => by injection hj with hj; have := GLT.out; omega)))
    have SZ : Hid ((w1.setCell ⟨w.heap.size + 1, 0, none⟩ (.string k)).heap.size = w1.heap.size) := by show _ = _; simp
    go_wp2_with fail
    generalize w1.setCell ⟨w.heap.size + 1, 0, none⟩ (.string k) = w2 at *
    simp only [List.set_cons_zero] at P2
    refine C2.out.mono ?_
    clear C2
    rintro e w3 ⟨hg, ⟨ho, rfl⟩ | ⟨n, s, v, ho, rfl, hv, hr⟩⟩
    · exact ⟨rfl, grownBy_trans HG2.out hg, .inl ⟨by rw [HO.out, ho], rfl⟩⟩
    have hv' : v = .int .i64 n := hv
    subst hv'
    have HG3 := Lib.hid (grownBy_trans HG2.out hg)
    have K3 := Lib.hid (blk_grown K2.out hg (by have := GLT.out; omega))
    have P3 := Lib.hid (blk_grown P2.out hg (by have := GLT.out; omega))
    have HR3 := Lib.hid hr
    obtain ⟨o1, o2⟩ : a = 0 ∧ o = 0 := by
      rcases OF.out with h | h
      · exact h.2
      · cases h.1
    subst o1
    subst o2
    have HO3 : Hid (pRefP l = some (⟨k, 0, 0, n⟩, s)) := by show _ = _; rw [HO.out, ho]
    clear hg ho hr hv p0 f0 HR HG HG2 K1 K2 P1 P2
    have p0 := P3.out.cell 0
    have p1 := P3.out.cell 1
    have p2 := P3.out.cell 2
    have p3 := P3.out.cell 3
    have f3 := P3.out.frozen 3
    have k0 := K3.out.cell 0
    have k1 := K3.out.cell 1
    have k2 := K3.out.cell 2
    have k3 := K3.out.cell 3
    have g0 := K3.out.frozen 0
    have g1 := K3.out.frozen 1
    have g2 := K3.out.frozen 2
    have g3 := K3.out.frozen 3
    simp only [List.getElem?_cons_zero, List.getElem?_cons_succ] at p0 p1 p2 p3 k0 k1 k2 k3
    go_wp2_with fail
    have KZ := set_four (K3.out.other (a := ⟨w.heap.size + 1, 3, none⟩) (.int .i64 n) (by show w.heap.size ≠ w.heap.size + 1; omega)) (.string k) (.int .i64 0) (.int .i64 0) (.int .i64 n)
    have GZ := gb_set (gb_set (gb_set (gb_set (gb_set HG3.out (b := w.heap.size + 1) (i := 3) (Nat.le_succ _) (.int .i64 n)) (b := w.heap.size) (i := 0) (Nat.le_refl _) (.string k)) (b := w.heap.size) (i := 1) (Nat.le_refl _) (.int .i64 0)) (b := w.heap.size) (i := 2) (Nat.le_refl _) (.int .i64 0)) (b := w.heap.size) (i := 3) (Nat.le_refl _) (.int .i64 n)
    have gl := GLT.out
    have RZ := ((((HR3.out.row (grownBy_setCell w3 (w.heap.size + 1) 3 (.int .i64 n)) (fun j hj => by injection hj with hj; omega)).row (grownBy_setCell _ w.heap.size 0 (.string k)) (fun j hj => by injection hj with hj; omega)).row (grownBy_setCell _ w.heap.size 1 (.int .i64 0)) (fun j hj => by injection hj with hj; omega)).row (grownBy_setCell _ w.heap.size 2 (.int .i64 0)) (fun j hj => by injection hj with hj; omega)).row (grownBy_setCell _ w.heap.size 3 (.int .i64 n)) (fun j hj => by injection hj with hj; omega)
    exact bodyPost_ret (results_cell_row rfl _ _ w.heap.size 49 _ (0, 0) _ rfl KZ Tryz.underlying49 rfl size49) rfl ⟨GZ, .inr ⟨_, _, _, HO3.out, rfl, rfl, RZ⟩⟩
  | false =>
    rw [if_neg (by decide)] at hv'
    subst hv'
    have a1 := no47 182 (by decide)
    have a2 := be182
    have p0 := P1.out.cell 1
    have p1 := P1.out.cell 2
    have f0 := P1.out.frozen 1
    have f1 := P1.out.frozen 2
    simp only [List.getElem?_cons_zero, List.getElem?_cons_succ] at p0 p1
    have s1 := S1.out
    obtain ⟨wc, hwc⟩ : ∃ wc, wc = w1.alloc (.cells #[.int .i64 a, .int .i64 o] 182) := ⟨_, rfl⟩
    have bc : Below w1.heap.size w1 wc := by rw [hwc]; exact (Below.refl _ w1).alloc (Nat.le_refl _) _
    have PC := Lib.hid (P1.out.low bc)
    have KC := Lib.hid (K1.out.low bc)
    have QC : Hid (Blk wc w1.heap.size [.int .i64 a, .int .i64 o] 182) := by show Blk _ _ _ _; rw [hwc]; exact Blk.new w1 [.int .i64 a, .int .i64 o] 182 _ rfl
    have RC := Lib.hid (HR.out.grown bc)
    have GC := Lib.hid (grownBy_below HG.out bc)
    have HWC := Lib.hid hwc
    clear bc hwc p0 p1 f0 f1
    go_wp2_with fail
    rw [← HWC.out]
    clear HWC
    have p0 := PC.out.cell 1
    have p1 := PC.out.cell 2
    have f0 := PC.out.frozen 1
    have f1 := PC.out.frozen 2
    have q0 := QC.out.cell 0
    have q1 := QC.out.cell 1
    simp only [List.getElem?_cons_zero, List.getElem?_cons_succ] at p0 p1 q0 q1
    go_region
    have gl0 := GLT.out
    have P2 := (PC.out.set 1 (.int .i64 a)).set 2 (.int .i64 o)
    have K2 := (KC.out.other (a := ⟨w.heap.size + 1, 1, none⟩) (.int .i64 a) (by show w.heap.size ≠ w.heap.size + 1; omega)).other (a := ⟨w.heap.size + 1, 2, none⟩) (.int .i64 o) (by show w.heap.size ≠ w.heap.size + 1; omega)
    have G2 := gb_set (gb_set GC.out (b := w.heap.size + 1) (i := 1) (Nat.le_succ _) (.int .i64 a)) (b := w.heap.size + 1) (i := 2) (Nat.le_succ _) (.int .i64 o)
    have R2 := (RC.out.row (grownBy_setCell wc (w.heap.size + 1) 1 (.int .i64 a)) (fun j hj => by injection hj with hj; omega)).row (grownBy_setCell _ (w.heap.size + 1) 2 (.int .i64 o)) (fun j hj => by injection hj with hj; omega)
    simp only [List.set_cons_zero, List.set_cons_succ] at P2
    clear p0 p1 f0 f1 q0 q1 PC KC GC RC QC
    generalize (wc.setCell ⟨w.heap.size + 1, 1, none⟩ (.int .i64 a)).setCell ⟨w.heap.size + 1, 2, none⟩ (.int .i64 o) = w2 at *
    have P2 := Lib.hid P2.drew
    have K2 := Lib.hid K2.drew
    have HG2 := Lib.hid (gb_drew G2)
    have C2 := Lib.hid (read_int g r w2.drew (R2.grown (Below.refl _ w2).drew))
    clear G2 R2
    generalize w2.drew = w2d at *
    go_wp2_with fail
    refine C2.out.mono ?_
    clear C2
    rintro e w3 ⟨hg, ⟨ho, rfl⟩ | ⟨n, s, v, ho, rfl, hv, hr⟩⟩
    · exact ⟨rfl, grownBy_trans HG2.out hg, .inl ⟨by rw [HO.out, ho], rfl⟩⟩
    have hv' : v = .int .i64 n := hv
    subst hv'
    have HG3 := Lib.hid (grownBy_trans HG2.out hg)
    have K3 := Lib.hid (blk_grown K2.out hg (by omega))
    have P3 := Lib.hid (blk_grown P2.out hg (by omega))
    have HR3 := Lib.hid hr
    have o1 : k = ⟨#[]⟩ := by
      rcases OF.out with h | h
      · cases h.1
      · exact h.2
    subst o1
    have HO3 : Hid (pRefP l = some (⟨⟨#[]⟩, a, o, n⟩, s)) := by show _ = _; rw [HO.out, ho]
    clear hg ho hr hv HR HG HG2 K1 K2 P1 P2
    have p0 := P3.out.cell 0
    have p1 := P3.out.cell 1
    have p2 := P3.out.cell 2
    have p3 := P3.out.cell 3
    have f3 := P3.out.frozen 3
    have k0 := K3.out.cell 0
    have k1 := K3.out.cell 1
    have k2 := K3.out.cell 2
    have k3 := K3.out.cell 3
    have g0 := K3.out.frozen 0
    have g1 := K3.out.frozen 1
    have g2 := K3.out.frozen 2
    have g3 := K3.out.frozen 3
    simp only [List.getElem?_cons_zero, List.getElem?_cons_succ] at p0 p1 p2 p3 k0 k1 k2 k3
    go_wp2_with fail
    have KZ := set_four (K3.out.other (a := ⟨w.heap.size + 1, 3, none⟩) (.int .i64 n) (by show w.heap.size ≠ w.heap.size + 1; omega)) (.string ⟨#[]⟩) (.int .i64 a) (.int .i64 o) (.int .i64 n)
    have GZ := gb_set (gb_set (gb_set (gb_set (gb_set HG3.out (b := w.heap.size + 1) (i := 3) (Nat.le_succ _) (.int .i64 n)) (b := w.heap.size) (i := 0) (Nat.le_refl _) (.string ⟨#[]⟩)) (b := w.heap.size) (i := 1) (Nat.le_refl _) (.int .i64 a)) (b := w.heap.size) (i := 2) (Nat.le_refl _) (.int .i64 o)) (b := w.heap.size) (i := 3) (Nat.le_refl _) (.int .i64 n)
    have gl := GLT.out
    have RZ := ((((HR3.out.row (grownBy_setCell w3 (w.heap.size + 1) 3 (.int .i64 n)) (fun j hj => by injection hj with hj; omega)).row (grownBy_setCell _ w.heap.size 0 (.string ⟨#[]⟩)) (fun j hj => by injection hj with hj; omega)).row (grownBy_setCell _ w.heap.size 1 (.int .i64 a)) (fun j hj => by injection hj with hj; omega)).row (grownBy_setCell _ w.heap.size 2 (.int .i64 o)) (fun j hj => by injection hj with hj; omega)).row (grownBy_setCell _ w.heap.size 3 (.int .i64 n)) (fun j hj => by injection hj with hj; omega)
    exact bodyPost_ret (results_cell_row rfl _ _ w.heap.size 49 _ (0, 0) _ rfl KZ Tryz.underlying49 rfl size49) rfl ⟨GZ, .inr ⟨_, _, _, HO3.out, rfl, rfl, RZ⟩⟩
set_option maxHeartbeats 1000000 in
set_option maxRecDepth 100000 in
theorem field_piece (g : Nat) (l : List UInt8) (w : World) (h : Rdr w g l) :
    Calls Tryz.prog 112 #[.pointer (some ⟨g, 0, none⟩), .int .i64 8] w (AnsP w g (VIf 49 VRef) (pRefP l)) := by
  have C := Lib.hid (piece_rd g l w h)
  clear h
  go_enter Tryz.func112, Tryz.ntmps112
  go_wp2_with fail
  refine C.out.mono ?_
  clear C
  rintro e w1 ⟨hg, ⟨ho, rfl⟩ | ⟨x, r, v, ho, rfl, hv, hr⟩⟩
  · exact ⟨rfl, hg, .inl ⟨ho, rfl⟩⟩
  have hv' : v = .agg #[.string x.key, .int .i64 x.lower, .int .i64 x.off, .int .i64 x.n] := hv
  subst hv'
  have HG := Lib.hid hg
  have HR := Lib.hid hr
  have HO := Lib.hid ho
  clear hv hg hr ho
  go_wp2_with fail
  go_ret
  exact ⟨HG.out, .inr ⟨_, _, _, HO.out, rfl, ⟨_, rfl, rfl⟩, HR.out⟩⟩
theorem size95 : (Tryz.prog.info? 95).map (·.size) = some 2 := by kernel_rfl
set_option maxHeartbeats 1000000 in
set_option maxRecDepth 100000 in
theorem read_ref (g : Nat) (l : List UInt8) (w : World) (h : Rdr w g l) :
    Calls Tryz.prog 134 #[.pointer (some ⟨g, 0, none⟩), .int .i64 8] w (AnsP w g VRef (pRefP l)) := by
  obtain ⟨wa, hwa⟩ : ∃ wa, wa = w.alloc (.cells #[.string ⟨#[]⟩, .int .i64 0, .int .i64 0, .int .i64 0] 49) := ⟨_, rfl⟩
  have ba : Below w.heap.size w wa := by rw [hwa]; exact (Below.refl _ w).alloc (Nat.le_refl _) _
  have sa : wa.heap.size = w.heap.size + 1 := by rw [hwa]; simp
  have KA : Hid (Blk wa w.heap.size [.string ⟨#[]⟩, .int .i64 0, .int .i64 0, .int .i64 0] 49) := by show Blk _ _ _ _; rw [hwa]; exact Blk.new w [.string ⟨#[]⟩, .int .i64 0, .int .i64 0, .int .i64 0] 49 _ rfl
  have GLT : Hid (g < w.heap.size) := by
    obtain ⟨ao, m, c, hr⟩ := h
    exact hr.blk.lt
  have C := Lib.hid (field_piece g l wa (h.grown ba))
  have BA := Lib.hid ba
  have HA := Lib.hid hwa
  have SA := Lib.hid sa
  have hb := be49
  clear h ba hwa sa
  go_enter Tryz.func134, Tryz.ntmps134
  go_wp2_with fail
  rw [← HA.out]
  refine C.out.mono ?_
  clear C HA
  rintro e w1 ⟨hg, ⟨ho, rfl⟩ | ⟨x, r, v, ho, rfl, ⟨u, rfl, hv⟩, hr⟩⟩
  · exact ⟨rfl, gb_then (grown_below BA.out (some g)) hg (fun j hj => .inr hj), .inl ⟨ho, rfl⟩⟩
  have HG := Lib.hid (gb_then (grown_below BA.out (some g)) hg (fun j hj => .inr hj))
  have gl := GLT.out
  have K1 := Lib.hid (blk_grown KA.out hg (by omega))
  have hv' : u = .agg #[.string x.key, .int .i64 x.lower, .int .i64 x.off, .int .i64 x.n] := hv
  subst hv'
  have HR := Lib.hid hr
  have HO := Lib.hid ho
  clear hv hg hr ho KA BA
  have k0 := K1.out.cell 0
  have f0 := K1.out.frozen 0
  have k1 := K1.out.cell 1
  have f1 := K1.out.frozen 1
  have k2 := K1.out.cell 2
  have f2 := K1.out.frozen 2
  have k3 := K1.out.cell 3
  have f3 := K1.out.frozen 3
  simp only [List.getElem?_cons_zero, List.getElem?_cons_succ] at k0 k1 k2 k3
  go_wp2_with fail
  have KZ := set_four K1.out (.string x.key) (.int .i64 x.lower) (.int .i64 x.off) (.int .i64 x.n)
  have GZ := gb_set (gb_set (gb_set (gb_set (HG.out) (b := w.heap.size) (i := 0) (Nat.le_refl _) (.string x.key)) (b := w.heap.size) (i := 1) (Nat.le_refl _) (.int .i64 x.lower)) (b := w.heap.size) (i := 2) (Nat.le_refl _) (.int .i64 x.off)) (b := w.heap.size) (i := 3) (Nat.le_refl _) (.int .i64 x.n)
  have RZ := ((((HR.out).row (grownBy_setCell _ w.heap.size 0 (.string x.key)) (fun j hj => by injection hj with hj; omega)).row (grownBy_setCell _ w.heap.size 1 (.int .i64 x.lower)) (fun j hj => by injection hj with hj; omega)).row (grownBy_setCell _ w.heap.size 2 (.int .i64 x.off)) (fun j hj => by injection hj with hj; omega)).row (grownBy_setCell _ w.heap.size 3 (.int .i64 x.n)) (fun j hj => by injection hj with hj; omega)
  exact bodyPost_ret (results_cell_row rfl _ _ w.heap.size 49 _ (0, 0) _ rfl KZ Tryz.underlying49 rfl size49) rfl ⟨GZ, .inr ⟨_, _, _, HO.out, rfl, rfl, RZ⟩⟩
set_option maxHeartbeats 1000000 in
set_option maxRecDepth 100000 in
theorem read_attr (g : Nat) (l : List UInt8) (w : World) (h : Rdr w g l) :
    Calls Tryz.prog 132 #[.pointer (some ⟨g, 0, none⟩), .int .i64 7] w (AnsP w g (VAtt w.heap.size) (pAttP l)) := by
  obtain ⟨wa, hwa⟩ : ∃ wa, wa = w.alloc (.cells #[.string ⟨#[]⟩, .slice none 0 0] 95) := ⟨_, rfl⟩
  have ba : Below w.heap.size w wa := by rw [hwa]; exact (Below.refl _ w).alloc (Nat.le_refl _) _
  have sa : wa.heap.size = w.heap.size + 1 := by rw [hwa]; simp
  have KA : Hid (Blk wa w.heap.size [.string ⟨#[]⟩, .slice none 0 0] 95) := by show Blk _ _ _ _; rw [hwa]; exact Blk.new w [.string ⟨#[]⟩, .slice none 0 0] 95 _ rfl
  have GLT : Hid (g < w.heap.size) := by
    obtain ⟨ao, m, c, hr⟩ := h
    exact hr.blk.lt
  have C := Lib.hid (field_attr g l wa (h.grown ba))
  have BA := Lib.hid ba
  have HA := Lib.hid hwa
  have SA := Lib.hid sa
  have hb := be95
  clear h ba hwa sa
  go_enter Tryz.func132, Tryz.ntmps132
  go_wp2_with fail
  rw [← HA.out]
  refine C.out.mono ?_
  clear C HA
  rintro e w1 ⟨hg, ⟨ho, rfl⟩ | ⟨x, r, v, ho, rfl, ⟨u, rfl, hv⟩, hr⟩⟩
  · exact ⟨rfl, gb_then (grown_below BA.out (some g)) hg (fun j hj => .inr hj), .inl ⟨ho, rfl⟩⟩
  have HG := Lib.hid (gb_then (grown_below BA.out (some g)) hg (fun j hj => .inr hj))
  have gl := GLT.out
  have K1 := Lib.hid (blk_grown KA.out hg (by omega))
  obtain ⟨v, rfl, hv⟩ := hv
  obtain ⟨a5, c5, rfl, _, _, _, _⟩ := own_byt (show w1.ownsRow wa.heap.size 5 1 v x.2.length (bs x.2) from hv)
  rw [SA.out] at hv
  have HV : Hid (Own w1 (w.heap.size + 1) (.slice a5 x.2.length c5) x.2) := hv
  have HR := Lib.hid hr
  have HO := Lib.hid ho
  clear hv hg hr ho KA BA
  have k0 := K1.out.cell 0
  have f0 := K1.out.frozen 0
  have k1 := K1.out.cell 1
  have f1 := K1.out.frozen 1
  simp only [List.getElem?_cons_zero, List.getElem?_cons_succ] at k0 k1
  go_wp2_with fail
  have KZ := set_two K1.out (.string x.1) (.slice a5 x.2.length c5)
  have GZ := gb_set (gb_set (HG.out) (b := w.heap.size) (i := 0) (Nat.le_refl _) (.string x.1)) (b := w.heap.size) (i := 1) (Nat.le_refl _) (.slice a5 x.2.length c5)
  have RZ := ((HR.out).row (grownBy_setCell _ w.heap.size 0 (.string x.1)) (fun j hj => by injection hj with hj; omega)).row (grownBy_setCell _ w.heap.size 1 (.slice a5 x.2.length c5)) (fun j hj => by injection hj with hj; omega)
  have OZ : Own ((w1.setCell ⟨w.heap.size, 0, none⟩ (.string x.1)).setCell ⟨w.heap.size, 1, none⟩ (.slice a5 x.2.length c5)) w.heap.size (.slice a5 x.2.length c5) x.2 := Own.low (ownsRow_setCell_below (ownsRow_setCell_below HV.out (a := ⟨w.heap.size, 0, none⟩) (Nat.lt_succ_self _) _) (a := ⟨w.heap.size, 1, none⟩) (Nat.lt_succ_self _) _) (Nat.le_succ _)
  exact bodyPost_ret (results_cell_row rfl _ _ w.heap.size 95 _ (0, 0) _ rfl KZ Tryz.underlying95 rfl size95) rfl ⟨GZ, .inr ⟨_, _, _, HO.out, rfl, ⟨_, rfl, OZ⟩, RZ⟩⟩
end Go.Proofs.YtpjgkboafmebbaaGreatDoor.Sh
