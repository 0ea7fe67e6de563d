/-
  The contracts of bytes.Clone and of frame's first and Next. Conditions: frame's sentinels, sha's tables and errors.errorType stand in memory.
-/
import Derived.Test.YtekaboomhljdoaaGreatDoorFa
import Derived.Test.YtekaboomhljdoaaGreatDoorFb
import Derived.Test.YtekaboomhljdoaaGreatDoorBh
import Derived.Test.YtekaboomhljdoaaGreatDoorKz
import Derived.Deep.RegionHeld3
import Derived.Test.YtekaboomhljdoaaGreatDoorCe
import Derived.Laws.Rows
import Derived.BigRegion
namespace Go.Proofs.YtekaboomhljdoaaGreatDoor.Sh
open Lb Go.RowKit Go.Lib

/-- what the package's variables hold -/
structure Env (w : World) (a0 a1 : Addr) : Prop where
  err : ErrT w
  lay : Lay w
  sen : Sen w a0 a1
theorem Env.below {w w' : World} {a0 a1 : Addr} (h : Env w a0 a1) (hb : Below w.heap.size w w') : Env w' a0 a1 := ⟨h.err.below hb, h.lay.below hb, h.sen.below hb⟩

def kindB (k : Int) : Bool := decide (1 ≤ k) && decide (k ≤ 4)
theorem isKind_any (k : Int) (w : World) : Calls Tryz.prog 73 #[.int .i64 k] w fun e w' => e = .returned (.bool (kindB k)) ∧ w' = w := by
  by_cases h1 : 1 ≤ k
  · by_cases h2 : k ≤ 4
    · have e : Hid (kindB k = true) := by show _ = _; simp [kindB, h1, h2]
      have d1 : decide (1 ≤ k) = true := by simp [h1]
      have d2 : decide (k ≤ 4) = true := by simp [h2]
      go_enter Tryz.func73, Tryz.ntmps73
      go_wp2_with fail
      go_ret
      exact ⟨by rw [e.out]; rfl, rfl⟩
    · have e : Hid (kindB k = false) := by show _ = _; simp [kindB, h2]
      have d1 : decide (1 ≤ k) = true := by simp [h1]
      have d2 : decide (k ≤ 4) = false := by simp; omega
      go_enter Tryz.func73, Tryz.ntmps73
      go_wp2_with fail
      go_ret
      exact ⟨by rw [e.out]; rfl, rfl⟩
  · have e : Hid (kindB k = false) := by show _ = _; simp [kindB, h1]
    have d1 : decide (1 ≤ k) = false := by simp; omega
    go_enter Tryz.func73, Tryz.ntmps73
    go_wp2_with fail
    go_ret
    exact ⟨by rw [e.out]; rfl, rfl⟩

/-- Put's error -/
def putE (k : Int) (ks : ByteArray) (d : List UInt8) : Nat := if kindB k && decide (d.length ≤ 8192) && (ks.toList == (keyS k d).toList) then 0 else 120
/-- an answer: an error of that number -/
def AnsE (a0 a1 : Addr) (n : Nat) (w : World) (e : Ending) (w' : World) : Prop := Below w.heap.size w w' ∧ ∃ v, e = .returned v ∧ FV a0 a1 n v
theorem putE_kind {k : Int} {ks : ByteArray} {d : List UInt8} (h : kindB k = false) : putE k ks d = 120 := by simp [putE, h]
theorem putE_long {k : Int} {ks : ByteArray} {d : List UInt8} (h : 8192 < d.length) : putE k ks d = 120 := by
  have : decide (d.length ≤ 8192) = false := by simp; omega
  simp [putE, this]
theorem putE_key {k : Int} {ks : ByteArray} {d : List UInt8} (h : (ks.toList == (keyS k d).toList) = false) : putE k ks d = 120 := by rw [putE, h, Bool.and_false]; rfl
theorem putE_ok {k : Int} {ks : ByteArray} {d : List UInt8} (h1 : kindB k = true) (h2 : d.length ≤ 8192) (h3 : (ks.toList == (keyS k d).toList) = true) : putE k ks d = 0 := by simp [putE, h1, h2, h3]
theorem keep29 {w : World} {g : Nat} {x y z : Value} {t : TypeId} (h : Blk w g [x, y, z] t) : w.cell? ⟨g, 0, none⟩ = some x ∧ w.cell? ⟨g, 1, none⟩ = some y ∧ w.cell? ⟨g, 2, none⟩ = some z := ⟨h.cell 0, h.cell 1, h.cell 2⟩
theorem al1 (w : World) (o : Obj) : Below w.heap.size w (w.alloc o) := (Below.refl _ w).alloc (Nat.le_refl _) o

set_option maxHeartbeats 2000000 in
set_option maxRecDepth 100000 in
theorem frcheck_any (k : Int) (ks : ByteArray) (ao : Option Addr) (d : List UInt8) (n c : Nat) (a0 a1 : Addr) (w : World) (hE : Env w a0 a1) (h : Byt w ao d) (hn : ao = none → c = 0) (hd : d.length = n) (hn63 : n ≤ 9223372036854775807) :
    Calls Tryz.prog 56 #[.agg #[.int .i64 k, .string ks, .slice ao n c]] w (AnsE a0 a1 (putE k ks d) w) := by
  have B0 := Lib.hid (al1 w (.cells #[.int .i64 k, .string ks, .slice ao n c] 29))
  have E0 := Lib.hid (hE.below B0.out)
  have H0 := Lib.hid (h.below B0.out)
  have HN := Lib.hid hn
  have HD := Lib.hid hd
  have g0 := E0.out.sen.g0
  have CK := Lib.hid (isKind_any k)
  clear hE h hn hd
  by_cases hk : kindB k = true
  · by_cases hl : n ≤ 8192
    · have d1 : decide ((8192 : Int) < (n : Int)) = false := by simp; omega
      have HK := Lib.hid hk
      have YB : Hid (Blk (w.alloc (.cells #[.int .i64 k, .string ks, .slice ao n c] 29)) w.heap.size [.int .i64 k, .string ks, .slice ao n c] 29) := Blk.new w [.int .i64 k, .string ks, .slice ao n c] 29 w.heap.size rfl
      have CO := Lib.hid (fun W (hb : Below (w.alloc (.cells #[.int .i64 k, .string ks, .slice ao n c] 29)).heap.size (w.alloc (.cells #[.int .i64 k, .string ks, .slice ao n c] 29)) W) => of_any k ao d n c W (E0.out.lay.below hb) (H0.out.below hb) HN.out HD.out (by omega))
      have key : ∀ b : Bool, (ks.toList == (keyS k d).toList) = b → Calls Tryz.prog 56 #[.agg #[.int .i64 k, .string ks, .slice ao n c]] w (AnsE a0 a1 (putE k ks d) w) := by
        intro b hb
        have PE : Hid (putE k ks d = if b then 0 else 120) := by
          show _ = _
          cases b with
          | true => exact putE_ok HK.out (by rw [HD.out]; exact hl) hb
          | false => exact putE_key hb
        obtain ⟨K, hK⟩ : ∃ K, K = keyS k d := ⟨_, rfl⟩
        rw [← hK] at hb CO
        clear hK
        go_enter Tryz.func56, Tryz.ntmps56
        go_wp2_with fail
        refine (CK.out _).mono ?_
        rw [HK.out]
        rintro e w1 ⟨rfl, rfl⟩
        go_wp2_with fail
        generalize w.alloc (.cells #[.int .i64 k, .string ks, .slice ao n c] 29) = W1 at *
        have BQ := Lib.hid (Below.refl W1.heap.size W1).drew
        have YQ := Lib.hid YB.out.drew
        have Y0 := keep29 YB.out
        clear CK
        cases b
        all_goals
          go_region_held3 (fun w' => w'.cell? ⟨w.heap.size, 0, none⟩ = some (.int .i64 k) ∧ w'.cell? ⟨w.heap.size, 1, none⟩ = some (.string ks) ∧ w'.cell? ⟨w.heap.size, 2, none⟩ = some (.slice ao n c))
            (first | go_keep | exact keep29 YQ.out)
            ((go_at_call 74; (with_reducible refine (CO.out _ BQ.out).mono ?_); rintro e w5 ⟨rfl, b5⟩; have YQ := Lib.hid (YQ.out.low b5); have BQ := Lib.hid (BQ.out.trans (b5.mono BQ.out.size)); clear b5))
        all_goals
          have G5 := (E0.out.below BQ.out).sen.g0
          have B5 := Lib.hid (B0.out.trans (BQ.out.mono B0.out.size))
          go_wp2_with fail
          go_ret
          first | exact ⟨B5.out, _, rfl, Or.inl ⟨PE.out, rfl⟩⟩ | exact ⟨B5.out, _, rfl, Or.inr (Or.inr ⟨PE.out, _, rfl⟩)⟩
      exact key _ rfl
    · have d1 : decide ((8192 : Int) < (n : Int)) = true := by simp; omega
      have HK := Lib.hid hk
      have PE : Hid (putE k ks d = 120) := putE_long (by rw [HD.out]; omega)
      go_enter Tryz.func56, Tryz.ntmps56
      go_wp2_with fail
      refine (CK.out _).mono ?_
      rw [HK.out]
      rintro e w1 ⟨rfl, rfl⟩
      go_wp2_with fail
      go_ret
      exact ⟨B0.out, _, rfl, Or.inr (Or.inr ⟨PE.out, _, rfl⟩)⟩
  · have HK : Hid (kindB k = false) := by show _ = _; simpa using hk
    have PE : Hid (putE k ks d = 120) := putE_kind HK.out
    go_enter Tryz.func56, Tryz.ntmps56
    go_wp2_with fail
    refine (CK.out _).mono ?_
    rw [HK.out]
    rintro e w1 ⟨rfl, rfl⟩
    go_wp2_with fail
    go_ret
    exact ⟨B0.out, _, rfl, Or.inr (Or.inr ⟨PE.out, _, rfl⟩)⟩

def sizeN (n : Int) : Int := if n < 0 ∨ 8192 < n then 0 else 6 + ((putL n.toNat).length : Nat) + n
set_option maxHeartbeats 1000000 in
theorem frsize_any (n : Int) (h0 : -9223372036854775808 ≤ n) (h1 : n ≤ 9223372036854775807) (w : World) : Calls Tryz.prog 47 #[.int .i64 n] w fun e w' => e = .returned (.int .i64 (sizeN n)) ∧ w' = w := by
  by_cases hn : n < 0
  · have e : Hid (sizeN n = 0) := by show _ = _; simp [sizeN, hn]
    have d1 : decide (n < 0) = true := by simp [hn]
    go_enter Tryz.func47, Tryz.ntmps47
    go_wp2_with fail
    go_ret
    exact ⟨by rw [e.out]; rfl, rfl⟩
  · by_cases h8 : 8192 < n
    · have e : Hid (sizeN n = 0) := by show _ = _; simp [sizeN, h8]
      have d1 : decide (n < 0) = false := by simp; omega
      have d2 : decide (8192 < n) = true := by simp [h8]
      go_enter Tryz.func47, Tryz.ntmps47
      go_wp2_with fail
      go_ret
      exact ⟨by rw [e.out]; rfl, rfl⟩
    · obtain ⟨m, rfl⟩ : ∃ m : Nat, n = m := ⟨n.toNat, by omega⟩
      have hl := putL_len m
      have C := Lib.hid (fun W => size_any m (by omega) W)
      have e : Hid (sizeN (m : Int) = 6 + ((putL m).length : Nat) + m) := by
        show _ = _
        rw [sizeN, if_neg (by omega), Int.toNat_natCast]
      obtain ⟨p, hp⟩ : ∃ p, p = (putL m).length := ⟨_, rfl⟩
      rw [← hp] at hl C e
      have d1 : decide ((m : Int) < 0) = false := by simp
      have d2 : decide (8192 < (m : Int)) = false := by simp; omega
      clear hp hn
      go_enter Tryz.func47, Tryz.ntmps47
      go_wp2_with fail
      refine (C.out _).mono ?_
      rintro e w1 ⟨rfl, rfl⟩
      go_wp2_with fail
      go_ret
      exact ⟨by rw [e.out]; exact ret_int (by omega), rfl⟩

theorem info29 : (Tryz.prog.info? 29).map (·.size) = some 3 := by kernel_rfl
theorem size29 (a b c : Value) : (Tryz.prog.info? 29).map (·.size) = some ([a, b, c] : List Value).toArray.size := info29
set_option maxHeartbeats 1000000 in
theorem made_any (k : Int) (ao : Option Addr) (d : List UInt8) (n c : Nat) (w : World) (h : Byt w ao d) (hn : ao = none → c = 0) (hd : d.length = n) (hbig : n ≤ 1000000) :
    Calls Tryz.prog 10 #[.int .i64 k, .slice ao n c] w fun e w' => e = .returned (.agg #[.int .i64 k, .string (keyS k d), .slice ao n c]) ∧ Below w.heap.size w w' := by
  have hb := al1 w (.cells #[.int .i64 0, .string ⟨#[]⟩, .slice none 0 0] 29)
  have C := Lib.hid (refof_any k ao d n c _ (h.below hb) hn hd hbig)
  obtain ⟨K, hK⟩ : ∃ K, K = keyS k d := ⟨_, rfl⟩
  rw [← hK] at C ⊢
  have B := Lib.hid hb
  have Y : Hid (Blk (w.alloc (.cells #[.int .i64 0, .string ⟨#[]⟩, .slice none 0 0] 29)) w.heap.size [.int .i64 0, .string ⟨#[]⟩, .slice none 0 0] 29) := Blk.new w [.int .i64 0, .string ⟨#[]⟩, .slice none 0 0] 29 w.heap.size rfl
  clear h hn hd hb hK
  go_enter Tryz.func10, Tryz.ntmps10
  go_wp2_with fail
  refine C.out.mono ?_
  rintro e w1 ⟨rfl, b1⟩
  have Y1 := Y.out.low b1
  have c0 := keep29 Y1
  have f0 := Y1.frozen 0
  have f1 := Y1.frozen 1
  have f2 := Y1.frozen 2
  have hg := Y1.lt
  have B1 := Lib.hid (B.out.trans (b1.mono B.out.size))
  have B2 := Lib.hid b1
  clear b1 Y1
  go_wp2_with fail
  have YZ := ((Y.out.low B2.out).set 0 (.int .i64 k)).set 1 (.string K) |>.set 2 (.slice ao n c)
  exact bodyPost_ret (results_cell_row rfl _ _ w.heap.size 29 _ (0, 0) _ rfl YZ Tryz.underlying29 rfl (size29 _ _ _)) rfl ⟨rfl, ((B1.out.setCell (Nat.le_refl _) _).setCell (Nat.le_refl _) _).setCell (Nat.le_refl _) _⟩
end Go.Proofs.YtekaboomhljdoaaGreatDoor.Sh
namespace Go.Proofs.YtekaboomhljdoaaGreatDoor.Sh
open Lb Go.RowKit Go.Lib

/-- what Put answers -/
def AnsPut (k : Int) (ks : ByteArray) (d : List UInt8) (w : World) (e : Ending) (w' : World) : Prop := Below w.heap.size w w' ∧ ∃ v, e = .returned (.tuple #[v, .int .i64 (putE k ks d : Nat)]) ∧ Own w' w.heap.size v (if putE k ks d = 0 then Fr.frL (kb k) d else [])
theorem rws22 (W : World) (k : Nat) (ao bo : Option Addr) (x l : List UInt8) (m n b c : Nat) (h : Blk W k [.slice ao m b, .slice bo n c] 24) (h1 : Byt W ao x) (h2 : Byt W bo l) (hn1 : ao = none → b = 0) (hn : bo = none → c = 0) (e1 : x.length = m) (e2 : l.length = n) : Rws W k [x, l] := by
  intro j hj
  rcases (show j = 0 ∨ j = 1 by simp at hj; omega) with rfl | rfl
  · exact ⟨ao, b, by rw [h.cell]; simp [e1], h1, hn1⟩
  · exact ⟨bo, c, by rw [h.cell]; simp [e2], h2, hn⟩
theorem frL_eq (k : Int) (d : List UInt8) : Fr.frL (kb k) d = Cr.bytesL ([165, kb k] ++ bytL d) := by simp [Fr.frL, bytL]
theorem putE_two (k : Int) (ks : ByteArray) (d : List UInt8) : putE k ks d = 0 ∨ putE k ks d = 120 := by unfold putE; split <;> simp
set_option maxHeartbeats 2000000 in
set_option maxRecDepth 100000 in
theorem frput_any (k : Int) (ks : ByteArray) (ao : Option Addr) (d : List UInt8) (n c : Nat) (a0 a1 : Addr) (w : World) (hE : Env w a0 a1) (h : Byt w ao d) (hn : ao = none → c = 0) (hd : d.length = n) (hn63 : n ≤ 9223372036854775807) :
    Calls Tryz.prog 34 #[.agg #[.int .i64 k, .string ks, .slice ao n c]] w (AnsPut k ks d w) := by
  have B0 := Lib.hid (al1 w (.cells #[.int .i64 k, .string ks, .slice ao n c] 29))
  have CC := Lib.hid (frcheck_any k ks ao d n c a0 a1 _ (hE.below B0.out) (h.below B0.out) hn hd hn63)
  have YB : Hid (Blk (w.alloc (.cells #[.int .i64 k, .string ks, .slice ao n c] 29)) w.heap.size [.int .i64 k, .string ks, .slice ao n c] 29) := Blk.new w [.int .i64 k, .string ks, .slice ao n c] 29 w.heap.size rfl
  have E0 := Lib.hid (hE.below B0.out)
  have H0 := Lib.hid (h.below B0.out)
  have HN := Lib.hid hn
  have HD := Lib.hid hd
  have HL : Hid (putE k ks d = 0 → n ≤ 8192) := fun h0 => by
    rcases Nat.lt_or_ge 8192 n with h8 | h8
    · rw [putE_long (by rw [hd]; exact h8)] at h0; cases h0
    · exact h8
  have kw := kb_wrap k
  obtain ⟨x, hx⟩ : ∃ x, x = kb k := ⟨_, rfl⟩
  rw [← hx] at kw
  have FE : Hid (Fr.frL (kb k) d = Cr.bytesL ([165, x] ++ bytL d)) := by show _ = _; rw [hx]; exact frL_eq k d
  obtain ⟨F, hF⟩ : ∃ F, F = Fr.frL (kb k) d := ⟨_, rfl⟩
  have A : Hid (∀ P, P = putE k ks d → ∀ e w', (Below w.heap.size w w' ∧ ∃ v, e = .returned (.tuple #[v, .int .i64 (P : Nat)]) ∧ Own w' w.heap.size v (if P = 0 then F else [])) → AnsPut k ks d w e w') := fun P hP e w' hh => by
    subst hP
    rw [hF] at hh
    exact hh
  rw [← hF] at FE
  obtain ⟨P, hP⟩ : ∃ P, P = putE k ks d := ⟨_, rfl⟩
  have PT := putE_two k ks d
  rw [← hP] at CC HL PT
  have AP := Lib.hid (A.out P hP)
  clear hE h hn hd hx hF A hP
  go_enter Tryz.func34, Tryz.ntmps34
  go_wp2_with fail
  generalize w.alloc (.cells #[.int .i64 k, .string ks, .slice ao n c] 29) = W1 at *
  have Y0 := keep29 YB.out
  have YF := YB.out.lt
  refine CC.out.mono ?_
  rintro e w1 ⟨b1, v, rfl, hv⟩
  have Y1 := Lib.hid (YB.out.low b1)
  have E1 := Lib.hid (E0.out.below b1)
  have H1 := Lib.hid (H0.out.below b1)
  have B1 := Lib.hid (B0.out.trans (b1.mono B0.out.size))
  have HV := Lib.hid hv
  clear b1
  rcases PT with rfl | rfl
  · obtain rfl : v = .nilIface := by rcases hv with ⟨_, h⟩ | ⟨h, _⟩ | ⟨h, _⟩ <;> first | exact h | cases h
    have hl := HL.out rfl
    have y1 := keep29 Y1.out
    clear hv Y0
    have T0 : Hid (Byt (w1.alloc (.cells #[.int .u8 165, .int .u8 (x.toNat : Int)] 5)) (some ⟨w1.heap.size, 0, none⟩) [165, x]) := two_lit w1 165 x
    have bt := al1 w1 (.cells #[.int .u8 165, .int .u8 (x.toNat : Int)] 5)
    have CB := bytes_any ao d c _ (H1.out.below bt) HN.out (by rw [HD.out]; omega)
    rw [HD.out] at CB
    have CB' := Lib.hid CB
    have B2 := Lib.hid (B1.out.trans (bt.mono B1.out.size))
    have E2 := Lib.hid (E1.out.below bt)
    have BL := bytL_len d
    rw [HD.out] at BL
    obtain ⟨q, hq⟩ : ∃ q, q = w1.heap.size := ⟨_, rfl⟩
    have Q2 : q < (w1.alloc (.cells #[.int .u8 165, .int .u8 (x.toNat : Int)] 5)).heap.size := by simp [hq]
    have y2 := keep29 (Y1.out.low bt)
    clear CB bt CC
    go_wp2_with fail
    rw [← hq] at T0 ⊢
    generalize w1.alloc (.cells #[.int .u8 165, .int .u8 (x.toNat : Int)] 5) = W2 at *
    clear hq
    refine CB'.out.mono ?_
    rintro e w3 ⟨b3, v3, rfl, o3⟩
    obtain ⟨M, hM⟩ : ∃ M, M = bytL d := ⟨_, rfl⟩
    rw [← hM] at o3 BL FE
    obtain ⟨a3, c3, rfl, hc3, hcm3, hy3, hn3⟩ := own_byt o3
    obtain ⟨m, hm⟩ : ∃ m, m = M.length := ⟨_, rfl⟩
    rw [← hm] at BL hc3 ⊢
    have T3 := Lib.hid (T0.out.below b3)
    have B3 := Lib.hid (B2.out.trans (b3.mono B2.out.size))
    have E3 := Lib.hid (E2.out.below b3)
    have HY3 := Lib.hid hy3
    have HM := Lib.hid hm
    clear b3 o3 hy3 hM CB' hm
    have bt := al1 w3 (.cells #[.slice (some ⟨q, 0, none⟩) 2 2, .slice a3 m c3] 24)
    have KB : Blk (w3.alloc (.cells #[.slice (some ⟨q, 0, none⟩) 2 2, .slice a3 m c3] 24)) w3.heap.size [.slice (some ⟨q, 0, none⟩) 2 2, .slice a3 m c3] 24 := Blk.new w3 [.slice (some ⟨q, 0, none⟩) 2 2, .slice a3 m c3] 24 w3.heap.size rfl
    have RW := rws22 _ w3.heap.size (some ⟨q, 0, none⟩) a3 [165, x] M 2 m 2 c3 KB (T3.out.below bt) (HY3.out.below bt) (fun h => by cases h) hn3 rfl HM.out.symm
    have fl : ([[165, x], M] : List (List UInt8)).flatten = [165, x] ++ M := by simp
    have fn : ([165, x] ++ M).length = m + 2 := by simp [HM.out]
    have C18 := concat_any w3.heap.size 2 [[165, x], M] _ RW rfl (by omega) KB.lt (by rw [fl, fn]; omega) (by rw [fl, fn]; omega)
    rw [fl] at C18
    have C18' := Lib.hid C18
    have B4 := Lib.hid (B3.out.trans (bt.mono B3.out.size))
    have FN := Lib.hid fn
    clear C18 KB RW bt fl fn
    go_wp2_with fail
    generalize w3.alloc (.cells #[.slice (some ⟨q, 0, none⟩) 2 2, .slice a3 m c3] 24) = W4 at *
    refine C18'.out.mono ?_
    rintro e w5 ⟨b5, v5, rfl, o5⟩
    obtain ⟨L, hL⟩ : ∃ L, L = [165, x] ++ M := ⟨_, rfl⟩
    rw [← hL] at o5 FE FN
    obtain ⟨a5, c5, rfl, hc5, hcm5, hy5, hn5⟩ := own_byt o5
    have C17 := Cr.bytes_any a5 L c5 w5 hy5 hn5 hc5 hcm5 (by rw [FN.out]; omega)
    have fn := FN.out
    rw [fn] at C17 ⊢
    have C17' := Lib.hid C17
    have B5 := Lib.hid (B4.out.trans (b5.mono B4.out.size))
    clear C17 b5 o5 hy5 hL fn
    go_wp2_with fail
    refine C17'.out.mono ?_
    rintro e w6 ⟨b6, v6, rfl, o6⟩
    have B6 := Lib.hid (B5.out.trans (b6.mono B5.out.size))
    have O6 : Hid (Own w6 w.heap.size v6 F) := by show Own _ _ _ _; rw [FE.out]; exact o6.low B5.out.size
    clear b6 o6
    go_wp2_with fail
    go_ret2
    exact AP.out _ _ ⟨B6.out, _, rfl, O6.out⟩
  · rcases hv with ⟨h, _⟩ | ⟨h, _⟩ | ⟨_, s, rfl⟩
    · cases h
    · cases h
    · have CN := Lib.hid (errno_fr 120 _ a0 a1 w1 E1.out.sen HV.out)
      clear Y0
      go_wp2_with fail
      refine CN.out.mono ?_
      rintro e w2 ⟨rfl, b2⟩
      have B2 := Lib.hid (B1.out.trans (b2.mono B1.out.size))
      clear b2
      go_wp2_with fail
      go_ret2
      exact AP.out _ _ ⟨B2.out, _, rfl, World.ownsRow_nil _ _ _ _⟩
end Go.Proofs.YtekaboomhljdoaaGreatDoor.Sh
namespace Go.Proofs.YtekaboomhljdoaaGreatDoor.Sh
open Lb Go.RowKit Go.Lib

def two (n : Nat) : Nat := if n < 2 then n else 2
theorem drop_two (b : List UInt8) : b.drop (two b.length) = b.drop 2 := by
  unfold two
  split
  · rw [List.drop_length, List.drop_eq_nil_of_le (by omega)]
  · rfl
/-- what bounds answers -/
def AnsB (a0 a1 : Addr) (b : List UInt8) (w : World) (e : Ending) (w' : World) : Prop :=
  Below w.heap.size w w' ∧ ∃ v, e = .returned (.tuple #[.int .i64 ((Fr.bndL b).2.1 : Nat), .int .i64 ((Fr.bndL b).2.2 : Nat), v]) ∧ FV a0 a1 (Fr.bndL b).1 v
theorem ansB {a0 a1 : Addr} {b : List UInt8} {w w' : World} {e : Ending} (x y z : Nat) (h : Fr.bndL b = (x, y, z)) (hb : Below w.heap.size w w') (v : Value) (he : e = .returned (.tuple #[.int .i64 (y : Nat), .int .i64 (z : Nat), v])) (hv : FV a0 a1 x v) : AnsB a0 a1 b w e w' := by
  unfold AnsB
  rw [h]
  exact ⟨hb, v, he, hv⟩
theorem bnd_20 (b : List UInt8) (x n e : Nat) (hg : getL (b.drop 2) = (x, n, e)) (h : e = 20) : Fr.bndL b = (20, 0, 0) := by rw [Fr.bndL, hg]; simp [h]
theorem bnd_120 (b : List UInt8) (x n e : Nat) (hg : getL (b.drop 2) = (x, n, e)) (h : e ≠ 20) (h0 : e ≠ 0) : Fr.bndL b = (120, 0, 0) := by rw [Fr.bndL, hg]; simp [h, h0]
theorem bnd_short (b : List UInt8) (x n : Nat) (hg : getL (b.drop 2) = (x, n, 0)) (h : b.length < 2 + n + x + 4) : Fr.bndL b = (20, 0, 0) := by rw [Fr.bndL, hg]; simp [h]
theorem bnd_long (b : List UInt8) (x n : Nat) (hg : getL (b.drop 2) = (x, n, 0)) (h : ¬ b.length < 2 + n + x + 4) (h2 : 8192 < x) : Fr.bndL b = (120, 0, 0) := by rw [Fr.bndL, hg]; simp [h, h2]
theorem bnd_good (b : List UInt8) (x n : Nat) (hg : getL (b.drop 2) = (x, n, 0)) (h : ¬ b.length < 2 + n + x + 4) (h2 : ¬ 8192 < x) : Fr.bndL b = (0, 2 + n, 2 + n + x) := by rw [Fr.bndL, hg]; simp only; rw [if_neg (by omega), if_neg (by omega), if_neg h, if_neg h2]
set_option maxHeartbeats 2000000 in
set_option maxRecDepth 100000 in
theorem bounds_any (ao : Option Addr) (b : List UInt8) (n c : Nat) (a0 a1 : Addr) (w : World) (hE : Env w a0 a1) (h : Byt w ao b) (hn : ao = none → c = 0) (hb : b.length = n) (hc : n ≤ c) (hc2 : c ≤ 9223372036854775807) :
    Calls Tryz.prog 80 #[.slice ao n c] w (AnsB a0 a1 b w) := by
  obtain ⟨t, ht⟩ : ∃ t, t = two n := ⟨_, rfl⟩
  have t1 : t ≤ n := by rw [ht]; unfold two; split <;> omega
  obtain ⟨ao', sl, by', nn'⟩ := slice_from ao n c t b t1 hb.symm hn hc
  have dr : b.drop t = b.drop 2 := by rw [ht, ← hb]; exact drop_two b
  have CG := get_any ao' (b.drop 2) (c - t) w hE.err (by have := by' w h; rwa [dr] at this) (by rw [← dr, List.length_drop, hb]; omega) (by omega)
  have ln : (b.drop 2).length = n - t := by rw [← dr, List.length_drop, hb]
  rw [ln] at CG
  have hxb : (getL (b.drop 2)).2.2 = 0 → (getL (b.drop 2)).2.1 ≤ n - t ∧ (getL (b.drop 2)).1 < 18446744073709551616 := fun h0 => by
    have := getL_again (b.drop 2) (getL (b.drop 2)).1 (getL (b.drop 2)).2.1 (by rw [← h0])
    rw [ln] at this
    exact ⟨this.2.1, this.2.2.1⟩
  obtain ⟨X, hg⟩ : ∃ X, getL (b.drop 2) = X := ⟨_, rfl⟩
  rw [hg] at CG hxb
  obtain ⟨x, m, e⟩ := X
  simp only at CG hxb
  have G := Lib.hid hg
  have C := Lib.hid CG
  have HB := Lib.hid hb
  have HX := Lib.hid hxb
  have S := Lib.hid hE.sen
  have HT := Lib.hid ht
  have mn : min (2 : Int) (n : Int) = (t : Int) := by rw [ht]; unfold two; split <;> omega
  clear hE h hb hn by' nn' dr CG ln hxb hg ht
  go_enter Tryz.func80, Tryz.ntmps80
  go_wp2_with fail
  refine C.out.mono ?_
  rintro e' w1 ⟨rfl, b1⟩
  have B1 := Lib.hid b1
  have s1 := S.out.below b1
  have g0 := s1.g0
  have g1 := s1.g1
  have f0 : FV a0 a1 20 (.iface 122 (.agg #[.string ⟨#[108, 101, 110, 103, 116, 104]⟩, .iface 187 (.pointer (some a1))])) := Or.inr (Or.inl ⟨rfl, _, rfl⟩)
  have f1 : FV a0 a1 20 (.iface 122 (.agg #[.string ⟨#[68, 97, 116, 97]⟩, .iface 187 (.pointer (some a1))])) := Or.inr (Or.inl ⟨rfl, _, rfl⟩)
  have f2 : FV a0 a1 120 (.iface 122 (.agg #[.string ⟨#[108, 101, 110, 103, 116, 104]⟩, .iface 187 (.pointer (some a0))])) := Or.inr (Or.inr ⟨rfl, _, rfl⟩)
  have F0 := Lib.hid f0
  have F1 := Lib.hid f1
  have F2 := Lib.hid f2
  clear b1 s1 f0 f1 f2 mn sl
  by_cases h20 : e = 20
  · subst h20
    have R := Lib.hid (bnd_20 b x m 20 G.out rfl)
    go_wp2_with fail
    go_quiet (fail)
    go_wp2_with fail
    go_ret3
    exact ansB _ _ _ R.out (below_drewN B1.out _) _ rfl F0.out
  · by_cases h0 : e = 0
    · subst h0
      obtain ⟨hm, hx⟩ := HX.out rfl
      have m2 : m + 2 ≤ n ∨ m = 0 := by
        have := HT.out
        unfold two at this
        split at this <;> omega
      have i1 : (2 : Int) + (m : Int) ≤ 9223372036854775807 := by omega
      have i2 : (n : Int) ≤ 9223372036854775807 := by omega
      have i3 : (0 : Int) ≤ (n : Int) := by omega
      have i4 : (0 : Int) ≤ (m : Int) := by omega
      have i5 : (x : Int) ≤ 18446744073709551615 := by omega
      have i6 : (-9223372036854775808 : Int) ≤ (n : Int) - (2 + (m : Int)) - 4 := by omega
      have i7 : (n : Int) - (2 + (m : Int)) - 4 ≤ 9223372036854775807 := by omega
      have i8 : IntKind.i64.wrap ((n : Int) - (2 + (m : Int)) - 4) = (n : Int) - (2 + (m : Int)) - 4 := IntWalk.i64_in _ (by omega)
      have m3 := m2
      clear m2 hm hx
      by_cases hs : n < 2 + m + 4
      · have R := Lib.hid (bnd_short b x m G.out (by rw [HB.out]; omega))
        have d1 : decide ((n : Int) - (2 + (m : Int)) - 4 < 0) = true := by simp; omega
        go_wp2_with fail
        go_quiet (fail)
        go_wp2_with fail
        go_ret3
        exact ansB _ _ _ R.out (below_drewN B1.out _) _ rfl F1.out
      · have d1 : decide ((n : Int) - (2 + (m : Int)) - 4 < 0) = false := by simp; omega
        by_cases hs2 : n < 2 + m + x + 4
        · have R := Lib.hid (bnd_short b x m G.out (by rw [HB.out]; omega))
          have d2 : decide ((n : Int) - (2 + (m : Int)) - 4 < (x : Int)) = true := by simp; omega
          have q0 : (0 : Int) ≤ (n : Int) - (2 + (m : Int)) - 4 := by omega
          go_wp2_with fail
          go_quiet (fail)
          go_wp2_with fail
          go_ret3
          exact ansB _ _ _ R.out (below_drewN B1.out _) _ rfl F1.out
        · have d2 : decide ((n : Int) - (2 + (m : Int)) - 4 < (x : Int)) = false := by simp; omega
          have q0 : (0 : Int) ≤ (n : Int) - (2 + (m : Int)) - 4 := by omega
          by_cases h8 : 8192 < x
          · have R := Lib.hid (bnd_long b x m G.out (by rw [HB.out]; omega) h8)
            have d3 : decide ((8192 : Int) < (x : Int)) = true := by simp; omega
            go_wp2_with fail
            go_quiet (fail)
            go_wp2_with fail
            go_ret3
            exact ansB _ _ _ R.out (below_drewN B1.out _) _ rfl F2.out
          · have R := Lib.hid (bnd_good b x m G.out (by rw [HB.out]; omega) h8)
            have d3 : decide ((8192 : Int) < (x : Int)) = false := by simp; omega
            go_wp2_with fail
            go_ret3
            exact ansB _ _ _ R.out B1.out _ (by go_num) (Or.inl ⟨rfl, rfl⟩)
    · have R := Lib.hid (bnd_120 b x m e G.out h20 h0)
      have d1 : decide ((e : Int) = 20) = false := by simp; omega
      have d2 : ((e : Int) == 20) = false := by simp; omega
      have d3 : ((e : Int) == 0) = false := by simp; omega
      go_wp2_with fail
      go_quiet (fail)
      go_wp2_with fail
      go_ret3
      exact ansB _ _ _ R.out (below_drewN B1.out _) _ rfl F2.out
end Go.Proofs.YtekaboomhljdoaaGreatDoor.Sh
namespace Go.Proofs.YtekaboomhljdoaaGreatDoor.Sh
open Lb Go.RowKit Go.Lib

theorem clone_b (b o n c : Nat) (l : List UInt8) (w : World) (h : Byt w (some ⟨b, o, none⟩) l) (hl : l.length = n) (hbig : n ≤ 140737488355328) :
    Calls Tryz.prog 62 #[.slice (some ⟨b, o, none⟩) n c] w fun e w' => Below w.heap.size w w' ∧ ∃ v, e = .returned v ∧ Own w' w.heap.size v l := by
  refine (Tryz.bytes_Clone_at ⟨b, o, none⟩ n c (l.map fun x => (x.toNat : Int)) w (by simp [hl]) hbig (fun i hi => ?_)).mono ?_
  · obtain ⟨b', o', h1, h2, h3⟩ := h (by intro h0; rw [h0] at hl; simp at hl; omega)
    injection h1 with h1
    injection h1 with h1 h4
    subst h1
    subst h4
    have := h3 i (by omega)
    rw [WideShapes.add_plain, this]
    simp [List.getD, show i < l.length by omega]
  · rintro e w' ⟨v, he, ho, _, hb⟩
    refine ⟨hb, v, he, ?_⟩
    unfold Own
    rw [hl]
    have e1 : bs l = (l.map fun x => (x.toNat : Int)).map (Value.int .u8) := by simp [bs]
    rw [e1]
    exact ho
theorem own_below {w w' : World} {B : Nat} {v : Value} {l : List UInt8} (h : Own w B v l) (hb : Below w.heap.size w w') : Own w' B v l := by
  obtain ⟨h1, h2 | ⟨g, cap, cur, e, hB, hg, rest⟩⟩ := h
  · exact ⟨h1, Or.inl h2⟩
  · exact ⟨h1, Or.inr ⟨g, cap, cur, e, hB, (hb.block g (Array.getElem?_eq_some_iff.1 hg).1).trans hg, rest⟩⟩
theorem own_setfar {w : World} {B : Nat} {v : Value} {l : List UInt8} (h : Own w B v l) (p : Addr) (u : Value) (hp : p.block < B) : Own (w.setCell p u) B v l := by
  obtain ⟨h1, h2 | ⟨g, cap, cur, e, hB, hg, rest⟩⟩ := h
  · exact ⟨h1, Or.inl h2⟩
  · exact ⟨h1, Or.inr ⟨g, cap, cur, e, hB, (heap_setCell_other w p g u (by omega)).trans hg, rest⟩⟩
set_option maxRecDepth 100000 in
theorem slice_be (b o n c p q d : Nat) (hd : p + d = q) (hp : p < c) (hq : q ≤ n) (hc : n ≤ c) (W : World) :
    (Instr.slice 24 (.slice (some ⟨b, o, none⟩) n c) (some (.int .i64 (p : Int))) (some (.int .i64 (q : Int))) none).run Tryz.prog W = .ok (.slice (some ⟨b, o + p, none⟩) d (c - p)) W := by
  have hs := run_slice_lh (P := Tryz.prog) W 24 (some ⟨b, o, none⟩) n c (by rw [Tryz.underlying24]; rfl) .i64 .i64 (p : Int) (q : Int) (by omega) (by omega) (by omega)
  rw [hs]
  have e1 : ((p : Int)).toNat = p := by omega
  have e2 : ((q : Int)).toNat = q := by omega
  have e3 : Tryz.prog.elem 24 = 5 := by kernel_rfl
  rw [e1, e2, e3]
  simp [Tryz.sizeOf5, sliced, Result.andThen, Addr.add, show ¬ c = p by omega, show q - p = d by omega]
/-- what first answers -/
def AnsF (a0 a1 : Addr) (b : List UInt8) (w : World) (e : Ending) (w' : World) : Prop :=
  Below w.heap.size w w' ∧ ((Fr.nextL b).1 = 0 ∧ (∃ v, e = .returned (.tuple #[.agg #[.int .i64 ((Fr.nextL b).2.1.toNat : Nat), .string (keyS ((Fr.nextL b).2.1.toNat : Nat) (Fr.nextL b).2.2.1), v], .int .i64 ((Fr.nextL b).2.2.2 : Nat), .nilIface]) ∧ Own w' w.heap.size v (Fr.nextL b).2.2.1)
    ∨ (Fr.nextL b).1 ≠ 0 ∧ ∃ v, e = .returned (.tuple #[.agg #[.int .i64 0, .string ⟨#[]⟩, .slice none 0 0], .int .i64 0, v]) ∧ FV a0 a1 (Fr.nextL b).1 v)
theorem ansF_no {a0 a1 : Addr} {b : List UInt8} {w w' : World} {e : Ending} (x : Nat) (h : (Fr.nextL b).1 = x) (hx : x ≠ 0) (hb : Below w.heap.size w w') (v : Value) (he : e = .returned (.tuple #[.agg #[.int .i64 0, .string ⟨#[]⟩, .slice none 0 0], .int .i64 0, v])) (hv : FV a0 a1 x v) : AnsF a0 a1 b w e w' := by
  subst h
  exact ⟨hb, Or.inr ⟨hx, v, he, hv⟩⟩
theorem ansF_ok {a0 a1 : Addr} {b : List UInt8} {w w' : World} {e : Ending} (k : UInt8) (d : List UInt8) (n : Nat) (h : Fr.nextL b = (0, k, d, n)) (hb : Below w.heap.size w w') (v : Value) (he : e = .returned (.tuple #[.agg #[.int .i64 (k.toNat : Nat), .string (keyS (k.toNat : Nat) d), v], .int .i64 (n : Nat), .nilIface])) (hv : Own w' w.heap.size v d) : AnsF a0 a1 b w e w' := by
  unfold AnsF
  rw [h]
  exact ⟨hb, Or.inl ⟨rfl, v, he, hv⟩⟩
theorem kindB_nat (m : Nat) : kindB (m : Int) = true ↔ 1 ≤ m ∧ m ≤ 4 := by unfold kindB; simp; omega
theorem next_bnd (b : List UInt8) (h : (Fr.bndL b).1 ≠ 0) : (Fr.nextL b).1 = (Fr.bndL b).1 := by rw [Fr.nextL, if_pos h]
theorem next_mark (b : List UInt8) (h : (Fr.bndL b).1 = 0) (h0 : b.getD 0 0 ≠ 165) : (Fr.nextL b).1 = 120 := by rw [Fr.nextL, if_neg (fun h' => h' h), if_pos h0]
theorem next_kind (b : List UInt8) (h : (Fr.bndL b).1 = 0) (h0 : b.getD 0 0 = 165) (h1 : kindB ((b.getD 1 0).toNat : Nat) = false) : (Fr.nextL b).1 = 120 := by
  have h2 : ¬ (1 ≤ (b.getD 1 0).toNat ∧ (b.getD 1 0).toNat ≤ 4) := fun hh => by rw [(kindB_nat _).2 hh] at h1; cases h1
  rw [Fr.nextL, if_neg (fun h' => h' h), if_neg (fun h' => h' h0), if_pos h2]
theorem next_sum (b : List UInt8) (h : (Fr.bndL b).1 = 0) (h0 : b.getD 0 0 = 165) (h1 : kindB ((b.getD 1 0).toNat : Nat) = true) (h2 : Cr.rightL (b.take ((Fr.bndL b).2.2 + 4)) = false) : (Fr.nextL b).1 = 120 := by
  have h3 := (kindB_nat _).1 h1
  rw [Fr.nextL, if_neg (fun h' => h' h), if_neg (fun h' => h' h0), if_neg (fun h' => h' h3), if_pos h2]
theorem next_good (b : List UInt8) (h : (Fr.bndL b).1 = 0) (h0 : b.getD 0 0 = 165) (h1 : kindB ((b.getD 1 0).toNat : Nat) = true) (h2 : Cr.rightL (b.take ((Fr.bndL b).2.2 + 4)) = true) : Fr.nextL b = (0, b.getD 1 0, (b.drop (Fr.bndL b).2.1).take ((Fr.bndL b).2.2 - (Fr.bndL b).2.1), (Fr.bndL b).2.2 + 4) := by
  have h3 := (kindB_nat _).1 h1
  rw [Fr.nextL, if_neg (fun h' => h' h), if_neg (fun h' => h' h0), if_neg (fun h' => h' h3), if_neg (by simp [h2])]
theorem results_row_tmp2 {P : Program} {fn : Func} {p u q : Tmp} {ty : TypeId} (h : fn.results = #[.cell p ty, .tmp u, .tmp q]) (tmps : Array Value) (w : World) (g : Nat) (t : TypeId) (cs : List Value) (d : TypeDesc) (y z : Value)
    (hp : tmps.getD p undef = .pointer (some ⟨g, 0, none⟩)) (hy : tmps.getD u undef = y) (hz : tmps.getD q undef = z) (hg : Blk w g cs t)
    (hu : P.underlying ty = some d) (hd : (match d with | .struct _ | .array _ _ => true | _ => false) = true) (hi : (P.info? ty).map (·.size) = some cs.toArray.size) :
    (results fn tmps).run P w = .ok (.tuple #[.agg cs.toArray, y, z]) w := by
  have hp' : tmps[p]?.getD undef = .pointer (some ⟨g, 0, none⟩) := by simpa using hp
  have hy' : tmps[u]?.getD undef = y := by simpa using hy
  have hz' : tmps[q]?.getD undef = z := by simpa using hz
  simp [results, h, hp', hy', hz', asAddr, run_loadVar_row w g t ty cs.toArray (0, 0) d hg hu hd hi, Result.andThen]

set_option maxHeartbeats 2000000 in
set_option maxRecDepth 100000 in
theorem first_any (ao : Option Addr) (b : List UInt8) (n c : Nat) (a0 a1 : Addr) (w : World) (hE : Env w a0 a1) (h : Byt w ao b) (hn : ao = none → c = 0) (hb : b.length = n) (hc : n ≤ c) (hc2 : c ≤ 9223372036854775807) :
    Calls Tryz.prog 63 #[.slice ao n c] w (AnsF a0 a1 b w) := by
  have B0 := al1 w (.cells #[.int .i64 0, .string ⟨#[]⟩, .slice none 0 0] 29)
  have YB : Hid (Blk (w.alloc (.cells #[.int .i64 0, .string ⟨#[]⟩, .slice none 0 0] 29)) w.heap.size [.int .i64 0, .string ⟨#[]⟩, .slice none 0 0] 29) := Blk.new w [.int .i64 0, .string ⟨#[]⟩, .slice none 0 0] 29 w.heap.size rfl
  have CB := Lib.hid (bounds_any ao b n c a0 a1 _ (hE.below B0) (h.below B0) hn hb hc hc2)
  have E0 := Lib.hid (hE.below B0)
  have H0 := Lib.hid (h.below B0)
  have BB := Lib.hid B0
  have HB := Lib.hid hb
  have HZ : Hid (¬ 0 = w.heap.size) := fun h0 => by have : 0 < w.heap.size := lt_of_cell hE.sen.g0; omega
  clear hE h hb B0
  go_enter Tryz.func63, Tryz.ntmps63
  go_wp2_with fail
  generalize w.alloc (.cells #[.int .i64 0, .string ⟨#[]⟩, .slice none 0 0] 29) = W1 at *
  refine CB.out.mono ?_
  rintro e w1 ⟨b1, v, rfl, hv⟩
  have Y1 := Lib.hid (YB.out.low b1)
  have E1 := Lib.hid (E0.out.below b1)
  have H1 := Lib.hid (H0.out.below b1)
  have B1 := Lib.hid (BB.out.trans (b1.mono BB.out.size))
  have y1 := keep29 Y1.out
  have f0 := Y1.out.frozen 0
  have f1 := Y1.out.frozen 1
  have f2 := Y1.out.frozen 2
  have yl := Y1.out.lt
  have HV := Lib.hid hv
  clear b1 CB
  obtain ⟨P, hP⟩ : ∃ P, P = Fr.bndL b := ⟨_, rfl⟩
  have RR := Lib.hid hP
  rw [← hP] at hv HV ⊢
  obtain ⟨x, p, q⟩ := P
  simp only at hv HV ⊢
  clear hP
  by_cases hx : x = 0
  · subst hx
    obtain rfl : v = .nilIface := by rcases hv with ⟨_, h⟩ | ⟨h, _⟩ | ⟨h, _⟩ <;> first | exact h | cases h
    clear hv
    have ok := Fr.bnd_ok b (by rw [← RR.out])
    rw [← RR.out, HB.out] at ok
    simp only at ok
    have bn := HB.out
    obtain ⟨bb, oo, rfl, hlt, hcell⟩ := H1.out (by intro h0; rw [h0] at bn; simp at bn; omega)
    have d0 := hcell 0 (by omega)
    have d1 := hcell 1 (by omega)
    rw [Nat.add_zero] at d0
    have G0 : Hid (b.getD 0 0 = b[0]'(by omega)) := by show _ = _; simp [List.getD, show 0 < b.length by omega]
    have G1 : Hid (b.getD 1 0 = b[1]'(by omega)) := by show _ = _; simp [List.getD, show 1 < b.length by omega]
    obtain ⟨m0, hm0⟩ : ∃ m, m = b[0]'(by omega) := ⟨_, rfl⟩
    obtain ⟨k, hk⟩ : ∃ m, m = b[1]'(by omega) := ⟨_, rfl⟩
    rw [← hm0] at d0 G0
    rw [← hk] at d1 G1
    have RB : Hid ((Fr.bndL b).1 = 0) := by show _ = _; rw [← RR.out]
    have kl := k.toNat_lt
    have k1 : IntKind.i64.wrap (k.toNat : Int) = (k.toNat : Int) := wrap_in _ (by omega) (by omega)
    have q1 : (1 : Int) < (n : Int) := by omega
    have q2 : (0 : Int) < (n : Int) := by omega
    have q3 : (q : Int) ≤ 10000 := by omega
    have q4 : (q : Int) + 4 ≤ (n : Int) := by omega
    have hz : ¬ 0 = w.heap.size := HZ.out
    have hz' : ¬ w.heap.size = 0 := fun h => hz h.symm
    have CK := Lib.hid (isKind_any (k.toNat : Int))
    have g0 := E1.out.sen.g0
    have OK := Lib.hid ok
    have LT := Lib.hid hlt
    clear hcell hm0 hk bn ok kl hlt
    cases hmk : ((m0.toNat : Int) == 165) with
    | false =>
      have hne : m0 ≠ 165 := fun h => by rw [h] at hmk; exact absurd hmk (by decide)
      have RN : Hid ((Fr.nextL b).1 = 120) := next_mark b RB.out (by rw [G0.out]; exact hne)
      clear hne
      go_wp2_with fail
      go_region
      all_goals
        go_wp2_with fail
        refine bodyPost_ret (results_row_tmp2 rfl _ _ w.heap.size 29 _ _ _ _ rfl rfl rfl (((Y1.out.set 0 (.int .i64 0)).set 1 (.string ⟨#[]⟩)).set 2 (.slice none 0 0)).drew Tryz.underlying29 rfl (size29 _ _ _)) rfl ?_
        exact ansF_no 120 RN.out (by decide) (((B1.out.setCell (Nat.le_refl _) _).setCell (Nat.le_refl _) _).setCell (Nat.le_refl _) _).drew _ rfl (Or.inr (Or.inr ⟨rfl, _, rfl⟩))
    | true =>
      have he : m0 = 165 := by
        apply UInt8.toNat_inj.1
        have : (m0.toNat : Int) = 165 := by simpa using hmk
        show m0.toNat = 165
        omega
      have G2 : Hid (b.getD 0 0 = 165) := by show _ = _; rw [G0.out]; exact he
      clear he
      cases hkb : kindB (k.toNat : Int) with
      | false =>
        have RN : Hid ((Fr.nextL b).1 = 120) := next_kind b RB.out G2.out (by rw [G1.out]; exact hkb)
        go_wp2_with fail
        refine (CK.out _).mono ?_
        rw [hkb]
        rintro e w2 ⟨rfl, rfl⟩
        go_wp2_with fail
        go_region
        all_goals
          go_wp2_with fail
          refine bodyPost_ret (results_row_tmp2 rfl _ _ w.heap.size 29 _ _ _ _ rfl rfl rfl (((Y1.out.set 0 (.int .i64 0)).set 1 (.string ⟨#[]⟩)).set 2 (.slice none 0 0)).drew Tryz.underlying29 rfl (size29 _ _ _)) rfl ?_
          exact ansF_no 120 RN.out (by decide) (((B1.out.setCell (Nat.le_refl _) _).setCell (Nat.le_refl _) _).setCell (Nat.le_refl _) _).drew _ rfl (Or.inr (Or.inr ⟨rfl, _, rfl⟩))
      | true =>
        obtain ⟨z, hzq⟩ : ∃ z, z = q + 4 := ⟨_, rfl⟩
        have qz : (q : Int) + 4 = (z : Int) := by omega
        have zn : z ≤ n := by have := OK.out; omega
        have ltk : (b.take z).length = z := by rw [List.length_take, HB.out]; omega
        have sl := fun W => slice_to (some ⟨bb, oo, none⟩) n c z (by omega) W
        have C34 := Cr.right_any (some ⟨bb, oo, none⟩) (b.take z) c w1 (H1.out.take z) (by omega) hc2
        rw [ltk] at C34
        have C34' := Lib.hid C34
        have HKB := Lib.hid hkb
        have HZQ := Lib.hid hzq
        clear C34 ltk zn hzq
        go_wp2_with fail
        refine (CK.out _).mono ?_
        rw [hkb]
        rintro e w2 ⟨rfl, rfl⟩
        clear hkb
        go_wp2_with fail
        refine C34'.out.mono ?_
        rintro e w2 ⟨rfl, b2⟩
        have Y2 := Lib.hid (Y1.out.low b2)
        have E2 := Lib.hid (E1.out.below b2)
        have H2 := Lib.hid (H1.out.below b2)
        have B2 := Lib.hid (B1.out.trans (b2.mono B1.out.size))
        have yy := keep29 Y2.out
        have f0 := Y2.out.frozen 0
        have f1 := Y2.out.frozen 1
        have f2 := Y2.out.frozen 2
        have yl := Y2.out.lt
        have g0 := E2.out.sen.g0
        clear b2 C34' CK
        cases hr : Cr.rightL (b.take z) with
        | false =>
          have RN : Hid ((Fr.nextL b).1 = 120) := next_sum b RB.out G2.out (by rw [G1.out]; exact HKB.out) (by rw [← RR.out]; simp only; rw [← HZQ.out]; exact hr)
          go_wp2_with fail
          go_region
          all_goals
            go_wp2_with fail
            refine bodyPost_ret (results_row_tmp2 rfl _ _ w.heap.size 29 _ _ _ _ rfl rfl rfl (((Y2.out.set 0 (.int .i64 0)).set 1 (.string ⟨#[]⟩)).set 2 (.slice none 0 0)).drew Tryz.underlying29 rfl (size29 _ _ _)) rfl ?_
            exact ansF_no 120 RN.out (by decide) (((B2.out.setCell (Nat.le_refl _) _).setCell (Nat.le_refl _) _).setCell (Nat.le_refl _) _).drew _ rfl (Or.inr (Or.inr ⟨rfl, _, rfl⟩))
        | true =>
          have RG := next_good b RB.out G2.out (by rw [G1.out]; exact HKB.out) (by rw [← RR.out]; simp only; rw [← HZQ.out]; exact hr)
          rw [G1.out, ← RR.out] at RG
          simp only at RG
          rw [← HZQ.out] at RG
          obtain ⟨dl, hdl⟩ : ∃ dl, dl = q - p := ⟨_, rfl⟩
          rw [← hdl] at RG
          have ok := OK.out
          have sb := fun W => slice_be bb oo n c p q dl (by omega) (by omega) (by omega) hc W
          have dlen : ((b.drop p).take dl).length = dl := by rw [List.length_take, List.length_drop, HB.out]; omega
          have bd : Byt w2 (some ⟨bb, oo + p, none⟩) ((b.drop p).take dl) := (H2.out.drop p).take dl
          obtain ⟨D, hD⟩ : ∃ D, D = (b.drop p).take dl := ⟨_, rfl⟩
          rw [← hD] at RG dlen bd
          have C35 := Lib.hid (clone_b bb (oo + p) dl (c - p) D w2 bd dlen (by omega))
          have DL := Lib.hid dlen
          have d8 : dl ≤ 8192 := by omega
          have RGH := Lib.hid RG
          clear RG bd dlen hD hdl ok
          go_wp2_with fail
          refine C35.out.mono ?_
          rintro e w3 ⟨b3, v3, rfl, o3⟩
          have Y3 := Lib.hid (Y2.out.low b3)
          have E3 := Lib.hid (E2.out.below b3)
          have B3 := Lib.hid (B2.out.trans (b3.mono B2.out.size))
          have O3 : Hid (Own w3 w2.heap.size v3 D) := o3
          obtain ⟨a3, c3, rfl, hc3, hcm3, hy3, hn3⟩ := own_byt o3
          have C26 := of_any (k.toNat : Int) a3 D dl c3 w3 E3.out.lay hy3 hn3 DL.out (by omega)
          have O3' : Hid (Own w3 w2.heap.size (.slice a3 dl c3) D) := by show Own _ _ _ _; rw [← DL.out]; exact O3.out
          clear O3
          rw [DL.out]
          have C26' := Lib.hid C26
          clear b3 o3 hy3 C26 C35 hc3 hcm3
          go_wp2_with fail
          refine C26'.out.mono ?_
          rintro e w4 ⟨rfl, b4⟩
          have Y4 := Lib.hid (Y3.out.low b4)
          have B4 := Lib.hid (B3.out.trans (b4.mono B3.out.size))
          have O4 : Hid (Own w4 w2.heap.size (.slice a3 dl c3) D) := own_below O3'.out b4
          have yy := keep29 Y4.out
          have f0 := Y4.out.frozen 0
          have f1 := Y4.out.frozen 1
          have f2 := Y4.out.frozen 2
          have yl := Y4.out.lt
          have LB : Hid (w.heap.size < w2.heap.size) := Y2.out.lt
          obtain ⟨K, hK⟩ : ∃ K, K = keyS (k.toNat : Int) D := ⟨_, rfl⟩
          have HK := Lib.hid hK
          rw [← hK]
          clear b4 C26' hK
          go_wp2_with fail
          refine bodyPost_ret (results_row_tmp2 rfl _ _ w.heap.size 29 _ _ _ _ rfl rfl rfl (((Y4.out.set 0 (.int .i64 (k.toNat : Int))).set 1 (.string K)).set 2 (.slice a3 dl c3)) Tryz.underlying29 rfl (size29 _ _ _)) rfl ?_
          refine ansF_ok k D z RGH.out (((B4.out.setCell (Nat.le_refl _) _).setCell (Nat.le_refl _) _).setCell (Nat.le_refl _) _) _ (by rw [← HK.out]; rfl) ?_
          exact (own_setfar (own_setfar (own_setfar O4.out _ _ LB.out) _ _ LB.out) _ _ LB.out).low B2.out.size
  · have RN : Hid ((Fr.nextL b).1 = x) := by show _ = _; rw [next_bnd b (by rw [← RR.out]; exact hx), ← RR.out]
    rcases hv with ⟨h, _⟩ | ⟨_, s, rfl⟩ | ⟨_, s, rfl⟩
    · exact absurd h hx
    · go_wp2_with fail
      refine bodyPost_ret (results_row_tmp2 rfl _ _ w.heap.size 29 _ _ _ _ rfl rfl rfl (((Y1.out.set 0 (.int .i64 0)).set 1 (.string ⟨#[]⟩)).set 2 (.slice none 0 0)) Tryz.underlying29 rfl (size29 _ _ _)) rfl ?_
      exact ansF_no x RN.out hx (((B1.out.setCell (Nat.le_refl _) _).setCell (Nat.le_refl _) _).setCell (Nat.le_refl _) _) _ rfl HV.out
    · go_wp2_with fail
      refine bodyPost_ret (results_row_tmp2 rfl _ _ w.heap.size 29 _ _ _ _ rfl rfl rfl (((Y1.out.set 0 (.int .i64 0)).set 1 (.string ⟨#[]⟩)).set 2 (.slice none 0 0)) Tryz.underlying29 rfl (size29 _ _ _)) rfl ?_
      exact ansF_no x RN.out hx (((B1.out.setCell (Nat.le_refl _) _).setCell (Nat.le_refl _) _).setCell (Nat.le_refl _) _) _ rfl HV.out
end Go.Proofs.YtekaboomhljdoaaGreatDoor.Sh
