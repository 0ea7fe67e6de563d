/-
  The contracts of cut's First and of the document's own First: for all bytes. No other condition.
-/
import Derived.Test.YtdlejcokigmcdaaWd
import Derived.Test.YtdlejcokigmcdaaPb
import Derived.WalkMore
namespace Go.Proofs.Ytdlejcokigmcdaa.Rb
open Go.RowKit Go.Lib

theorem below_chain {w W W' : World} (h : Below w.heap.size w W) (hb : Below W.heap.size W W') : Below w.heap.size w W' := h.trans (hb.mono h.size)
theorem below_alloc {w W : World} (h : Below w.heap.size w W) (o : Obj) : Below w.heap.size w (W.alloc o) := h.alloc h.size o
/-- 16 bytes, from a on -/
def seg (l : List UInt8) (a : Nat) : List UInt8 := (l.drop a).take 16
theorem seg_len (l : List UInt8) (a : Nat) (h : a + 16 ≤ l.length) : (seg l a).length = 16 := by simp [seg]; omega
theorem seg_roll (l : List UInt8) (a : Nat) (h : a + 16 < l.length) : roll (window (seg l a)) (l[a]'(by omega)).toNat (l[a + 16]).toNat = window (seg l (a + 1)) := by
  have e1 : seg l a = l[a]'(by omega) :: ((l.drop (a + 1)).take 15) := by
    rw [seg, List.drop_eq_getElem_cons (by omega), List.take_succ_cons]
  have e2 : seg l (a + 1) = (l.drop (a + 1)).take 15 ++ [l[a + 16]] := by
    rw [seg, List.take_succ_eq_append_getElem (by simp; omega)]
    congr 2
    rw [List.getElem_drop]
  rw [roll, e1, e2, roll_eq _ _ _ (by simp; omega)]
theorem seg_roll' (l : List UInt8) (a p i y : Nat) (x1 x2 : UInt8) (ha : a < l.length) (hi : i < l.length) (h1 : x1 = l[a]) (h2 : x2 = l[i]) (hai : i = a + 16) (hp : p = a + 1) (hy : y = window (seg l a)) : roll y x1.toNat x2.toNat = window (seg l p) := by
  subst hai
  subst hp
  subst hy
  subst h1
  subst h2
  exact seg_roll l a hi
theorem slice_two (b o T c p q : Nat) (h : p + 16 = q) (hq : q ≤ T) (hT : T ≤ c) (W : World) :
    (Instr.slice 25 (.slice (some ⟨b, o, none⟩) T c) (some (.int .i64 (p : Int))) (some (.int .i64 (q : Int))) none).run Try.prog W = .ok (.slice (some ⟨b, o + p, none⟩) 16 (c - p)) W := by
  have hs := run_slice_lh (P := Try.prog) W 25 (some ⟨b, o, none⟩) T c (by rw [Try.underlying25]; rfl) .i64 .i64 (p : Int) (q : Int) (by omega) (by omega) (by omega)
  rw [hs]
  have e1 : ((p : Int)).toNat = p := by omega
  have e2 : ((q : Int)).toNat = q := by omega
  have e3 : Try.prog.elem 25 = 5 := by kernel_rfl
  rw [e1, e2, e3]
  simp [Try.sizeOf5, sliced, Result.andThen, Addr.add, show ¬ c = p by omega, show q - p = 16 by omega]
theorem ret_i64 {a b : Int} (h : a = b) : Ending.returned (.int .i64 a) = .returned (.int .i64 b) := by rw [h]
/-- whether the ten lowest bits of a row's fingerprint are 1 -/
def hit (l : List UInt8) : Bool := window l % 1024 == 1023
theorem firstFrom_stop (b : List UInt8) (k n : Nat) (h : b.length < n ∨ k = 0) : firstFrom hit b k n = min b.length 2048 := by
  cases k with
  | zero => rfl
  | succ k => rw [firstFrom, if_neg (by omega)]
theorem firstFrom_hit (b : List UInt8) (k n : Nat) (h : n ≤ b.length) (hh : hit (ahead b n) = true) : firstFrom hit b (k + 1) n = n := by
  rw [firstFrom, if_pos h, if_pos hh]
theorem firstFrom_on (b : List UInt8) (k n : Nat) (h : n ≤ b.length) (hh : hit (ahead b n) = false) : firstFrom hit b (k + 1) n = firstFrom hit b k (n + 1) := by
  rw [firstFrom, if_pos h, hh, if_neg (by decide)]
theorem firstFrom_end (b : List UInt8) (k n : Nat) (h : n = min b.length 2048) (hk : n + k = 2048) : firstFrom hit b (k + 1) n = n := by
  rw [firstFrom, if_pos (by omega)]
  split
  · rfl
  · rw [firstFrom_stop _ _ _ (by omega), h]

set_option maxHeartbeats 2000000 in
set_option maxRecDepth 100000 in
theorem reffirst_any (ao : Option Addr) (l : List UInt8) (c : Nat) (w : World) (h : Byt w ao l) (hc : l.length ≤ c) (hl : c ≤ 9223372036854775807) :
    Calls Try.prog 17 #[.slice ao l.length c] w fun e w' => e = .returned (.int .i64 (first hit l : Nat)) ∧ w = w' := by
  have HC := Lib.hid h
  have C23 := Lib.hid refwindow_any
  have F0 : Hid (first hit l = firstFrom hit l 1537 512) := rfl
  generalize first hit l = r at *
  clear h
  go_enter Try.func17, Try.ntmps17
  go_wp2_with fail
  go_loop [3] (fun vn => ∃ (n k : Nat), n + k = 2049 ∧ vn = .int .i64 n ∧ 512 ≤ n ∧ Hid (r = firstFrom hit l k n)) (fun vn => 2049 - (RowKit.intOf vn).toNat)
  case atStart => exact ⟨512, 1537, by omega, rfl, by omega, F0.out⟩
  case round =>
    obtain ⟨n, k, hnk, rfl, hn, hr⟩ := hrel
    cases k with
    | zero =>
      have D0 : decide ((n : Int) ≤ 2048) = false := by simp; omega
      have e : Hid (r = min l.length 2048) := by show _ = _; rw [hr.out, firstFrom_stop _ _ _ (Or.inr rfl)]
      clear hr
      go_wp2_with fail
      go_ret
      exact ⟨ret_i64 (by rw [e.out]; omega), rfl⟩
    | succ k =>
      have hn2 : decide ((n : Int) ≤ 2048) = true := by simp; omega
      by_cases hnl : n ≤ l.length
      · obtain ⟨b, o, rfl, hb, hcell⟩ := HC.out (by intro h0; rw [h0] at hnl; simp at hnl; omega)
        obtain ⟨p, hp⟩ : ∃ p, p = n - 16 := ⟨_, rfl⟩
        have hpn : p + 16 = n := by omega
        have E1 : (n : Int) - 16 = (p : Int) := by omega
        have sl := fun W => slice_two b o l.length c p n hpn hnl hc W
        have C1 : Hid (Calls Try.prog 23 #[.slice (some ⟨b, o + p, none⟩) 16 (c - p)] w fun e w' => e = .returned (.int .u64 (window (ahead l n) : Nat)) ∧ w = w') := by
          have := C23.out (some ⟨b, o + p, none⟩) (seg l p) (c - p) w ((HC.out.drop p).take 16) (by rw [seg_len l p (by omega)]; omega) (by omega)
          rw [seg_len l p (by omega)] at this
          rw [ahead, ← hp]
          exact this
        have D1 : decide ((n : Int) ≤ (l.length : Int)) = true := by simp; omega
        clear hp hcell
        cases hh : hit (ahead l n) with
        | true =>
          have e : Hid (r = n) := by show _ = _; rw [hr.out, firstFrom_hit _ _ _ hnl hh]
          have hm : ((window (ahead l n) : Nat) : Int) % 1024 = 1023 := by
            have : window (ahead l n) % 1024 = 1023 := by simpa [hit] using hh
            omega
          generalize window (ahead l n) = f at *
          clear hr hh
          go_wp2_with fail
          refine C1.out.mono ?_
          rintro e' w' ⟨rfl, rfl⟩
          go_wp2_with fail
          go_ret
          exact ⟨ret_i64 (by rw [e.out]), rfl⟩
        | false =>
          have e : Hid (r = firstFrom hit l k (n + 1)) := by show _ = _; rw [hr.out, firstFrom_on _ _ _ hnl hh]
          have hm : (((window (ahead l n) : Nat) : Int) % 1024 == 1023) = false := by
            have : ¬ window (ahead l n) % 1024 = 1023 := by simpa [hit] using hh
            simp
            omega
          generalize window (ahead l n) = f at *
          clear hr hh
          go_wp2_with fail
          refine C1.out.mono ?_
          rintro e' w' ⟨rfl, rfl⟩
          go_wp2_with fail
          go_round
          case rel => exact ⟨n + 1, k, by omega, by go_num, by omega, e.out⟩
          case measure => simp [RowKit.intOf]; omega
      · have D1 : decide ((n : Int) ≤ (l.length : Int)) = false := by simp; omega
        have e : Hid (r = l.length) := by show _ = _; rw [hr.out, firstFrom_stop _ _ _ (Or.inl (by omega))]; omega
        clear hr
        go_wp2_with fail
        go_ret
        exact ⟨ret_i64 (by rw [e.out]; omega), rfl⟩

theorem and_1023 (q : Nat) (h : q < 18446744073709551616) : bits BinOp.and IntKind.u64 (q : Int) 1023 = ((q % 1024 : Nat) : Int) := by
  have := u64_and_nat q 1023 h (by decide)
  rw [show (1023 : Nat) = 2 ^ 10 - 1 from rfl, Nat.and_two_pow_sub_one_eq_mod] at this
  exact this
set_option maxHeartbeats 2000000 in
set_option maxRecDepth 100000 in
theorem first_any (ao : Option Addr) (l : List UInt8) (c : Nat) (w : World) (h : Byt w ao l) (hc : l.length ≤ c) (hl : c ≤ 9223372036854775807) :
    Calls Try.prog 16 #[.slice ao l.length c] w fun e w' => e = .returned (.int .i64 (first hit l : Nat)) ∧ Below w.heap.size w w' := by
  by_cases hs : l.length ≤ 512
  · have e : Hid (first hit l = l.length) := first_small hit l hs
    generalize first hit l = r at *
    clear h
    have D1 : min (l.length : Int) 2048 = (l.length : Int) := by omega
    have D2 : (l.length : Int) ≤ 512 := by omega
    go_enter Try.func16, Try.ntmps16
    go_wp2_with fail
    go_step3
    go_wp2_with fail
    (try rw [Exit.noGoto_ret])
    go_ret
    exact ⟨ret_i64 (by rw [e.out]), Below.refl _ _⟩
  · obtain ⟨b, o, rfl, hb, hcell⟩ := h (by intro h0; rw [h0] at hs; simp at hs)
    have HY := Lib.hid (fun W (hB : Below w.heap.size w W) => h.below hB)
    have CEL : Hid (∀ W, Below w.heap.size w W → ∀ j (hj : j < l.length), W.cell? ⟨b, o + j, none⟩ = some (.int .u8 (l[j]).toNat)) := fun W hB j hj => (hB.cell (p := ⟨b, o + j, none⟩) hb).trans (hcell j hj)
    have CW : Hid (∀ W a, Below w.heap.size w W → a + 16 ≤ l.length → Calls Try.prog 21 #[.slice (some ⟨b, o + a, none⟩) 16 (c - a)] W fun e w' => e = .returned (.int .u64 (window (seg l a) : Nat)) ∧ Below W.heap.size W w') := fun W a hB ha => by
      have := window_any (some ⟨b, o + a, none⟩) (seg l a) (c - a) W (((HY.out W hB).drop a).take 16) (by rw [seg_len l a ha]; omega) (by omega)
      rw [seg_len l a ha] at this
      exact this
    have C22 := Lib.hid roll_any
    have B0 := Lib.hid (Below.refl w.heap.size w)
    have sl0 := fun W => slice_two b o l.length c 496 512 rfl (by omega) hc W
    have F0 : Hid (first hit l = firstFrom hit l 1537 512) := rfl
    generalize first hit l = r at *
    obtain ⟨last, hlast⟩ : ∃ last : Nat, last = min l.length 2048 := ⟨_, rfl⟩
    have D1 : min (l.length : Int) 2048 = (last : Int) := by omega
    have D2 : ¬ (last : Int) ≤ 512 := by omega
    have D3 : last ≤ l.length := by omega
    have D4 : last ≤ 2048 := by omega
    have D5 : 512 ≤ last := by omega
    have HLA := Lib.hid hlast
    clear hlast
    have W0 := Lib.hid (window_lt (seg l 496))
    obtain ⟨f0, hf0⟩ : ∃ f, f = window (seg l 496) := ⟨_, rfl⟩
    have C1 := Lib.hid (CW.out w 496 B0.out (by omega))
    rw [← hf0] at C1 W0
    have WE : Hid (f0 = window (seg l (512 - 16))) := hf0
    clear h hcell hf0
    go_enter Try.func16, Try.ntmps16
    go_wp2_with fail
    go_step3
    go_wp2_with fail
    refine C1.out.mono ?_
    rintro e w1 ⟨rfl, b1⟩
    have B1 := Lib.hid b1
    clear b1
    go_wp2_with fail
    go_step3
    go_wp2_with fail
    go_loopw [4, 5] (fun vn vf wq => ∃ (n k f : Nat), n + k = 2048 ∧ vn = .int .i64 n ∧ vf = .int .u64 f ∧ 512 ≤ n ∧ n ≤ last ∧ Hid (f < 2147483648) ∧ Hid (f = window (seg l (n - 16))) ∧ Hid (r = firstFrom hit l (k + 1) n) ∧ Hid (Below w.heap.size w wq)) (fun vn _ _ => 2049 - (RowKit.intOf vn).toNat)
    case atStart => exact ⟨512, 1536, f0, by omega, rfl, rfl, by omega, by omega, W0.out, WE.out, F0.out, B1.out⟩
    case round =>
      obtain ⟨n, k, f, hnk, rfl, rfl, hn, hnl, hf, hfe, hr, hB⟩ := hrel
      by_cases hlst : n = last
      · have d1 : ((n : Int) == (last : Int)) = true := by simp; omega
        have e : Hid (r = n) := by show _ = _; rw [hr.out, firstFrom_end l k n (by rw [hlst]; exact HLA.out) hnk]
        clear hr hfe hlst
        go_wp2_with fail
        (try rw [Exit.noGoto_ret])
        go_ret
        exact ⟨ret_i64 (by rw [e.out]), hB.out⟩
      · have d1 : ((n : Int) == (last : Int)) = false := by simp; omega
        obtain ⟨a, ha⟩ : ∃ a, a = n - 16 := ⟨_, rfl⟩
        have E1 : (n : Int) - 16 = (a : Int) := by omega
        have k1 := and_1023 f (by have := hf.out; omega)
        have hit_eq : hit (ahead l n) = (f % 1024 == 1023) := by rw [hit, ahead, hfe.out]; rfl
        by_cases hh : f % 1024 = 1023
        · have e : Hid (r = n) := by show _ = _; rw [hr.out, firstFrom_hit l k n (by omega) (by rw [hit_eq, hh]; rfl)]
          have d2 : (((f % 1024 : Nat) : Int) == 1023) = true := by rw [hh]; rfl
          clear hr hfe hit_eq hh
          go_wp2_with fail
          (try rw [Exit.noGoto_ret])
          go_ret
          exact ⟨ret_i64 (by rw [e.out]), hB.out⟩
        · obtain ⟨j, rfl⟩ : ∃ j, k = j + 1 := ⟨k - 1, by omega⟩
          have e : Hid (r = firstFrom hit l (j + 1) (n + 1)) := by show _ = _; rw [hr.out, firstFrom_on l (j + 1) n (by omega) (by rw [hit_eq]; simp [hh])]
          have d2 : (((f % 1024 : Nat) : Int) == 1023) = false := by simp; omega
          have c1 := CEL.out wr hB.out a (by omega)
          have c2 := CEL.out wr hB.out n (by omega)
          obtain ⟨u1, hu1⟩ : ∃ u, u = l[a]'(by omega) := ⟨_, rfl⟩
          obtain ⟨u2, hu2⟩ : ∃ u, u = l[n]'(by omega) := ⟨_, rfl⟩
          have hnx : roll f u1.toNat u2.toNat = window (seg l (n + 1 - 16)) := seg_roll' l a (n + 1 - 16) n f u1 u2 (by omega) (by omega) hu1 hu2 (by omega) (by omega) (by rw [hfe.out, ha])
          rw [← hu1] at c1
          rw [← hu2] at c2
          have R1 : Hid (∀ W, Calls Try.prog 22 #[.int .u64 f, .int .u8 u1.toNat, .int .u8 u2.toNat] W fun e w' => e = .returned (.int .u64 (window (seg l (n + 1 - 16)) : Nat)) ∧ ∃ n, w' = W.drewN n) := fun W => by
            have := C22.out f u1 u2 (by have := hf.out; omega) W
            rw [hnx] at this
            exact this
          have WZ := Lib.hid (window_lt (seg l (n + 1 - 16)))
          obtain ⟨z, hz⟩ : ∃ z, z = window (seg l (n + 1 - 16)) := ⟨_, rfl⟩
          rw [← hz] at R1 WZ
          have HZ := Lib.hid hz
          have q1 : (a : Int) < (l.length : Int) := by omega
          have q2 : (0 : Int) ≤ (a : Int) := by omega
          have q3 : (n : Int) < (l.length : Int) := by omega
          generalize u1.toNat = x1 at *
          generalize u2.toNat = x2 at *
          clear hr hfe hit_eq hh hu1 hu2 hnx ha hz
          go_wp2_with fail
          go_quiet ((go_at_call 22; with_reducible refine Calls.quiet_of (R1.out _)))
          go_wp2_with fail
          go_roundw
          case rel => exact ⟨n + 1, j, z, by omega, by go_num, rfl, by omega, by omega, WZ.out, HZ.out, e.out, below_drewN hB.out _⟩
          case measure => simp [RowKit.intOf]; omega
end Go.Proofs.Ytdlejcokigmcdaa.Rb
