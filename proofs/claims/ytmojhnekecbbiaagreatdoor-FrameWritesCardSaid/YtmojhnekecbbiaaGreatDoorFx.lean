/-
  The contract of the document's own Put of a frame (refput_any12: AnsPut). Conditions: contents of at most a million bytes.
-/
import Derived.Test.YtmojhnekecbbiaaGreatDoorFw
import Derived.BigQuiet
namespace Go.Proofs.YtmojhnekecbbiaaGreatDoor.Sh
open Lb Go.RowKit Go.Lib

theorem box_law (k : Int) (ks : ByteArray) (ao : Option Addr) (n c : Nat) (w : World) : Blk (w.alloc (.cells #[.int .i64 k, .string ks, .slice ao n c] 25)) w.heap.size [.int .i64 k, .string ks, .slice ao n c] 25 := Blk.new w [.int .i64 k, .string ks, .slice ao n c] 25 w.heap.size rfl
set_option maxHeartbeats 2000000 in
set_option maxRecDepth 100000 in
theorem refput_no1 (k : Int) (ks : ByteArray) (ao : Option Addr) (d : List UInt8) (n c : Nat) (w : World) (hk : kindB k = false) :
    Calls Tryz.prog 6 #[.agg #[.int .i64 k, .string ks, .slice ao n c]] w (AnsPut k ks d w) := by
  have B0 := Lib.hid (al1 w (.cells #[.int .i64 k, .string ks, .slice ao n c] 25))
  have YB := Lib.hid (box_law k ks ao n c w)
  have PE : Hid (putE k ks d = 120) := putE_kind hk
  have CK := Lib.hid (refkind_any k)
  rw [hk] at CK
  go_enter Tryz.func6, Tryz.ntmps6
  go_wp2_with fail
  generalize w.alloc (.cells #[.int .i64 k, .string ks, .slice ao n c] 25) = W1 at *
  have Y0 := keep29 YB.out
  go_quiet ((go_at_call 19; with_reducible exact Calls.quiet_of_same (CK.out _)))
  have B1 := Lib.hid (below_drewN B0.out nq)
  go_wp2_with fail
  go_ret2
  exact ⟨B1.out, _, by rw [PE.out]; rfl, by rw [PE.out]; exact World.ownsRow_nil _ _ _ _⟩
set_option maxHeartbeats 2000000 in
set_option maxRecDepth 100000 in
theorem refput_no2 (k : Int) (ks : ByteArray) (ao : Option Addr) (d : List UInt8) (n c : Nat) (w : World) (hk : kindB k = true) (hd : d.length = n) (h8 : 8192 < n) :
    Calls Tryz.prog 6 #[.agg #[.int .i64 k, .string ks, .slice ao n c]] w (AnsPut k ks d w) := by
  have B0 := Lib.hid (al1 w (.cells #[.int .i64 k, .string ks, .slice ao n c] 25))
  have YB := Lib.hid (box_law k ks ao n c w)
  have PE : Hid (putE k ks d = 120) := putE_long (by rw [hd]; exact h8)
  have CK := Lib.hid (refkind_any k)
  rw [hk] at CK
  have d1 : decide ((8192 : Int) < (n : Int)) = true := by simp; omega
  go_enter Tryz.func6, Tryz.ntmps6
  go_wp2_with fail
  generalize w.alloc (.cells #[.int .i64 k, .string ks, .slice ao n c] 25) = W1 at *
  have Y0 := keep29 YB.out
  go_quiet ((go_at_call 19; with_reducible exact Calls.quiet_of_same (CK.out _)))
  have B1 := Lib.hid (below_drewN B0.out nq)
  go_wp2_with fail
  go_ret2
  exact ⟨B1.out, _, by rw [PE.out]; rfl, by rw [PE.out]; exact World.ownsRow_nil _ _ _ _⟩
set_option maxHeartbeats 2000000 in
set_option maxRecDepth 100000 in
theorem refput_any12 (k : Int) (ks : ByteArray) (ao : Option Addr) (d : List UInt8) (n c : Nat) (w : World) (h : Byt w ao d) (hn : ao = none → c = 0) (hd : d.length = n) (hbig : n ≤ 1000000) :
    Calls Tryz.prog 6 #[.agg #[.int .i64 k, .string ks, .slice ao n c]] w (AnsPut k ks d w) := by
  by_cases hk0 : kindB k = false
  · exact refput_no1 k ks ao d n c w hk0
  have hk : kindB k = true := by simpa using hk0
  by_cases hl0 : 8192 < n
  · exact refput_no2 k ks ao d n c w hk hd hl0
  have hl : n ≤ 8192 := by omega
  have B0 := Lib.hid (al1 w (.cells #[.int .i64 k, .string ks, .slice ao n c] 25))
  have YB := Lib.hid (box_law k ks ao n c w)
  have H0 := Lib.hid (h.below B0.out)
  have HN := Lib.hid hn
  have HD := Lib.hid hd
  have HK := Lib.hid hk
  have d1 : decide ((8192 : Int) < (n : Int)) = false := by simp; omega
  have CK := Lib.hid (refkind_any k)
  rw [hk] at CK
  clear hk0 hl0 hk h hn hd
  have CO := Lib.hid (fun W (hb : Below (w.alloc (.cells #[.int .i64 k, .string ks, .slice ao n c] 25)).heap.size (w.alloc (.cells #[.int .i64 k, .string ks, .slice ao n c] 25)) W) => refof_any k ao d n c W (H0.out.below hb) HN.out HD.out (by omega))
  have CW := Lib.hid (fun W (hb : Below (w.alloc (.cells #[.int .i64 k, .string ks, .slice ao n c] 25)).heap.size (w.alloc (.cells #[.int .i64 k, .string ks, .slice ao n c] 25)) W) => refwrite_any12 k ao d n c W (H0.out.below hb) HN.out HD.out (by omega))
  have key : ∀ b : Bool, (ks.toList == (keyS k d).toList) = b → Calls Tryz.prog 6 #[.agg #[.int .i64 k, .string ks, .slice ao n c]] w (AnsPut k ks d w) := by
    intro b hb
    have PE : Hid (putE k ks d = if b then 0 else 120) := by
      show _ = _
      cases b with
      | true => exact putE_ok HK.out (by rw [HD.out]; exact hl) hb
      | false => exact putE_key hb
    have hb2 : ((keyS k d).toList == ks.toList) = b := by rw [Bool.beq_comm]; exact hb
    obtain ⟨K, hK⟩ : ∃ K, K = keyS k d := ⟨_, rfl⟩
    rw [← hK] at hb hb2 CO
    obtain ⟨F, hF⟩ : ∃ F, F = Fr.frL (kb k) d := ⟨_, rfl⟩
    have FF := Lib.hid hF
    rw [← hF] at CW
    clear hK hF
    go_enter Tryz.func6, Tryz.ntmps6
    go_wp2_with fail
    generalize w.alloc (.cells #[.int .i64 k, .string ks, .slice ao n c] 25) = W1 at *
    have BQ := Lib.hid (Below.refl W1.heap.size W1).drew
    have YQ := Lib.hid YB.out.drew
    have Y0 := keep29 YB.out
    cases b
    all_goals
      go_region_held3 (fun w' => w'.cell? ⟨w.heap.size, 0, none⟩ = some (.int .i64 k) ∧ w'.cell? ⟨w.heap.size, 1, none⟩ = some (.string ks) ∧ w'.cell? ⟨w.heap.size, 2, none⟩ = some (.slice ao n c))
        (first | go_keep | exact keep29 YQ.out)
        (first
          | (go_at_call 19; (with_reducible refine (CK.out _).mono ?_); rintro e w5 ⟨rfl, rfl⟩)
          | (go_at_call 20; (with_reducible refine (CO.out _ BQ.out).mono ?_); rintro e w5 ⟨rfl, b5⟩; have YQ := Lib.hid (YQ.out.low b5); have BQ := Lib.hid (BQ.out.trans (b5.mono BQ.out.size)); clear b5))
    all_goals
      have Y5 := keep29 YQ.out
      have B5 := Lib.hid (B0.out.trans (BQ.out.mono B0.out.size))
      have CW5 := Lib.hid (CW.out w5 BQ.out)
      go_wp2_with fail
    · go_ret2
      exact ⟨B5.out, _, by rw [PE.out]; rfl, by rw [PE.out]; exact World.ownsRow_nil _ _ _ _⟩
    · refine CW5.out.mono ?_
      rintro e w6 ⟨b6, v, rfl, o6⟩
      have B6 := Lib.hid (below_chain B5.out b6)
      have O6 := Lib.hid (o6.low B5.out.size)
      clear b6 o6
      go_wp2_with fail
      go_ret2
      exact ⟨B6.out, _, by rw [PE.out]; rfl, by rw [PE.out, ← FF.out]; exact O6.out⟩
  exact key _ rfl
end Go.Proofs.YtmojhnekecbbiaaGreatDoor.Sh
