/-
  The contract of the package's right. Conditions: each law's own.
-/
import Derived.Test.YtpcmminokhmkjaaDoorSk
import Derived.Test.YtpcmminokhmkjaaDoorKy
import Derived.Deep.RegionWith
import Derived.Test.YtpcmminokhmkjaaDoorSz
namespace Go.Proofs.YtpcmminokhmkjaaDoor.St
open Go.Shelf Go.RowKit Go.Lib Go.Sort
set_option maxHeartbeats 4000000 in
set_option maxRecDepth 100000 in
theorem right_any (e : Ent) (hz : e.key.size ≤ 9223372036854775807) (w : World) : Calls Tryd.prog 11 #[.agg (encE e).toArray] w fun r w' => r = .returned (.bool (okE e)) ∧ Below w.heap.size w w' := by
  have K28 := Lib.hid fun W => Sh.check_key e.key W hz
  have K29 := Lib.hid fun W => bounded_any e W
  have HOK : Hid (okE e = ((Sh.keyBytes e.key.data.toList).isSome && decide (e = bnd e))) := rfl
  obtain ⟨W1, hW1⟩ : ∃ W1, W1 = w.alloc (.cells (encE e).toArray 31) := ⟨_, rfl⟩
  have B1 : Hid (Below w.heap.size w W1) := by rw [hW1]; exact (Below.refl _ _).alloc (Nat.le_refl _) _
  have lt1 : w.heap.size < W1.heap.size := by rw [hW1]; simp
  obtain ⟨key, a, b, c, d⟩ := e
  simp only [encE, bnd] at hW1 K29 ⊢
  have cl : ∀ j u, (encE ⟨key, a, b, c, d⟩)[j]? = some u → W1.cell? ⟨w.heap.size, j, none⟩ = some u := fun j u hj => by
    rw [hW1]
    simp only [encE] at hj
    rw [World.cell?_alloc_new]
    simpa using hj
  have BOX : Hid (∀ W, Below W1.heap.size W1 W → W.cell? ⟨w.heap.size, 0, none⟩ = some (.string key) ∧ W.cell? ⟨w.heap.size, 1, none⟩ = some (.int .i64 a) ∧ W.cell? ⟨w.heap.size, 2, none⟩ = some (.int .i64 b) ∧ W.cell? ⟨w.heap.size, 3, none⟩ = some (.int .i64 c) ∧ W.cell? ⟨w.heap.size, 4, none⟩ = some (.int .i64 d)) := fun W hW => by
    refine ⟨?_, ?_, ?_, ?_, ?_⟩
    all_goals (rw [hW.cell lt1]; exact cl _ _ rfl)
  have BQ : Hid (Below W1.heap.size W1 W1) := Below.refl _ _
  obtain ⟨x0, x1, x2, x3, x4⟩ := BOX.out _ BQ.out
  clear cl
  cases hk : (Sh.keyBytes key.data.toList).isSome with
  | false =>
    simp only [hk] at K28
    have HO2 : Hid (okE ⟨key, a, b, c, d⟩ = false) := by show _ = _; rw [HOK.out]; simp only [hk, Bool.false_and]
    clear hk HOK
    go_enter Tryd.func11, Tryd.ntmps11
    go_wp2_with fail
    rw [← hW1]
    clear hW1
    go_region_with
      (first
        | (go_at_call 28; (with_reducible refine (K28.out _).mono ?_); rintro e2 w2 ⟨rfl, b2⟩
           have BQ : Hid (Below W1.heap.size W1 w2) := Lib.hid (Below.trans BQ.out.drew b2)
           obtain ⟨x0, x1, x2, x3, x4⟩ := BOX.out _ BQ.out
           clear b2))
    all_goals
      go_wp2_with fail
      go_ret
      exact ⟨by rw [HO2.out]; rfl, Sh.below_chain B1.out BQ.out⟩
  | true =>
    simp only [hk] at K28
    obtain ⟨B, hB⟩ : ∃ B, B = decide ((⟨key, a, b, c, d⟩ : Ent) = bnd ⟨key, a, b, c, d⟩) := ⟨_, rfl⟩
    have HO2 : Hid (okE ⟨key, a, b, c, d⟩ = B) := by show _ = _; rw [HOK.out, hB]; simp only [hk, Bool.true_and]
    have KE : ∀ W, (binOp .eql 31 (.agg #[.string key, .int .i64 a, .int .i64 b, .int .i64 c, .int .i64 d]) (.agg #[.string key, .int .i64 (min (max a 0) 61), .int .i64 (min (max b 0) 16383), .int .i64 (min (max c 1) 16384), .int .i64 (min (max d 0) 2147483648)])).run Tryd.prog W = .ok (.bool B) W := fun W => by
      rw [hB]
      exact eq_ent ⟨key, a, b, c, d⟩ (bnd ⟨key, a, b, c, d⟩) W
    clear hB
    clear hk HOK
    go_enter Tryd.func11, Tryd.ntmps11
    go_wp2_with fail
    rw [← hW1]
    clear hW1
    go_region_with
      (first
        | (go_at_call 28; (with_reducible refine (K28.out _).mono ?_); rintro e2 w2 ⟨rfl, b2⟩
           have BQ : Hid (Below W1.heap.size W1 w2) := Lib.hid (Below.trans BQ.out.drew b2)
           obtain ⟨x0, x1, x2, x3, x4⟩ := BOX.out _ BQ.out
           clear b2)
        | (go_at_call 29; (with_reducible refine (K29.out _).mono ?_); rintro e2 w2 ⟨rfl, b2⟩
           have BQ : Hid (Below W1.heap.size W1 w2) := Lib.hid (Sh.below_chain BQ.out b2)
           obtain ⟨x0, x1, x2, x3, x4⟩ := BOX.out _ BQ.out
           clear b2))
    all_goals
      go_wp2_with fail
      go_ret
      exact ⟨by rw [HO2.out]; rfl, Sh.below_chain B1.out BQ.out⟩
end Go.Proofs.YtpcmminokhmkjaaDoor.St
