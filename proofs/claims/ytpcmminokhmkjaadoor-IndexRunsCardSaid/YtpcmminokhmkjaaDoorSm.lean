/-
  The contracts of key.Check, bounded and right once more: what they leave is the world, grown and drawn on. Conditions: each law's own.
-/
import Derived.Test.YtpcmminokhmkjaaDoorSl
namespace Go.Proofs.YtpcmminokhmkjaaDoor.St
open Go.Shelf Go.RowKit Go.Lib Go.Sort
theorem dn_dn (w : World) (a b : Nat) : (w.drewN a).drewN b = w.drewN (a + b) := by
  unfold World.drewN
  simp [Nat.add_assoc]
theorem gr_dn (w : World) (os : Array Obj) (n : Nat) : (grow w os).drewN n = grow (w.drewN n) os := rfl
/-- a world, grown and drawn on -/
def Gw (w w' : World) : Prop := ∃ q os, w' = grow (w.drewN q) os
theorem Gw.refl (w : World) : Gw w w := ⟨0, #[], by simp [grow]; rfl⟩
theorem Gw.alloc {w w' : World} (h : Gw w w') (o : Obj) : Gw w (w'.alloc o) := by
  obtain ⟨q, os, rfl⟩ := h
  exact ⟨q, os ++ #[o], by rw [alloc_eq_grow, grow_grow]⟩
theorem Gw.drewN {w w' : World} (h : Gw w w') (n : Nat) : Gw w (w'.drewN n) := by
  obtain ⟨q, os, rfl⟩ := h
  exact ⟨q + n, os, by rw [gr_dn, dn_dn]⟩
theorem Gw.trans {a b c : World} (h : Gw a b) (k : Gw b c) : Gw a c := by
  obtain ⟨q, os, rfl⟩ := h
  obtain ⟨q2, os2, rfl⟩ := k
  exact ⟨q + q2, os ++ os2, by rw [← grow_grow, gr_dn, dn_dn]⟩
set_option maxHeartbeats 1000000 in
set_option maxRecDepth 100000 in
theorem check_keyG (k : ByteArray) (w : World) (hk : k.size ≤ 9223372036854775807) : Calls Tryd.prog 28 #[.string k] w fun e w' => e = .returned (.bool (Sh.keyBytes k.data.toList).isSome) ∧ Gw w w' := by
  have hs : k.data.toList.length = k.size := Array.length_toList
  have hres : Hid ((Sh.keyBytes k.data.toList).isSome = (decide (k.size = 64) && Sh.allDig k.data.toList)) := by show _ = _; rw [Sh.keyBytes_isSome, hs]
  by_cases h64 : k.size = 64
  · have C : Hid (Calls Tryd.prog 41 #[.string k, .string ⟨#[48, 49, 50, 51, 52, 53, 54, 55, 56, 57, 97, 98, 99, 100, 101, 102]⟩] w fun e w' => ∃ T : ByteArray, e = .returned (.string T) ∧ (T.toList == []) = Sh.allDig k.data.toList ∧ Gw w w') := by
      show Calls _ _ _ _ _
      have h116 : (Tryd.prog.info? (Tryd.lays160_ren.t 116)).map (fun i => (i.zero, i.size)) = some (some (.agg (Array.replicate 256 (.bool false))), 256) := by kernel_rfl
      refine (Any.strings_Trim_set Tryd.lays160 (zero_of_info h116).1 (zero_of_info h116).2 k ⟨#[48, 49, 50, 51, 52, 53, 54, 55, 56, 57, 97, 98, 99, 100, 101, 102]⟩ w (by decide) (by omega) hk (by decide) (ascii_of_all (by decide))).mono ?_
      rintro e w1 ⟨rfl, q, rfl⟩
      refine ⟨_, rfl, ?_, ((((Gw.refl w).alloc _).alloc _).drewN q)⟩
      have ht := Sh.trim_dig k.data.toList
      rw [toList_data]
      show (Lib.trimS k.data.toList Sh.digL == []) = _
      generalize Lib.trimS k.data.toList Sh.digL = T at *
      cases h : Sh.allDig k.data.toList with
      | true => rw [ht.2 h]; rfl
      | false =>
        cases T with
        | nil => rw [h] at ht; simp at ht
        | cons a r => rfl
    have q1 : ((k.size : Int) == 64) = true := by rw [h64]; rfl
    have H64 := Lib.hid h64
    clear h64 hs
    go_enter Tryd.func28, Tryd.ntmps28
    go_wp2_with fail
    refine C.out.mono ?_
    rintro e w1 ⟨T, rfl, ht, hb⟩
    have HB := Lib.hid hb
    have HT := Lib.hid ht
    clear hb ht
    cases hT : (T.toList == []) with
    | true =>
      go_wp2_with fail
      go_ret
      exact ⟨by rw [hres.out, H64.out, ← HT.out, hT]; rfl, HB.out⟩
    | false =>
      go_wp2_with fail
      go_ret
      exact ⟨by rw [hres.out, H64.out, ← HT.out, hT]; rfl, HB.out⟩
  · have q1 : ((k.size : Int) == 64) = false := by simp; omega
    have H64 := Lib.hid h64
    clear h64 hs
    go_enter Tryd.func28, Tryd.ntmps28
    go_wp2_with fail
    go_ret
    exact ⟨by rw [hres.out, decide_eq_false H64.out]; rfl, Gw.refl _⟩
set_option maxHeartbeats 4000000 in
set_option maxRecDepth 100000 in
theorem boundedG (e : Ent) (w : World) : Calls Tryd.prog 29 #[.agg (encE e).toArray] w fun r w' => r = .returned (.agg (encE (bnd e)).toArray) ∧ Gw w w' := by
  obtain ⟨key, a, b, c, d⟩ := e
  simp only [encE, bnd]
  go_enter Tryd.func29, Tryd.ntmps29
  go_wp2
  refine bodyPost_ret (results_cell_row rfl _ _ (w.heap.size + 1) 31 _ (0, 0) _ rfl (by rw [show w.heap.size + 1 = (w.alloc (.cells #[.string key, .int .i64 (min (max a 0) 61), .int .i64 (min (max b 0) 16383), .int .i64 (min (max c 1) 16384), .int .i64 (min (max d 0) 2147483648)] 31)).heap.size by simp]; exact heap_alloc_new _ _) Tryd.underlying31 rfl (size31 _ _ _ _ _)) rfl ?_
  exact ⟨rfl, ((Gw.refl w).alloc _).alloc _⟩
set_option maxHeartbeats 4000000 in
set_option maxRecDepth 100000 in
theorem rightG (e : Ent) (hz : e.key.size ≤ 9223372036854775807) (w : World) : Calls Tryd.prog 11 #[.agg (encE e).toArray] w fun r w' => r = .returned (.bool (okE e)) ∧ Gw w w' := by
  have K28 := Lib.hid fun W => check_keyG e.key W hz
  have K29 := Lib.hid fun W => boundedG e W
  have HOK : Hid (okE e = ((Sh.keyBytes e.key.data.toList).isSome && decide (e = bnd e))) := rfl
  obtain ⟨W1, hW1⟩ : ∃ W1, W1 = w.alloc (.cells (encE e).toArray 31) := ⟨_, rfl⟩
  have B1 : Hid (Gw w W1) := by rw [hW1]; exact (Gw.refl _).alloc _
  have lt1 : w.heap.size < W1.heap.size := by rw [hW1]; simp
  obtain ⟨key, a, b, c, d⟩ := e
  simp only [encE, bnd] at hW1 K29 ⊢
  have cl : ∀ j u, (encE ⟨key, a, b, c, d⟩)[j]? = some u → W1.cell? ⟨w.heap.size, j, none⟩ = some u := fun j u hj => by
    rw [hW1]
    simp only [encE] at hj
    rw [World.cell?_alloc_new]
    simpa using hj
  have cg : ∀ n os j, (grow (W1.drewN n) os).cell? ⟨w.heap.size, j, none⟩ = W1.cell? ⟨w.heap.size, j, none⟩ := fun n os j => by
    rw [cell?_grow _ _ _ (by exact lt1)]
    rfl
  have x0 : ∀ n os, (grow (W1.drewN n) os).cell? ⟨w.heap.size, 0, none⟩ = some (.string key) := fun n os => by rw [cg]; exact cl _ _ rfl
  have x1 : ∀ n os, (grow (W1.drewN n) os).cell? ⟨w.heap.size, 1, none⟩ = some (.int .i64 a) := fun n os => by rw [cg]; exact cl _ _ rfl
  have x2 : ∀ n os, (grow (W1.drewN n) os).cell? ⟨w.heap.size, 2, none⟩ = some (.int .i64 b) := fun n os => by rw [cg]; exact cl _ _ rfl
  have x3 : ∀ n os, (grow (W1.drewN n) os).cell? ⟨w.heap.size, 3, none⟩ = some (.int .i64 c) := fun n os => by rw [cg]; exact cl _ _ rfl
  have x4 : ∀ n os, (grow (W1.drewN n) os).cell? ⟨w.heap.size, 4, none⟩ = some (.int .i64 d) := fun n os => by rw [cg]; exact cl _ _ rfl
  have mixed : Tryd.prog.follows Departure.mixedOrders = true := by kernel_rfl
  clear cl cg
  cases hk : (Sh.keyBytes key.data.toList).isSome with
  | false =>
    simp only [hk] at K28
    have HO2 : Hid (okE ⟨key, a, b, c, d⟩ = false) := by show _ = _; rw [HOK.out]; simp only [hk, Bool.false_and]
    clear hk HOK
    go_enter Tryd.func11, Tryd.ntmps11
    go_wp2_with fail
    rw [← hW1]
    clear hW1
    go_quiet_grown (first | (go_at_call 28; refine Calls.grown_of (K28.out _)) | (go_at_call 29; refine Calls.grown_of (K29.out _)))
    go_wp2_with fail
    go_ret
    exact ⟨by rw [HO2.out]; rfl, Gw.trans B1.out ⟨_, _, rfl⟩⟩
  | true =>
    simp only [hk] at K28
    obtain ⟨B, hB⟩ : ∃ B, B = decide ((⟨key, a, b, c, d⟩ : Ent) = bnd ⟨key, a, b, c, d⟩) := ⟨_, rfl⟩
    have HO2 : Hid (okE ⟨key, a, b, c, d⟩ = B) := by show _ = _; rw [HOK.out, hB]; simp only [hk, Bool.true_and]
    have KE : ∀ W, (binOp .eql 31 (.agg #[.string key, .int .i64 a, .int .i64 b, .int .i64 c, .int .i64 d]) (.agg #[.string key, .int .i64 (min (max a 0) 61), .int .i64 (min (max b 0) 16383), .int .i64 (min (max c 1) 16384), .int .i64 (min (max d 0) 2147483648)])).run Tryd.prog W = .ok (.bool B) W := fun W => by
      rw [hB]
      exact eq_ent ⟨key, a, b, c, d⟩ (bnd ⟨key, a, b, c, d⟩) W
    clear hB hk HOK
    go_enter Tryd.func11, Tryd.ntmps11
    go_wp2_with fail
    rw [← hW1]
    clear hW1
    go_quiet_grown (first | (go_at_call 28; refine Calls.grown_of (K28.out _)) | (go_at_call 29; refine Calls.grown_of (K29.out _)))
    go_wp2_with fail
    go_ret
    exact ⟨by rw [HO2.out]; rfl, Gw.trans B1.out ⟨_, _, rfl⟩⟩
end Go.Proofs.YtpcmminokhmkjaaDoor.St
