/-
  The contract of the iterator that slices.Chunk hands back, at this program: 256 bytes a round. Conditions: each law's own.
-/
import Derived.Test.YtohmdcbfffgheaaRc
import Derived.RangeFuncNested
import Derived.RangeFuncBound
import Derived.RangeFuncCalls
import Derived.RangeFuncLeaves
import Derived.Shelf.Abstract
import Derived.Shelf.RegionOpen
import Derived.WalkKit
import Derived.OwnWalkIn
import Derived.TacticsInMore
import Derived.LoopNIn
import Derived.LoopIn
import Derived.Sort.QuietIn
namespace Go.Proofs.Ytohmdcbfffgheaa.Dk
open Go.RowKit Go.Lib Go.Maps Go.Shelf
attribute [local go_sem] Oper.semAt_some

/-- the numbers below N, as far as k -/
def up (N k : Nat) : List { j : Nat // j < N } := (List.range k).filterMap fun j => if h : j < N then some ⟨j, h⟩ else none
theorem up_succ (N k : Nat) (h : k < N) : up N (k + 1) = up N k ++ [⟨k, h⟩] := by simp [up, List.range_succ, List.filterMap_append, h]
theorem up_len (N : Nat) : ∀ k, k ≤ N → (up N k).length = k
  | 0, _ => rfl
  | k + 1, h => by rw [up_succ N k h, List.length_append, up_len N k (by omega)]; rfl
theorem up_map (N : Nat) : ∀ k, k ≤ N → (up N k).map (·.1) = List.range k
  | 0, _ => rfl
  | k + 1, h => by rw [up_succ N k h, List.map_append, up_map N k (by omega), List.range_succ]; rfl
set_option maxRecDepth 100000 in
theorem sl_from (b o m c p : Nat) (hp : p < m) (hm : m ≤ c) (W : World) : (Instr.slice 29 (.slice (some ⟨b, o, none⟩) m c) (some (.int .i64 (p : Int))) none none).run Try.prog W = .ok (.slice (some ⟨b, o + p, none⟩) (m - p) (c - p)) W := by
  have hs := run_slice_l (P := Try.prog) W 29 (some ⟨b, o, none⟩) m c (by rw [Try.underlying29]; rfl) .i64 (p : Int) (by omega) (by omega)
  rw [hs]
  have e1 : ((p : Int)).toNat = p := by omega
  have e3 : Try.prog.elem 29 = 5 := by kernel_rfl
  rw [e1, e3]
  have h9 : ¬ c = p := by omega
  simp [Try.sizeOf5, sliced, Result.andThen, Addr.add, h9]
set_option maxRecDepth 100000 in
theorem sl_three (b o m c p : Nat) (hp : p + 256 ≤ m) (hm : m ≤ c) (W : World) : (Instr.slice 29 (.slice (some ⟨b, o, none⟩) m c) (some (.int .i64 (p : Int))) (some (.int .i64 ((p : Int) + 256))) (some (.int .i64 ((p : Int) + 256)))).run Try.prog W = .ok (.slice (some ⟨b, o + p, none⟩) 256 256) W := by
  have hs := run_slice_lhm (P := Try.prog) W 29 (some ⟨b, o, none⟩) m c (by rw [Try.underlying29]; rfl) .i64 .i64 .i64 (p : Int) ((p : Int) + 256) ((p : Int) + 256) (by omega) (by omega) (by omega) (by omega)
  rw [hs]
  have e1 : ((p : Int)).toNat = p := by omega
  have e2 : ((p : Int) + 256).toNat = p + 256 := by omega
  have e3 : Try.prog.elem 29 = 5 := by kernel_rfl
  rw [e1, e2, e3]
  simp [Try.sizeOf5, sliced, Result.andThen, Addr.add]
/-- what a round keeps: the two boxes that the iterator reads -/
def KB (B1 B2 : Nat) (W W' : World) : Prop := (∀ v, W.cell? ⟨B1, 0, none⟩ = some v → W'.cell? ⟨B1, 0, none⟩ = some v) ∧ ∀ v, W.cell? ⟨B2, 0, none⟩ = some v → W'.cell? ⟨B2, 0, none⟩ = some v
theorem kb_refl (B1 B2 : Nat) (W : World) : KB B1 B2 W W := ⟨fun _ h => h, fun _ h => h⟩
theorem kb_t {B1 B2 : Nat} {A B C : World} (h : KB B1 B2 A B) (k : KB B1 B2 B C) : KB B1 B2 A C := ⟨fun v hv => k.1 v (h.1 v hv), fun v hv => k.2 v (h.2 v hv)⟩
theorem kb_drew {B1 B2 : Nat} {A B : World} (h : KB B1 B2 A B) (q : Nat) : KB B1 B2 A (B.drewN q) := h
theorem kb_b {B1 B2 : Nat} {w : World} (h1 : B1 < w.heap.size) (h2 : B2 < w.heap.size) (W : World) (l : Nat) (o o' : Obj) (hl : w.heap.size ≤ l) (_ : W.heap[l]? = some o) (_ : o.isCells = false) (_ : o.isWalk = false) : KB B1 B2 W (W.putObj l o') :=
  ⟨fun _ hv => (World.cell?_of_block (a := ⟨B1, 0, none⟩) (World.putObj_heap_other (show B1 ≠ l by omega))).trans hv, fun _ hv => (World.cell?_of_block (a := ⟨B2, 0, none⟩) (World.putObj_heap_other (show B2 ≠ l by omega))).trans hv⟩
set_option maxRecDepth 100000 in
set_option maxHeartbeats 4000000 in
theorem chunk48_in (n : Nat) (hn : 1 ≤ n) (l B1 B2 b off cap N M : Nat) (hM : M = 256 * N) (hN : N ≤ 4096) (hcap : M ≤ cap) (J Jx : List { j : Nat // j < N } → World → Prop) (hJ : ∀ s W q, J s W → J s (W.drewN q))
    (hY : ∀ pre x W, J pre W → pre.length < N → YieldAt Fence.wide (n - 1) Try.prog l #[.slice (some ⟨b, off + 256 * x.1, none⟩) 256 256] W fun e W' =>
      (e = .returned (.bool true) ∧ J (pre ++ [x]) W' ∧ KB B1 B2 W W') ∨ (e = .returned (.bool false) ∧ Jx (pre ++ [x]) W'))
    (W : World) (hc1 : W.cell? ⟨B1, 0, none⟩ = some (.slice (some ⟨b, off, none⟩) M cap)) (hc2 : W.cell? ⟨B2, 0, none⟩ = some (.int .i64 256)) (h0 : J [] W) :
    CallsIn Fence.wide n Try.prog 48 #[.func (.yield l) #[] #[], .pointer (some ⟨B1, 0, none⟩), .pointer (some ⟨B2, 0, none⟩)] W fun e W' => (∃ v, e = .returned v) ∧
      ((∃ ys, ys = up N N ∧ J ys W') ∨ (∃ pre, (∃ k, k ≤ N ∧ pre = up N k) ∧ Jx pre W')) := by
  have HM := Lib.hid hM
  have hM2 : M ≤ 1048576 := by omega
  clear hM
  refine callsIn_of_wp Try.func48 rfl trivial ?_ rfl
  simp only [Try.ntmps48, List.size_toArray, List.length_cons, List.length_nil, Nat.reduceAdd, Nat.reduceSub, Array.replicate_succ, Array.replicate_zero, List.push_toArray, List.append_toArray, List.nil_append, List.cons_append]
  gi_wp2
  gi_loopw [4] (fun i wr => ∃ k p : Nat, k ≤ N ∧ Hid (p = 256 * k) ∧ i = .int .i64 (p : Int) ∧ J (up N k) wr ∧ KB B1 B2 W wr)
    (fun i _ => M - (intOf i).toNat)
  case atStart => exact ⟨0, 0, Nat.zero_le _, rfl, rfl, h0, kb_refl _ _ _⟩
  case round =>
    obtain ⟨k, p, hk, hp, rfl, hJs, hnx⟩ := hrel
    have hx1 := hnx.1 _ hc1
    have hx2 := hnx.2 _ hc2
    by_cases hlt : k < N
    · have hpm : p + 256 ≤ M := by have := hp.out; have := HM.out; omega
      have hpm2 : (p : Int) < (M : Int) := by omega
      have hp0 : (0 : Int) ≤ (p : Int) := by omega
      have s1 := sl_from b off M cap p (by omega) hcap
      have s2 := sl_three b off M cap p hpm hcap
      have m1 : min (256 : Int) ((M - p : Nat) : Int) = 256 := by omega
      have w1 : wrap64 ((p : Int) + 256) = (p : Int) + 256 := IntWalk.wrap64_in _ ⟨by omega, by omega⟩
      have hYY := fun q => hY _ ⟨k, hlt⟩ (wr.drewN q) (hJ _ _ q hJs) (by rw [up_len N k hk]; exact hlt)
      dsimp only at hYY
      rw [← hp.out] at hYY
      have HY := Lib.hid hYY
      have HU := Lib.hid (up_succ N k hlt)
      have HB := Lib.hid hnx
      clear hYY hnx hJs
      gi_wp2
      gi_quiet (fail)
      obtain ⟨fn, tmps, assign, body, hy, hR⟩ := HY.out nq
      have HR := Lib.hid hR
      have y1 := hx1
      have y2 := hx2
      change (World.drewN wr nq).cell? _ = _ at y1
      change (World.drewN wr nq).cell? _ = _ at y2
      have HB2 : Hid (KB B1 B2 W (World.drewN wr nq)) := kb_drew HB.out nq
      clear hR hx1 hx2 HY HB
      generalize World.drewN wr nq = wv at *
      clear hY hJ hc1 hc2 h0 hcap hpm
      gi_wp2_with fail
      refine HR.out.mono ?_
      rintro e W3 (⟨rfl, hJ3, hk3⟩ | ⟨rfl, hJx3⟩)
      · have z2 := hk3.2 _ y2
        gi_wp2_with fail
        go_roundw
        case rel => exact ⟨k + 1, p + 256, by omega, by have := hp.out; show _ = _; omega, by go_num, by rw [HU.out]; exact hJ3, kb_t HB2.out hk3⟩
        case measure => simp [intOf]; omega
      · gi_wp2
        refine bodyPost_ret (results_none rfl _ _ _) rfl ?_
        exact ⟨⟨_, rfl⟩, .inr ⟨_, ⟨k + 1, by omega, HU.out.symm⟩, hJx3⟩⟩
    · obtain rfl : k = N := by omega
      obtain rfl : p = M := by rw [hp.out, HM.out]
      gi_wp2
      go_end0
      exact ⟨⟨_, rfl⟩, .inl ⟨_, rfl, hJs⟩⟩
theorem chunk_stops (n : Nat) (hn : 1 ≤ n) (B1 B2 b off cap N M : Nat) (hM : M = 256 * N) (hN : N ≤ 4096) (hcap : M ≤ cap) (w : World) (hB1 : B1 < w.heap.size) (hB2 : B2 < w.heap.size)
    (hc1 : w.cell? ⟨B1, 0, none⟩ = some (.slice (some ⟨b, off, none⟩) M cap)) (hc2 : w.cell? ⟨B2, 0, none⟩ = some (.int .i64 256)) :
    SeqStopsK Fence.wide n Try.prog 48 #[.pointer (some ⟨B1, 0, none⟩), .pointer (some ⟨B2, 0, none⟩)] (fun x : { j : Nat // j < N } => #[Value.slice (some ⟨b, off + 256 * x.1, none⟩) 256 256]) (KB B1 B2) (fun ys => ys = up N N) (fun pre => ∃ k, k ≤ N ∧ pre = up N k) N w := fun l J Jx W hW hJ hJx hY h0 =>
  chunk48_in n hn l B1 B2 b off cap N M hM hN hcap J Jx (fun s W' q hs => hJ s W' _ none hs ⟨rfl, rfl, rfl, Nat.le_refl _, fun _ _ _ => rfl⟩ (fun r e => by cases e)) hY W ((hW.cell (p := ⟨B1, 0, none⟩) hB1).trans hc1) ((hW.cell (p := ⟨B2, 0, none⟩) hB2).trans hc2) h0
end Go.Proofs.Ytohmdcbfffgheaa.Dk
