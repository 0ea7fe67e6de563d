/-
  The cache of a device: a map of sectors. Conditions: each law's own.
-/
import Derived.Test.YtohmdcbfffgheaaWb
import Derived.Maps.OwnSet
import Derived.Maps.OwnOps
import Derived.Maps.Ext
import Derived.Deep.MidRow
namespace Go.Proofs.Ytohmdcbfffgheaa.Dk
open Go.RowKit Go.Lib Go.Maps
/-- a sector as a value -/
def secV (l : List UInt8) : Value := .agg (bs l).toArray
theorem secV_inj {l m : List UInt8} (h : secV l = secV m) : l = m := by
  unfold secV at h
  injection h with h
  have h2 := congrArg Array.toList h
  simp only at h2
  exact bs_inj h2
open Classical in
/-- how a sector's value reads -/
noncomputable def secR (v : Value) : Option (DataW Unit × List MemPlace) := if h : ∃ l : List UInt8, v = secV l then some (.lit (.string h.choose), []) else none
theorem secR_of (l : List UInt8) : secR (secV l) = some (.lit (.string l), []) := by
  unfold secR
  have h : ∃ m : List UInt8, secV l = secV m := ⟨l, rfl⟩
  rw [dif_pos h]
  have e := secV_inj h.choose_spec
  rw [← e]
theorem secR_inv {v : Value} {l : List UInt8} {ps : List MemPlace} (h : secR v = some (.lit (.string l), ps)) : v = secV l ∧ ps = [] := by
  unfold secR at h
  by_cases hx : ∃ m : List UInt8, v = secV m
  · rw [dif_pos hx] at h
    injection h with h
    injection h with h1 h2
    injection h1 with h1
    injection h1 with h1
    exact ⟨by rw [← h1]; exact hx.choose_spec, h2.symm⟩
  · rw [dif_neg hx] at h
    cases h
def zeros : List UInt8 := List.replicate 256 0
theorem zeroV : secV zeros = .agg (Array.replicate 256 (.int .u8 0)) := by
  have e : bs zeros = List.replicate 256 (.int .u8 0) := by
    unfold bs zeros
    rw [List.map_replicate]
    rfl
  unfold secV
  rw [e, List.toArray_replicate]
set_option maxRecDepth 100000 in
theorem zero66 (w : World) : (zeroValue 66).run Try.prog w = .ok (secV zeros) w := by
  rw [zeroV]
  kernel_rfl
theorem lawI : Keyed Try.prog 3 := int_keyed Try.underlying3
theorem keyI (i : Int) (h0 : -9223372036854775808 ≤ i) (h1 : i ≤ 9223372036854775807) : keyOf Try.prog 3 (.int .i64 i) = some (.int .i64 i) := keyOf_int_mk Try.underlying3 (WalkArith.wf_i64 ⟨h0, h1⟩)
/-- what a device's call leaves alone: all but these blocks -/
structure Fr (w w' : World) (N : List Nat) : Prop where
  os : w'.os = w.os
  tape : w'.tape = w.tape
  output : w'.output = w.output
  size : w.heap.size ≤ w'.heap.size
  block : ∀ i, i < w.heap.size → i ∉ N → w'.heap[i]? = w.heap[i]?
theorem Fr.refl (w : World) (N : List Nat) : Fr w w N := ⟨rfl, rfl, rfl, Nat.le_refl _, fun _ _ _ => rfl⟩
theorem Fr.trans {a b c : World} {N : List Nat} (h : Fr a b N) (k : Fr b c N) : Fr a c N :=
  ⟨k.os.trans h.os, k.tape.trans h.tape, k.output.trans h.output, Nat.le_trans h.size k.size, fun i hi hn => (k.block i (Nat.lt_of_lt_of_le hi h.size) hn).trans (h.block i hi hn)⟩
theorem fr_below {w w' : World} (h : Below w.heap.size w w') (N : List Nat) : Fr w w' N := ⟨h.os, h.tape, h.output, h.size, fun i hi _ => h.block i hi⟩
theorem fr_grown {w w' : World} {b : Nat} {N : List Nat} (h : w.grownBy w' (some b)) (hb : b ∈ N) : Fr w w' N := ⟨h.os, h.tape, h.output, h.size, fun i hi hn => h.block i hi (fun e => by injection e with e; exact hn (e ▸ hb))⟩
theorem Fr.below {B : Nat} {w w' : World} {N : List Nat} (h : Fr w w' N) (hB : B ≤ w.heap.size) (hN : ∀ n ∈ N, B ≤ n) : Below B w w' :=
  ⟨h.os, h.tape, h.output, h.size, fun i hi => h.block i (Nat.lt_of_lt_of_le hi hB) (fun hn => by have := hN i hn; omega)⟩
theorem Fr.blk {w w' : World} {N : List Nat} {g : Nat} {cs : List Value} {t : TypeId} (h : Fr w w' N) (hb : Blk w g cs t) (hg : g ∉ N) : Blk w' g cs t := (h.block g hb.lt hg).trans hb
/-- a device with its sectors and its cache -/
structure DevS (w : World) (g sa mb : Nat) (S : List (List UInt8)) (low : Int) (k : Nat) (D : DataW Unit) (pw : Bool) (left wr : Int) : Prop where
  dv : Dv w g (some ⟨sa, 0, none⟩) S.length S.length low (some mb) pw left wr
  sec : Blk w sa (S.flatMap bs) 66
  len : ∀ s ∈ S, s.length = 256
  map : w.ownsMap Try.prog 3 secR mb k D
theorem flat_len (S : List (List UInt8)) (h : ∀ s ∈ S, s.length = 256) : (S.flatMap bs).length = S.length * 256 := by
  induction S with
  | nil => rfl
  | cons a S ih =>
    rw [List.flatMap_cons, List.length_append, ih (fun s hs => h s (List.mem_cons_of_mem _ hs)), bs_len, h a List.mem_cons_self, List.length_cons]
    omega
theorem flat_mid : ∀ (S : List (List UInt8)) (_ : ∀ s ∈ S, s.length = 256) (i : Nat) (s : List UInt8) (_ : S[i]? = some s) (j : Nat) (v : Value) (_ : (bs s)[j]? = some v), (S.flatMap bs)[i * 256 + j]? = some v
  | [], _, i, s, hs, _, _, _ => by simp at hs
  | a :: S, h, 0, s, hs, j, v, hv => by
    simp only [List.getElem?_cons_zero, Option.some.injEq] at hs
    subst hs
    rw [List.flatMap_cons, Nat.zero_mul, Nat.zero_add, List.getElem?_append_left (List.getElem?_eq_some_iff.1 hv).1]
    exact hv
  | a :: S, h, i + 1, s, hs, j, v, hv => by
    have ha := h a List.mem_cons_self
    rw [List.flatMap_cons, List.getElem?_append_right (by rw [bs_len, ha]; omega), bs_len, ha, show (i + 1) * 256 + j - 256 = i * 256 + j by omega]
    exact flat_mid S (fun s hs => h s (List.mem_cons_of_mem _ hs)) i s (by simpa using hs) j v hv
theorem DevS.range {w : World} {g sa mb : Nat} {S : List (List UInt8)} {low : Int} {k : Nat} {D : DataW Unit} {pw : Bool} {left wr : Int} (h : DevS w g sa mb S low k D pw left wr) {i : Nat} {s : List UInt8} (hs : S[i]? = some s) : w.rangeAt sa (i * 256) (bs s) := fun j v hj => by
  rw [h.sec.cell]
  exact flat_mid S h.len i s hs j v hj
end Go.Proofs.Ytohmdcbfffgheaa.Dk
