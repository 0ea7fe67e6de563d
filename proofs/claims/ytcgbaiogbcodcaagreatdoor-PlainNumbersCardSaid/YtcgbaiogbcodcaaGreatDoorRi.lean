/-
  The contract of the document's own test of a page. Conditions: each law's own.
-/
import Derived.Test.YtcgbaiogbcodcaaGreatDoorRh
namespace Go.Proofs.YtcgbaiogbcodcaaGreatDoor.Sh
open Go.RowKit Go.Lib Lb

/-- the cells at an address read as ints -/
def Zrw (w : World) (ao : Option Addr) (l : List Int) : Prop :=
  l ≠ [] → ∃ b o, ao = some ⟨b, o, none⟩ ∧ b < w.heap.size ∧ ∀ j (h : j < l.length), w.cell? ⟨b, o + j, none⟩ = some (.int .i64 l[j])
theorem zrw_cell {w : World} {ao : Option Addr} {l : List Int} (h : Zrw w ao l) (i : Nat) (hi : i < l.length) : ∃ b o, ao = some ⟨b, o, none⟩ ∧ b < w.heap.size ∧ ∀ j y, l[j]? = some y → w.cell? ⟨b, o + j, none⟩ = some (.int .i64 y) := by
  obtain ⟨b, o, h1, h2, h3⟩ := h (by intro h0; rw [h0] at hi; simp at hi)
  refine ⟨b, o, h1, h2, fun j y hy => ?_⟩
  obtain ⟨hj, rfl⟩ := List.getElem?_eq_some_iff.1 hy
  exact h3 j hj
/-- a page's rows, each may be, as far as i -/
def PageTo (a : List Int) (k : List ByteArray) (i : Nat) : Prop := (∀ n ∈ a.take i, within n 1 1024) ∧ (∀ j x y, j + 1 < i → a[j]? = some x → a[j + 1]? = some y → x < y) ∧ KeysTo k i
theorem pageTo_zero (a : List Int) (k : List ByteArray) : PageTo a k 0 := ⟨fun n hn => by simp at hn, fun j x y hj => by omega, fun n hn => by simp at hn⟩
theorem pageTo_more {a : List Int} {k : List ByteArray} {i : Nat} {y : Int} {s : ByteArray} (h : PageTo a k i) (hy : a[i]? = some y) (hs : k[i]? = some s) (hw : within y 1 1024) (ho : keyOk s) (hr : ∀ j z, i = j + 1 → a[j]? = some z → z < y) : PageTo a k (i + 1) := by
  refine ⟨fun n hn => ?_, fun j x z hj h1 h2 => ?_, keysTo_more h.2.2 hs ho⟩
  · rw [List.take_add_one, hy] at hn
    simp only [Option.toList_some, List.mem_append, List.mem_singleton] at hn
    rcases hn with hn | rfl
    · exact h.1 n hn
    · exact hw
  · rcases Nat.lt_or_ge (j + 1) i with h3 | h3
    · exact h.2.1 j x z h3 h1 h2
    · obtain rfl : i = j + 1 := by omega
      rw [hy] at h2
      injection h2 with h2
      subst h2
      exact hr j x rfl h1
theorem rise_one {a : List Int} {j : Nat} {y z : Int} (hz : a[j]? = some z) (h : ¬ y ≤ z) : ∀ j' z', j + 1 = j' + 1 → a[j']? = some z' → z' < y := fun j' z' hj h' => by
  obtain rfl : j' = j := by omega
  rw [hz] at h'
  injection h' with h'
  omega
theorem ords_int : Ords ltI := by
  constructor <;> intros <;> simp_all [ltI] <;> omega
theorem pageTo_all {a : List Int} {k : List ByteArray} (h : PageTo a k a.length) (h1 : a.length ≤ 32) (h2 : k.length = a.length) : OkPage ⟨a, k⟩ :=
  { most := h1, same := h2
    nums := fun n hn => h.1 n (by rw [List.take_length]; exact hn)
    rising := su_of_next ltI ords_int a fun i hi => by
      have := h.2.1 i a[i] a[i + 1] hi (List.getElem?_eq_getElem _) (List.getElem?_eq_getElem _)
      simpa [ltI] using this
    keys := fun s hs => h.2.2 s (by rw [← h2, List.take_length]; exact hs) }
end Go.Proofs.YtcgbaiogbcodcaaGreatDoor.Sh
