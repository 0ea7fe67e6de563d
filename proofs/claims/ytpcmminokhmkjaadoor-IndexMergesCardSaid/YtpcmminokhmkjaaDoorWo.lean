/-
  The contract of sha's Write of a digest that may not be. Conditions: its words and bytes are at most 2^47 bytes each.
-/
import Derived.Test.YtpcmminokhmkjaaDoorWm
namespace Go.Proofs.YtpcmminokhmkjaaDoor.Sh
open Go.RowKit Go.Lib

theorem own_farw {w : World} {B K c6 n : Nat} {a6 : Option Addr} {l : List UInt32} (h : w.ownsRow B 91 1 (.slice a6 n c6) l.length (us l)) (hB : K < B) : ∀ b o, a6 = some ⟨b, o, none⟩ → K < b := fun b o h0 => by
  subst h0
  have := (h.lt b rfl).1
  omega
theorem wrd_set {w : World} {ao : Option Addr} {l : List UInt32} (h : Wrd w ao l) (p : Addr) (u : Value) (hne : ∀ b o, ao = some ⟨b, o, none⟩ → p.block < b) : Wrd (w.setCell p u) ao l := fun hl => by
  obtain ⟨b, o, h1, h2, h3⟩ := h hl
  refine ⟨b, o, h1, by simpa [World.setCell] using h2, fun j hj => ?_⟩
  rw [World.cell?_setCell_other _ _ _ _ (by intro h0; have := hne b o h1; rw [h0] at this; exact absurd this (Nat.lt_irrefl _))]
  exact h3 j hj
theorem copy_fin {w w6 : World} {ha : Option Addr} {hn hc : Nat} {ba : Option Addr} {bn bc N0 N c5 c6 n m : Nat} {a5 a6 : Option Addr} {k : List UInt32} {l : List UInt8} (BX : Bx w w6 ha hn hc ba bn bc N0)
    (W5 : Wrd w6 a5 k) (N5 : a5 = none → c5 = 0) (g1 : k.length ≤ c5) (g2 : c5 ≤ 9223372036854775807) (hne5 : ∀ b o, a5 = some ⟨b, o, none⟩ → w.heap.size + 1 < b)
    (R : Byt w6 a6 l) (N6 : a6 = none → c6 = 0) (h1 : l.length ≤ c6) (h2 : c6 ≤ 9223372036854775807) (hne : ∀ b o, a6 = some ⟨b, o, none⟩ → w.heap.size + 1 < b) (hN : N < 18446744073709551616) (hk : k.length = n) (hl : l.length = m) :
    Blk (((w6.setCell ⟨w.heap.size + 1, 0, none⟩ (.slice a5 n c5)).setCell ⟨w.heap.size + 1, 1, none⟩ (.slice a6 m c6)).setCell ⟨w.heap.size + 1, 2, none⟩ (.int .u64 (N : Int))) (w.heap.size + 1) [.slice a5 n c5, .slice a6 m c6, .int .u64 (N : Int)] 75 ∧
    Below w.heap.size w (((w6.setCell ⟨w.heap.size + 1, 0, none⟩ (.slice a5 n c5)).setCell ⟨w.heap.size + 1, 1, none⟩ (.slice a6 m c6)).setCell ⟨w.heap.size + 1, 2, none⟩ (.int .u64 (N : Int))) ∧
    ShaV (((w6.setCell ⟨w.heap.size + 1, 0, none⟩ (.slice a5 n c5)).setCell ⟨w.heap.size + 1, 1, none⟩ (.slice a6 m c6)).setCell ⟨w.heap.size + 1, 2, none⟩ (.int .u64 (N : Int))) (.agg #[.slice a5 n c5, .slice a6 m c6, .int .u64 (N : Int)]) ⟨k, l, N⟩ a5 c5 a6 c6 := by
  subst hk
  subst hl
  exact ⟨((BX.out.set 0 _).set 1 _).set 2 _, ((BX.low.setCell (Nat.le_succ _) _).setCell (Nat.le_succ _) _).setCell (Nat.le_succ _) _, {
    val := rfl
    wrd := wrd_set (wrd_set (wrd_set W5 _ _ hne5) _ _ hne5) _ _ hne5
    hnil := N5
    hcap := g1
    hmax := g2
    byt := byt_set (byt_set (byt_set R _ _ hne) _ _ hne) _ _ hne
    bnil := N6
    bcap := h1
    bmax := h2
    num := hN }⟩

end Go.Proofs.YtpcmminokhmkjaaDoor.Sh
