/-
  The contracts of sha's and the document's Write, of every digest. Conditions: words and bytes are at most 2^47 - 128 bytes; the tables of sha stand in memory.
-/
import Derived.Test.YtekaboomhljdoaaGreatDoorWk
import Derived.Test.YtekaboomhljdoaaGreatDoorWn
import Derived.Test.YtekaboomhljdoaaGreatDoorWq
namespace Go.Proofs.YtekaboomhljdoaaGreatDoor.Sh
open Go.RowKit Go.Lib

/-- what a digest's bytes take -/
def Fits (s : Sha) (p : Nat) : Prop := s.H.length * 4 ≤ 140737488355328 ∧ s.B.length ≤ 140737488355328 ∧ p ≤ 140737488355200
/-- a value answered that reads as s -/
def Ans (w : World) (s : Sha) (e : Ending) (w' : World) : Prop := Below w.heap.size w w' ∧ ∃ v hx cx bx dx, e = .returned v ∧ ShaV w' v s hx cx bx dx
theorem write_any (v : Value) (s : Sha) (ha : Option Addr) (hc : Nat) (ba : Option Addr) (bc : Nat) (b : List UInt8) (bo : Option Addr) (p c : Nat) (w : World) (hl : Lay w) (h : ShaV w v s ha hc ba bc)
    (hb : Byt w bo b) (hbn : bo = none → c = 0) (hp : b.length = p) (hpc : p ≤ c) (hcc : c ≤ 9223372036854775807) (hf : Fits s p) : Calls Tryz.prog 98 #[v, .slice bo p c] w (Ans w (wr s b)) := by
  rw [h.val]
  obtain ⟨f1, f2, f3⟩ := hf
  by_cases hk : chk s = true
  · obtain ⟨k1, k2⟩ := (chk_iff s).1 hk
    have e : wr s b = ⟨(feed s.H (s.B ++ b)).1, (feed s.H (s.B ++ b)).2, (s.N + p) % 18446744073709551616⟩ := by rw [wr, if_pos hk, hp]
    rw [e, k1]
    by_cases hg : s.B.length + p < 64
    · exact write_short ha hc ba _ bc s.N s.H s.B b bo p c w h.wrd k1 h.byt h.bnil rfl k2 h.num hb hbn hp hpc hcc hg
    · exact write_long ha hc ba _ bc s.N s.H s.B b bo p c w hl h.wrd k1 h.byt h.bnil rfl k2 h.num hb hbn hp hpc hcc f3 (by omega)
  · have e : wr s b = s := by rw [wr, if_neg hk]
    rw [e]
    exact write_bad ha _ hc ba _ bc s.N s.H s.B bo p c w h.wrd h.hnil rfl h.byt h.bnil rfl (by omega) h.num (by simpa [chk] using hk) f1 f2
theorem refwrite_any (v : Value) (s : Sha) (ha : Option Addr) (hc : Nat) (ba : Option Addr) (bc : Nat) (b : List UInt8) (bo : Option Addr) (p c : Nat) (w : World) (h : ShaV w v s ha hc ba bc)
    (hb : Byt w bo b) (hbn : bo = none → c = 0) (hp : b.length = p) (hf : Fits s p) : Calls Tryz.prog 69 #[v, .slice bo p c] w (Ans w (wr s b)) := by
  rw [h.val]
  obtain ⟨f1, f2, f3⟩ := hf
  by_cases hk : chk s = true
  · obtain ⟨k1, k2⟩ := (chk_iff s).1 hk
    have e : wr s b = ⟨(feed s.H (s.B ++ b)).1, (feed s.H (s.B ++ b)).2, (s.N + p) % 18446744073709551616⟩ := by rw [wr, if_pos hk, hp]
    rw [e, k1]
    exact refwrite_good ha hc ba _ bc s.N s.H s.B b bo p c w h.wrd k1 h.byt h.bnil rfl k2 h.num hb hbn hp f3
  · have e : wr s b = s := by rw [wr, if_neg hk]
    rw [e]
    refine (refwrite_bad ha _ hc ba _ bc s.N bo p c w (by omega) h.num (by simpa [chk] using hk)).mono fun e w' ⟨hb', he⟩ => ?_
    exact ⟨hb', _, ha, hc, ba, bc, he, { h.below hb' with val := rfl }⟩
end Go.Proofs.YtekaboomhljdoaaGreatDoor.Sh
