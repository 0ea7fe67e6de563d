/-
  The digest of one nought, reckoned by the kernel. Nothing of the program.
-/
import Derived.Test.YtjjcdlbmpopfcaaDoorPa
namespace Go.Proofs.YtjjcdlbmpopfcaaDoor.Sh
def nought : List UInt8 := [0, 128] ++ List.replicate 61 0 ++ [8]
set_option maxRecDepth 100000 in
theorem into_nought : (into startL nought == [0x6e340b9c, 0xffb37a98, 0x9ca544e6, 0xbb780a2c, 0x78901d3f, 0xb3373876, 0x8511a306, 0x17afa01d]) = true := by decide +kernel
theorem sum_nought : sumS [0] = beL [0x6e340b9c, 0xffb37a98, 0x9ca544e6, 0xbb780a2c, 0x78901d3f, 0xb3373876, 0x8511a306, 0x17afa01d] := by
  have h1 : wr newS [0] = ⟨startL, [0], 1⟩ := by
    rw [wr, if_pos (show chk newS = true by decide), show newS.H = startL from rfl, show newS.B = [] from rfl, feed_lt _ _ (by decide)]
    rfl
  have h2 : ([0] : List UInt8) ++ ending 1 = nought := by decide +kernel
  have h3 : nought.length = 64 := by decide +kernel
  have h4 : chk ⟨startL, [0], 1⟩ = true := by decide
  rw [sumS, h1, dn, if_pos h4, wr, if_pos h4]
  show beL (feed startL ([0] ++ ending 1)).1 = _
  rw [h2, feed_ge _ _ (by rw [h3]; decide), List.take_of_length_le (by rw [h3]; decide), feed_lt _ _ (by rw [List.length_drop, h3]; decide), eq_of_beq into_nought]
end Go.Proofs.YtjjcdlbmpopfcaaDoor.Sh
