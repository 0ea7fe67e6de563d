/-
  The digest of abc, reckoned by the kernel. Nothing of the program.
-/
import Derived.Test.YtekmmafgknnmlaaDoorPa
namespace Go.Proofs.YtekmmafgknnmlaaDoor.Sh
def abc : List UInt8 := [97, 98, 99, 128] ++ List.replicate 59 0 ++ [24]
set_option maxRecDepth 100000 in
theorem into_abc : (into startL abc == [0xba7816bf, 0x8f01cfea, 0x414140de, 0x5dae2223, 0xb00361a3, 0x96177a9c, 0xb410ff61, 0xf20015ad]) = true := by decide +kernel
theorem sum_abc : sumS [97, 98, 99] = beL [0xba7816bf, 0x8f01cfea, 0x414140de, 0x5dae2223, 0xb00361a3, 0x96177a9c, 0xb410ff61, 0xf20015ad] := by
  have h1 : wr newS [97, 98, 99] = ⟨startL, [97, 98, 99], 3⟩ := by
    rw [wr, if_pos (show chk newS = true by decide), show newS.H = startL from rfl, show newS.B = [] from rfl, feed_lt _ _ (by decide)]
    rfl
  have h2 : ([97, 98, 99] : List UInt8) ++ ending 3 = abc := by decide +kernel
  have h3 : abc.length = 64 := by decide +kernel
  have h4 : chk ⟨startL, [97, 98, 99], 3⟩ = true := by decide
  rw [sumS, h1, dn, if_pos h4, wr, if_pos h4]
  show beL (feed startL ([97, 98, 99] ++ ending 3)).1 = _
  rw [h2, feed_ge _ _ (by rw [h3]; decide), List.take_of_length_le (by rw [h3]; decide), feed_lt _ _ (by rw [List.length_drop, h3]; decide), eq_of_beq into_abc]
end Go.Proofs.YtekmmafgknnmlaaDoor.Sh
