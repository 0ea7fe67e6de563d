/-
  The contracts of obj's PutMeta, PutListing, PutPage, PutRoot. Conditions: each law's own.
-/
import Derived.Test.YtcgbaiogbcodcaaGreatDoorOf
namespace Go.Proofs.YtcgbaiogbcodcaaGreatDoor.Sh
open Go.RowKit Go.Lib Lb

theorem nameOk_len (s : ByteArray) (h : nameOk s) : s.data.toList.length ≤ 100 := by
  unfold nameOk Go.Proofs.YtcgbaiogbcodcaaGreatDoor.Nm.checkL at h
  by_cases h1 : s.data.toList.length ≤ 100
  · exact h1
  · exfalso
    split at h
    · cases h
    · rw [if_pos (by omega)] at h
      cases h
theorem bys_mono {w W : World} {l : List UInt8} {e : Ending} {w' : World} (hW : Below w.heap.size w W) (h : Bys W l e w') : Bys w l e w' := by
  obtain ⟨hb, v, he, ho⟩ := h
  exact ⟨below_chain hW hb, v, he, Own.low ho hW.size⟩
theorem putR_mono {w W : World} {ok : Prop} {l : List UInt8} {e : Ending} {w' : World} (hW : Below w.heap.size w W) (h : PutR W ok l e w') : PutR w ok l e w' := by
  obtain ⟨hb, ⟨hk, v, he, ho⟩ | h2⟩ := h
  · exact ⟨below_chain hW hb, .inl ⟨hk, v, he, Own.low ho hW.size⟩⟩
  · exact ⟨below_chain hW hb, .inr h2⟩
set_option maxHeartbeats 1000000 in
set_option maxRecDepth 100000 in
theorem oputlisting_any (o : Bool) (sv zv : Option Addr) (sn sc zn zc : Nat) (ls : List ByteArray) (lz : List Int) (w : World) (hz : Zrw w zv lz) (hlz : lz.length = zn) (hzc : zn ≤ zc) (hzcc : zc ≤ 9223372036854775807) (h : Srw w sv ls) (hl : ls.length = sn) (hc : sn ≤ sc) (hcc : sc ≤ 9223372036854775807) :
    Calls Tryz.prog 54 #[.agg #[.bool o, .slice sv sn sc, .slice zv zn zc]] w (PutR w (OkList ltB nameOk ⟨o, ls, lz⟩) (listL ⟨o, ls, lz⟩)) := by
  obtain ⟨w1, hw1⟩ : ∃ w1, w1 = w.alloc (.cells #[.bool o, .slice sv sn sc, .slice zv zn zc] 99) := ⟨_, rfl⟩
  obtain ⟨w2, hw2⟩ : ∃ w2, w2 = w1.alloc (.cells #[.iface 4 (.bool o), .iface 34 (.slice sv sn sc), .iface 130 (.slice zv zn zc)] 20) := ⟨_, rfl⟩
  have s1 : w1.heap.size = w.heap.size + 1 := by rw [hw1]; simp
  have b1 : Below w.heap.size w w1 := by rw [hw1]; exact (Below.refl _ w).alloc (Nat.le_refl _) _
  have b2 : Below w.heap.size w w2 := by rw [hw2]; exact b1.alloc b1.size _
  have hV : Vrw w2 (some ⟨w1.heap.size, 0, none⟩) [.iface 4 (.bool o), .iface 34 (.slice sv sn sc), .iface 130 (.slice zv zn zc)] := by rw [hw2]; exact vrw_lit w1 [.iface 4 (.bool o), .iface 34 (.slice sv sn sc), .iface 130 (.slice zv zn zc)] 20
  rw [s1] at hV
  have hP : OkList ltB nameOk ⟨o, ls, lz⟩ → ∀ W, Below w2.heap.size w2 W → Calls Tryz.prog 90 #[.slice (some ⟨w.heap.size + 1, 0, none⟩) 3 3] W (Bys W (listL ⟨o, ls, lz⟩)) := fun hk W hW => by
    have hls : [flagL o, manyL textL ls, lz.flatMap numL].flatten = listL ⟨o, ls, lz⟩ := by simp [listL, manyL]
    rw [← hls]
    have h2 := list_len ltB nameOk nameOk_len _ hk
    have h3 : (lz.flatMap numL).length + (ls.flatMap textL).length ≤ (listL ⟨o, ls, lz⟩).length := by
      simp only [listL, List.length_append]
      omega
    have hnum : ∀ x ∈ lz, 0 ≤ x ∧ x < 9223372036854775808 := fun x hx => by
      have := hk.nums x hx
      unfold within at this
      omega
    have hnam : ∀ x ∈ ls, x.size ≤ 1000000 := fun x hx => by
      have h1 := nameOk_len x (hk.names x hx)
      have h2 : x.data.toList.length = x.size := Array.length_toList
      omega
    refine put_fields _ [.iface 4 (.bool o), .iface 34 (.slice sv sn sc), .iface 130 (.slice zv zn zc)] [flagL o, manyL textL ls, lz.flatMap numL] 3 3 W (hV.below hW) rfl (Nat.le_refl _) (by omega) (Encs.below ?_ hW) (by rw [hls]; have := list_len ltB nameOk nameOk_len _ hk; omega)
    exact encs_cons (enc_bool _ o) (encs_cons (fun W hW => bytesof_strings sv ls sn sc W ((h.below b2).below hW) hl hc hcc hnam (by omega)) (encs_cons (fun W hW => bytesof_nums zv lz zn zc W ((hz.below b2).below hW) hlz hzc hzcc hnum (by omega)) (encs_nil _)))
  have CA := Lib.hid (written_listing o (.slice sv sn sc) (.slice zv zn zc) (some ⟨w.heap.size + 1, 0, none⟩) 3 3 w2 (OkList ltB nameOk ⟨o, ls, lz⟩) (listL ⟨o, ls, lz⟩) (fun W hW => checklisting_any o sv zv sn sc zn zc ls lz W ((hz.below b2).below hW) hlz hzc hzcc ((h.below b2).below hW) hl hc hcc) hP)
  have HW1 := Lib.hid hw1
  have HW2 := Lib.hid hw2
  have B2 := Lib.hid b2
  clear s1 b1 b2 hV hP hw1 hw2 hz hlz hzc hzcc h hl hc hcc
  go_enter Tryz.func54, Tryz.ntmps54
  go_wp2_with fail
  rw [← HW1.out, ← HW2.out]
  refine CA.out.mono ?_
  clear CA
  intro e w4 h4
  obtain ⟨hb, ⟨hk, v, rfl, ho⟩ | ⟨hk, rfl⟩⟩ := putR_mono B2.out h4
  · have HB := Lib.hid hb
    have HO := Lib.hid ho
    have HK := Lib.hid hk
    clear hb ho hk h4
    go_wp2_with fail
    go_ret2
    exact ⟨HB.out, .inl ⟨HK.out, _, rfl, HO.out⟩⟩
  · have HB := Lib.hid hb
    have HK := Lib.hid hk
    clear hb hk h4
    go_wp2_with fail
    go_ret2
    exact ⟨HB.out, .inr ⟨HK.out, rfl⟩⟩
set_option maxHeartbeats 1000000 in
set_option maxRecDepth 100000 in
theorem oputmeta_any (k a b d : Int) (t : ByteArray) (av rv : Option Addr) (an ac rn rc : Nat) (la : List (ByteArray × List UInt8)) (lr : List RefP) (w : World) (ht : t.size ≤ 9223372036854775807) (ha : Arw w av la) (hla : la.length = an) (hac : an ≤ ac) (hacc : ac ≤ 9223372036854775807) (hr : Rrw w rv lr) (hlr : lr.length = rn) (hrc : rn ≤ rc) (hrcc : rc ≤ 9223372036854775807) :
    Calls Tryz.prog 53 #[.agg #[.int .i64 k, .int .i64 a, .int .i64 b, .int .i64 d, .string t, .slice av an ac, .slice rv rn rc]] w (PutR w (OkMeta ltB nameOk ⟨k, a, b, d, t, la, lr⟩) (metaL ⟨k, a, b, d, t, la, lr⟩)) := by
  obtain ⟨w1, hw1⟩ : ∃ w1, w1 = w.alloc (.cells #[.int .i64 k, .int .i64 a, .int .i64 b, .int .i64 d, .string t, .slice av an ac, .slice rv rn rc] 96) := ⟨_, rfl⟩
  obtain ⟨w2, hw2⟩ : ∃ w2, w2 = w1.alloc (.cells #[.iface 25 (.int .i64 k), .iface 3 (.int .i64 a), .iface 3 (.int .i64 b), .iface 3 (.int .i64 d), .iface 9 (.string t), .iface 36 (.slice av an ac), .iface 94 (.slice rv rn rc)] 20) := ⟨_, rfl⟩
  have s1 : w1.heap.size = w.heap.size + 1 := by rw [hw1]; simp
  have b1 : Below w.heap.size w w1 := by rw [hw1]; exact (Below.refl _ w).alloc (Nat.le_refl _) _
  have b2 : Below w.heap.size w w2 := by rw [hw2]; exact b1.alloc b1.size _
  have hV : Vrw w2 (some ⟨w1.heap.size, 0, none⟩) [.iface 25 (.int .i64 k), .iface 3 (.int .i64 a), .iface 3 (.int .i64 b), .iface 3 (.int .i64 d), .iface 9 (.string t), .iface 36 (.slice av an ac), .iface 94 (.slice rv rn rc)] := by rw [hw2]; exact vrw_lit w1 [.iface 25 (.int .i64 k), .iface 3 (.int .i64 a), .iface 3 (.int .i64 b), .iface 3 (.int .i64 d), .iface 9 (.string t), .iface 36 (.slice av an ac), .iface 94 (.slice rv rn rc)] 20
  rw [s1] at hV
  have hP : OkMeta ltB nameOk ⟨k, a, b, d, t, la, lr⟩ → ∀ W, Below w2.heap.size w2 W → Calls Tryz.prog 90 #[.slice (some ⟨w.heap.size + 1, 0, none⟩) 7 7] W (Bys W (metaL ⟨k, a, b, d, t, la, lr⟩)) := fun hk W hW => by
    have hls : [numL k, numL a, numL b, numL d, textL t, manyL attrL la, manyL refL lr].flatten = metaL ⟨k, a, b, d, t, la, lr⟩ := by simp [metaL]
    rw [← hls]
    have h2 := meta_len ltB nameOk nameOk_len _ hk
    have h3 : (textL t).length + (la.flatMap attrL).length + (lr.flatMap refL).length ≤ (metaL ⟨k, a, b, d, t, la, lr⟩).length := by
      simp only [metaL, manyL, List.length_append]
      omega
    have h4 : t.size ≤ (textL t).length := by
      have : t.data.toList.length = t.size := Array.length_toList
      simp only [textL, dataL, List.length_append]
      omega
    obtain ⟨i1, i2, i3, i4, _⟩ := (okMeta_iff k a b d t la lr).1 hk
    unfold within at i1 i2 i3 i4
    have hatt : ∀ x ∈ la, x.1.size ≤ 1000000 ∧ x.2.length ≤ 1000000 := fun x hx => by
      have h1 := nameOk_len x.1 (hk.names x hx)
      have h2 : x.1.data.toList.length = x.1.size := Array.length_toList
      have h3 := hk.values x hx
      omega
    refine put_fields _ [.iface 25 (.int .i64 k), .iface 3 (.int .i64 a), .iface 3 (.int .i64 b), .iface 3 (.int .i64 d), .iface 9 (.string t), .iface 36 (.slice av an ac), .iface 94 (.slice rv rn rc)] [numL k, numL a, numL b, numL d, textL t, manyL attrL la, manyL refL lr] 7 7 W (hV.below hW) rfl (Nat.le_refl _) (by omega) (Encs.below ?_ hW) (by rw [hls]; have := meta_len ltB nameOk nameOk_len _ hk; omega)
    exact encs_cons (enc_kind _ k (by omega) (by omega)) (encs_cons (enc_int _ a (by omega) (by omega)) (encs_cons (enc_int _ b (by omega) (by omega)) (encs_cons (enc_int _ d (by omega) (by omega)) (encs_cons (enc_string _ t (by omega)) (encs_cons (fun W hW => bytesof_attrs av la an ac W ((ha.below b2).below hW) hla hac hacc hatt (by omega)) (encs_cons (fun W hW => bytesof_refs rv lr rn rc W ((hr.below b2).below hW) hlr hrc hrcc hk.refs (by omega)) (encs_nil _)))))))
  have CA := Lib.hid (written_meta k a b d t (.slice av an ac) (.slice rv rn rc) (some ⟨w.heap.size + 1, 0, none⟩) 7 7 w2 (OkMeta ltB nameOk ⟨k, a, b, d, t, la, lr⟩) (metaL ⟨k, a, b, d, t, la, lr⟩) (fun W hW => checkmeta_any k a b d t av rv an ac rn rc la lr W ht ((ha.below b2).below hW) hla hac hacc ((hr.below b2).below hW) hlr hrc hrcc) hP)
  have HW1 := Lib.hid hw1
  have HW2 := Lib.hid hw2
  have B2 := Lib.hid b2
  clear s1 b1 b2 hV hP hw1 hw2 ht ha hla hac hacc hr hlr hrc hrcc
  go_enter Tryz.func53, Tryz.ntmps53
  go_wp2_with fail
  rw [← HW1.out, ← HW2.out]
  refine CA.out.mono ?_
  clear CA
  intro e w4 h4
  obtain ⟨hb, ⟨hk, v, rfl, ho⟩ | ⟨hk, rfl⟩⟩ := putR_mono B2.out h4
  · have HB := Lib.hid hb
    have HO := Lib.hid ho
    have HK := Lib.hid hk
    clear hb ho hk h4
    go_wp2_with fail
    go_ret2
    exact ⟨HB.out, .inl ⟨HK.out, _, rfl, HO.out⟩⟩
  · have HB := Lib.hid hb
    have HK := Lib.hid hk
    clear hb hk h4
    go_wp2_with fail
    go_ret2
    exact ⟨HB.out, .inr ⟨HK.out, rfl⟩⟩
end Go.Proofs.YtcgbaiogbcodcaaGreatDoor.Sh
