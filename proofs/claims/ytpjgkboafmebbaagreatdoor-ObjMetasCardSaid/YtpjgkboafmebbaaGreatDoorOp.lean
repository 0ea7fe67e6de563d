/-
  What was read is written again as it was: the contract of the law's function (f9). Condition: the library's variable errors.errorType is as its text lays it.
-/
import Derived.Test.YtpjgkboafmebbaaGreatDoorOo
namespace Go.Proofs.YtpjgkboafmebbaaGreatDoor.Sh
open Go.RowKit Go.Lib Lb
/-- an answer of a Put: these bytes -/
def PutOk (w : World) (l : List UInt8) (e : Ending) (w' : World) : Prop :=
  Below w.heap.size w w' ∧ ∃ a c, e = .returned (.tuple #[.slice a l.length c, .int .i64 0]) ∧ l.length ≤ c ∧ c ≤ 9223372036854775807 ∧ Byt w' a l ∧ (a = none → c = 0)
theorem again_root {l : List UInt8} {x : RootP} {B : Nat} {w : World} {v : Value} (hx : getRoot l = some x) (hv : VRoot B w x v) :
    ∃ ao n c, v = .agg #[.int .i64 x.next, .slice ao n c] ∧ ∀ W, Below w.heap.size w W → Calls Tryz.prog 13 #[.agg #[.int .i64 x.next, .slice ao n c]] W (PutOk W l) := by
  obtain ⟨ho, hl⟩ := (getRoot_iff l x).1 hx
  obtain ⟨u, rfl, hu⟩ := hv
  obtain ⟨ao, c, rfl, h1, h2, _, h3⟩ := ownG_srw hu
  refine ⟨ao, _, c, rfl, fun W hb => (oputroot_any x.next ao _ c x.pages W (h3.below hb) rfl h1 h2 (fun s hs => by have := key_size s (ho.keys s hs); omega)).mono ?_⟩
  intro e w' h
  rw [← hl]
  exact putR_ok h ho
theorem again_page {l : List UInt8} {x : PageP} {B : Nat} {w : World} {v : Value} (hx : getPage l = some x) (hv : VPage B w x v) :
    ∃ ao n c bo m d, v = .agg #[.slice ao n c, .slice bo m d] ∧ ∀ W, Below w.heap.size w W → Calls Tryz.prog 12 #[.agg #[.slice ao n c, .slice bo m d]] W (PutOk W l) := by
  obtain ⟨ho, hl⟩ := (getPage_iff l x).1 hx
  obtain ⟨u, t, rfl, hu, ht⟩ := hv
  obtain ⟨ao, c, rfl, h1, h2, _, h3⟩ := ownG_zrw hu
  obtain ⟨bo, d, rfl, k1, k2, _, k3⟩ := ownG_srw ht
  refine ⟨ao, _, c, bo, _, d, rfl, fun W hb => (oputpage_any ao bo _ c _ d x.nums x.keys W (h3.below hb) rfl h1 h2 (k3.below hb) rfl k1 k2 (fun s hs => by have := key_size s (ho.keys s hs); omega)).mono ?_⟩
  intro e w' h
  rw [← hl]
  exact putR_ok h ho
theorem again_list {l : List UInt8} {x : ListP} {B : Nat} {w : World} {v : Value} (hx : getList ltB nameOk l = some x) (hv : VList B w x v) :
    ∃ ao n c bo m d, v = .agg #[.bool x.opq, .slice ao n c, .slice bo m d] ∧ ∀ W, Below w.heap.size w W → Calls Tryz.prog 11 #[.agg #[.bool x.opq, .slice ao n c, .slice bo m d]] W (PutOk W l) := by
  obtain ⟨ho, hl⟩ := (getList_iff ltB nameOk nameOk_len l x).1 hx
  obtain ⟨u, t, rfl, hu, ht⟩ := hv
  obtain ⟨ao, c, rfl, h1, h2, _, h3⟩ := ownG_srw hu
  obtain ⟨bo, d, rfl, k1, k2, _, k3⟩ := ownG_zrw ht
  refine ⟨ao, _, c, bo, _, d, rfl, fun W hb => (oputlisting_any x.opq ao bo _ c _ d x.names x.nums W (k3.below hb) rfl k1 k2 (h3.below hb) rfl h1 h2).mono ?_⟩
  intro e w' h
  rw [← hl]
  exact putR_ok h ho
theorem okRef_size {r : RefP} (h : okRef r) : r.key.size ≤ 9223372036854775807 := by
  rcases h with ⟨h, _⟩ | ⟨h, _⟩
  · have := key_size _ h; omega
  · rw [h]; decide
theorem okTarget_size {m : MetaP} (h : OkMeta ltB nameOk m) : m.target.size ≤ 9223372036854775807 := by
  have := h.target
  split at this
  · omega
  · rw [this]; decide
theorem again_meta {l : List UInt8} {x : MetaP} {B : Nat} {w : World} {v : Value} (hx : getMeta ltB nameOk l = some x) (hv : VMeta B w x v) :
    ∃ ao n c bo m d, v = .agg #[.int .i64 x.kind, .int .i64 x.mode, .int .i64 x.links, .int .i64 x.size, .string x.target, .slice ao n c, .slice bo m d] ∧ ∀ W, Below w.heap.size w W → Calls Tryz.prog 10 #[.agg #[.int .i64 x.kind, .int .i64 x.mode, .int .i64 x.links, .int .i64 x.size, .string x.target, .slice ao n c, .slice bo m d]] W (PutOk W l) := by
  obtain ⟨ho, hl⟩ := (getMeta_iff ltB nameOk nameOk_len l x).1 hx
  obtain ⟨u, t, rfl, hu, ht⟩ := hv
  obtain ⟨ao, c, rfl, h1, h2, _, h3⟩ := ownA_arw hu (fun a ha => by have := nameOk_len _ (ho.names a ha); have e : a.1.size = a.1.data.toList.length := Array.length_toList.symm
                                                                    omega)
  obtain ⟨bo, d, rfl, k1, k2, _, k3⟩ := ownG_rrw ht (fun r hr => okRef_size (ho.refs r hr))
  refine ⟨ao, _, c, bo, _, d, rfl, fun W hb => (oputmeta_any x.kind x.mode x.links x.size x.target ao bo _ c _ d x.attrs x.refs W (okTarget_size ho) (h3.below hb) rfl h1 h2 (k3.below hb) rfl k1 k2).mono ?_⟩
  intro e w' h
  rw [← hl]
  exact putR_ok h ho
set_option maxHeartbeats 16000000 in
set_option maxRecDepth 100000 in
/-- what was read is written again as it was -/
theorem again_any (ao : Option Addr) (c : Nat) (l : List UInt8) (w : World) (hb : Byt w ao l) (hn : ao = none → c = 0) (hc : l.length ≤ c) (hm : c ≤ 9223372036854775807) (hf : ∀ a, ao = some a → a.block < w.heap.size) (he : ErrT w) :
    Calls Tryz.prog 9 #[.slice ao l.length c] w fun e w' => e = .returned (.bool true) ∧ Below w.heap.size w w' := by
  have HD := Lib.hid (fun W (h : Below w.heap.size w W) => heads_any W (he.below h))
  by_cases h4 : l.length ≤ 40000
  · have G0 := Lib.hid (fun W (h : Below w.heap.size w W) => oget_meta ao l.length c l W (hb.below h) hn rfl hc hm (by omega) (fun a ha => Nat.lt_of_lt_of_le (hf a ha) h.size) (he.below h))
    have G1 := Lib.hid (fun W (h : Below w.heap.size w W) => oget_listing ao l.length c l W (hb.below h) hn rfl hc hm (by omega) (fun a ha => Nat.lt_of_lt_of_le (hf a ha) h.size) (he.below h))
    have G2 := Lib.hid (fun W (h : Below w.heap.size w W) => oget_page ao l.length c l W (hb.below h) hn rfl hc hm (by omega) (fun a ha => Nat.lt_of_lt_of_le (hf a ha) h.size) (he.below h))
    have G3 := Lib.hid (fun W (h : Below w.heap.size w W) => oget_root ao l.length c l W (hb.below h) hn rfl hc hm (by omega) (fun a ha => Nat.lt_of_lt_of_le (hf a ha) h.size) (he.below h))
    have Y := Lib.hid hb
    have HN := Lib.hid hn
    have b0 := Lib.hid (Below.refl w.heap.size w)
    have d1 : decide ((40000 : Int) < (l.length : Int)) = false := decide_eq_false (by omega)
    have d2 : decide ((40000 : Nat) < l.length) = false := decide_eq_false (by omega)
    clear hb hn hc hm hf he
    go_enter Tryz.func9, Tryz.ntmps9
    go_wp2_with fail
    refine (G0.out _ b0.out).mono ?_
    intro e wa ha
    obtain ⟨hb, ⟨hnn, rfl⟩ | ⟨x, v, hx, rfl, hv⟩⟩ := ha
    · have ba0 := Lib.hid (below_alloc (below_chain b0.out hb) (.cells #[.int .i64 0, .int .i64 0, .int .i64 0, .int .i64 0, .string ⟨#[]⟩, .slice none 0 0, .slice none 0 0] 26))
      clear hb hnn b0
      go_wp2_with fail
      refine (G1.out _ ba0.out).mono ?_
      intro e wa ha
      obtain ⟨hb, ⟨hnn, rfl⟩ | ⟨x, v, hx, rfl, hv⟩⟩ := ha
      · have ba1 := Lib.hid (below_alloc (below_chain ba0.out hb) (.cells #[.bool false, .slice none 0 0, .slice none 0 0] 30))
        clear hb hnn ba0
        go_wp2_with fail
        refine (G2.out _ ba1.out).mono ?_
        intro e wa ha
        obtain ⟨hb, ⟨hnn, rfl⟩ | ⟨x, v, hx, rfl, hv⟩⟩ := ha
        · have ba2 := Lib.hid (below_alloc (below_chain ba1.out hb) (.cells #[.slice none 0 0, .slice none 0 0] 33))
          clear hb hnn ba1
          go_wp2_with fail
          refine (G3.out _ ba2.out).mono ?_
          intro e wa ha
          obtain ⟨hb, ⟨hnn, rfl⟩ | ⟨x, v, hx, rfl, hv⟩⟩ := ha
          · have ba3 := Lib.hid (below_alloc (below_chain ba2.out hb) (.cells #[.int .i64 0, .slice none 0 0] 35))
            clear hb hnn ba2
            go_wp2_with fail
            refine (HD.out _ ba3.out).mono ?_
            rintro e wz ⟨rfl, hz⟩
            have hz2 := below_chain ba3.out hz
            go_wp2_with fail
            go_ret
            exact ⟨rfl, hz2⟩
          · obtain ⟨q1, n1, c1, rfl, hp⟩ := again_root hx hv
            have ba3 := Lib.hid (below_alloc (below_chain ba2.out hb) (.cells #[.int .i64 x.next, .slice q1 n1 c1] 35))
            have PA := Lib.hid (hp _ ((Below.refl _ wa).alloc (Nat.le_refl _) (.cells #[.int .i64 x.next, .slice q1 n1 c1] 35)))
            clear hx hv hp hb ba2
            go_wp2_with fail
            refine PA.out.mono ?_
            clear PA
            rintro e wb ⟨hb, qa, qc, rfl, p1, p2, p3, p4⟩
            have bb3 := Lib.hid (below_chain ba3.out hb)
            have S := Lib.hid (same_any qa ao l l qc c wb p3 (Y.out.below bb3.out) p4 HN.out)
            clear p1 p2 p3 p4 hb ba3
            go_wp2_with fail
            refine S.out.mono ?_
            clear S
            rintro e wc ⟨rfl, rfl⟩
            simp only [decide_true]
            go_wp2_with fail
            refine (HD.out _ bb3.out).mono ?_
            rintro e wz ⟨rfl, hz⟩
            have hz2 := below_chain bb3.out hz
            go_wp2_with fail
            go_ret
            exact ⟨rfl, hz2⟩
        · obtain ⟨q1, n1, c1, q2, n2, c2, rfl, hp⟩ := again_page hx hv
          have ba2 := Lib.hid (below_alloc (below_chain ba1.out hb) (.cells #[.slice q1 n1 c1, .slice q2 n2 c2] 33))
          have PA := Lib.hid (hp _ ((Below.refl _ wa).alloc (Nat.le_refl _) (.cells #[.slice q1 n1 c1, .slice q2 n2 c2] 33)))
          clear hx hv hp hb ba1
          go_wp2_with fail
          refine PA.out.mono ?_
          clear PA
          rintro e wb ⟨hb, qa, qc, rfl, p1, p2, p3, p4⟩
          have bb2 := Lib.hid (below_chain ba2.out hb)
          have S := Lib.hid (same_any qa ao l l qc c wb p3 (Y.out.below bb2.out) p4 HN.out)
          clear p1 p2 p3 p4 hb ba2
          go_wp2_with fail
          refine S.out.mono ?_
          clear S
          rintro e wc ⟨rfl, rfl⟩
          simp only [decide_true]
          go_wp2_with fail
          refine (G3.out _ bb2.out).mono ?_
          intro e wa ha
          obtain ⟨hb, ⟨hnn, rfl⟩ | ⟨x, v, hx, rfl, hv⟩⟩ := ha
          · have ba3 := Lib.hid (below_alloc (below_chain bb2.out hb) (.cells #[.int .i64 0, .slice none 0 0] 35))
            clear hb hnn bb2
            go_wp2_with fail
            refine (HD.out _ ba3.out).mono ?_
            rintro e wz ⟨rfl, hz⟩
            have hz2 := below_chain ba3.out hz
            go_wp2_with fail
            go_ret
            exact ⟨rfl, hz2⟩
          · obtain ⟨q1, n1, c1, rfl, hp⟩ := again_root hx hv
            have ba3 := Lib.hid (below_alloc (below_chain bb2.out hb) (.cells #[.int .i64 x.next, .slice q1 n1 c1] 35))
            have PA := Lib.hid (hp _ ((Below.refl _ wa).alloc (Nat.le_refl _) (.cells #[.int .i64 x.next, .slice q1 n1 c1] 35)))
            clear hx hv hp hb bb2
            go_wp2_with fail
            refine PA.out.mono ?_
            clear PA
            rintro e wb ⟨hb, qa, qc, rfl, p1, p2, p3, p4⟩
            have bb3 := Lib.hid (below_chain ba3.out hb)
            have S := Lib.hid (same_any qa ao l l qc c wb p3 (Y.out.below bb3.out) p4 HN.out)
            clear p1 p2 p3 p4 hb ba3
            go_wp2_with fail
            refine S.out.mono ?_
            clear S
            rintro e wc ⟨rfl, rfl⟩
            simp only [decide_true]
            go_wp2_with fail
            refine (HD.out _ bb3.out).mono ?_
            rintro e wz ⟨rfl, hz⟩
            have hz2 := below_chain bb3.out hz
            go_wp2_with fail
            go_ret
            exact ⟨rfl, hz2⟩
      · obtain ⟨q1, n1, c1, q2, n2, c2, rfl, hp⟩ := again_list hx hv
        have ba1 := Lib.hid (below_alloc (below_chain ba0.out hb) (.cells #[.bool x.opq, .slice q1 n1 c1, .slice q2 n2 c2] 30))
        have PA := Lib.hid (hp _ ((Below.refl _ wa).alloc (Nat.le_refl _) (.cells #[.bool x.opq, .slice q1 n1 c1, .slice q2 n2 c2] 30)))
        clear hx hv hp hb ba0
        go_wp2_with fail
        refine PA.out.mono ?_
        clear PA
        rintro e wb ⟨hb, qa, qc, rfl, p1, p2, p3, p4⟩
        have bb1 := Lib.hid (below_chain ba1.out hb)
        have S := Lib.hid (same_any qa ao l l qc c wb p3 (Y.out.below bb1.out) p4 HN.out)
        clear p1 p2 p3 p4 hb ba1
        go_wp2_with fail
        refine S.out.mono ?_
        clear S
        rintro e wc ⟨rfl, rfl⟩
        simp only [decide_true]
        go_wp2_with fail
        refine (G2.out _ bb1.out).mono ?_
        intro e wa ha
        obtain ⟨hb, ⟨hnn, rfl⟩ | ⟨x, v, hx, rfl, hv⟩⟩ := ha
        · have ba2 := Lib.hid (below_alloc (below_chain bb1.out hb) (.cells #[.slice none 0 0, .slice none 0 0] 33))
          clear hb hnn bb1
          go_wp2_with fail
          refine (G3.out _ ba2.out).mono ?_
          intro e wa ha
          obtain ⟨hb, ⟨hnn, rfl⟩ | ⟨x, v, hx, rfl, hv⟩⟩ := ha
          · have ba3 := Lib.hid (below_alloc (below_chain ba2.out hb) (.cells #[.int .i64 0, .slice none 0 0] 35))
            clear hb hnn ba2
            go_wp2_with fail
            refine (HD.out _ ba3.out).mono ?_
            rintro e wz ⟨rfl, hz⟩
            have hz2 := below_chain ba3.out hz
            go_wp2_with fail
            go_ret
            exact ⟨rfl, hz2⟩
          · obtain ⟨q1, n1, c1, rfl, hp⟩ := again_root hx hv
            have ba3 := Lib.hid (below_alloc (below_chain ba2.out hb) (.cells #[.int .i64 x.next, .slice q1 n1 c1] 35))
            have PA := Lib.hid (hp _ ((Below.refl _ wa).alloc (Nat.le_refl _) (.cells #[.int .i64 x.next, .slice q1 n1 c1] 35)))
            clear hx hv hp hb ba2
            go_wp2_with fail
            refine PA.out.mono ?_
            clear PA
            rintro e wb ⟨hb, qa, qc, rfl, p1, p2, p3, p4⟩
            have bb3 := Lib.hid (below_chain ba3.out hb)
            have S := Lib.hid (same_any qa ao l l qc c wb p3 (Y.out.below bb3.out) p4 HN.out)
            clear p1 p2 p3 p4 hb ba3
            go_wp2_with fail
            refine S.out.mono ?_
            clear S
            rintro e wc ⟨rfl, rfl⟩
            simp only [decide_true]
            go_wp2_with fail
            refine (HD.out _ bb3.out).mono ?_
            rintro e wz ⟨rfl, hz⟩
            have hz2 := below_chain bb3.out hz
            go_wp2_with fail
            go_ret
            exact ⟨rfl, hz2⟩
        · obtain ⟨q1, n1, c1, q2, n2, c2, rfl, hp⟩ := again_page hx hv
          have ba2 := Lib.hid (below_alloc (below_chain bb1.out hb) (.cells #[.slice q1 n1 c1, .slice q2 n2 c2] 33))
          have PA := Lib.hid (hp _ ((Below.refl _ wa).alloc (Nat.le_refl _) (.cells #[.slice q1 n1 c1, .slice q2 n2 c2] 33)))
          clear hx hv hp hb bb1
          go_wp2_with fail
          refine PA.out.mono ?_
          clear PA
          rintro e wb ⟨hb, qa, qc, rfl, p1, p2, p3, p4⟩
          have bb2 := Lib.hid (below_chain ba2.out hb)
          have S := Lib.hid (same_any qa ao l l qc c wb p3 (Y.out.below bb2.out) p4 HN.out)
          clear p1 p2 p3 p4 hb ba2
          go_wp2_with fail
          refine S.out.mono ?_
          clear S
          rintro e wc ⟨rfl, rfl⟩
          simp only [decide_true]
          go_wp2_with fail
          refine (G3.out _ bb2.out).mono ?_
          intro e wa ha
          obtain ⟨hb, ⟨hnn, rfl⟩ | ⟨x, v, hx, rfl, hv⟩⟩ := ha
          · have ba3 := Lib.hid (below_alloc (below_chain bb2.out hb) (.cells #[.int .i64 0, .slice none 0 0] 35))
            clear hb hnn bb2
            go_wp2_with fail
            refine (HD.out _ ba3.out).mono ?_
            rintro e wz ⟨rfl, hz⟩
            have hz2 := below_chain ba3.out hz
            go_wp2_with fail
            go_ret
            exact ⟨rfl, hz2⟩
          · obtain ⟨q1, n1, c1, rfl, hp⟩ := again_root hx hv
            have ba3 := Lib.hid (below_alloc (below_chain bb2.out hb) (.cells #[.int .i64 x.next, .slice q1 n1 c1] 35))
            have PA := Lib.hid (hp _ ((Below.refl _ wa).alloc (Nat.le_refl _) (.cells #[.int .i64 x.next, .slice q1 n1 c1] 35)))
            clear hx hv hp hb bb2
            go_wp2_with fail
            refine PA.out.mono ?_
            clear PA
            rintro e wb ⟨hb, qa, qc, rfl, p1, p2, p3, p4⟩
            have bb3 := Lib.hid (below_chain ba3.out hb)
            have S := Lib.hid (same_any qa ao l l qc c wb p3 (Y.out.below bb3.out) p4 HN.out)
            clear p1 p2 p3 p4 hb ba3
            go_wp2_with fail
            refine S.out.mono ?_
            clear S
            rintro e wc ⟨rfl, rfl⟩
            simp only [decide_true]
            go_wp2_with fail
            refine (HD.out _ bb3.out).mono ?_
            rintro e wz ⟨rfl, hz⟩
            have hz2 := below_chain bb3.out hz
            go_wp2_with fail
            go_ret
            exact ⟨rfl, hz2⟩
    · obtain ⟨q1, n1, c1, q2, n2, c2, rfl, hp⟩ := again_meta hx hv
      have ba0 := Lib.hid (below_alloc (below_chain b0.out hb) (.cells #[.int .i64 x.kind, .int .i64 x.mode, .int .i64 x.links, .int .i64 x.size, .string x.target, .slice q1 n1 c1, .slice q2 n2 c2] 26))
      have PA := Lib.hid (hp _ ((Below.refl _ wa).alloc (Nat.le_refl _) (.cells #[.int .i64 x.kind, .int .i64 x.mode, .int .i64 x.links, .int .i64 x.size, .string x.target, .slice q1 n1 c1, .slice q2 n2 c2] 26)))
      clear hx hv hp hb b0
      go_wp2_with fail
      refine PA.out.mono ?_
      clear PA
      rintro e wb ⟨hb, qa, qc, rfl, p1, p2, p3, p4⟩
      have bb0 := Lib.hid (below_chain ba0.out hb)
      have S := Lib.hid (same_any qa ao l l qc c wb p3 (Y.out.below bb0.out) p4 HN.out)
      clear p1 p2 p3 p4 hb ba0
      go_wp2_with fail
      refine S.out.mono ?_
      clear S
      rintro e wc ⟨rfl, rfl⟩
      simp only [decide_true]
      go_wp2_with fail
      refine (G1.out _ bb0.out).mono ?_
      intro e wa ha
      obtain ⟨hb, ⟨hnn, rfl⟩ | ⟨x, v, hx, rfl, hv⟩⟩ := ha
      · have ba1 := Lib.hid (below_alloc (below_chain bb0.out hb) (.cells #[.bool false, .slice none 0 0, .slice none 0 0] 30))
        clear hb hnn bb0
        go_wp2_with fail
        refine (G2.out _ ba1.out).mono ?_
        intro e wa ha
        obtain ⟨hb, ⟨hnn, rfl⟩ | ⟨x, v, hx, rfl, hv⟩⟩ := ha
        · have ba2 := Lib.hid (below_alloc (below_chain ba1.out hb) (.cells #[.slice none 0 0, .slice none 0 0] 33))
          clear hb hnn ba1
          go_wp2_with fail
          refine (G3.out _ ba2.out).mono ?_
          intro e wa ha
          obtain ⟨hb, ⟨hnn, rfl⟩ | ⟨x, v, hx, rfl, hv⟩⟩ := ha
          · have ba3 := Lib.hid (below_alloc (below_chain ba2.out hb) (.cells #[.int .i64 0, .slice none 0 0] 35))
            clear hb hnn ba2
            go_wp2_with fail
            refine (HD.out _ ba3.out).mono ?_
            rintro e wz ⟨rfl, hz⟩
            have hz2 := below_chain ba3.out hz
            go_wp2_with fail
            go_ret
            exact ⟨rfl, hz2⟩
          · obtain ⟨q1, n1, c1, rfl, hp⟩ := again_root hx hv
            have ba3 := Lib.hid (below_alloc (below_chain ba2.out hb) (.cells #[.int .i64 x.next, .slice q1 n1 c1] 35))
            have PA := Lib.hid (hp _ ((Below.refl _ wa).alloc (Nat.le_refl _) (.cells #[.int .i64 x.next, .slice q1 n1 c1] 35)))
            clear hx hv hp hb ba2
            go_wp2_with fail
            refine PA.out.mono ?_
            clear PA
            rintro e wb ⟨hb, qa, qc, rfl, p1, p2, p3, p4⟩
            have bb3 := Lib.hid (below_chain ba3.out hb)
            have S := Lib.hid (same_any qa ao l l qc c wb p3 (Y.out.below bb3.out) p4 HN.out)
            clear p1 p2 p3 p4 hb ba3
            go_wp2_with fail
            refine S.out.mono ?_
            clear S
            rintro e wc ⟨rfl, rfl⟩
            simp only [decide_true]
            go_wp2_with fail
            refine (HD.out _ bb3.out).mono ?_
            rintro e wz ⟨rfl, hz⟩
            have hz2 := below_chain bb3.out hz
            go_wp2_with fail
            go_ret
            exact ⟨rfl, hz2⟩
        · obtain ⟨q1, n1, c1, q2, n2, c2, rfl, hp⟩ := again_page hx hv
          have ba2 := Lib.hid (below_alloc (below_chain ba1.out hb) (.cells #[.slice q1 n1 c1, .slice q2 n2 c2] 33))
          have PA := Lib.hid (hp _ ((Below.refl _ wa).alloc (Nat.le_refl _) (.cells #[.slice q1 n1 c1, .slice q2 n2 c2] 33)))
          clear hx hv hp hb ba1
          go_wp2_with fail
          refine PA.out.mono ?_
          clear PA
          rintro e wb ⟨hb, qa, qc, rfl, p1, p2, p3, p4⟩
          have bb2 := Lib.hid (below_chain ba2.out hb)
          have S := Lib.hid (same_any qa ao l l qc c wb p3 (Y.out.below bb2.out) p4 HN.out)
          clear p1 p2 p3 p4 hb ba2
          go_wp2_with fail
          refine S.out.mono ?_
          clear S
          rintro e wc ⟨rfl, rfl⟩
          simp only [decide_true]
          go_wp2_with fail
          refine (G3.out _ bb2.out).mono ?_
          intro e wa ha
          obtain ⟨hb, ⟨hnn, rfl⟩ | ⟨x, v, hx, rfl, hv⟩⟩ := ha
          · have ba3 := Lib.hid (below_alloc (below_chain bb2.out hb) (.cells #[.int .i64 0, .slice none 0 0] 35))
            clear hb hnn bb2
            go_wp2_with fail
            refine (HD.out _ ba3.out).mono ?_
            rintro e wz ⟨rfl, hz⟩
            have hz2 := below_chain ba3.out hz
            go_wp2_with fail
            go_ret
            exact ⟨rfl, hz2⟩
          · obtain ⟨q1, n1, c1, rfl, hp⟩ := again_root hx hv
            have ba3 := Lib.hid (below_alloc (below_chain bb2.out hb) (.cells #[.int .i64 x.next, .slice q1 n1 c1] 35))
            have PA := Lib.hid (hp _ ((Below.refl _ wa).alloc (Nat.le_refl _) (.cells #[.int .i64 x.next, .slice q1 n1 c1] 35)))
            clear hx hv hp hb bb2
            go_wp2_with fail
            refine PA.out.mono ?_
            clear PA
            rintro e wb ⟨hb, qa, qc, rfl, p1, p2, p3, p4⟩
            have bb3 := Lib.hid (below_chain ba3.out hb)
            have S := Lib.hid (same_any qa ao l l qc c wb p3 (Y.out.below bb3.out) p4 HN.out)
            clear p1 p2 p3 p4 hb ba3
            go_wp2_with fail
            refine S.out.mono ?_
            clear S
            rintro e wc ⟨rfl, rfl⟩
            simp only [decide_true]
            go_wp2_with fail
            refine (HD.out _ bb3.out).mono ?_
            rintro e wz ⟨rfl, hz⟩
            have hz2 := below_chain bb3.out hz
            go_wp2_with fail
            go_ret
            exact ⟨rfl, hz2⟩
      · obtain ⟨q1, n1, c1, q2, n2, c2, rfl, hp⟩ := again_list hx hv
        have ba1 := Lib.hid (below_alloc (below_chain bb0.out hb) (.cells #[.bool x.opq, .slice q1 n1 c1, .slice q2 n2 c2] 30))
        have PA := Lib.hid (hp _ ((Below.refl _ wa).alloc (Nat.le_refl _) (.cells #[.bool x.opq, .slice q1 n1 c1, .slice q2 n2 c2] 30)))
        clear hx hv hp hb bb0
        go_wp2_with fail
        refine PA.out.mono ?_
        clear PA
        rintro e wb ⟨hb, qa, qc, rfl, p1, p2, p3, p4⟩
        have bb1 := Lib.hid (below_chain ba1.out hb)
        have S := Lib.hid (same_any qa ao l l qc c wb p3 (Y.out.below bb1.out) p4 HN.out)
        clear p1 p2 p3 p4 hb ba1
        go_wp2_with fail
        refine S.out.mono ?_
        clear S
        rintro e wc ⟨rfl, rfl⟩
        simp only [decide_true]
        go_wp2_with fail
        refine (G2.out _ bb1.out).mono ?_
        intro e wa ha
        obtain ⟨hb, ⟨hnn, rfl⟩ | ⟨x, v, hx, rfl, hv⟩⟩ := ha
        · have ba2 := Lib.hid (below_alloc (below_chain bb1.out hb) (.cells #[.slice none 0 0, .slice none 0 0] 33))
          clear hb hnn bb1
          go_wp2_with fail
          refine (G3.out _ ba2.out).mono ?_
          intro e wa ha
          obtain ⟨hb, ⟨hnn, rfl⟩ | ⟨x, v, hx, rfl, hv⟩⟩ := ha
          · have ba3 := Lib.hid (below_alloc (below_chain ba2.out hb) (.cells #[.int .i64 0, .slice none 0 0] 35))
            clear hb hnn ba2
            go_wp2_with fail
            refine (HD.out _ ba3.out).mono ?_
            rintro e wz ⟨rfl, hz⟩
            have hz2 := below_chain ba3.out hz
            go_wp2_with fail
            go_ret
            exact ⟨rfl, hz2⟩
          · obtain ⟨q1, n1, c1, rfl, hp⟩ := again_root hx hv
            have ba3 := Lib.hid (below_alloc (below_chain ba2.out hb) (.cells #[.int .i64 x.next, .slice q1 n1 c1] 35))
            have PA := Lib.hid (hp _ ((Below.refl _ wa).alloc (Nat.le_refl _) (.cells #[.int .i64 x.next, .slice q1 n1 c1] 35)))
            clear hx hv hp hb ba2
            go_wp2_with fail
            refine PA.out.mono ?_
            clear PA
            rintro e wb ⟨hb, qa, qc, rfl, p1, p2, p3, p4⟩
            have bb3 := Lib.hid (below_chain ba3.out hb)
            have S := Lib.hid (same_any qa ao l l qc c wb p3 (Y.out.below bb3.out) p4 HN.out)
            clear p1 p2 p3 p4 hb ba3
            go_wp2_with fail
            refine S.out.mono ?_
            clear S
            rintro e wc ⟨rfl, rfl⟩
            simp only [decide_true]
            go_wp2_with fail
            refine (HD.out _ bb3.out).mono ?_
            rintro e wz ⟨rfl, hz⟩
            have hz2 := below_chain bb3.out hz
            go_wp2_with fail
            go_ret
            exact ⟨rfl, hz2⟩
        · obtain ⟨q1, n1, c1, q2, n2, c2, rfl, hp⟩ := again_page hx hv
          have ba2 := Lib.hid (below_alloc (below_chain bb1.out hb) (.cells #[.slice q1 n1 c1, .slice q2 n2 c2] 33))
          have PA := Lib.hid (hp _ ((Below.refl _ wa).alloc (Nat.le_refl _) (.cells #[.slice q1 n1 c1, .slice q2 n2 c2] 33)))
          clear hx hv hp hb bb1
          go_wp2_with fail
          refine PA.out.mono ?_
          clear PA
          rintro e wb ⟨hb, qa, qc, rfl, p1, p2, p3, p4⟩
          have bb2 := Lib.hid (below_chain ba2.out hb)
          have S := Lib.hid (same_any qa ao l l qc c wb p3 (Y.out.below bb2.out) p4 HN.out)
          clear p1 p2 p3 p4 hb ba2
          go_wp2_with fail
          refine S.out.mono ?_
          clear S
          rintro e wc ⟨rfl, rfl⟩
          simp only [decide_true]
          go_wp2_with fail
          refine (G3.out _ bb2.out).mono ?_
          intro e wa ha
          obtain ⟨hb, ⟨hnn, rfl⟩ | ⟨x, v, hx, rfl, hv⟩⟩ := ha
          · have ba3 := Lib.hid (below_alloc (below_chain bb2.out hb) (.cells #[.int .i64 0, .slice none 0 0] 35))
            clear hb hnn bb2
            go_wp2_with fail
            refine (HD.out _ ba3.out).mono ?_
            rintro e wz ⟨rfl, hz⟩
            have hz2 := below_chain ba3.out hz
            go_wp2_with fail
            go_ret
            exact ⟨rfl, hz2⟩
          · obtain ⟨q1, n1, c1, rfl, hp⟩ := again_root hx hv
            have ba3 := Lib.hid (below_alloc (below_chain bb2.out hb) (.cells #[.int .i64 x.next, .slice q1 n1 c1] 35))
            have PA := Lib.hid (hp _ ((Below.refl _ wa).alloc (Nat.le_refl _) (.cells #[.int .i64 x.next, .slice q1 n1 c1] 35)))
            clear hx hv hp hb bb2
            go_wp2_with fail
            refine PA.out.mono ?_
            clear PA
            rintro e wb ⟨hb, qa, qc, rfl, p1, p2, p3, p4⟩
            have bb3 := Lib.hid (below_chain ba3.out hb)
            have S := Lib.hid (same_any qa ao l l qc c wb p3 (Y.out.below bb3.out) p4 HN.out)
            clear p1 p2 p3 p4 hb ba3
            go_wp2_with fail
            refine S.out.mono ?_
            clear S
            rintro e wc ⟨rfl, rfl⟩
            simp only [decide_true]
            go_wp2_with fail
            refine (HD.out _ bb3.out).mono ?_
            rintro e wz ⟨rfl, hz⟩
            have hz2 := below_chain bb3.out hz
            go_wp2_with fail
            go_ret
            exact ⟨rfl, hz2⟩
  · have d1 : decide ((40000 : Int) < (l.length : Int)) = true := decide_eq_true (by omega)
    have d2 : decide ((40000 : Nat) < l.length) = true := decide_eq_true (by omega)
    have b0 := Lib.hid (Below.refl w.heap.size w)
    clear hb hn hc hm hf he
    go_enter Tryz.func9, Tryz.ntmps9
    go_wp2_with fail
    refine (HD.out _ b0.out).mono ?_
    rintro e wz ⟨rfl, hz⟩
    go_wp2_with fail
    go_ret
    exact ⟨rfl, hz⟩
end Go.Proofs.YtpjgkboafmebbaaGreatDoor.Sh
