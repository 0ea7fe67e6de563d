/-
  The contract of the document's own Done, its beginning: what is written behind. No condition but that the digest may be.
-/
import Derived.Test.YtpcmminokhmkjaaDoorWq
namespace Go.Proofs.YtpcmminokhmkjaaDoor.Sh
open Go.RowKit Go.Lib
theorem beL_take (l : List UInt32) (i : Nat) (h : i < l.length) : beL (l.take (i + 1)) = beL (l.take i) ++ be4 (l[i]).toNat := by
  rw [List.take_succ_eq_append_getElem h, beL_app]
  simp [beL]
theorem be4_lit (W : World) (x : UInt32) (a b c d : Int) (h : a = ((x.toNat / 16777216 % 256 : Nat) : Int) ∧ b = ((x.toNat / 65536 % 256 : Nat) : Int) ∧ c = ((x.toNat / 256 % 256 : Nat) : Int) ∧ d = ((x.toNat % 256 : Nat) : Int)) :
    Byt (W.alloc (.cells #[.int .u8 a, .int .u8 b, .int .u8 c, .int .u8 d] 5)) (some ⟨W.heap.size, 0, none⟩) (be4 x.toNat) := fun _ => by
  obtain ⟨rfl, rfl, rfl, rfl⟩ := h
  refine ⟨W.heap.size, 0, rfl, by simp, fun j hj => ?_⟩
  rw [Nat.zero_add, World.cell?_alloc_new]
  rw [be4_len] at hj
  have hj' : j = 0 ∨ j = 1 ∨ j = 2 ∨ j = 3 := by omega
  rcases hj' with rfl | rfl | rfl | rfl <;> simp only [be4, List.getElem_cons_zero, List.getElem_cons_succ, u8_nat _ (Nat.mod_lt _ (show 0 < 256 by decide))] <;> rfl

/-- what a digest's bytes take -/
def Fits (s : Sha) (p : Nat) : Prop := s.H.length * 4 ≤ 140737488355328 ∧ s.B.length ≤ 140737488355328 ∧ p ≤ 140737488355200
/-- a value answered that reads as s -/
def Ans (w : World) (s : Sha) (e : Ending) (w' : World) : Prop := Below w.heap.size w w' ∧ ∃ v hx cx bx dx, e = .returned v ∧ ShaV w' v s hx cx bx dx
theorem refwrite_any (v : Value) (s : Sha) (ha : Option Addr) (hc : Nat) (ba : Option Addr) (bc : Nat) (b : List UInt8) (bo : Option Addr) (p c : Nat) (w : World) (h : ShaV w v s ha hc ba bc)
    (hb : Byt w bo b) (hbn : bo = none → c = 0) (hp : b.length = p) (hf : Fits s p) : Calls Tryd.prog 43 #[v, .slice bo p c] w (Ans w (wr s b)) := by
  rw [h.val]
  obtain ⟨f1, f2, f3⟩ := hf
  by_cases hk : chk s = true
  · obtain ⟨k1, k2⟩ := (chk_iff s).1 hk
    have e : wr s b = ⟨(feed s.H (s.B ++ b)).1, (feed s.H (s.B ++ b)).2, (s.N + p) % 18446744073709551616⟩ := by rw [wr, if_pos hk, hp]
    rw [e, k1]
    exact refwrite_good ha hc ba _ bc s.N s.H s.B b bo p c w h.wrd k1 h.byt h.bnil rfl k2 h.num hb hbn hp f3
  · have e : wr s b = s := by rw [wr, if_neg hk]
    rw [e]
    refine (refwrite_bad ha _ hc ba _ bc s.N bo p c w (by omega) h.num (by simpa [chk] using hk)).mono fun e w' ⟨hb', he⟩ => ?_
    exact ⟨hb', _, ha, hc, ba, bc, he, { h.below hb' with val := rfl }⟩

/-- a row of bytes answered, of the call's own -/
def Row (w : World) (l : List UInt8) (e : Ending) (w' : World) : Prop := Below w.heap.size w w' ∧ ∃ v, e = .returned v ∧ Own w' w.heap.size v l
theorem box1 (w : World) (cs : Array Value) (t : TypeId) (w' : World) (hb : Below (w.heap.size + 1) (w.alloc (.cells cs t)) w') (j : Nat) : w'.cell? ⟨w.heap.size, j, none⟩ = cs[j]? := by
  rw [hb.cell (p := ⟨w.heap.size, j, none⟩) (by show w.heap.size < _; omega), World.cell?_alloc_new]
theorem ending_small (n : Nat) : (ending n).length ≤ 72 := by
  rw [ending_len]
  omega

theorem own_byt8 {w : World} {B : Nat} {v : Value} {l : List UInt8} {n : Nat} (h : Own w B v l) (hl : l.length = n) (hn : 1 ≤ n) : ∃ g cap, v = .slice (some ⟨g, 0, none⟩) n cap ∧ B ≤ g ∧ g < w.heap.size ∧ n ≤ cap ∧ cap ≤ 9223372036854775807 ∧ Byt w (some ⟨g, 0, none⟩) l ∧ w.ownsRow B 5 1 (.slice (some ⟨g, 0, none⟩) n cap) l.length (bs l) := by
  subst hl
  have h' := h
  obtain ⟨ao, c, rfl, h1, h2, h3, _⟩ := own_byt h
  obtain ⟨g, cap, hv, hg1, hg2⟩ := World.ownsRow.form h' (by omega)
  injection hv with e1 e2 e3
  subst e1
  subst e3
  exact ⟨g, c, rfl, hg1, hg2, h1, h2, h3, h'⟩
theorem byt_lit (W : World) (c : UInt8) (n : Int) (h : n = (c.toNat : Int)) : Byt (W.alloc (.cells #[.int .u8 n] 5)) (some ⟨W.heap.size, 0, none⟩) [c] := fun _ => by
  refine ⟨W.heap.size, 0, rfl, by simp, fun j hj => ?_⟩
  obtain rfl : j = 0 := by simpa using hj
  rw [World.cell?_alloc_new]
  simp [h]
theorem rep_snoc (j : Nat) : [(128 : UInt8)] ++ List.replicate j 0 ++ [0] = [128] ++ List.replicate (j + 1) 0 := by
  rw [List.append_assoc, ← List.replicate_succ']

theorem be8_at0 (M : Nat) (hM : M < 18446744073709551616) : ∃ x : UInt8, ((M : Int) / 72057594037927936 = (x.toNat : Int)) ∧ (be8 M).take 1 = (be8 M).take 0 ++ [x] :=
  ⟨(M / 72057594037927936 % 256).toUInt8, by show _ = (((M / 72057594037927936 % 256).toUInt8.toNat : Nat) : Int); rw [UInt8.toNat_ofNat']; omega, by
    have : (be8 M)[0]'(by rw [be8_len]; decide) = (M / 72057594037927936 % 256).toUInt8 := by
      show (M / 4294967296 / 16777216 % 256).toUInt8 = _
      congr 1 <;> omega

    rw [← this, List.take_succ_eq_append_getElem]⟩
theorem be8_at1 (M : Nat) : ∃ x : UInt8, ((M : Int) / 281474976710656 % 256 = (x.toNat : Int)) ∧ (be8 M).take 2 = (be8 M).take 1 ++ [x] :=
  ⟨(M / 281474976710656 % 256).toUInt8, by show _ = (((M / 281474976710656 % 256).toUInt8.toNat : Nat) : Int); rw [UInt8.toNat_ofNat']; omega, by
    have : (be8 M)[1]'(by rw [be8_len]; decide) = (M / 281474976710656 % 256).toUInt8 := by
      show (M / 4294967296 / 65536 % 256).toUInt8 = _
      congr 1 <;> omega

    rw [← this, List.take_succ_eq_append_getElem]⟩
theorem be8_at2 (M : Nat) : ∃ x : UInt8, ((M : Int) / 1099511627776 % 256 = (x.toNat : Int)) ∧ (be8 M).take 3 = (be8 M).take 2 ++ [x] :=
  ⟨(M / 1099511627776 % 256).toUInt8, by show _ = (((M / 1099511627776 % 256).toUInt8.toNat : Nat) : Int); rw [UInt8.toNat_ofNat']; omega, by
    have : (be8 M)[2]'(by rw [be8_len]; decide) = (M / 1099511627776 % 256).toUInt8 := by
      show (M / 4294967296 / 256 % 256).toUInt8 = _
      congr 1 <;> omega

    rw [← this, List.take_succ_eq_append_getElem]⟩
theorem be8_at3 (M : Nat) : ∃ x : UInt8, ((M : Int) / 4294967296 % 256 = (x.toNat : Int)) ∧ (be8 M).take 4 = (be8 M).take 3 ++ [x] :=
  ⟨(M / 4294967296 % 256).toUInt8, by show _ = (((M / 4294967296 % 256).toUInt8.toNat : Nat) : Int); rw [UInt8.toNat_ofNat']; omega, by
    have : (be8 M)[3]'(by rw [be8_len]; decide) = (M / 4294967296 % 256).toUInt8 := by
      show (M / 4294967296 % 256).toUInt8 = _
      congr 1 <;> omega

    rw [← this, List.take_succ_eq_append_getElem]⟩
theorem be8_at4 (M : Nat) : ∃ x : UInt8, ((M : Int) / 16777216 % 256 = (x.toNat : Int)) ∧ (be8 M).take 5 = (be8 M).take 4 ++ [x] :=
  ⟨(M / 16777216 % 256).toUInt8, by show _ = (((M / 16777216 % 256).toUInt8.toNat : Nat) : Int); rw [UInt8.toNat_ofNat']; omega, by
    have : (be8 M)[4]'(by rw [be8_len]; decide) = (M / 16777216 % 256).toUInt8 := by
      show ((M % 4294967296) / 16777216 % 256).toUInt8 = _
      congr 1 <;> omega

    rw [← this, List.take_succ_eq_append_getElem]⟩
theorem be8_at5 (M : Nat) : ∃ x : UInt8, ((M : Int) / 65536 % 256 = (x.toNat : Int)) ∧ (be8 M).take 6 = (be8 M).take 5 ++ [x] :=
  ⟨(M / 65536 % 256).toUInt8, by show _ = (((M / 65536 % 256).toUInt8.toNat : Nat) : Int); rw [UInt8.toNat_ofNat']; omega, by
    have : (be8 M)[5]'(by rw [be8_len]; decide) = (M / 65536 % 256).toUInt8 := by
      show ((M % 4294967296) / 65536 % 256).toUInt8 = _
      congr 1 <;> omega

    rw [← this, List.take_succ_eq_append_getElem]⟩
theorem be8_at6 (M : Nat) : ∃ x : UInt8, ((M : Int) / 256 % 256 = (x.toNat : Int)) ∧ (be8 M).take 7 = (be8 M).take 6 ++ [x] :=
  ⟨(M / 256 % 256).toUInt8, by show _ = (((M / 256 % 256).toUInt8.toNat : Nat) : Int); rw [UInt8.toNat_ofNat']; omega, by
    have : (be8 M)[6]'(by rw [be8_len]; decide) = (M / 256 % 256).toUInt8 := by
      show ((M % 4294967296) / 256 % 256).toUInt8 = _
      congr 1 <;> omega

    rw [← this, List.take_succ_eq_append_getElem]⟩
theorem be8_at7 (M : Nat) : ∃ x : UInt8, ((M : Int) % 256 = (x.toNat : Int)) ∧ (be8 M).take 8 = (be8 M).take 7 ++ [x] :=
  ⟨(M % 256).toUInt8, by show _ = (((M % 256).toUInt8.toNat : Nat) : Int); rw [UInt8.toNat_ofNat']; omega, by
    have : (be8 M)[7]'(by rw [be8_len]; decide) = (M % 256).toUInt8 := by
      show ((M % 4294967296) % 256).toUInt8 = _
      congr 1 <;> omega

    rw [← this, List.take_succ_eq_append_getElem]⟩

set_option maxHeartbeats 8000000 in
set_option maxRecDepth 100000 in
theorem refdone_good (ha : Option Addr) (hc : Nat) (ba : Option Addr) (bc : Nat) (s : Sha) (w : World) (h : ShaV w (.agg #[.slice ha s.H.length hc, .slice ba s.B.length bc, .int .u64 (s.N : Int)]) s ha hc ba bc) (hk : chk s = true) :
    Calls Tryd.prog 42 #[.agg #[.slice ha s.H.length hc, .slice ba s.B.length bc, .int .u64 (s.N : Int)]] w (Row w (dn s)) := by
  obtain ⟨k1, k2⟩ := (chk_iff s).1 hk
  have hf : Fits s (ending s.N).length := ⟨by omega, by omega, by have := ending_small s.N; omega⟩
  have hd : dn s = beL (wr s (ending s.N)).H := by rw [dn, if_pos hk]
  have hw8 := ((chk_iff _).1 (wr_chk s (ending s.N) hk)).1
  have C7 : Hid (∀ W, Below w.heap.size w W → Calls Tryd.prog 55 #[.agg #[.slice ha s.H.length hc, .slice ba s.B.length bc, .int .u64 (s.N : Int)]] W fun e w' => e = .returned (.bool true) ∧ Below W.heap.size W w') := fun W hb => by
    have := refcheck_any _ s ha hc ba bc W (h.below hb)
    rw [hk] at this
    exact this
  have C13 : Hid (∀ W ae p ce, (ending s.N).length = p → Below w.heap.size w W → Byt W ae (ending s.N) → (ae = none → ce = 0) → Calls Tryd.prog 43 #[.agg #[.slice ha s.H.length hc, .slice ba s.B.length bc, .int .u64 (s.N : Int)], .slice ae p ce] W (Ans W (wr s (ending s.N)))) :=
    fun W ae p ce hp hb hby hn => refwrite_any _ s ha hc ba bc (ending s.N) ae _ ce W (h.below hb) hby hn hp (by rw [← hp]; exact hf)
  have HD := Lib.hid hd
  have HW8 := Lib.hid hw8
  have hN2 := h.num
  have hm64 : s.B.length < 64 := by omega
  have hk2 := Lib.hid k2
  clear hd hf hw8 k1 k2 h hk
  obtain ⟨H, B, N⟩ := s
  simp only at *
  obtain ⟨m, hm⟩ : ∃ m, m = B.length := ⟨_, rfl⟩
  rw [← hm] at C7 C13 hm64 hk2 ⊢
  obtain ⟨z, hz⟩ : ∃ z, z = (119 - N % 64) % 64 := ⟨_, rfl⟩
  obtain ⟨M, hM⟩ : ∃ M, M = 8 * N % 18446744073709551616 := ⟨_, rfl⟩
  have hE : Hid (ending N = [128] ++ List.replicate z 0 ++ be8 M) := by show _ = _; rw [ending, ← hz, ← hM]
  have HZ : Hid ((m + (z + 1)) % 64 = 56 ∧ (∀ j, j < z → ¬ (m + (j + 1)) % 64 = 56)) := by
    have := hk2.out
    exact ⟨by omega, fun j hj => by omega⟩
  have hz64 : z < 64 := by omega
  have hMb : M < 18446744073709551616 := by omega
  have eM : IntKind.u64.wrap ((N : Int) * 8) = (M : Int) := by rw [u64_wrap]; omega
  generalize ending N = E at *
  generalize wr ⟨H, B, N⟩ E = S at *
  clear hz hM hm
  go_enter Tryd.func42, Tryd.ntmps42
  go_wp2_with fail
  refine (C7.out _ ((Below.refl _ w).alloc (Nat.le_refl _) _)).mono ?_
  rintro e w1 ⟨rfl, b1⟩
  have b1' : Below (w.heap.size + 1) (w.alloc (.cells #[.slice ha H.length hc, .slice ba m bc, .int .u64 (N : Int)] 75)) w1 := by
    have : (w.alloc (.cells #[.slice ha H.length hc, .slice ba m bc, .int .u64 (N : Int)] 75)).heap.size = w.heap.size + 1 := by simp
    rw [this] at b1
    exact b1
  have K := Lib.hid (fun W (hb : Below w1.heap.size w1 W) j => box1 w _ 75 W (b1'.trans (hb.mono (by have := b1'.size; simp at this; exact this))) j)
  have BL := Lib.hid (below_chain ((Below.refl _ w).alloc (Nat.le_refl _) _) b1)
  have O1 : Hid (Own (w1.alloc (.cells #[.int .u8 128] 5)) w1.heap.size (.slice (some ⟨w1.heap.size, 0, none⟩) 1 1) ([128] ++ List.replicate 0 0)) := own_lit w1 [128] w1.heap.size (Nat.le_refl _) (by decide)
  have hsz1 : w1.heap.size ≤ (w1.alloc (.cells #[.int .u8 128] 5)).heap.size := by simp
  clear b1 b1'
  go_wp2_with fail
  go_loopw [3] (fun v wq => ∃ (j : Nat), j ≤ z ∧ Hid (Own wq w1.heap.size v ([128] ++ List.replicate j 0) ∧ Below w1.heap.size w1 wq)) (fun v _ => 100 - lenOf v)
  case atStart => exact ⟨0, by omega, O1.out, (Below.refl _ w1).alloc (Nat.le_refl _) _⟩
  case round =>
    obtain ⟨j, hj, hwf⟩ := hrel
    obtain ⟨gv, cv, rfl, hv1, hv2, hv3, hv4, hvB, hown⟩ := own_byt8 hwf.out.1 (n := j + 1) (by simp) (by omega)
    have f1 := K.out wr hwf.out.2 1
    simp only [List.getElem?_toArray, List.getElem?_cons_zero, List.getElem?_cons_succ] at f1
    have BQ := Lib.hid hwf.out.2
    obtain ⟨t, ht⟩ : ∃ t, t = j + 1 := ⟨_, rfl⟩
    rw [← ht] at hown hv3 ⊢
    have ht65 : t ≤ 64 := by omega
    by_cases hjz : j < z
    · have dd := HZ.out.2 j hjz
      rw [← ht] at dd
      have d1 : (((m : Int) + (t : Int)) % 64 == 56) = false := by simp; omega
      have d2 : (((m : Int) + (t : Int)) % 64 != 56) = true := by simp; omega
      have lit := Lib.hid (byt_lit wr 0 0 rfl)
      have own1 := Lib.hid (World.ownsRow.alloc hown (.cells #[.int .u8 0] 5))
      have bb := Lib.hid (BQ.out.alloc BQ.out.size (.cells #[.int .u8 0] 5))
      have hone : Hid ([(0 : UInt8)].length = 1) := rfl
      have p1 : ([(128 : UInt8)] ++ List.replicate j 0).length + 1 ≤ 140737488355328 := by simp; omega
      have p2 := bb.out.size
      have hlen : Hid ((([(128 : UInt8)] ++ List.replicate j 0 ++ [0]).length) = t + 1) := by show _ = _; simp; omega
      have HT := Lib.hid ht
      clear dd hown hvB hwf ht
      go_wp2_with (at_builtin; refine wpl_app_len (t := 59) (e := 5) rfl (.tmp 21) (.tmp 22) rfl Tryd.underlying59 info5 w1.heap.size _ ([128] ++ List.replicate j 0) [0] rfl own1.out (some ⟨wr.heap.size, 0, none⟩) 1 1 rfl lit.out (fun h => by cases h) hone p1 p2 ?_; intro v4 w4 hown4 hgrow4)
      have b4 : Below w1.heap.size w1 w4 := bb.out.grown hgrow4 p2 (fun k hk => (own1.out.lt k hk).1)
      obtain ⟨g4, c4, rfl, _, _⟩ := World.ownsRow.form hown4 (by rw [hlen.out]; omega)
      have O4 := Lib.hid hown4
      have B4 := Lib.hid b4
      clear hown4 hgrow4 b4
      go_wp2_with fail
      go_roundw
      case rel => exact ⟨j + 1, by omega, by rw [← rep_snoc]; exact O4.out, B4.out⟩
      case measure => simp only [lenOf, hlen.out]; omega
    · obtain rfl : j = z := by omega
      have d1 : (((m : Int) + (t : Int)) % 64 == 56) = true := by have := HZ.out.1; rw [← ht] at this; simp; omega
      have d2 : (((m : Int) + (t : Int)) % 64 != 56) = false := by have := HZ.out.1; rw [← ht] at this; simp; omega
      have f2 := K.out wr hwf.out.2 2
      simp only [List.getElem?_toArray, List.getElem?_cons_zero, List.getElem?_cons_succ] at f2
      go_wp2_with fail
      obtain ⟨l0, hl0⟩ : ∃ l0, l0 = [(128 : UInt8)] ++ List.replicate j 0 := ⟨_, rfl⟩
      have hL0 : Hid (l0.length = t) := by show _ = _; rw [hl0, ht]; simp
      rw [← hl0] at hown hE hvB
      have O2 : Hid (Own wr w1.heap.size (.slice (some ⟨gv, 0, none⟩) t cv) (l0 ++ (be8 M).take 0)) := by
        show Own _ _ _ _
        rw [List.take_zero, List.append_nil]
        exact hown
      have HT := Lib.hid ht
      have d3 : (((m : Int) + ((j : Int) + 1)) % 64 != 56) = false := by have := d2; rw [ht, Int.natCast_add] at this; exact this
      simp only [d3]
      clear d3 hown hvB hwf ht d1 d2 f1 f2 hv1 hv2 hv3 hv4 HZ hz64 hj hjz O1 hl0
      go_loopw [3, 5] (fun v vi wq => ∃ (k : Nat), k ≤ 8 ∧ vi = .int .i64 (7 - (k : Int)) ∧ Hid (Own wq w1.heap.size v (l0 ++ (be8 M).take k) ∧ Below w1.heap.size w1 wq)) (fun _ vi _ => (RowKit.intOf vi + 1).toNat)
      case atStart => exact ⟨0, by omega, rfl, O2.out, BQ.out⟩
      case round =>
        obtain ⟨k, hk, rfl, hwf⟩ := hrel
        obtain ⟨gv, cv, rfl, hv1, hv2, hv3, hv4, hvB, hown⟩ := own_byt8 hwf.out.1 (n := t + k) (by simp [hL0.out, be8_len] <;> omega) (by have := HT.out; omega)
        have BQ2 := Lib.hid hwf.out.2
        obtain ⟨q, hq⟩ : ∃ q, q = t + k := ⟨_, rfl⟩
        rw [← hq] at hown hv3 ⊢
        by_cases hk8 : k < 8
        · have hkc : k = 0 ∨ k = 1 ∨ k = 2 ∨ k = 3 ∨ k = 4 ∨ k = 5 ∨ k = 6 ∨ k = 7 := by omega
          have hone : Hid ([(0 : UInt8)].length = 1) := rfl
          have p1 : q + 1 ≤ 140737488355328 := by have := HT.out; omega
          have HQ := Lib.hid hq
          have hlq : Hid ((l0 ++ (be8 M).take k).length = q) := by show _ = _; rw [hq]; simp [hL0.out, be8_len] <;> omega
          clear hq hvB hwf
          rcases hkc with rfl | rfl | rfl | rfl | rfl | rfl | rfl | rfl
          · obtain ⟨x, hx, hs⟩ := be8_at0 M hMb
            have lit := Lib.hid (byt_lit wr x ((M : Int) / 72057594037927936) hx)
            have own1 := Lib.hid (World.ownsRow.alloc hown (.cells #[.int .u8 ((M : Int) / 72057594037927936)] 5))
            have bb := Lib.hid (BQ2.out.alloc BQ2.out.size (.cells #[.int .u8 ((M : Int) / 72057594037927936)] 5))
            have p2 := bb.out.size
            have p3 : Hid ((l0 ++ (be8 M).take 0).length + 1 ≤ 140737488355328) := by show _ ≤ _; rw [hlq.out]; exact p1
            have hs' := Lib.hid hs
            clear hs hx hown
            go_wp2_with (at_builtin; refine wpl_app_len (t := 59) (e := 5) rfl (.tmp 31) (.tmp 38) rfl Tryd.underlying59 info5 w1.heap.size _ (l0 ++ (be8 M).take 0) [x] rfl own1.out (some ⟨wr.heap.size, 0, none⟩) 1 1 rfl lit.out (fun h => by cases h) rfl p3.out p2 ?_; intro v4 w4 hown4 hgrow4)
            have b4 : Below w1.heap.size w1 w4 := bb.out.grown hgrow4 p2 (fun k hk => (own1.out.lt k hk).1)
            obtain ⟨g4, c4, rfl, _, _⟩ := World.ownsRow.form hown4 (by rw [List.length_append]; show 0 < _ + 1; omega)
            have O4 := Lib.hid hown4
            have B4 := Lib.hid b4
            clear hown4 hgrow4 b4
            go_wp2_with fail
            go_roundw
            case rel => exact ⟨1, by omega, by first | rfl | simp, by rw [hs'.out, ← List.append_assoc]; exact O4.out, B4.out⟩
            case measure => simp [RowKit.intOf]
          · obtain ⟨x, hx, hs⟩ := be8_at1 M
            have lit := Lib.hid (byt_lit wr x ((M : Int) / 281474976710656 % 256) hx)
            have own1 := Lib.hid (World.ownsRow.alloc hown (.cells #[.int .u8 ((M : Int) / 281474976710656 % 256)] 5))
            have bb := Lib.hid (BQ2.out.alloc BQ2.out.size (.cells #[.int .u8 ((M : Int) / 281474976710656 % 256)] 5))
            have p2 := bb.out.size
            have p3 : Hid ((l0 ++ (be8 M).take 1).length + 1 ≤ 140737488355328) := by show _ ≤ _; rw [hlq.out]; exact p1
            have hs' := Lib.hid hs
            clear hs hx hown
            go_wp2_with (at_builtin; refine wpl_app_len (t := 59) (e := 5) rfl (.tmp 31) (.tmp 38) rfl Tryd.underlying59 info5 w1.heap.size _ (l0 ++ (be8 M).take 1) [x] rfl own1.out (some ⟨wr.heap.size, 0, none⟩) 1 1 rfl lit.out (fun h => by cases h) rfl p3.out p2 ?_; intro v4 w4 hown4 hgrow4)
            have b4 : Below w1.heap.size w1 w4 := bb.out.grown hgrow4 p2 (fun k hk => (own1.out.lt k hk).1)
            obtain ⟨g4, c4, rfl, _, _⟩ := World.ownsRow.form hown4 (by rw [List.length_append]; show 0 < _ + 1; omega)
            have O4 := Lib.hid hown4
            have B4 := Lib.hid b4
            clear hown4 hgrow4 b4
            go_wp2_with fail
            go_roundw
            case rel => exact ⟨2, by omega, by first | rfl | simp, by rw [hs'.out, ← List.append_assoc]; exact O4.out, B4.out⟩
            case measure => simp [RowKit.intOf]
          · obtain ⟨x, hx, hs⟩ := be8_at2 M
            have lit := Lib.hid (byt_lit wr x ((M : Int) / 1099511627776 % 256) hx)
            have own1 := Lib.hid (World.ownsRow.alloc hown (.cells #[.int .u8 ((M : Int) / 1099511627776 % 256)] 5))
            have bb := Lib.hid (BQ2.out.alloc BQ2.out.size (.cells #[.int .u8 ((M : Int) / 1099511627776 % 256)] 5))
            have p2 := bb.out.size
            have p3 : Hid ((l0 ++ (be8 M).take 2).length + 1 ≤ 140737488355328) := by show _ ≤ _; rw [hlq.out]; exact p1
            have hs' := Lib.hid hs
            clear hs hx hown
            go_wp2_with (at_builtin; refine wpl_app_len (t := 59) (e := 5) rfl (.tmp 31) (.tmp 38) rfl Tryd.underlying59 info5 w1.heap.size _ (l0 ++ (be8 M).take 2) [x] rfl own1.out (some ⟨wr.heap.size, 0, none⟩) 1 1 rfl lit.out (fun h => by cases h) rfl p3.out p2 ?_; intro v4 w4 hown4 hgrow4)
            have b4 : Below w1.heap.size w1 w4 := bb.out.grown hgrow4 p2 (fun k hk => (own1.out.lt k hk).1)
            obtain ⟨g4, c4, rfl, _, _⟩ := World.ownsRow.form hown4 (by rw [List.length_append]; show 0 < _ + 1; omega)
            have O4 := Lib.hid hown4
            have B4 := Lib.hid b4
            clear hown4 hgrow4 b4
            go_wp2_with fail
            go_roundw
            case rel => exact ⟨3, by omega, by first | rfl | simp, by rw [hs'.out, ← List.append_assoc]; exact O4.out, B4.out⟩
            case measure => simp [RowKit.intOf]
          · obtain ⟨x, hx, hs⟩ := be8_at3 M
            have lit := Lib.hid (byt_lit wr x ((M : Int) / 4294967296 % 256) hx)
            have own1 := Lib.hid (World.ownsRow.alloc hown (.cells #[.int .u8 ((M : Int) / 4294967296 % 256)] 5))
            have bb := Lib.hid (BQ2.out.alloc BQ2.out.size (.cells #[.int .u8 ((M : Int) / 4294967296 % 256)] 5))
            have p2 := bb.out.size
            have p3 : Hid ((l0 ++ (be8 M).take 3).length + 1 ≤ 140737488355328) := by show _ ≤ _; rw [hlq.out]; exact p1
            have hs' := Lib.hid hs
            clear hs hx hown
            go_wp2_with (at_builtin; refine wpl_app_len (t := 59) (e := 5) rfl (.tmp 31) (.tmp 38) rfl Tryd.underlying59 info5 w1.heap.size _ (l0 ++ (be8 M).take 3) [x] rfl own1.out (some ⟨wr.heap.size, 0, none⟩) 1 1 rfl lit.out (fun h => by cases h) rfl p3.out p2 ?_; intro v4 w4 hown4 hgrow4)
            have b4 : Below w1.heap.size w1 w4 := bb.out.grown hgrow4 p2 (fun k hk => (own1.out.lt k hk).1)
            obtain ⟨g4, c4, rfl, _, _⟩ := World.ownsRow.form hown4 (by rw [List.length_append]; show 0 < _ + 1; omega)
            have O4 := Lib.hid hown4
            have B4 := Lib.hid b4
            clear hown4 hgrow4 b4
            go_wp2_with fail
            go_roundw
            case rel => exact ⟨4, by omega, by first | rfl | simp, by rw [hs'.out, ← List.append_assoc]; exact O4.out, B4.out⟩
            case measure => simp [RowKit.intOf]
          · obtain ⟨x, hx, hs⟩ := be8_at4 M
            have lit := Lib.hid (byt_lit wr x ((M : Int) / 16777216 % 256) hx)
            have own1 := Lib.hid (World.ownsRow.alloc hown (.cells #[.int .u8 ((M : Int) / 16777216 % 256)] 5))
            have bb := Lib.hid (BQ2.out.alloc BQ2.out.size (.cells #[.int .u8 ((M : Int) / 16777216 % 256)] 5))
            have p2 := bb.out.size
            have p3 : Hid ((l0 ++ (be8 M).take 4).length + 1 ≤ 140737488355328) := by show _ ≤ _; rw [hlq.out]; exact p1
            have hs' := Lib.hid hs
            clear hs hx hown
            go_wp2_with (at_builtin; refine wpl_app_len (t := 59) (e := 5) rfl (.tmp 31) (.tmp 38) rfl Tryd.underlying59 info5 w1.heap.size _ (l0 ++ (be8 M).take 4) [x] rfl own1.out (some ⟨wr.heap.size, 0, none⟩) 1 1 rfl lit.out (fun h => by cases h) rfl p3.out p2 ?_; intro v4 w4 hown4 hgrow4)
            have b4 : Below w1.heap.size w1 w4 := bb.out.grown hgrow4 p2 (fun k hk => (own1.out.lt k hk).1)
            obtain ⟨g4, c4, rfl, _, _⟩ := World.ownsRow.form hown4 (by rw [List.length_append]; show 0 < _ + 1; omega)
            have O4 := Lib.hid hown4
            have B4 := Lib.hid b4
            clear hown4 hgrow4 b4
            go_wp2_with fail
            go_roundw
            case rel => exact ⟨5, by omega, by first | rfl | simp, by rw [hs'.out, ← List.append_assoc]; exact O4.out, B4.out⟩
            case measure => simp [RowKit.intOf]
          · obtain ⟨x, hx, hs⟩ := be8_at5 M
            have lit := Lib.hid (byt_lit wr x ((M : Int) / 65536 % 256) hx)
            have own1 := Lib.hid (World.ownsRow.alloc hown (.cells #[.int .u8 ((M : Int) / 65536 % 256)] 5))
            have bb := Lib.hid (BQ2.out.alloc BQ2.out.size (.cells #[.int .u8 ((M : Int) / 65536 % 256)] 5))
            have p2 := bb.out.size
            have p3 : Hid ((l0 ++ (be8 M).take 5).length + 1 ≤ 140737488355328) := by show _ ≤ _; rw [hlq.out]; exact p1
            have hs' := Lib.hid hs
            clear hs hx hown
            go_wp2_with (at_builtin; refine wpl_app_len (t := 59) (e := 5) rfl (.tmp 31) (.tmp 38) rfl Tryd.underlying59 info5 w1.heap.size _ (l0 ++ (be8 M).take 5) [x] rfl own1.out (some ⟨wr.heap.size, 0, none⟩) 1 1 rfl lit.out (fun h => by cases h) rfl p3.out p2 ?_; intro v4 w4 hown4 hgrow4)
            have b4 : Below w1.heap.size w1 w4 := bb.out.grown hgrow4 p2 (fun k hk => (own1.out.lt k hk).1)
            obtain ⟨g4, c4, rfl, _, _⟩ := World.ownsRow.form hown4 (by rw [List.length_append]; show 0 < _ + 1; omega)
            have O4 := Lib.hid hown4
            have B4 := Lib.hid b4
            clear hown4 hgrow4 b4
            go_wp2_with fail
            go_roundw
            case rel => exact ⟨6, by omega, by first | rfl | simp, by rw [hs'.out, ← List.append_assoc]; exact O4.out, B4.out⟩
            case measure => simp [RowKit.intOf]
          · obtain ⟨x, hx, hs⟩ := be8_at6 M
            have lit := Lib.hid (byt_lit wr x ((M : Int) / 256 % 256) hx)
            have own1 := Lib.hid (World.ownsRow.alloc hown (.cells #[.int .u8 ((M : Int) / 256 % 256)] 5))
            have bb := Lib.hid (BQ2.out.alloc BQ2.out.size (.cells #[.int .u8 ((M : Int) / 256 % 256)] 5))
            have p2 := bb.out.size
            have p3 : Hid ((l0 ++ (be8 M).take 6).length + 1 ≤ 140737488355328) := by show _ ≤ _; rw [hlq.out]; exact p1
            have hs' := Lib.hid hs
            clear hs hx hown
            go_wp2_with (at_builtin; refine wpl_app_len (t := 59) (e := 5) rfl (.tmp 31) (.tmp 38) rfl Tryd.underlying59 info5 w1.heap.size _ (l0 ++ (be8 M).take 6) [x] rfl own1.out (some ⟨wr.heap.size, 0, none⟩) 1 1 rfl lit.out (fun h => by cases h) rfl p3.out p2 ?_; intro v4 w4 hown4 hgrow4)
            have b4 : Below w1.heap.size w1 w4 := bb.out.grown hgrow4 p2 (fun k hk => (own1.out.lt k hk).1)
            obtain ⟨g4, c4, rfl, _, _⟩ := World.ownsRow.form hown4 (by rw [List.length_append]; show 0 < _ + 1; omega)
            have O4 := Lib.hid hown4
            have B4 := Lib.hid b4
            clear hown4 hgrow4 b4
            go_wp2_with fail
            go_roundw
            case rel => exact ⟨7, by omega, by first | rfl | simp, by rw [hs'.out, ← List.append_assoc]; exact O4.out, B4.out⟩
            case measure => simp [RowKit.intOf]
          · obtain ⟨x, hx, hs⟩ := be8_at7 M
            have lit := Lib.hid (byt_lit wr x ((M : Int) % 256) hx)
            have own1 := Lib.hid (World.ownsRow.alloc hown (.cells #[.int .u8 ((M : Int) % 256)] 5))
            have bb := Lib.hid (BQ2.out.alloc BQ2.out.size (.cells #[.int .u8 ((M : Int) % 256)] 5))
            have p2 := bb.out.size
            have p3 : Hid ((l0 ++ (be8 M).take 7).length + 1 ≤ 140737488355328) := by show _ ≤ _; rw [hlq.out]; exact p1
            have hs' := Lib.hid hs
            clear hs hx hown
            go_wp2_with (at_builtin; refine wpl_app_len (t := 59) (e := 5) rfl (.tmp 31) (.tmp 38) rfl Tryd.underlying59 info5 w1.heap.size _ (l0 ++ (be8 M).take 7) [x] rfl own1.out (some ⟨wr.heap.size, 0, none⟩) 1 1 rfl lit.out (fun h => by cases h) rfl p3.out p2 ?_; intro v4 w4 hown4 hgrow4)
            have b4 : Below w1.heap.size w1 w4 := bb.out.grown hgrow4 p2 (fun k hk => (own1.out.lt k hk).1)
            obtain ⟨g4, c4, rfl, _, _⟩ := World.ownsRow.form hown4 (by rw [List.length_append]; show 0 < _ + 1; omega)
            have O4 := Lib.hid hown4
            have B4 := Lib.hid b4
            clear hown4 hgrow4 b4
            go_wp2_with fail
            go_roundw
            case rel => exact ⟨8, by omega, by first | rfl | simp, by rw [hs'.out, ← List.append_assoc]; exact O4.out, B4.out⟩
            case measure => simp [RowKit.intOf]
        · obtain rfl : k = 8 := by omega
          have hE8 : l0 ++ (be8 M).take 8 = E := by rw [hE.out, List.take_of_length_le (by rw [be8_len]; decide)]
          rw [hE8] at hvB
          have LE : Hid (E.length = q) := by show _ = _; rw [← hE8, List.length_append, hL0.out, List.length_take, be8_len, hq]; rfl
          have VB := Lib.hid hvB
          have f0 := K.out wr BQ2.out 0
          have f1 := K.out wr BQ2.out 1
          have f2 := K.out wr BQ2.out 2
          simp only [List.getElem?_toArray, List.getElem?_cons_zero, List.getElem?_cons_succ] at f0 f1 f2
          clear hE8 hown hvB hwf hq hv1 hv2 hv3 hv4 hk hk8 O2 HT hE
          go_wp2_with fail
          refine (C13.out wr _ q cv LE.out (below_chain BL.out BQ2.out) VB.out (fun h => by cases h)).mono ?_
          rintro e w3 ⟨b3, v3, hx, cx, bx, dx, rfl, h3⟩
          have h3v := h3.val
          subst h3v
          have BQ3 := Lib.hid (below_chain BQ2.out b3)
          have W3 := Lib.hid h3.wrd
          clear b3 h3 f0 f1 f2
          rw [HW8.out]
          go_wp2_with fail
          obtain ⟨bb, bo2, rfl, hlt, hcell⟩ := W3.out (by have := HW8.out; intro h0; rw [h0] at this; simp at this)
          obtain ⟨g6, hg6⟩ : ∃ g, g = w3.heap.size := ⟨_, rfl⟩
          obtain ⟨W0, hW0⟩ : ∃ W, W = w3.alloc (.cells #[.slice (some ⟨bb, bo2, none⟩) 8 cx, .slice bx S.B.length dx, .int .u64 (S.N : Int)] 75) := ⟨_, rfl⟩
          have hs0 : Hid (W0.heap.size = g6 + 1) := by show _ = _; rw [hW0, hg6]; simp
          have sc0 : Hid (W0.cell? ⟨g6, 0, none⟩ = some (.slice (some ⟨bb, bo2, none⟩) 8 cx)) := by show _ = _; rw [hW0, hg6, World.cell?_alloc_new]; rfl
          have L0 : Hid (Below w3.heap.size w3 W0) := by show Below _ _ _; rw [hW0]; exact (Below.refl _ w3).alloc (Nat.le_refl _) _
          rw [← hg6, ← hW0]
          have HC := Lib.hid hcell
          clear hg6 hW0 hcell
          go_loopw [7, 8] (fun v vi wq => ∃ i : Nat, i ≤ 8 ∧ vi = .int .i64 (i : Int) ∧ Hid (Own wq W0.heap.size v (beL (S.H.take i)) ∧ Below W0.heap.size W0 wq)) (fun _ vi _ => 8 - (RowKit.intOf vi).toNat)
          case atStart => exact ⟨0, by omega, rfl, World.ownsRow_nil _ _ _ _, Below.refl _ _⟩
          case round =>
            obtain ⟨i, hi, rfl, hwf⟩ := hrel
            by_cases hi8 : i < 8
            · have l8 := HW8.out
              have d0 := (hwf.out.2.cell (p := ⟨g6, 0, none⟩) (by rw [hs0.out]; exact Nat.lt_succ_self _)).trans sc0.out
              have d1 := (hwf.out.2.cell (p := ⟨bb, bo2 + i, none⟩) (Nat.lt_of_lt_of_le hlt L0.out.size)).trans ((L0.out.cell (p := ⟨bb, bo2 + i, none⟩) hlt).trans (HC.out i (by omega)))
              have hnx := beL_take S.H i (by omega)
              have hll := beL_len (S.H.take i)
              rw [List.length_take, Nat.min_eq_left (by omega)] at hll
              generalize S.H[i]'(by omega) = x at *
              obtain ⟨acc, hacc⟩ : ∃ acc, acc = beL (S.H.take i) := ⟨_, rfl⟩
              have hown := hwf.out.1
              have hbz := hwf.out.2.size
              have hb := hwf.out.2
              rw [← hacc] at hown hnx hll
              have w8 : ∀ n : Int, IntKind.u8.wrap n = n % 256 := fun n => by simp [IntKind.wrap, IntKind.bits, IntKind.signed]
              have lit := Lib.hid (be4_lit wr x (IntKind.u8.wrap ((x.toNat : Int) / 16777216)) (IntKind.u8.wrap ((x.toNat : Int) / 65536)) (IntKind.u8.wrap ((x.toNat : Int) / 256)) (IntKind.u8.wrap (x.toNat : Int)) (by have := x.toNat_lt; rw [w8, w8, w8, w8]; omega)).drew
              have own1 : Hid (Own (wr.alloc (.cells #[.int .u8 (IntKind.u8.wrap ((x.toNat : Int) / 16777216)), .int .u8 (IntKind.u8.wrap ((x.toNat : Int) / 65536)), .int .u8 (IntKind.u8.wrap ((x.toNat : Int) / 256)), .int .u8 (IntKind.u8.wrap (x.toNat : Int))] 5)).drew W0.heap.size u7 acc) := World.ownsRow.alloc hown _
              have BB := Lib.hid (hb.alloc hbz (.cells #[.int .u8 (IntKind.u8.wrap ((x.toNat : Int) / 16777216)), .int .u8 (IntKind.u8.wrap ((x.toNat : Int) / 65536)), .int .u8 (IntKind.u8.wrap ((x.toNat : Int) / 256)), .int .u8 (IntKind.u8.wrap (x.toNat : Int))] 5)).drew
              have p1 : acc.length + (be4 x.toNat).length ≤ 140737488355328 := by rw [be4_len]; omega
              have p2 := BB.out.size
              have HX := Lib.hid hnx
              have q1 : (0 : Int) ≤ (i : Int) := by omega
              have xl := x.toNat_lt
              have n1 : some g6 ≠ u7.ownBlock := fun h => by have h1 := (hown.lt g6 h.symm).1; have h2 := hs0.out; omega
              have n2 : some bb ≠ u7.ownBlock := fun h => by have h1 := (hown.lt bb h.symm).1; have h2 := L0.out.size; omega
              clear hnx hown hb hacc hll l8 hwf w8
              go_wp2_with fail
              go_region_held3 (fun w' => w'.cell? ⟨g6, 0, none⟩ = some (.slice (some ⟨bb, bo2, none⟩) 8 cx) ∧ w'.cell? ⟨bb, bo2 + i, none⟩ = some (.int .u32 (x.toNat : Int)))
                (first
                  | go_keep
                  | (go_split_ands
                     refine ⟨?_, ?_⟩
                     · exact hgrow1.cell (by assumption) n1
                     · exact hgrow1.cell (by assumption) n2))
                ((refine step_app (t := 59) (e := 5) rfl (.tmp 47) (.tmp 75) rfl Tryd.underlying59 info5 W0.heap.size _ acc (be4 x.toNat) rfl own1.out ⟨wr.heap.size, 0, none⟩ 4 rfl lit.out p1 p2 ?_; intro v1 w1 hown1 hgrow1))
              have hb' : Below W0.heap.size W0 w1 := BB.out.grown hgrow1 p2 (fun k hk => (own1.out.lt k hk).1)
              go_wp2_with fail
              go_roundw
              case rel => exact ⟨i + 1, by omega, by go_num, by rw [HX.out]; exact hown1, hb'⟩
              case measure => simp [RowKit.intOf]; omega
            · obtain rfl : i = 8 := by omega
              have hown := hwf.out.1
              rw [List.take_of_length_le (by rw [HW8.out]; exact Nat.le_refl _), ← HD.out] at hown
              have OF := Lib.hid hown
              have BF := Lib.hid (below_chain BL.out (below_chain BQ3.out (below_chain (L0.out) hwf.out.2)))
              clear hown hwf
              go_wp2_with fail
              go_ret
              exact ⟨BF.out, _, rfl, OF.out.low (by have := BQ3.out.size; have := BL.out.size; have := L0.out.size; omega)⟩
end Go.Proofs.YtpcmminokhmkjaaDoor.Sh
