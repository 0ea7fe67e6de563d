/-
  Every object fits a record, and a listing a file: the contract of the law's function (f3). Condition: the library's variable errors.errorType is as its text lays it.
-/
import Derived.Test.YtpjgkboafmebbaaGreatDoorOq
namespace Go.Proofs.YtpjgkboafmebbaaGreatDoor.Sh
open Go.RowKit Go.Lib Lb
theorem putR_len {w : World} {ok : Prop} {l : List UInt8} {B : Nat} {e : Ending} {w' : World} (h : PutR w ok l e w') (hB : ok → l.length ≤ B) : Below w.heap.size w w' ∧ ∃ a n c k, e = .returned (.tuple #[.slice a n c, .int .i64 k]) ∧ n ≤ B := by
  obtain ⟨hb, ⟨hok, v, rfl, ho⟩ | ⟨_, rfl⟩⟩ := h
  · obtain ⟨a, c, rfl, _⟩ := own_byt ho
    exact ⟨hb, a, _, c, 0, rfl, hB hok⟩
  · exact ⟨hb, none, 0, 0, 80, rfl, Nat.zero_le _⟩
/-- a node as an argument -/
structure MetaIn (w : World) (v : Value) where
  (k a b d : Int) (t : ByteArray) (av rv : Option Addr) (an ac rn rc : Nat) (la : List (ByteArray × List UInt8)) (lr : List RefP)
  val : v = .agg #[.int .i64 k, .int .i64 a, .int .i64 b, .int .i64 d, .string t, .slice av an ac, .slice rv rn rc]
  ht : t.size ≤ 9223372036854775807
  ha : Arw w av la
  hla : la.length = an
  hac : an ≤ ac
  hacc : ac ≤ 9223372036854775807
  hr : Rrw w rv lr
  hlr : lr.length = rn
  hrc : rn ≤ rc
  hrcc : rc ≤ 9223372036854775807
set_option maxHeartbeats 4000000 in
set_option maxRecDepth 100000 in
/-- every object fits -/
theorem fits_any (k a b d : Int) (t : ByteArray) (av rv : Option Addr) (an ac rn rc : Nat) (la : List (ByteArray × List UInt8)) (lr : List RefP)
    (o : Bool) (sv zv : Option Addr) (sn sc zn zc : Nat) (ls : List ByteArray) (lz : List Int)
    (pz pk : Option Addr) (pzn pzc pkn pkc : Nat) (lpz : List Int) (lpk : List ByteArray)
    (nx : Int) (kv : Option Addr) (kn kc : Nat) (lk : List ByteArray) (w : World)
    (ht : t.size ≤ 9223372036854775807) (ha : Arw w av la) (hla : la.length = an) (hac : an ≤ ac) (hacc : ac ≤ 9223372036854775807) (hr : Rrw w rv lr) (hlr : lr.length = rn) (hrc : rn ≤ rc) (hrcc : rc ≤ 9223372036854775807)
    (hz : Zrw w zv lz) (hlz : lz.length = zn) (hzc : zn ≤ zc) (hzcc : zc ≤ 9223372036854775807) (hs : Srw w sv ls) (hls : ls.length = sn) (hsc : sn ≤ sc) (hscc : sc ≤ 9223372036854775807)
    (hpz : Zrw w pz lpz) (hlpz : lpz.length = pzn) (hpzc : pzn ≤ pzc) (hpzcc : pzc ≤ 9223372036854775807) (hpk : Srw w pk lpk) (hlpk : lpk.length = pkn) (hpkc : pkn ≤ pkc) (hpkcc : pkc ≤ 9223372036854775807) (hpsz : ∀ s ∈ lpk, s.size ≤ 9223372036854775807)
    (hk : Srw w kv lk) (hlk : lk.length = kn) (hkc : kn ≤ kc) (hkcc : kc ≤ 9223372036854775807) (hksz : ∀ s ∈ lk, s.size ≤ 9223372036854775807) (he : ErrT w) :
    Calls Tryz.prog 3 #[.agg #[.int .i64 k, .int .i64 a, .int .i64 b, .int .i64 d, .string t, .slice av an ac, .slice rv rn rc], .agg #[.bool o, .slice sv sn sc, .slice zv zn zc], .agg #[.slice pz pzn pzc, .slice pk pkn pkc], .agg #[.int .i64 nx, .slice kv kn kc]] w
      fun e w' => e = .returned (.bool true) ∧ Below w.heap.size w w' := by
  have HD := Lib.hid (fun W (h : Below w.heap.size w W) => heads_any W (he.below h))
  have C1 := Lib.hid (fun W (h : Below w.heap.size w W) => oputmeta_any k a b d t av rv an ac rn rc la lr W ht (ha.below h) hla hac hacc (hr.below h) hlr hrc hrcc)
  have C2 := Lib.hid (fun W (h : Below w.heap.size w W) => oputlisting_any o sv zv sn sc zn zc ls lz W (hz.below h) hlz hzc hzcc (hs.below h) hls hsc hscc)
  have C3 := Lib.hid (fun W (h : Below w.heap.size w W) => oputpage_any pz pk pzn pzc pkn pkc lpz lpk W (hpz.below h) hlpz hpzc hpzcc (hpk.below h) hlpk hpkc hpkcc hpsz)
  have C4 := Lib.hid (fun W (h : Below w.heap.size w W) => oputroot_any nx kv kn kc lk W (hk.below h) hlk hkc hkcc hksz)
  clear he ht ha hla hac hacc hr hlr hrc hrcc hz hlz hzc hzcc hs hls hsc hscc hpz hlpz hpzc hpzcc hpk hlpk hpkc hpkcc hpsz hk hlk hkc hkcc hksz
  obtain ⟨v0, hv0⟩ : ∃ x, x = w.alloc (.cells #[.int .i64 k, .int .i64 a, .int .i64 b, .int .i64 d, .string t, .slice av an ac, .slice rv rn rc] 26) := ⟨_, rfl⟩
  have sv0 : v0.heap.size = w.heap.size + 1 := by rw [hv0]; simp
  have bv0 : Below w.heap.size w v0 := by rw [hv0]; exact (Below.refl _ w).alloc (Nat.le_refl _) _
  have KM0 : Blk v0 w.heap.size [.int .i64 k, .int .i64 a, .int .i64 b, .int .i64 d, .string t, .slice av an ac, .slice rv rn rc] 26 := by rw [hv0]; exact Blk.new w [.int .i64 k, .int .i64 a, .int .i64 b, .int .i64 d, .string t, .slice av an ac, .slice rv rn rc] 26 _ rfl
  obtain ⟨v1, hv1⟩ : ∃ x, x = v0.alloc (.cells #[.bool o, .slice sv sn sc, .slice zv zn zc] 30) := ⟨_, rfl⟩
  have sv1 : v1.heap.size = v0.heap.size + 1 := by rw [hv1]; simp
  have bv1 : Below v0.heap.size v0 v1 := by rw [hv1]; exact (Below.refl _ v0).alloc (Nat.le_refl _) _
  have KL1 : Blk v1 v0.heap.size [.bool o, .slice sv sn sc, .slice zv zn zc] 30 := by rw [hv1]; exact Blk.new v0 [.bool o, .slice sv sn sc, .slice zv zn zc] 30 _ rfl
  obtain ⟨v2, hv2⟩ : ∃ x, x = v1.alloc (.cells #[.slice pz pzn pzc, .slice pk pkn pkc] 33) := ⟨_, rfl⟩
  have sv2 : v2.heap.size = v1.heap.size + 1 := by rw [hv2]; simp
  have bv2 : Below v1.heap.size v1 v2 := by rw [hv2]; exact (Below.refl _ v1).alloc (Nat.le_refl _) _
  have KP2 : Blk v2 v1.heap.size [.slice pz pzn pzc, .slice pk pkn pkc] 33 := by rw [hv2]; exact Blk.new v1 [.slice pz pzn pzc, .slice pk pkn pkc] 33 _ rfl
  obtain ⟨v3, hv3⟩ : ∃ x, x = v2.alloc (.cells #[.int .i64 nx, .slice kv kn kc] 35) := ⟨_, rfl⟩
  have sv3 : v3.heap.size = v2.heap.size + 1 := by rw [hv3]; simp
  have bv3 : Below v2.heap.size v2 v3 := by rw [hv3]; exact (Below.refl _ v2).alloc (Nat.le_refl _) _
  have KR3 : Blk v3 v2.heap.size [.int .i64 nx, .slice kv kn kc] 35 := by rw [hv3]; exact Blk.new v2 [.int .i64 nx, .slice kv kn kc] 35 _ rfl
  have KM1 := KM0.low bv1
  have KM2 := KM1.low bv2
  have KM3 := KM2.low bv3
  have KL2 := KL1.low bv2
  have KL3 := KL2.low bv3
  have KP3 := KP2.low bv3
  have HB := Lib.hid (below_chain (below_chain (below_chain bv0 bv1) bv2) bv3)
  rw [sv0] at KL3
  rw [sv1, sv0] at KP3
  rw [sv2, sv1, sv0] at KR3
  have KL := Lib.hid KL3
  have KP := Lib.hid KP3
  have KR := Lib.hid KR3
  rw [hv3, hv2, hv1, hv0] at HB KL KP KR
  clear bv0 sv0 bv1 sv1 bv2 sv2 bv3 sv3 KM0 KM1 KM2 KM3 KL1 KL2 KL3 KP2 KP3 KR3
  clear hv3
  clear hv2
  clear hv1
  clear hv0
  go_enter Tryz.func3, Tryz.ntmps3
  go_wp2_with fail
  refine (C1.out _ HB.out).mono ?_
  intro e w1 h
  obtain ⟨hb, a0, n0, c0, k0, rfl, hn0⟩ := putR_len h (meta_len ltB nameOk nameOk_len _)
  have HB1 := Lib.hid (below_chain HB.out hb)
  have KL1 := Lib.hid ((KL.out).low hb)
  have KP1 := Lib.hid ((KP.out).low hb)
  have KR1 := Lib.hid ((KR.out).low hb)
  have x0 := KL1.out.cell 0
  have x1 := KL1.out.cell 1
  have x2 := KL1.out.cell 2
  simp only [List.getElem?_cons_zero, List.getElem?_cons_succ] at x0 x1 x2
  clear h hb HB C1 KL KP KR
  go_wp2_with fail
  clear x0 x1 x2
  refine (C2.out _ HB1.out).mono ?_
  intro e w2 h
  obtain ⟨hb, a1, n1, c1, k1, rfl, hn1⟩ := putR_len h (list_len ltB nameOk nameOk_len _)
  have HB2 := Lib.hid (below_chain HB1.out hb)
  have KP2 := Lib.hid ((KP1.out).low hb)
  have KR2 := Lib.hid ((KR1.out).low hb)
  have x0 := KP2.out.cell 0
  have x1 := KP2.out.cell 1
  simp only [List.getElem?_cons_zero, List.getElem?_cons_succ] at x0 x1
  clear h hb HB1 C2 KP1 KR1
  go_wp2_with fail
  clear x0 x1
  refine (C3.out _ HB2.out).mono ?_
  intro e w3 h
  obtain ⟨hb, a2, n2, c2, k2, rfl, hn2⟩ := putR_len h (page_len _)
  have HB3 := Lib.hid (below_chain HB2.out hb)
  have KR3 := Lib.hid ((KR2.out).low hb)
  have x0 := KR3.out.cell 0
  have x1 := KR3.out.cell 1
  simp only [List.getElem?_cons_zero, List.getElem?_cons_succ] at x0 x1
  clear h hb HB2 C3 KR2
  go_wp2_with fail
  clear x0 x1
  refine (C4.out _ HB3.out).mono ?_
  intro e w4 h
  obtain ⟨hb, a3, n3, c3, k3, rfl, hn3⟩ := putR_len h (root_len _)
  have HB4 := Lib.hid (below_chain HB3.out hb)
  have t0 : decide ((n0 : Int) ≤ 8192) = true := decide_eq_true (by omega)
  have t1 : decide ((n1 : Int) ≤ 32768) = true := decide_eq_true (by omega)
  have t2 : decide ((n2 : Int) ≤ 8192) = true := decide_eq_true (by omega)
  have t3 : decide ((n3 : Int) ≤ 8192) = true := decide_eq_true (by omega)
  clear h hb HB3 C4 
  go_wp2_with fail
  refine (HD.out _ HB4.out).mono ?_
  rintro e wz ⟨rfl, hz⟩
  have hz2 := below_chain HB4.out hz
  go_wp2_with fail
  go_ret
  exact ⟨rfl, hz2⟩
end Go.Proofs.YtpjgkboafmebbaaGreatDoor.Sh
