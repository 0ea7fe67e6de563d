/-
  The contract of sha's Write where a block or more goes in. Conditions: the digest may be; the bytes are at most 2^47 - 128; the tables of sha stand in memory.
-/
import Derived.Test.YtekaboomhljdoaaGreatDoorWm
namespace Go.Proofs.YtekaboomhljdoaaGreatDoor.Sh
open Go.RowKit Go.Lib

set_option maxHeartbeats 32000000 in
set_option maxRecDepth 100000 in
theorem write_long_f (ha : Option Addr) (hc : Nat) (ba : Option Addr) (m bc N : Nat) (H : List UInt32) (B b : List UInt8) (bo : Option Addr) (p c : Nat) (w : World) (hl : Lay w)
    (hW : Wrd w ha H) (hH : H.length = 8) (hB : Byt w ba B) (hBn : ba = none → bc = 0) (hm : B.length = m) (hN : m = N % 64) (hN2 : N < 18446744073709551616)
    (hb : Byt w bo b) (hbn : bo = none → c = 0) (hp : b.length = p) (hpc : p ≤ c) (hcc : c ≤ 9223372036854775807) (hp2 : p ≤ 140737488355200) (hg : 64 ≤ m + p) :
    Calls Tryz.prog 98 #[.agg #[.slice ha 8 hc, .slice ba m bc, .int .u64 (N : Int)], .slice bo p c] w fun e w' => Below w.heap.size w w' ∧
      ∃ v hx cx bx dx, e = .returned v ∧ ShaV w' v ⟨(feed H (B ++ b)).1, (feed H (B ++ b)).2, (N + p) % 18446744073709551616⟩ hx cx bx dx ∧ (∀ b o, hx = some ⟨b, o, none⟩ → w.heap.size ≤ b) ∧ (∀ b o, bx = some ⟨b, o, none⟩ → w.heap.size ≤ b) := by
  obtain ⟨hb1, ho1, rfl, hlt1, _⟩ := hW (by intro h0; rw [h0] at hH; simp at hH)
  obtain ⟨x0, x1, x2, x3, x4, x5, x6, x7, rfl⟩ := list8 hH
  have C7 := fun W => check_num 8 m N hc bc (some ⟨hb1, ho1, none⟩) ba W (by omega) hN2
  have e7 : (decide (8 = 8) && decide (m = N % 64)) = true := by simp [← hN]
  rw [e7] at C7
  have c7 := Lib.hid C7
  have LY := Lib.hid hl
  have HW := Lib.hid hW
  have HH := Lib.hid hH
  have HB := Lib.hid hB
  have HBn := Lib.hid hBn
  have HM := Lib.hid hm
  have Hb := Lib.hid hb
  have Hbn := Lib.hid hbn
  have HP := Lib.hid hp
  have hm64 : m < 64 := by omega
  have HN := Lib.hid hN
  clear hN C7 e7 hl hW hH hB hBn hm hb hbn hp
  have k43 := s2a43
  have bx0 := bx_start w (some ⟨hb1, ho1, none⟩) 8 hc ba m bc N
  go_enter Tryz.func98, Tryz.ntmps98
  go_wp2_with fail
  refine (c7.out _).mono ?_
  rintro e w1 ⟨rfl, b1⟩
  have BX1 := bx0.next b1
  have f0 := BX1.c0
  have f1 := BX1.c1
  have f2 := BX1.c2
  have W1 := HW.out.below BX1.low
  have hc' := fun j (hj : j < 8) => wrd_at W1 j (by simpa using hj)
  have r0 := hc' 0 (by decide)
  have r1 := hc' 1 (by decide)
  have r2 := hc' 2 (by decide)
  have r3 := hc' 3 (by decide)
  have r4 := hc' 4 (by decide)
  have r5 := hc' 5 (by decide)
  have r6 := hc' 6 (by decide)
  have r7 := hc' 7 (by decide)
  rw [Nat.add_zero] at r0
  simp only [List.getD_cons_zero, List.getD_cons_succ] at r0 r1 r2 r3 r4 r5 r6 r7
  have hq : w.heap.size + 1 < w1.heap.size := BX1.out.lt
  have hlt2 : w.heap.size < w1.heap.size := by omega
  have f1' : ∀ o, (w1.alloc o).cell? ⟨w.heap.size, 1, none⟩ = some (.slice ba m bc) := fun o => (World.cell?_alloc_lt w1 o ⟨w.heap.size, 1, none⟩ hlt2).trans f1
  have q1 : Hid (Blk (w1.alloc (.cells #[.int .u32 (x0.toNat : Int), .int .u32 (x1.toNat : Int), .int .u32 (x2.toNat : Int), .int .u32 (x3.toNat : Int), .int .u32 (x4.toNat : Int), .int .u32 (x5.toNat : Int), .int .u32 (x6.toNat : Int), .int .u32 (x7.toNat : Int)] 156)) w1.heap.size (us [x0, x1, x2, x3, x4, x5, x6, x7]) 156) := Blk.new w1 (us [x0, x1, x2, x3, x4, x5, x6, x7]) 156 _ rfl
  have BX2 := Lib.hid (BX1.next ((Below.refl _ w1).alloc (Nat.le_refl _) (.cells #[.int .u32 (x0.toNat : Int), .int .u32 (x1.toNat : Int), .int .u32 (x2.toNat : Int), .int .u32 (x3.toNat : Int), .int .u32 (x4.toNat : Int), .int .u32 (x5.toNat : Int), .int .u32 (x6.toNat : Int), .int .u32 (x7.toNat : Int)] 156)))
  have C23 := clone_any ba B bc _ (HB.out.below BX2.out.low) HBn.out (by rw [HM.out]; omega)
  rw [HM.out] at C23
  have c23 := Lib.hid C23
  clear hc' W1 bx0 b1 BX1 C23
  go_wp2_with fail
  refine c23.out.mono ?_
  rintro e w2 ⟨b2, v2, rfl, ho2⟩
  have BX3 := Lib.hid (BX2.out.next b2)
  have Q3 := Lib.hid (q1.out.low b2)
  have hsz1 : (w1.alloc (.cells #[.int .u32 (x0.toNat : Int), .int .u32 (x1.toNat : Int), .int .u32 (x2.toNat : Int), .int .u32 (x3.toNat : Int), .int .u32 (x4.toNat : Int), .int .u32 (x5.toNat : Int), .int .u32 (x6.toNat : Int), .int .u32 (x7.toNat : Int)] 156)).heap.size = w1.heap.size + 1 := by simp
  rw [hsz1] at ho2
  have O2 := Lib.hid ho2
  clear hsz1
  generalize w1.heap.size = q at *
  clear b2 ho2 r0 r1 r2 r3 r4 r5 r6 r7 f0 f1 f2 f1' q1 BX2 c23 w1
  have hv : Own w2 (q + 1) v2 B := O2.out
  obtain ⟨a2, c2, rfl, hc2, hc3, hr2, hn2⟩ := own_byt hv
  have hgap : ((64 : Int) - (m : Int)) = ((64 - m : Nat) : Int) := by omega
  obtain ⟨gap, hgp⟩ : ∃ gap, gap = 64 - m := ⟨_, rfl⟩
  rw [← hgp] at hgap
  have hgpp : gap ≤ p := by omega
  have dge : decide ((gap : Int) ≤ (p : Int)) = true := by simp; omega
  have HG := Lib.hid hgp
  rw [HM.out]
  rw [HM.out] at hc2 hv
  clear hv hr2 hgp
  obtain ⟨bb, bo2, rfl, hblt, _⟩ := Hb.out (by intro h0; have := HP.out; rw [h0] at this; simp at this; omega)
  have P1 := fun W => slice_to (some ⟨bb, bo2, none⟩) p c gap (by omega) W
  have hX : (B ++ b.take gap).length = 64 := by
    rw [List.length_append, List.length_take, HM.out, HP.out, HG.out]
    have := HG.out
    omega
  have htk : Hid ((b.take gap).length = gap) := by show _ = _; rw [List.length_take, HP.out]; omega
  have BT : Hid (Byt w2.drew (some ⟨bb, bo2, none⟩) (b.take gap)) := by
    have := (Hb.out.below BX3.out.low).take gap
    exact this
  have OW : Hid (w2.drew.ownsRow (q + 1) 5 1 (.slice a2 m c2) B.length (bs B)) := by
    have h : Own w2 (q + 1) (.slice a2 B.length c2) B := O2.out
    rw [HM.out] at h
    show World.ownsRow _ _ _ _ _ _ _
    rw [HM.out]
    rw [Own, HM.out] at h
    exact h
  have OWlt : Hid (∀ k, (Value.slice a2 m c2).ownBlock = some k → q + 1 ≤ k) := fun k hk => (OW.out.lt k hk).1
  have p1 : B.length + gap ≤ 140737488355328 := by rw [HM.out]; omega
  have p2 : q + 1 ≤ w2.drew.heap.size := Q3.out.lt
  have QD : Hid (Blk w2.drew q (us [x0, x1, x2, x3, x4, x5, x6, x7]) 156) := Q3.out
  have HXX : Hid (∃ X, X = B ++ b.take gap) := ⟨_, rfl⟩
  obtain ⟨X, hXX⟩ := HXX.out
  have HXE := Lib.hid hXX
  rw [← hXX] at hX
  obtain ⟨z0, z1, z2, z3, z4, z5, z6, z7, hZ⟩ := list8 (into_len [x0, x1, x2, x3, x4, x5, x6, x7] X rfl)
  have HZ := Lib.hid hZ
  have C24 := fun W hlw => mixed_any [x0, x1, x2, x3, x4, x5, x6, x7] X rfl hX W hlw
  rw [hZ] at C24
  have c24 : Hid (∀ W, Lay W → Calls Tryz.prog 108 #[.agg #[.int .u32 (x0.toNat : Int), .int .u32 (x1.toNat : Int), .int .u32 (x2.toNat : Int), .int .u32 (x3.toNat : Int), .int .u32 (x4.toNat : Int), .int .u32 (x5.toNat : Int), .int .u32 (x6.toNat : Int), .int .u32 (x7.toNat : Int)], .agg (bs X).toArray] W
      fun e w' => e = .returned (.agg #[.int .u32 (z0.toNat : Int), .int .u32 (z1.toNat : Int), .int .u32 (z2.toNat : Int), .int .u32 (z3.toNat : Int), .int .u32 (z4.toNat : Int), .int .u32 (z5.toNat : Int), .int .u32 (z6.toNat : Int), .int .u32 (z7.toNat : Int)]) ∧ Below W.heap.size W w') := C24
  have HX := Lib.hid hX
  have k45 := fun W a c => s2a45 W a 64 c (Nat.le_refl _)
  have Q2 := Lib.hid Q3.out.lt
  clear C24 hZ hX O2 Q3 hXX HXX
  go_upto_region 8 with fail
  go_cut [8] (fun s8 wx => s8 = .int .i64 (gap : Int) ∧ Bx w wx (some ⟨hb1, ho1, none⟩) 8 hc ba m bc N ∧ Blk wx q (us [z0, z1, z2, z3, z4, z5, z6, z7]) 156)
  case first =>
    refine wp_region_any (by kernel_rfl) ?_
    change wpAny _ _ _ _ _ _ _ (World.drew _)
    refine wpAny_take (i := 1) (v := .slice a2 m c2) rfl (by kernel_rfl) (by kernel_rfl) (by kernel_rfl) (fun _ _ _ h => h) (Or.inl ⟨by rfl, fun W => by go_simp⟩) ?_
    try simp only [Act.put, List.setIfInBounds_toArray]
    refine wpAny_take (i := 2) (v := .slice (some ⟨bb, bo2, none⟩) p c) rfl (by kernel_rfl) (by kernel_rfl) (by kernel_rfl) (fun _ _ _ h => h) (Or.inl ⟨by rfl, fun W => by go_simp⟩) ?_
    try simp only [Act.put]
    refine wpAny_take (i := 3) (v := .int .i64 (gap : Int)) rfl (by kernel_rfl) (by kernel_rfl) (by kernel_rfl) (fun _ _ _ h => h) (Or.inl ⟨by rfl, fun W => by go_simp⟩) ?_
    try simp only [Act.put]
    refine wpAny_take (i := 4) (v := .slice (some ⟨bb, bo2, none⟩) gap c) rfl (by kernel_rfl) (by kernel_rfl) (by kernel_rfl) (fun _ _ _ h => h) (Or.inl ⟨by rfl, fun W => by go_simp⟩) ?_
    try simp only [Act.put]
    refine wpAny_ready (rs := [0, 5]) (by kernel_rfl) (by simp) ?_
    refine AllReady.cons (o := { dst := some 36, op := Op.load 156 (Operand.tmp 5), type := 156, pos := "sha.go:60", after := #[], guard := none }) rfl (fun K hK => ?_) (AllReady.cons (o := { dst := some 41, op := Op.call { callee := Callee.builtin Builtin.append, args := #[Operand.tmp 37, Operand.tmp 40], argTypes := #[24, 24] }, type := 24, pos := "sha.go:60", after := #[{ on := 1, ground := Ground.data }, { on := 4, ground := Ground.data }], guard := none }) rfl (fun K hK => ?_) AllReady.nil)
    · have e8 := eight QD.out
      obtain ⟨d0, d1, d2, d3, d4, d5, d6, d7⟩ := e8
      go_simp
      refine hK _ _ ?_
      clear hK K d0 d1 d2 d3 d4 d5 d6 d7
      try simp only [Act.put, List.setIfInBounds_toArray, List.set_cons_zero, List.set_cons_succ]
      refine wpAny_ready (rs := [5]) (by kernel_rfl) (by simp) ?_
      refine AllReady.cons (o := { dst := some 41, op := Op.call { callee := Callee.builtin Builtin.append, args := #[Operand.tmp 37, Operand.tmp 40], argTypes := #[24, 24] }, type := 24, pos := "sha.go:60", after := #[{ on := 1, ground := Ground.data }, { on := 4, ground := Ground.data }], guard := none }) rfl (fun K hK => ?_) AllReady.nil
      refine step_app_len (t := 24) (e := 5) rfl (.tmp 37) (.tmp 40) rfl Tryz.underlying24 info5 (q + 1) (.slice a2 m c2) B (b.take gap) rfl OW.out ⟨bb, bo2, none⟩ gap c rfl BT.out htk p1 p2 ?_
      intro v3 w3 hown3 hgrow3
      rw [← HXE.out] at hown3
      have b3 : Below (q + 1) w2.drew w3 := (Below.refl (q + 1) w2.drew).grown hgrow3 p2 OWlt.out
      obtain ⟨g3, c3, rfl, RA⟩ := after_app HX.out hown3
      have HQ4 := Lib.hid (QD.out.below b3 (Nat.lt_succ_self q))
      have BX4 := Lib.hid (Bx.upto BX3.out.drew b3 (Nat.lt_succ_of_lt hq))
      have LY4 := Lib.hid (LY.out.below BX4.out.low)
      refine hK _ _ ?_
      clear hK K
      try simp only [Act.put, List.setIfInBounds_toArray, List.set_cons_zero, List.set_cons_succ]
      refine wpAny_ready (rs := [6]) (by kernel_rfl) (by simp) ?_
      refine AllReady.cons (o := { dst := some 42, op := Op.sliceToArrayPointer 158 (Operand.tmp 41), type := 0, pos := "sha.go:60", after := #[{ on := 5, ground := Ground.data }], guard := none }) rfl (fun K hK => ?_) AllReady.nil
      go_simp
      refine hK _ _ ?_
      clear hK K
      try simp only [Act.put, List.setIfInBounds_toArray, List.set_cons_zero, List.set_cons_succ]
      refine wpAny_ready (rs := [7]) (by kernel_rfl) (by simp) ?_
      refine AllReady.cons (o := { dst := some 43, op := Op.load 158 (Operand.tmp 42), type := 158, pos := "sha.go:60", after := #[{ on := 6, ground := Ground.data }], guard := none }) rfl (fun K hK => ?_) AllReady.nil
      rw [if_pos (by rfl)]
      refine wp_load_mid 158 (.tmp 42) rfl g3 0 rfl (bs X) (.array 64 5) RA.out Tryz.underlying158 rfl (by rw [info158, bs_len, HX.out]) ?_
      refine hK _ _ ?_
      clear hK K
      try simp only [Act.put, List.setIfInBounds_toArray, List.set_cons_zero, List.set_cons_succ]
      refine wpAny_ready (rs := [8]) (by kernel_rfl) (by simp) ?_
      refine AllReady.cons (o := { dst := some 44, op := Op.call { callee := Callee.value (Operand.func 108), args := #[Operand.tmp 36, Operand.tmp 43], argTypes := #[156, 158] }, type := 156, pos := "sha.go:60", after := #[{ on := 0, ground := Ground.data }, { on := 7, ground := Ground.data }, { on := 5, ground := Ground.chain }], guard := none }) rfl (fun K hK => ?_) AllReady.nil
      rw [if_pos (by rfl)]
      go_simp
      refine (c24.out _ LY4.out).mono ?_
      rintro e w4 ⟨rfl, b4⟩
      have HQ5 := Lib.hid (HQ4.out.low b4)
      have BX5 := Lib.hid (BX4.out.next b4)
      refine hK _ _ ?_
      clear hK K
      try simp only [Act.put, List.setIfInBounds_toArray, List.set_cons_zero, List.set_cons_succ]
      refine wpAny_ready (rs := [9]) (by kernel_rfl) (by simp) ?_
      refine AllReady.cons (o := { dst := none, op := Op.store 156 (Operand.tmp 5) (Operand.tmp 44), type := 0, pos := "sha.go:60", after := #[{ on := 8, ground := Ground.data }, { on := 8, ground := Ground.chain }, { on := 0, ground := Ground.phase }, { on := 1, ground := Ground.phase }, { on := 2, ground := Ground.phase }, { on := 3, ground := Ground.phase }, { on := 4, ground := Ground.phase }, { on := 5, ground := Ground.phase }, { on := 6, ground := Ground.phase }, { on := 7, ground := Ground.phase }, { on := 8, ground := Ground.phase }], guard := none }) rfl (fun K hK => ?_) AllReady.nil
      have e9 := eight HQ5.out
      have fz := fun j => HQ5.out.frozen j
      obtain ⟨l0, l1, l2, l3, l4, l5, l6, l7⟩ := e9
      go_simp
      refine hK _ _ ?_
      clear hK K
      try simp only [Act.put, List.setIfInBounds_toArray, List.set_cons_zero, List.set_cons_succ]
      refine wpAny_done (by kernel_rfl) ?_ _
      go_wp2_with fail
      go_meet
      exact ⟨rfl, bx8 BX5.out hq, blk8 HQ5.out⟩
    · refine step_app_len (t := 24) (e := 5) rfl (.tmp 37) (.tmp 40) rfl Tryz.underlying24 info5 (q + 1) (.slice a2 m c2) B (b.take gap) rfl OW.out ⟨bb, bo2, none⟩ gap c rfl BT.out htk p1 p2 ?_
      intro v3 w3 hown3 hgrow3
      rw [← HXE.out] at hown3
      have b3 : Below (q + 1) w2.drew w3 := (Below.refl (q + 1) w2.drew).grown hgrow3 p2 OWlt.out
      obtain ⟨g3, c3, rfl, RA⟩ := after_app HX.out hown3
      have HQ4 := Lib.hid (QD.out.below b3 (Nat.lt_succ_self q))
      have BX4 := Lib.hid (Bx.upto BX3.out.drew b3 (Nat.lt_succ_of_lt hq))
      have LY4 := Lib.hid (LY.out.below BX4.out.low)
      refine hK _ _ ?_
      clear hK K
      try simp only [Act.put]
      refine wpAny_ready (rs := [0, 6]) (by kernel_rfl) (by simp) ?_
      refine AllReady.cons (o := { dst := some 36, op := Op.load 156 (Operand.tmp 5), type := 156, pos := "sha.go:60", after := #[], guard := none }) rfl (fun K hK => ?_) (AllReady.cons (o := { dst := some 42, op := Op.sliceToArrayPointer 158 (Operand.tmp 41), type := 0, pos := "sha.go:60", after := #[{ on := 5, ground := Ground.data }], guard := none }) rfl (fun K hK => ?_) AllReady.nil)
      · have e8 := eight HQ4.out
        obtain ⟨d0, d1, d2, d3, d4, d5, d6, d7⟩ := e8
        go_simp
        refine hK _ _ ?_
        clear hK K d0 d1 d2 d3 d4 d5 d6 d7
        try simp only [Act.put, List.setIfInBounds_toArray, List.set_cons_zero, List.set_cons_succ]
        refine wpAny_ready (rs := [6]) (by kernel_rfl) (by simp) ?_
        refine AllReady.cons (o := { dst := some 42, op := Op.sliceToArrayPointer 158 (Operand.tmp 41), type := 0, pos := "sha.go:60", after := #[{ on := 5, ground := Ground.data }], guard := none }) rfl (fun K hK => ?_) AllReady.nil
        go_simp
        refine hK _ _ ?_
        clear hK K
        try simp only [Act.put, List.setIfInBounds_toArray, List.set_cons_zero, List.set_cons_succ]
        refine wpAny_ready (rs := [7]) (by kernel_rfl) (by simp) ?_
        refine AllReady.cons (o := { dst := some 43, op := Op.load 158 (Operand.tmp 42), type := 158, pos := "sha.go:60", after := #[{ on := 6, ground := Ground.data }], guard := none }) rfl (fun K hK => ?_) AllReady.nil
        rw [if_pos (by rfl)]
        refine wp_load_mid 158 (.tmp 42) rfl g3 0 rfl (bs X) (.array 64 5) RA.out Tryz.underlying158 rfl (by rw [info158, bs_len, HX.out]) ?_
        refine hK _ _ ?_
        clear hK K
        try simp only [Act.put, List.setIfInBounds_toArray, List.set_cons_zero, List.set_cons_succ]
        refine wpAny_ready (rs := [8]) (by kernel_rfl) (by simp) ?_
        refine AllReady.cons (o := { dst := some 44, op := Op.call { callee := Callee.value (Operand.func 108), args := #[Operand.tmp 36, Operand.tmp 43], argTypes := #[156, 158] }, type := 156, pos := "sha.go:60", after := #[{ on := 0, ground := Ground.data }, { on := 7, ground := Ground.data }, { on := 5, ground := Ground.chain }], guard := none }) rfl (fun K hK => ?_) AllReady.nil
        rw [if_pos (by rfl)]
        go_simp
        refine (c24.out _ LY4.out).mono ?_
        rintro e w4 ⟨rfl, b4⟩
        have HQ5 := Lib.hid (HQ4.out.low b4)
        have BX5 := Lib.hid (BX4.out.next b4)
        refine hK _ _ ?_
        clear hK K
        try simp only [Act.put, List.setIfInBounds_toArray, List.set_cons_zero, List.set_cons_succ]
        refine wpAny_ready (rs := [9]) (by kernel_rfl) (by simp) ?_
        refine AllReady.cons (o := { dst := none, op := Op.store 156 (Operand.tmp 5) (Operand.tmp 44), type := 0, pos := "sha.go:60", after := #[{ on := 8, ground := Ground.data }, { on := 8, ground := Ground.chain }, { on := 0, ground := Ground.phase }, { on := 1, ground := Ground.phase }, { on := 2, ground := Ground.phase }, { on := 3, ground := Ground.phase }, { on := 4, ground := Ground.phase }, { on := 5, ground := Ground.phase }, { on := 6, ground := Ground.phase }, { on := 7, ground := Ground.phase }, { on := 8, ground := Ground.phase }], guard := none }) rfl (fun K hK => ?_) AllReady.nil
        have e9 := eight HQ5.out
        have fz := fun j => HQ5.out.frozen j
        obtain ⟨l0, l1, l2, l3, l4, l5, l6, l7⟩ := e9
        go_simp
        refine hK _ _ ?_
        clear hK K
        try simp only [Act.put, List.setIfInBounds_toArray, List.set_cons_zero, List.set_cons_succ]
        refine wpAny_done (by kernel_rfl) ?_ _
        go_wp2_with fail
        go_meet
        exact ⟨rfl, bx8 BX5.out hq, blk8 HQ5.out⟩
      · go_simp
        refine hK _ _ ?_
        clear hK K
        try simp only [Act.put, List.setIfInBounds_toArray, List.set_cons_zero, List.set_cons_succ]
        refine wpAny_ready (rs := [0, 7]) (by kernel_rfl) (by simp) ?_
        refine AllReady.cons (o := { dst := some 36, op := Op.load 156 (Operand.tmp 5), type := 156, pos := "sha.go:60", after := #[], guard := none }) rfl (fun K hK => ?_) (AllReady.cons (o := { dst := some 43, op := Op.load 158 (Operand.tmp 42), type := 158, pos := "sha.go:60", after := #[{ on := 6, ground := Ground.data }], guard := none }) rfl (fun K hK => ?_) AllReady.nil)
        · have e8 := eight HQ4.out
          obtain ⟨d0, d1, d2, d3, d4, d5, d6, d7⟩ := e8
          go_simp
          refine hK _ _ ?_
          clear hK K d0 d1 d2 d3 d4 d5 d6 d7
          try simp only [Act.put, List.setIfInBounds_toArray, List.set_cons_zero, List.set_cons_succ]
          refine wpAny_ready (rs := [7]) (by kernel_rfl) (by simp) ?_
          refine AllReady.cons (o := { dst := some 43, op := Op.load 158 (Operand.tmp 42), type := 158, pos := "sha.go:60", after := #[{ on := 6, ground := Ground.data }], guard := none }) rfl (fun K hK => ?_) AllReady.nil
          rw [if_pos (by rfl)]
          refine wp_load_mid 158 (.tmp 42) rfl g3 0 rfl (bs X) (.array 64 5) RA.out Tryz.underlying158 rfl (by rw [info158, bs_len, HX.out]) ?_
          refine hK _ _ ?_
          clear hK K
          try simp only [Act.put, List.setIfInBounds_toArray, List.set_cons_zero, List.set_cons_succ]
          refine wpAny_ready (rs := [8]) (by kernel_rfl) (by simp) ?_
          refine AllReady.cons (o := { dst := some 44, op := Op.call { callee := Callee.value (Operand.func 108), args := #[Operand.tmp 36, Operand.tmp 43], argTypes := #[156, 158] }, type := 156, pos := "sha.go:60", after := #[{ on := 0, ground := Ground.data }, { on := 7, ground := Ground.data }, { on := 5, ground := Ground.chain }], guard := none }) rfl (fun K hK => ?_) AllReady.nil
          rw [if_pos (by rfl)]
          go_simp
          refine (c24.out _ LY4.out).mono ?_
          rintro e w4 ⟨rfl, b4⟩
          have HQ5 := Lib.hid (HQ4.out.low b4)
          have BX5 := Lib.hid (BX4.out.next b4)
          refine hK _ _ ?_
          clear hK K
          try simp only [Act.put, List.setIfInBounds_toArray, List.set_cons_zero, List.set_cons_succ]
          refine wpAny_ready (rs := [9]) (by kernel_rfl) (by simp) ?_
          refine AllReady.cons (o := { dst := none, op := Op.store 156 (Operand.tmp 5) (Operand.tmp 44), type := 0, pos := "sha.go:60", after := #[{ on := 8, ground := Ground.data }, { on := 8, ground := Ground.chain }, { on := 0, ground := Ground.phase }, { on := 1, ground := Ground.phase }, { on := 2, ground := Ground.phase }, { on := 3, ground := Ground.phase }, { on := 4, ground := Ground.phase }, { on := 5, ground := Ground.phase }, { on := 6, ground := Ground.phase }, { on := 7, ground := Ground.phase }, { on := 8, ground := Ground.phase }], guard := none }) rfl (fun K hK => ?_) AllReady.nil
          have e9 := eight HQ5.out
          have fz := fun j => HQ5.out.frozen j
          obtain ⟨l0, l1, l2, l3, l4, l5, l6, l7⟩ := e9
          go_simp
          refine hK _ _ ?_
          clear hK K
          try simp only [Act.put, List.setIfInBounds_toArray, List.set_cons_zero, List.set_cons_succ]
          refine wpAny_done (by kernel_rfl) ?_ _
          go_wp2_with fail
          go_meet
          exact ⟨rfl, bx8 BX5.out hq, blk8 HQ5.out⟩
        · rw [if_pos (by rfl)]
          refine wp_load_mid 158 (.tmp 42) rfl g3 0 rfl (bs X) (.array 64 5) RA.out Tryz.underlying158 rfl (by rw [info158, bs_len, HX.out]) ?_
          refine hK _ _ ?_
          clear hK K
          try simp only [Act.put, List.setIfInBounds_toArray, List.set_cons_zero, List.set_cons_succ]
          refine wpAny_ready (rs := [0]) (by kernel_rfl) (by simp) ?_
          refine AllReady.cons (o := { dst := some 36, op := Op.load 156 (Operand.tmp 5), type := 156, pos := "sha.go:60", after := #[], guard := none }) rfl (fun K hK => ?_) AllReady.nil
          have e8 := eight HQ4.out
          obtain ⟨d0, d1, d2, d3, d4, d5, d6, d7⟩ := e8
          go_simp
          refine hK _ _ ?_
          clear hK K d0 d1 d2 d3 d4 d5 d6 d7
          try simp only [Act.put, List.setIfInBounds_toArray, List.set_cons_zero, List.set_cons_succ]
          refine wpAny_ready (rs := [8]) (by kernel_rfl) (by simp) ?_
          refine AllReady.cons (o := { dst := some 44, op := Op.call { callee := Callee.value (Operand.func 108), args := #[Operand.tmp 36, Operand.tmp 43], argTypes := #[156, 158] }, type := 156, pos := "sha.go:60", after := #[{ on := 0, ground := Ground.data }, { on := 7, ground := Ground.data }, { on := 5, ground := Ground.chain }], guard := none }) rfl (fun K hK => ?_) AllReady.nil
          rw [if_pos (by rfl)]
          go_simp
          refine (c24.out _ LY4.out).mono ?_
          rintro e w4 ⟨rfl, b4⟩
          have HQ5 := Lib.hid (HQ4.out.low b4)
          have BX5 := Lib.hid (BX4.out.next b4)
          refine hK _ _ ?_
          clear hK K
          try simp only [Act.put, List.setIfInBounds_toArray, List.set_cons_zero, List.set_cons_succ]
          refine wpAny_ready (rs := [9]) (by kernel_rfl) (by simp) ?_
          refine AllReady.cons (o := { dst := none, op := Op.store 156 (Operand.tmp 5) (Operand.tmp 44), type := 0, pos := "sha.go:60", after := #[{ on := 8, ground := Ground.data }, { on := 8, ground := Ground.chain }, { on := 0, ground := Ground.phase }, { on := 1, ground := Ground.phase }, { on := 2, ground := Ground.phase }, { on := 3, ground := Ground.phase }, { on := 4, ground := Ground.phase }, { on := 5, ground := Ground.phase }, { on := 6, ground := Ground.phase }, { on := 7, ground := Ground.phase }, { on := 8, ground := Ground.phase }], guard := none }) rfl (fun K hK => ?_) AllReady.nil
          have e9 := eight HQ5.out
          have fz := fun j => HQ5.out.frozen j
          obtain ⟨l0, l1, l2, l3, l4, l5, l6, l7⟩ := e9
          go_simp
          refine hK _ _ ?_
          clear hK K
          try simp only [Act.put, List.setIfInBounds_toArray, List.set_cons_zero, List.set_cons_succ]
          refine wpAny_done (by kernel_rfl) ?_ _
          go_wp2_with fail
          go_meet
          exact ⟨rfl, bx8 BX5.out hq, blk8 HQ5.out⟩
  case rest =>
    obtain ⟨rfl, hbx, hqq⟩ := hcut
    have BXC := Lib.hid hbx
    have QC := Lib.hid hqq
    obtain ⟨ar, hrun, hrb, hrn⟩ := slice_from (some ⟨bb, bo2, none⟩) p c gap b hgpp HP.out.symm (fun h => by cases h) hpc
    have RB := Lib.hid (hrb w Hb.out)
    have RN := Lib.hid hrn
    clear hrb hrn hbx hqq QD OW BT c24
    go_wp2_with fail
    go_quiet (fail)
    go_wp2_with fail
    have hf0 : Hid (feed [z0, z1, z2, z3, z4, z5, z6, z7] (b.drop gap) = feed [x0, x1, x2, x3, x4, x5, x6, x7] (B ++ b)) := by
      show _ = _
      rw [← HZ.out, HXE.out]
      have e1 : (B ++ b).take 64 = B ++ b.take gap := by rw [List.take_append, HM.out, ← HG.out, List.take_of_length_le (by rw [HM.out]; omega)]
      have e2 : (B ++ b).drop 64 = b.drop gap := by rw [List.drop_append, HM.out, ← HG.out, List.drop_of_length_le (by rw [HM.out]; omega), List.nil_append]
      rw [feed_ge _ (B ++ b) (by rw [List.length_append, HM.out, HP.out]; exact hg), e1, e2]
    have hll : (b.drop gap).length = p - gap := by rw [List.length_drop, HP.out]
    have hcl : p - gap ≤ c - gap := by omega
    have hcm2 : c - gap ≤ 9223372036854775807 := by omega
    have hB0 : Hid (Bx w (wc.drewN nq) (some ⟨hb1, ho1, none⟩) 8 hc ba m bc N) := BXC.out.drewN nq
    have hQ0 : Hid (Blk (wc.drewN nq) q (us [z0, z1, z2, z3, z4, z5, z6, z7]) 156) := QC.out
    go_loopw [7] (fun v7 wq => ∃ (l : List UInt8) (ao : Option Addr) (k cp : Nat) (y0 y1 y2 y3 y4 y5 y6 y7 : UInt32), v7 = .slice ao k cp ∧ k ≤ cp ∧ cp ≤ 9223372036854775807 ∧ k ≤ p ∧ Hid (l.length = k ∧ Byt w ao l ∧ (ao = none → cp = 0)) ∧
      Hid (Bx w wq (some ⟨hb1, ho1, none⟩) 8 hc ba m bc N ∧ Blk wq q (us [y0, y1, y2, y3, y4, y5, y6, y7]) 156) ∧ Hid (feed [y0, y1, y2, y3, y4, y5, y6, y7] l = feed [x0, x1, x2, x3, x4, x5, x6, x7] (B ++ b))) (fun v7 _ => lenOf v7)
    case atStart => exact ⟨b.drop gap, ar, p - gap, c - gap, z0, z1, z2, z3, z4, z5, z6, z7, rfl, hcl, hcm2, by omega, ⟨hll, RB.out, RN.out⟩, ⟨hB0.out, hQ0.out⟩, hf0.out⟩
    case round =>
      obtain ⟨l, ao, k, cp, y0, y1, y2, y3, y4, y5, y6, y7, rfl, hk1, hk2, hk3, hlf, hwf, hff⟩ := hrel
      clear hB0 hQ0 hf0 RB RN BXC QC hll HZ
      by_cases hk64 : 64 ≤ k
      · obtain ⟨hlk, hby, hno⟩ := hlf.out
        obtain ⟨bb3, bo3, rfl, _, _⟩ := hby (by intro h0; rw [h0] at hlk; simp at hlk; omega)
        have P3 := fun W => slice_to (some ⟨bb3, bo3, none⟩) k cp 64 (by omega) W
        have RB3 : Hid (Byt w (if cp = 64 then some ⟨bb3, bo3, none⟩ else some ⟨bb3, bo3 + 64, none⟩) (l.drop 64)) := by
          show Byt _ _ _
          split
          · rw [List.drop_of_length_le (by omega)]
            exact byt_nil _ _
          · exact hby.drop 64
        have RN3 : Hid ((if cp = 64 then some (⟨bb3, bo3, none⟩ : Addr) else some ⟨bb3, bo3 + 64, none⟩) = none → cp - 64 = 0) := by
          show _ → _
          split <;> intro h <;> cases h
        have RA3 := Lib.hid (range_byt ((hby.below hwf.out.1.low).take 64))
        have HX3 : Hid ((l.take 64).length = 64) := by show _ = _; rw [List.length_take]; omega
        have LN3 : Hid ((l.drop 64).length = k - 64) := by show _ = _; rw [List.length_drop, hlk]
        have LY3 := Lib.hid (LY.out.below hwf.out.1.low)
        have C24 := fun W hlw => mixed_any [y0, y1, y2, y3, y4, y5, y6, y7] (l.take 64) rfl HX3.out W hlw
        obtain ⟨t0, t1, t2, t3, t4, t5, t6, t7, hT⟩ := list8 (into_len [y0, y1, y2, y3, y4, y5, y6, y7] (l.take 64) rfl)
        rw [hT] at C24
        have HT3 := Lib.hid hT
        have c24' : Hid (∀ W, Lay W → Calls Tryz.prog 108 #[.agg #[.int .u32 (y0.toNat : Int), .int .u32 (y1.toNat : Int), .int .u32 (y2.toNat : Int), .int .u32 (y3.toNat : Int), .int .u32 (y4.toNat : Int), .int .u32 (y5.toNat : Int), .int .u32 (y6.toNat : Int), .int .u32 (y7.toNat : Int)], .agg (bs (l.take 64)).toArray] W
          fun e w' => e = .returned (.agg #[.int .u32 (t0.toNat : Int), .int .u32 (t1.toNat : Int), .int .u32 (t2.toNat : Int), .int .u32 (t3.toNat : Int), .int .u32 (t4.toNat : Int), .int .u32 (t5.toNat : Int), .int .u32 (t6.toNat : Int), .int .u32 (t7.toNat : Int)]) ∧ Below W.heap.size W w') := C24
        have hf3 : Hid (feed [t0, t1, t2, t3, t4, t5, t6, t7] (l.drop 64) = feed [x0, x1, x2, x3, x4, x5, x6, x7] (B ++ b)) := by
          show _ = _
          rw [← hff.out, ← HT3.out, feed_ge _ l (by omega)]
        have q64 : (64 : Int) ≤ (cp : Int) := by omega
        have QW := Lib.hid hwf.out.2
        have BW := Lib.hid hwf.out.1
        obtain ⟨d0, d1, d2, d3, d4, d5, d6, d7⟩ := eight QW.out
        clear hlk hby hno hT C24 hlf hwf hff
        go_wp2_with fail
        refine wp_region_still_tail 5 (by kernel_rfl) (by kernel_rfl) ?_
        simp only [List.take_succ_cons, List.take_zero, List.drop_succ_cons, List.drop_zero]
        change wpStill _ _ wr.drew (fun a' => wpList _ _ _ _ a' wr.drew) _ _
        change wr.drew.cell? _ = _ at d0 d1 d2 d3 d4 d5 d6 d7
        have RA4 : Hid (wr.drew.rangeAt bb3 bo3 (bs (l.take 64))) := RA3.out
        have QW4 : Hid (Blk wr.drew q (us [y0, y1, y2, y3, y4, y5, y6, y7]) 156) := QW.out
        have BW4 := Lib.hid BW.out.drew
        have LY4 : Hid (Lay wr.drew) := LY3.out
        clear RA3 QW BW LY3
        generalize wr.drew = wv at *
        still_step
        still_step
        still_step
        still_step
        refine wpStill_step (fun K hK => ?_)
        refine still_load_mid rfl 158 (.tmp 54) rfl bb3 bo3 rfl (bs (l.take 64)) (.array 64 5) RA4.out Tryz.underlying158 rfl (by rw [info158, bs_len, HX3.out]) ?_
        refine hK _ ?_
        clear hK K d0 d1 d2 d3 d4 d5 d6 d7
        try simp only [Act.put, List.setIfInBounds_toArray, List.set_cons_zero, List.set_cons_succ]
        refine wpStill_nil ?_
        go_wp2_with fail
        refine (c24'.out _ LY4.out).mono ?_
        rintro e w5 ⟨rfl, b5⟩
        have Q5 := Lib.hid (QW4.out.low b5)
        have BX5 := Lib.hid (BW4.out.next b5)
        have fz := fun j => Q5.out.frozen j
        obtain ⟨l0, l1, l2, l3, l4, l5, l6, l7⟩ := eight Q5.out
        clear b5 QW4 BW4 LY4 RA4
        go_wp2_with fail
        go_roundw
        case rel => exact ⟨l.drop 64, _, k - 64, cp - 64, t0, t1, t2, t3, t4, t5, t6, t7, rfl, by omega, by omega, by omega, ⟨LN3.out, RB3.out, RN3.out⟩, ⟨bx8 BX5.out hq, blk8 Q5.out⟩, hf3.out⟩
        case measure => simp [lenOf]; omega
      · obtain ⟨hlk, hby, hno⟩ := hlf.out
        have QW := Lib.hid hwf.out.2
        have BW := Lib.hid hwf.out.1
        have HLK := Lib.hid hlk
        have BY := Lib.hid ((hby.below BW.out.low) : Byt wr ao l)
        have f2 : wr.drew.cell? ⟨w.heap.size, 2, none⟩ = some (.int .u64 (N : Int)) := BW.out.c2
        have hsz : wr.drew.heap.size ≤ wr.drew.heap.size := Nat.le_refl _
        have hnl : Hid (w.heap.size + 1 < wr.drew.heap.size) := BW.out.out.lt
        have hfe : Hid ((feed [x0, x1, x2, x3, x4, x5, x6, x7] (B ++ b)).1 = [y0, y1, y2, y3, y4, y5, y6, y7] ∧ (feed [x0, x1, x2, x3, x4, x5, x6, x7] (B ++ b)).2 = l) := by
          show _ ∧ _
          rw [← hff.out, feed_lt _ l (by omega)]
          exact ⟨rfl, rfl⟩
        have OW0 : Hid (wr.drew.ownsRow wr.drew.heap.size 5 1 (.slice none 0 0) ([] : List UInt8).length (bs [])) := World.ownsRow_nil _ _ _ _
        have BY0 : Hid (Byt wr.drew ao l) := BY.out
        have pz : ([] : List UInt8).length + k ≤ 140737488355328 := by simp; omega
        have hno' := Lib.hid hno
        have hb0 : Hid (∀ j, (Value.slice none 0 0).ownBlock = some j → wr.drew.heap.size ≤ j) := fun j hj => by simp [Value.ownBlock] at hj
        have e1 : IntKind.u64.wrap (p : Int) = (p : Int) := by rw [u64_wrap]; omega
        have e2 : Hid (IntKind.u64.wrap ((N : Int) + (p : Int)) = (((N + p) % 18446744073709551616 : Nat) : Int)) := by show _ = _; rw [u64_wrap]; omega
        obtain ⟨N2, hN2e⟩ : ∃ N2, N2 = (N + p) % 18446744073709551616 := ⟨_, rfl⟩
        have e3 := e2.out
        rw [← hN2e] at e3
        have HN2 := Lib.hid hN2e
        clear hlk hby hno hlf hwf hff BY hN2e e2
        go_wp2_with fail
        go_region_law (first
          | ((try simp only [Act.put, List.setIfInBounds_toArray]); (refine step_app0 (t := 24) (e := 5) rfl (.tmp 60) (.tmp 61) rfl Tryz.underlying24 info5 wr.drew.heap.size (.slice none 0 0) [] l (by simp [Act.eval]) OW0.out ao k cp (by simp [Act.eval]) BY0.out hno'.out HLK pz hsz ?_; intro v6 w6 hown6 hgrow6)
             have b6 : Below wr.drew.heap.size wr.drew w6 := (Below.refl _ wr.drew).grown hgrow6 (Nat.le_refl _) hb0.out
             rw [List.nil_append] at hown6
             obtain ⟨a6, c6, rfl, hc61, hc62, hr6, hn6⟩ := own_byt hown6
             have R6 := Lib.hid hr6
             have NE6 := Lib.hid (own_far hown6 hnl.out)
             have N6 := Lib.hid hn6
             have BX6 := Lib.hid (BW.out.drew.next b6)
             have Q6 := Lib.hid (QW.out.drew.low b6)
             have g2 := BX6.out.c2
             have t0c := BX6.out.out.cell 0
             have t1c := BX6.out.out.cell 1
             have t2c := BX6.out.out.cell 2
             have tfz := fun j => BX6.out.out.frozen j
             simp only [List.getElem?_cons_zero, List.getElem?_cons_succ] at t0c t1c t2c
             clear b6 hown6 hgrow6 hr6 hn6))
        all_goals
          obtain ⟨F1, F2, F3⟩ := write_fin (N2 := N2) BX6.out Q6.out hq R6.out N6.out hc61 hc62 NE6.out (by rw [HN2.out]; omega)
          have HQF := Lib.hid hq
          have G1 := Lib.hid F1
          have G2 := Lib.hid F2
          have G3 := Lib.hid F3
          clear F1 F2 F3
          go_wp2_with fail
          refine bodyPost_ret (results_cell_row Tryz.results98 _ _ (w.heap.size + 1) 115 #[.slice (some ⟨q, 0, none⟩) 8 8, .slice a6 l.length c6, .int .u64 (N2 : Int)] (0, 0) _ rfl G1.out Tryz.underlying115 rfl info115) rfl ⟨G2.out, _, some ⟨q, 0, none⟩, 8, a6, c6, rfl, ?_, (fun b o h => by injection h with h; injection h with h1 _ _; have := HQF.out; omega), (fun b o h => by have := NE6.out b o h; omega)⟩
          rw [hfe.out.1, hfe.out.2, ← HN2.out]
          exact G3.out
theorem write_long (ha : Option Addr) (hc : Nat) (ba : Option Addr) (m bc N : Nat) (H : List UInt32) (B b : List UInt8) (bo : Option Addr) (p c : Nat) (w : World) (hl : Lay w)
    (hW : Wrd w ha H) (hH : H.length = 8) (hB : Byt w ba B) (hBn : ba = none → bc = 0) (hm : B.length = m) (hN : m = N % 64) (hN2 : N < 18446744073709551616)
    (hb : Byt w bo b) (hbn : bo = none → c = 0) (hp : b.length = p) (hpc : p ≤ c) (hcc : c ≤ 9223372036854775807) (hp2 : p ≤ 140737488355200) (hg : 64 ≤ m + p) :
    Calls Tryz.prog 98 #[.agg #[.slice ha 8 hc, .slice ba m bc, .int .u64 (N : Int)], .slice bo p c] w fun e w' => Below w.heap.size w w' ∧
      ∃ v hx cx bx dx, e = .returned v ∧ ShaV w' v ⟨(feed H (B ++ b)).1, (feed H (B ++ b)).2, (N + p) % 18446744073709551616⟩ hx cx bx dx :=
  (write_long_f ha hc ba m bc N H B b bo p c w hl hW hH hB hBn hm hN hN2 hb hbn hp hpc hcc hp2 hg).mono fun _ _ ⟨h1, v, hx, cx, bx, dx, h2, h3, _, _⟩ => ⟨h1, v, hx, cx, bx, dx, h2, h3⟩
end Go.Proofs.YtekaboomhljdoaaGreatDoor.Sh
