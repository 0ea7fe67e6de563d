/-
  The contracts of obj's caught, of the functions that it defers, of put's written. Conditions: each law's own.
-/
import Derived.Test.YtcgbaiogbcodcaaGreatDoorOe
import Derived.Defers
import Derived.Recover
namespace Go.Proofs.YtcgbaiogbcodcaaGreatDoor.Sh
open Go.RowKit Go.Lib Lb

theorem no162n (w : World) : (Instr.typeAssert .nilIface 20 167 true).run Tryz.prog w = .ok (.tuple #[.agg #[], .bool false]) w := by kernel_rfl
theorem is162 (v : Value) (w : World) : (Instr.typeAssert (.iface 167 v) 20 167 true).run Tryz.prog w = .ok (.tuple #[v, .bool true]) w := assert_yes Tryz.underlying167 rfl v 20 w
set_option maxRecDepth 100000 in
theorem catch_wrong104 (p : Addr) (x : Value) (w : World) (hc : w.cell? p = some x) (hz : w.frozen? p = false) (hp : p.block < w.heap.size) :
    CallsD Tryz.prog 102 #[.pointer (some p)] (.panicking ({ v := .iface 167 (.agg #[]), recovered := false } :: [])) w fun e u' w' =>
      e = .returned (.tuple #[]) ∧ u' = .panicking ({ v := .iface 167 (.agg #[]), recovered := true } :: []) ∧ w' = (w.alloc (.cells #[] 167)).setCell p (.int .i64 80) := by
  have ha := is162
  have hc2 : (w.alloc (.cells #[] 167)).cell? p = some x := by rw [World.cell?_alloc_lt _ _ p hp]; exact hc
  have hz2 : (w.alloc (.cells #[] 167)).frozen? p = false := by rw [World.frozen?_alloc_old _ _ p (Nat.ne_of_lt hp)]; exact hz
  refine callsD_of_wpS Tryz.func102 rfl fun c₀ cs hu => ?_
  apply wpS_seq
  apply wpS_region
  simp [wpOpsS, go_sem, recoverD, hu, Tryz.ntmps102, Exit.thenS]
  refine wpS_of_wp ?_
  have ht : #[Value.pointer (some p)] ++ ((Array.replicate 13 undef).setIfInBounds 3 (Value.iface 167 (Value.agg #[]))).setIfInBounds 0 (Value.iface 167 (Value.agg #[])) = #[.pointer (some p), .iface 167 (.agg #[]), undef, undef, .iface 167 (.agg #[]), undef, undef, undef, undef, undef, undef, undef, undef, undef] := rfl
  rw [ht]
  go_wp2_with fail
  exact ⟨rfl, _, rfl, _, results_none rfl _ _ _, rfl, rfl, rfl⟩
set_option maxRecDepth 100000 in
theorem catch_idle104 (p : Addr) (w : World) :
    CallsD Tryz.prog 102 #[.pointer (some p)] .returning w fun e u' w' =>
      e = .returned (.tuple #[]) ∧ u' = .returning ∧ w' = w.alloc (.cells #[] 167) := by
  have ha := no162n
  refine callsD_of_wpS Tryz.func102 rfl fun c₀ cs hu => ?_
  apply wpS_seq
  apply wpS_region
  simp [wpOpsS, go_sem, recoverD, hu, Tryz.ntmps102, Exit.thenS]
  refine wpS_of_wp ?_
  have ht : #[Value.pointer (some p)] ++ ((Array.replicate 13 undef).setIfInBounds 3 Value.nilIface).setIfInBounds 0 Value.nilIface = #[.pointer (some p), .nilIface, undef, undef, .nilIface, undef, undef, undef, undef, undef, undef, undef, undef, undef] := rfl
  rw [ht]
  go_wp2_with fail
  exact ⟨rfl, _, by rw [← hu], _, results_none rfl _ _ _, rfl, rfl, rfl⟩
/-- what a function that is tried does: it gives a row of bytes, or what is wrong goes up -/
def Tried (w : World) (B : Nat) (ok : Prop) (l : List UInt8) (e : Ending) (w' : World) : Prop := Below w.heap.size w w' ∧ ((ok ∧ ∃ v, e = .returned v ∧ Own w' B v l) ∨ (¬ ok ∧ e = .panicked Wrong))
/-- bytes and an error's number -/
def PutR (w : World) (ok : Prop) (l : List UInt8) (e : Ending) (w' : World) : Prop := Below w.heap.size w w' ∧ ((ok ∧ ∃ v, e = .returned (.tuple #[v, .int .i64 0]) ∧ Own w' w.heap.size v l) ∨ (¬ ok ∧ e = .returned (.tuple #[.slice none 0 0, .int .i64 80])))
theorem results59_is (tmps : Array Value) (w : World) (g : Nat) (x y : Value) (hp : tmps.getD 3 undef = .pointer (some ⟨g, 0, none⟩)) (hy : tmps.getD 2 undef = y) (hc : w.cell? ⟨g, 0, none⟩ = some x) :
    (results Tryz.f88 tmps).run Tryz.prog w = .ok (.tuple #[y, x]) w := by
  have hp' : tmps[3]?.getD undef = .pointer (some ⟨g, 0, none⟩) := by simpa using hp
  have hy' : tmps[2]?.getD undef = y := by simpa using hy
  simp [results, Tryz.results88, go_sem, hp', hy', hc]
set_option maxHeartbeats 1000000 in
set_option maxRecDepth 100000 in
theorem caught_bytes (F : FuncId) (caps : Array Value) (w : World) (ok : Prop) (l : List UInt8) (hE : ∀ (args : Array Value) (w : World), (callFunc F args).run Tryz.prog w = .ok (.enter F args) w)
    (hF : Calls Tryz.prog F caps (w.alloc (.cells #[.int .i64 0] 28)) (Tried (w.alloc (.cells #[.int .i64 0] 28)) (w.heap.size + 1) ok l)) :
    Calls Tryz.prog 88 #[.func (.func F) #[] caps] w (PutR w ok l) := by
  have hmf : ∀ (fn : Fn) (first cap : Array Value) (w : World), (Instr.makeFunc fn first cap).run Tryz.prog w = .ok (.func fn first cap) w := fun _ _ _ _ => rfl
  have HF := Lib.hid hF
  clear hF
  go_enter_defers Tryz.func88, Tryz.ntmps88
  go_wp2_with fail
  refine HF.out.mono ?_
  clear HF
  have K0 : Hid (Blk (w.alloc (.cells #[.int .i64 0] 28)) w.heap.size [.int .i64 0] 28) := Blk.new w [.int .i64 0] 28 _ rfl
  have B0 := Lib.hid ((Below.refl w.heap.size w).alloc (Nat.le_refl _) (.cells #[.int .i64 0] 28))
  generalize w.alloc (.cells #[.int .i64 0] 28) = wa at *
  rintro e w1 ⟨hb, ⟨hk, v, rfl, ho⟩ | ⟨hk, rfl⟩⟩
  · have K1 := Lib.hid (K0.out.low hb)
    have B1 := Lib.hid (B0.out.trans (hb.mono B0.out.size))
    have k0 := K1.out.cell 0
    have f0 := K1.out.frozen 0
    simp only [List.getElem?_cons_zero] at k0
    have HO := Lib.hid ho
    have HK := Lib.hid hk
    clear hb ho hk K0 B0
    go_wp2_with fail
    refine leaves_cons (f := 102) (args := #[.pointer (some ⟨w.heap.size, 0, none⟩)]) (by simp) (by simp [go_sem]) ?_
    refine (catch_idle104 ⟨w.heap.size, 0, none⟩ _).mono ?_
    rintro e u' w'' ⟨rfl, rfl, rfl⟩
    have KZ := (K1.out.set 0 (.int .i64 0)).alloc (.cells #[] 167)
    have BZ := (B1.out.setCell (p := ⟨w.heap.size, 0, none⟩) (Nat.le_refl _) (.int .i64 0)).alloc (by simp; exact B1.out.size) (.cells #[] 167)
    have OZ : Own ((w1.setCell ⟨w.heap.size, 0, none⟩ (.int .i64 0)).alloc (.cells #[] 167)) (w.heap.size + 1) v l := World.ownsRow.alloc (ownsRow_setCell_below HO.out (a := ⟨w.heap.size, 0, none⟩) (Nat.lt_succ_self _) _) _
    exact ⟨_, results59_is _ _ w.heap.size (.int .i64 0) _ rfl rfl (by rw [KZ.cell 0]; rfl), BZ, .inl ⟨HK.out, v, rfl, Own.low OZ (Nat.le_succ _)⟩⟩
  · have K1 := Lib.hid (K0.out.low hb)
    have B1 := Lib.hid (B0.out.trans (hb.mono B0.out.size))
    have k0 := K1.out.cell 0
    have f0 := K1.out.frozen 0
    simp only [List.getElem?_cons_zero] at k0
    have HK := Lib.hid hk
    refine leaves_cons (f := 102) (args := #[.pointer (some ⟨w.heap.size, 0, none⟩)]) (by simp) (by simp [go_sem]) ?_
    refine (catch_wrong104 ⟨w.heap.size, 0, none⟩ _ _ k0 f0 K1.out.lt).mono ?_
    rintro e u' w'' ⟨rfl, rfl, rfl⟩
    have KZ := (K1.out.alloc (.cells #[] 167)).set 0 (.int .i64 80)
    have BZ := (B1.out.alloc B1.out.size (.cells #[] 167)).setCell (p := ⟨w.heap.size, 0, none⟩) (Nat.le_refl _) (.int .i64 80)
    exact ⟨_, results59_is _ _ w.heap.size (.int .i64 80) _ rfl rfl (by rw [KZ.cell 0]; rfl), BZ, .inr ⟨HK.out, rfl⟩⟩
theorem enters60 (args : Array Value) (w : World) : (callFunc 89 args).run Tryz.prog w = .ok (.enter 89 args) w := by kernel_rfl
theorem size26' : (Tryz.prog.info? 96).map (·.size) = some 7 := by kernel_rfl
set_option maxHeartbeats 1000000 in
set_option maxRecDepth 100000 in
theorem clo_meta (k a b d : Int) (t : ByteArray) (av rv : Value) (fv : Value) (gc gx gf : Nat) (w : World) (ok : Prop) (l : List UInt8)
    (hgc : Blk w gc [.func (.func 71) #[] #[]] 127) (hgx : Blk w gx [.int .i64 k, .int .i64 a, .int .i64 b, .int .i64 d, .string t, av, rv] 96) (hgf : Blk w gf [fv] 155)
    (hC : ∀ W, Below w.heap.size w W → Calls Tryz.prog 71 #[.agg #[.int .i64 k, .int .i64 a, .int .i64 b, .int .i64 d, .string t, av, rv]] W (Chk W ok)) (hP : ok → ∀ W, Below w.heap.size w W → Calls Tryz.prog 90 #[fv] W (Bys W l)) :
    Calls Tryz.prog 89 #[.pointer (some ⟨gc, 0, none⟩), .pointer (some ⟨gx, 0, none⟩), .pointer (some ⟨gf, 0, none⟩)] w (Tried w w.heap.size ok l) := by
  have CC := Lib.hid (hC w (Below.refl _ _))
  have HP := Lib.hid hP
  have KF := Lib.hid hgf
  have k0 := hgc.cell 0
  have hx := hgx
  unfold Blk at hx
  simp only [List.getElem?_cons_zero] at k0
  clear hC hP hgf hgc hgx
  go_enter Tryz.func89, Tryz.ntmps89
  go_wp2_with (refine wpList_load_row rfl 96 _ rfl gx rfl 96 _ (0, 0) _ hx Tryz.underlying96 rfl size26' ?_)
  refine CC.out.mono ?_
  clear CC
  rintro e w1 ⟨hb, ⟨hk, rfl⟩ | ⟨hk, rfl⟩⟩
  · have HB := Lib.hid hb
    have HK := Lib.hid hk
    have f0 := (KF.out.low hb).cell 0
    simp only [List.getElem?_cons_zero] at f0
    have CP := Lib.hid (HP.out hk w1 hb)
    clear hb hk HP KF k0 hx
    go_wp2_with fail
    refine CP.out.mono ?_
    clear CP
    rintro e w2 ⟨hb2, v, rfl, ho⟩
    have HB2 := Lib.hid (HB.out.trans (hb2.mono HB.out.size))
    have HO := Lib.hid (Own.low ho HB.out.size)
    clear hb2 ho f0
    go_wp2_with fail
    go_ret
    exact ⟨HB2.out, .inl ⟨HK.out, _, rfl, HO.out⟩⟩
  · exact ⟨rfl, hb, .inr ⟨hk, rfl⟩⟩
set_option maxHeartbeats 1000000 in
set_option maxRecDepth 100000 in
theorem written_meta (k a b d : Int) (t : ByteArray) (av rv : Value) (af : Option Addr) (fn fc : Nat) (w : World) (ok : Prop) (l : List UInt8)
    (hC : ∀ W, Below w.heap.size w W → Calls Tryz.prog 71 #[.agg #[.int .i64 k, .int .i64 a, .int .i64 b, .int .i64 d, .string t, av, rv]] W (Chk W ok)) (hP : ok → ∀ W, Below w.heap.size w W → Calls Tryz.prog 90 #[.slice af fn fc] W (Bys W l)) :
    Calls Tryz.prog 70 #[.agg #[.int .i64 k, .int .i64 a, .int .i64 b, .int .i64 d, .string t, av, rv], .func (.func 71) #[] #[], .slice af fn fc] w (PutR w ok l) := by
  have hmf : ∀ (fn : Fn) (first cap : Array Value) (w : World), (Instr.makeFunc fn first cap).run Tryz.prog w = .ok (.func fn first cap) w := fun _ _ _ _ => rfl
  have HC := Lib.hid hC
  have HP := Lib.hid hP
  obtain ⟨w1, hw1⟩ : ∃ w1, w1 = w.alloc (.cells #[.int .i64 k, .int .i64 a, .int .i64 b, .int .i64 d, .string t, av, rv] 96) := ⟨_, rfl⟩
  obtain ⟨w2, hw2⟩ : ∃ w2, w2 = w1.alloc (.cells #[.func (.func 71) #[] #[]] 127) := ⟨_, rfl⟩
  obtain ⟨w3, hw3⟩ : ∃ w3, w3 = w2.alloc (.cells #[.slice af fn fc] 155) := ⟨_, rfl⟩
  have s1 : w1.heap.size = w.heap.size + 1 := by rw [hw1]; simp
  have s2 : w2.heap.size = w.heap.size + 2 := by rw [hw2]; simp [s1]
  have s3 : w3.heap.size = w.heap.size + 3 := by rw [hw3]; simp [s2]
  have b1 : Below w.heap.size w w1 := by rw [hw1]; exact (Below.refl _ w).alloc (Nat.le_refl _) _
  have b2 : Below w.heap.size w w2 := by rw [hw2]; exact b1.alloc b1.size _
  have b3 : Below w.heap.size w w3 := by rw [hw3]; exact b2.alloc b2.size _
  have x1 : Blk w1 w.heap.size [.int .i64 k, .int .i64 a, .int .i64 b, .int .i64 d, .string t, av, rv] 96 := by rw [hw1]; exact Blk.new w [.int .i64 k, .int .i64 a, .int .i64 b, .int .i64 d, .string t, av, rv] 96 _ rfl
  have x3 : Blk w3 w.heap.size [.int .i64 k, .int .i64 a, .int .i64 b, .int .i64 d, .string t, av, rv] 96 := by rw [hw3, hw2]; exact (x1.alloc _).alloc _
  have c2 : Blk w2 (w.heap.size + 1) [.func (.func 71) #[] #[]] 127 := by rw [hw2]; exact Blk.new w1 [.func (.func 71) #[] #[]] 127 _ s1.symm
  have c3 : Blk w3 (w.heap.size + 1) [.func (.func 71) #[] #[]] 127 := by rw [hw3]; exact c2.alloc _
  have f3 : Blk w3 (w.heap.size + 2) [.slice af fn fc] 155 := by rw [hw3]; exact Blk.new w2 [.slice af fn fc] 155 _ s2.symm
  have B3 := Lib.hid b3
  have b4 : Below w3.heap.size w3 (w3.alloc (.cells #[.int .i64 0] 28)) := (Below.refl _ w3).alloc (Nat.le_refl _) _
  have b5 : Below w.heap.size w (w3.alloc (.cells #[.int .i64 0] 28)) := below_chain b3 b4
  have CL := clo_meta k a b d t av rv (.slice af fn fc) (w.heap.size + 1) w.heap.size (w.heap.size + 2) (w3.alloc (.cells #[.int .i64 0] 28)) ok l (c3.alloc _) (x3.alloc _) (f3.alloc _) (fun W hW => HC.out W (below_chain b5 hW)) (fun hk W hW => HP.out hk W (below_chain b5 hW))
  have e4 : (w3.alloc (.cells #[.int .i64 0] 28)).heap.size = w3.heap.size + 1 := by simp
  rw [e4] at CL
  have CA := Lib.hid (caught_bytes 89 _ w3 ok l enters60 CL)
  have HW1 := Lib.hid hw1
  have HW2 := Lib.hid hw2
  have HW3 := Lib.hid hw3
  clear hC hP s1 s2 s3 b1 b2 b3 x1 x3 c2 c3 f3 b4 b5 CL e4 hw1 hw2 hw3
  go_enter Tryz.func70, Tryz.ntmps70
  go_wp2_with fail
  rw [← HW1.out, ← HW2.out, ← HW3.out]
  refine CA.out.mono ?_
  clear CA
  rintro e w4 ⟨hb, ⟨hk, v, rfl, ho⟩ | ⟨hk, rfl⟩⟩
  · have HB := Lib.hid (below_chain B3.out hb)
    have HO := Lib.hid (Own.low ho B3.out.size)
    have HK := Lib.hid hk
    clear hb ho hk
    go_wp2_with fail
    go_ret2
    exact ⟨HB.out, .inl ⟨HK.out, _, rfl, HO.out⟩⟩
  · have HB := Lib.hid (below_chain B3.out hb)
    have HK := Lib.hid hk
    clear hb hk
    go_wp2_with fail
    go_ret2
    exact ⟨HB.out, .inr ⟨HK.out, rfl⟩⟩
theorem enters68 (args : Array Value) (w : World) : (callFunc 97 args).run Tryz.prog w = .ok (.enter 97 args) w := by kernel_rfl
theorem size30' : (Tryz.prog.info? 99).map (·.size) = some 3 := by kernel_rfl
set_option maxHeartbeats 1000000 in
set_option maxRecDepth 100000 in
theorem clo_listing (o : Bool) (sv zv : Value) (fv : Value) (gc gx gf : Nat) (w : World) (ok : Prop) (l : List UInt8)
    (hgc : Blk w gc [.func (.func 73) #[] #[]] 129) (hgx : Blk w gx [.bool o, sv, zv] 99) (hgf : Blk w gf [fv] 155)
    (hC : ∀ W, Below w.heap.size w W → Calls Tryz.prog 73 #[.agg #[.bool o, sv, zv]] W (Chk W ok)) (hP : ok → ∀ W, Below w.heap.size w W → Calls Tryz.prog 90 #[fv] W (Bys W l)) :
    Calls Tryz.prog 97 #[.pointer (some ⟨gc, 0, none⟩), .pointer (some ⟨gx, 0, none⟩), .pointer (some ⟨gf, 0, none⟩)] w (Tried w w.heap.size ok l) := by
  have CC := Lib.hid (hC w (Below.refl _ _))
  have HP := Lib.hid hP
  have KF := Lib.hid hgf
  have k0 := hgc.cell 0
  have hx := hgx
  unfold Blk at hx
  simp only [List.getElem?_cons_zero] at k0
  clear hC hP hgf hgc hgx
  go_enter Tryz.func97, Tryz.ntmps97
  go_wp2_with (refine wpList_load_row rfl 99 _ rfl gx rfl 99 _ (0, 0) _ hx Tryz.underlying99 rfl size30' ?_)
  refine CC.out.mono ?_
  clear CC
  rintro e w1 ⟨hb, ⟨hk, rfl⟩ | ⟨hk, rfl⟩⟩
  · have HB := Lib.hid hb
    have HK := Lib.hid hk
    have f0 := (KF.out.low hb).cell 0
    simp only [List.getElem?_cons_zero] at f0
    have CP := Lib.hid (HP.out hk w1 hb)
    clear hb hk HP KF k0 hx
    go_wp2_with fail
    refine CP.out.mono ?_
    clear CP
    rintro e w2 ⟨hb2, v, rfl, ho⟩
    have HB2 := Lib.hid (HB.out.trans (hb2.mono HB.out.size))
    have HO := Lib.hid (Own.low ho HB.out.size)
    clear hb2 ho f0
    go_wp2_with fail
    go_ret
    exact ⟨HB2.out, .inl ⟨HK.out, _, rfl, HO.out⟩⟩
  · exact ⟨rfl, hb, .inr ⟨hk, rfl⟩⟩
set_option maxHeartbeats 1000000 in
set_option maxRecDepth 100000 in
theorem written_listing (o : Bool) (sv zv : Value) (af : Option Addr) (fn fc : Nat) (w : World) (ok : Prop) (l : List UInt8)
    (hC : ∀ W, Below w.heap.size w W → Calls Tryz.prog 73 #[.agg #[.bool o, sv, zv]] W (Chk W ok)) (hP : ok → ∀ W, Below w.heap.size w W → Calls Tryz.prog 90 #[.slice af fn fc] W (Bys W l)) :
    Calls Tryz.prog 72 #[.agg #[.bool o, sv, zv], .func (.func 73) #[] #[], .slice af fn fc] w (PutR w ok l) := by
  have hmf : ∀ (fn : Fn) (first cap : Array Value) (w : World), (Instr.makeFunc fn first cap).run Tryz.prog w = .ok (.func fn first cap) w := fun _ _ _ _ => rfl
  have HC := Lib.hid hC
  have HP := Lib.hid hP
  obtain ⟨w1, hw1⟩ : ∃ w1, w1 = w.alloc (.cells #[.bool o, sv, zv] 99) := ⟨_, rfl⟩
  obtain ⟨w2, hw2⟩ : ∃ w2, w2 = w1.alloc (.cells #[.func (.func 73) #[] #[]] 129) := ⟨_, rfl⟩
  obtain ⟨w3, hw3⟩ : ∃ w3, w3 = w2.alloc (.cells #[.slice af fn fc] 155) := ⟨_, rfl⟩
  have s1 : w1.heap.size = w.heap.size + 1 := by rw [hw1]; simp
  have s2 : w2.heap.size = w.heap.size + 2 := by rw [hw2]; simp [s1]
  have s3 : w3.heap.size = w.heap.size + 3 := by rw [hw3]; simp [s2]
  have b1 : Below w.heap.size w w1 := by rw [hw1]; exact (Below.refl _ w).alloc (Nat.le_refl _) _
  have b2 : Below w.heap.size w w2 := by rw [hw2]; exact b1.alloc b1.size _
  have b3 : Below w.heap.size w w3 := by rw [hw3]; exact b2.alloc b2.size _
  have x1 : Blk w1 w.heap.size [.bool o, sv, zv] 99 := by rw [hw1]; exact Blk.new w [.bool o, sv, zv] 99 _ rfl
  have x3 : Blk w3 w.heap.size [.bool o, sv, zv] 99 := by rw [hw3, hw2]; exact (x1.alloc _).alloc _
  have c2 : Blk w2 (w.heap.size + 1) [.func (.func 73) #[] #[]] 129 := by rw [hw2]; exact Blk.new w1 [.func (.func 73) #[] #[]] 129 _ s1.symm
  have c3 : Blk w3 (w.heap.size + 1) [.func (.func 73) #[] #[]] 129 := by rw [hw3]; exact c2.alloc _
  have f3 : Blk w3 (w.heap.size + 2) [.slice af fn fc] 155 := by rw [hw3]; exact Blk.new w2 [.slice af fn fc] 155 _ s2.symm
  have B3 := Lib.hid b3
  have b4 : Below w3.heap.size w3 (w3.alloc (.cells #[.int .i64 0] 28)) := (Below.refl _ w3).alloc (Nat.le_refl _) _
  have b5 : Below w.heap.size w (w3.alloc (.cells #[.int .i64 0] 28)) := below_chain b3 b4
  have CL := clo_listing o sv zv (.slice af fn fc) (w.heap.size + 1) w.heap.size (w.heap.size + 2) (w3.alloc (.cells #[.int .i64 0] 28)) ok l (c3.alloc _) (x3.alloc _) (f3.alloc _) (fun W hW => HC.out W (below_chain b5 hW)) (fun hk W hW => HP.out hk W (below_chain b5 hW))
  have e4 : (w3.alloc (.cells #[.int .i64 0] 28)).heap.size = w3.heap.size + 1 := by simp
  rw [e4] at CL
  have CA := Lib.hid (caught_bytes 97 _ w3 ok l enters68 CL)
  have HW1 := Lib.hid hw1
  have HW2 := Lib.hid hw2
  have HW3 := Lib.hid hw3
  clear hC hP s1 s2 s3 b1 b2 b3 x1 x3 c2 c3 f3 b4 b5 CL e4 hw1 hw2 hw3
  go_enter Tryz.func72, Tryz.ntmps72
  go_wp2_with fail
  rw [← HW1.out, ← HW2.out, ← HW3.out]
  refine CA.out.mono ?_
  clear CA
  rintro e w4 ⟨hb, ⟨hk, v, rfl, ho⟩ | ⟨hk, rfl⟩⟩
  · have HB := Lib.hid (below_chain B3.out hb)
    have HO := Lib.hid (Own.low ho B3.out.size)
    have HK := Lib.hid hk
    clear hb ho hk
    go_wp2_with fail
    go_ret2
    exact ⟨HB.out, .inl ⟨HK.out, _, rfl, HO.out⟩⟩
  · have HB := Lib.hid (below_chain B3.out hb)
    have HK := Lib.hid hk
    clear hb hk
    go_wp2_with fail
    go_ret2
    exact ⟨HB.out, .inr ⟨HK.out, rfl⟩⟩
end Go.Proofs.YtcgbaiogbcodcaaGreatDoor.Sh
