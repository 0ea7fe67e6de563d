/-
  The contracts of obj's caught, of the functions that it defers, of put's written. Conditions: each law's own.
-/
import Derived.Test.YtpjgkboafmebbaaGreatDoorOe
import Derived.Defers
import Derived.Recover
namespace Go.Proofs.YtpjgkboafmebbaaGreatDoor.Sh
open Go.RowKit Go.Lib Lb

theorem no162n (w : World) : (Instr.typeAssert .nilIface 20 162 true).run Tryz.prog w = .ok (.tuple #[.agg #[], .bool false]) w := by kernel_rfl
theorem is162 (v : Value) (w : World) : (Instr.typeAssert (.iface 162 v) 20 162 true).run Tryz.prog w = .ok (.tuple #[v, .bool true]) w := assert_yes Tryz.underlying162 rfl v 20 w
theorem catch_wrong104 (p : Addr) (x : Value) (w : World) (hc : w.cell? p = some x) (hz : w.frozen? p = false) (hp : p.block < w.heap.size) :
    CallsD Tryz.prog 104 #[.pointer (some p)] (.panicking ({ v := .iface 162 (.agg #[]), recovered := false } :: [])) w fun e u' w' =>
      e = .returned (.tuple #[]) ∧ u' = .panicking ({ v := .iface 162 (.agg #[]), recovered := true } :: []) ∧ w' = (w.alloc (.cells #[] 162)).setCell p (.int .i64 80) := by
  have ha := is162
  have hc2 : (w.alloc (.cells #[] 162)).cell? p = some x := by rw [World.cell?_alloc_lt _ _ p hp]; exact hc
  have hz2 : (w.alloc (.cells #[] 162)).frozen? p = false := by rw [World.frozen?_alloc_old _ _ p (Nat.ne_of_lt hp)]; exact hz
  refine callsD_of_wpS Tryz.func104 rfl fun c₀ cs hu => ?_
  apply wpS_seq
  apply wpS_region
  simp [wpOpsS, go_sem, recoverD, hu, Tryz.ntmps104, Exit.thenS]
  refine wpS_of_wp ?_
  have ht : #[Value.pointer (some p)] ++ ((Array.replicate 13 undef).setIfInBounds 3 (Value.iface 162 (Value.agg #[]))).setIfInBounds 0 (Value.iface 162 (Value.agg #[])) = #[.pointer (some p), .iface 162 (.agg #[]), undef, undef, .iface 162 (.agg #[]), undef, undef, undef, undef, undef, undef, undef, undef, undef] := rfl
  rw [ht]
  go_wp2_with fail
  exact ⟨rfl, _, rfl, _, results_none rfl _ _ _, rfl, rfl, rfl⟩
theorem catch_idle104 (p : Addr) (w : World) :
    CallsD Tryz.prog 104 #[.pointer (some p)] .returning w fun e u' w' =>
      e = .returned (.tuple #[]) ∧ u' = .returning ∧ w' = w.alloc (.cells #[] 162) := by
  have ha := no162n
  refine callsD_of_wpS Tryz.func104 rfl fun c₀ cs hu => ?_
  apply wpS_seq
  apply wpS_region
  simp [wpOpsS, go_sem, recoverD, hu, Tryz.ntmps104, Exit.thenS]
  refine wpS_of_wp ?_
  have ht : #[Value.pointer (some p)] ++ ((Array.replicate 13 undef).setIfInBounds 3 Value.nilIface).setIfInBounds 0 Value.nilIface = #[.pointer (some p), .nilIface, undef, undef, .nilIface, undef, undef, undef, undef, undef, undef, undef, undef, undef] := rfl
  rw [ht]
  go_wp2_with fail
  exact ⟨rfl, _, by rw [← hu], _, results_none rfl _ _ _, rfl, rfl, rfl⟩
theorem catch_wrong111 (p : Addr) (x : Value) (w : World) (hc : w.cell? p = some x) (hz : w.frozen? p = false) (hp : p.block < w.heap.size) :
    CallsD Tryz.prog 111 #[.pointer (some p)] (.panicking ({ v := .iface 162 (.agg #[]), recovered := false } :: [])) w fun e u' w' =>
      e = .returned (.tuple #[]) ∧ u' = .panicking ({ v := .iface 162 (.agg #[]), recovered := true } :: []) ∧ w' = (w.alloc (.cells #[] 162)).setCell p (.int .i64 80) := by
  have ha := is162
  have hc2 : (w.alloc (.cells #[] 162)).cell? p = some x := by rw [World.cell?_alloc_lt _ _ p hp]; exact hc
  have hz2 : (w.alloc (.cells #[] 162)).frozen? p = false := by rw [World.frozen?_alloc_old _ _ p (Nat.ne_of_lt hp)]; exact hz
  refine callsD_of_wpS Tryz.func111 rfl fun c₀ cs hu => ?_
  apply wpS_seq
  apply wpS_region
  simp [wpOpsS, go_sem, recoverD, hu, Tryz.ntmps111, Exit.thenS]
  refine wpS_of_wp ?_
  have ht : #[Value.pointer (some p)] ++ ((Array.replicate 13 undef).setIfInBounds 3 (Value.iface 162 (Value.agg #[]))).setIfInBounds 0 (Value.iface 162 (Value.agg #[])) = #[.pointer (some p), .iface 162 (.agg #[]), undef, undef, .iface 162 (.agg #[]), undef, undef, undef, undef, undef, undef, undef, undef, undef] := rfl
  rw [ht]
  go_wp2_with fail
  exact ⟨rfl, _, rfl, _, results_none rfl _ _ _, rfl, rfl, rfl⟩
theorem catch_idle111 (p : Addr) (w : World) :
    CallsD Tryz.prog 111 #[.pointer (some p)] .returning w fun e u' w' =>
      e = .returned (.tuple #[]) ∧ u' = .returning ∧ w' = w.alloc (.cells #[] 162) := by
  have ha := no162n
  refine callsD_of_wpS Tryz.func111 rfl fun c₀ cs hu => ?_
  apply wpS_seq
  apply wpS_region
  simp [wpOpsS, go_sem, recoverD, hu, Tryz.ntmps111, Exit.thenS]
  refine wpS_of_wp ?_
  have ht : #[Value.pointer (some p)] ++ ((Array.replicate 13 undef).setIfInBounds 3 Value.nilIface).setIfInBounds 0 Value.nilIface = #[.pointer (some p), .nilIface, undef, undef, .nilIface, undef, undef, undef, undef, undef, undef, undef, undef, undef] := rfl
  rw [ht]
  go_wp2_with fail
  exact ⟨rfl, _, by rw [← hu], _, results_none rfl _ _ _, rfl, rfl, rfl⟩
theorem catch_wrong119 (p : Addr) (x : Value) (w : World) (hc : w.cell? p = some x) (hz : w.frozen? p = false) (hp : p.block < w.heap.size) :
    CallsD Tryz.prog 119 #[.pointer (some p)] (.panicking ({ v := .iface 162 (.agg #[]), recovered := false } :: [])) w fun e u' w' =>
      e = .returned (.tuple #[]) ∧ u' = .panicking ({ v := .iface 162 (.agg #[]), recovered := true } :: []) ∧ w' = (w.alloc (.cells #[] 162)).setCell p (.int .i64 80) := by
  have ha := is162
  have hc2 : (w.alloc (.cells #[] 162)).cell? p = some x := by rw [World.cell?_alloc_lt _ _ p hp]; exact hc
  have hz2 : (w.alloc (.cells #[] 162)).frozen? p = false := by rw [World.frozen?_alloc_old _ _ p (Nat.ne_of_lt hp)]; exact hz
  refine callsD_of_wpS Tryz.func119 rfl fun c₀ cs hu => ?_
  apply wpS_seq
  apply wpS_region
  simp [wpOpsS, go_sem, recoverD, hu, Tryz.ntmps119, Exit.thenS]
  refine wpS_of_wp ?_
  have ht : #[Value.pointer (some p)] ++ ((Array.replicate 13 undef).setIfInBounds 3 (Value.iface 162 (Value.agg #[]))).setIfInBounds 0 (Value.iface 162 (Value.agg #[])) = #[.pointer (some p), .iface 162 (.agg #[]), undef, undef, .iface 162 (.agg #[]), undef, undef, undef, undef, undef, undef, undef, undef, undef] := rfl
  rw [ht]
  go_wp2_with fail
  exact ⟨rfl, _, rfl, _, results_none rfl _ _ _, rfl, rfl, rfl⟩
theorem catch_idle119 (p : Addr) (w : World) :
    CallsD Tryz.prog 119 #[.pointer (some p)] .returning w fun e u' w' =>
      e = .returned (.tuple #[]) ∧ u' = .returning ∧ w' = w.alloc (.cells #[] 162) := by
  have ha := no162n
  refine callsD_of_wpS Tryz.func119 rfl fun c₀ cs hu => ?_
  apply wpS_seq
  apply wpS_region
  simp [wpOpsS, go_sem, recoverD, hu, Tryz.ntmps119, Exit.thenS]
  refine wpS_of_wp ?_
  have ht : #[Value.pointer (some p)] ++ ((Array.replicate 13 undef).setIfInBounds 3 Value.nilIface).setIfInBounds 0 Value.nilIface = #[.pointer (some p), .nilIface, undef, undef, .nilIface, undef, undef, undef, undef, undef, undef, undef, undef, undef] := rfl
  rw [ht]
  go_wp2_with fail
  exact ⟨rfl, _, by rw [← hu], _, results_none rfl _ _ _, rfl, rfl, rfl⟩
theorem catch_wrong121 (p : Addr) (x : Value) (w : World) (hc : w.cell? p = some x) (hz : w.frozen? p = false) (hp : p.block < w.heap.size) :
    CallsD Tryz.prog 121 #[.pointer (some p)] (.panicking ({ v := .iface 162 (.agg #[]), recovered := false } :: [])) w fun e u' w' =>
      e = .returned (.tuple #[]) ∧ u' = .panicking ({ v := .iface 162 (.agg #[]), recovered := true } :: []) ∧ w' = (w.alloc (.cells #[] 162)).setCell p (.int .i64 80) := by
  have ha := is162
  have hc2 : (w.alloc (.cells #[] 162)).cell? p = some x := by rw [World.cell?_alloc_lt _ _ p hp]; exact hc
  have hz2 : (w.alloc (.cells #[] 162)).frozen? p = false := by rw [World.frozen?_alloc_old _ _ p (Nat.ne_of_lt hp)]; exact hz
  refine callsD_of_wpS Tryz.func121 rfl fun c₀ cs hu => ?_
  apply wpS_seq
  apply wpS_region
  simp [wpOpsS, go_sem, recoverD, hu, Tryz.ntmps121, Exit.thenS]
  refine wpS_of_wp ?_
  have ht : #[Value.pointer (some p)] ++ ((Array.replicate 13 undef).setIfInBounds 3 (Value.iface 162 (Value.agg #[]))).setIfInBounds 0 (Value.iface 162 (Value.agg #[])) = #[.pointer (some p), .iface 162 (.agg #[]), undef, undef, .iface 162 (.agg #[]), undef, undef, undef, undef, undef, undef, undef, undef, undef] := rfl
  rw [ht]
  go_wp2_with fail
  exact ⟨rfl, _, rfl, _, results_none rfl _ _ _, rfl, rfl, rfl⟩
theorem catch_idle121 (p : Addr) (w : World) :
    CallsD Tryz.prog 121 #[.pointer (some p)] .returning w fun e u' w' =>
      e = .returned (.tuple #[]) ∧ u' = .returning ∧ w' = w.alloc (.cells #[] 162) := by
  have ha := no162n
  refine callsD_of_wpS Tryz.func121 rfl fun c₀ cs hu => ?_
  apply wpS_seq
  apply wpS_region
  simp [wpOpsS, go_sem, recoverD, hu, Tryz.ntmps121, Exit.thenS]
  refine wpS_of_wp ?_
  have ht : #[Value.pointer (some p)] ++ ((Array.replicate 13 undef).setIfInBounds 3 Value.nilIface).setIfInBounds 0 Value.nilIface = #[.pointer (some p), .nilIface, undef, undef, .nilIface, undef, undef, undef, undef, undef, undef, undef, undef, undef] := rfl
  rw [ht]
  go_wp2_with fail
  exact ⟨rfl, _, by rw [← hu], _, results_none rfl _ _ _, rfl, rfl, rfl⟩
theorem catch_wrong123 (p : Addr) (x : Value) (w : World) (hc : w.cell? p = some x) (hz : w.frozen? p = false) (hp : p.block < w.heap.size) :
    CallsD Tryz.prog 123 #[.pointer (some p)] (.panicking ({ v := .iface 162 (.agg #[]), recovered := false } :: [])) w fun e u' w' =>
      e = .returned (.tuple #[]) ∧ u' = .panicking ({ v := .iface 162 (.agg #[]), recovered := true } :: []) ∧ w' = (w.alloc (.cells #[] 162)).setCell p (.int .i64 80) := by
  have ha := is162
  have hc2 : (w.alloc (.cells #[] 162)).cell? p = some x := by rw [World.cell?_alloc_lt _ _ p hp]; exact hc
  have hz2 : (w.alloc (.cells #[] 162)).frozen? p = false := by rw [World.frozen?_alloc_old _ _ p (Nat.ne_of_lt hp)]; exact hz
  refine callsD_of_wpS Tryz.func123 rfl fun c₀ cs hu => ?_
  apply wpS_seq
  apply wpS_region
  simp [wpOpsS, go_sem, recoverD, hu, Tryz.ntmps123, Exit.thenS]
  refine wpS_of_wp ?_
  have ht : #[Value.pointer (some p)] ++ ((Array.replicate 13 undef).setIfInBounds 3 (Value.iface 162 (Value.agg #[]))).setIfInBounds 0 (Value.iface 162 (Value.agg #[])) = #[.pointer (some p), .iface 162 (.agg #[]), undef, undef, .iface 162 (.agg #[]), undef, undef, undef, undef, undef, undef, undef, undef, undef] := rfl
  rw [ht]
  go_wp2_with fail
  exact ⟨rfl, _, rfl, _, results_none rfl _ _ _, rfl, rfl, rfl⟩
theorem catch_idle123 (p : Addr) (w : World) :
    CallsD Tryz.prog 123 #[.pointer (some p)] .returning w fun e u' w' =>
      e = .returned (.tuple #[]) ∧ u' = .returning ∧ w' = w.alloc (.cells #[] 162) := by
  have ha := no162n
  refine callsD_of_wpS Tryz.func123 rfl fun c₀ cs hu => ?_
  apply wpS_seq
  apply wpS_region
  simp [wpOpsS, go_sem, recoverD, hu, Tryz.ntmps123, Exit.thenS]
  refine wpS_of_wp ?_
  have ht : #[Value.pointer (some p)] ++ ((Array.replicate 13 undef).setIfInBounds 3 Value.nilIface).setIfInBounds 0 Value.nilIface = #[.pointer (some p), .nilIface, undef, undef, .nilIface, undef, undef, undef, undef, undef, undef, undef, undef, undef] := rfl
  rw [ht]
  go_wp2_with fail
  exact ⟨rfl, _, by rw [← hu], _, results_none rfl _ _ _, rfl, rfl, rfl⟩
/-- what a function that is tried does: it gives a row of bytes, or what is wrong goes up -/
def Tried (w : World) (B : Nat) (ok : Prop) (l : List UInt8) (e : Ending) (w' : World) : Prop := Below w.heap.size w w' ∧ ((ok ∧ ∃ v, e = .returned v ∧ Own w' B v l) ∨ (¬ ok ∧ e = .panicked Wrong))
/-- bytes and an error's number -/
def PutR (w : World) (ok : Prop) (l : List UInt8) (e : Ending) (w' : World) : Prop := Below w.heap.size w w' ∧ ((ok ∧ ∃ v, e = .returned (.tuple #[v, .int .i64 0]) ∧ Own w' w.heap.size v l) ∨ (¬ ok ∧ e = .returned (.tuple #[.slice none 0 0, .int .i64 80])))
theorem results59_is (tmps : Array Value) (w : World) (g : Nat) (x y : Value) (hp : tmps.getD 3 undef = .pointer (some ⟨g, 0, none⟩)) (hy : tmps.getD 2 undef = y) (hc : w.cell? ⟨g, 0, none⟩ = some x) :
    (results Tryz.f59 tmps).run Tryz.prog w = .ok (.tuple #[y, x]) w := by
  have hp' : tmps[3]?.getD undef = .pointer (some ⟨g, 0, none⟩) := by simpa using hp
  have hy' : tmps[2]?.getD undef = y := by simpa using hy
  simp [results, Tryz.results59, go_sem, hp', hy', hc]
set_option maxHeartbeats 1000000 in
set_option maxRecDepth 100000 in
theorem caught_bytes (F : FuncId) (caps : Array Value) (w : World) (ok : Prop) (l : List UInt8) (hE : ∀ (args : Array Value) (w : World), (callFunc F args).run Tryz.prog w = .ok (.enter F args) w)
    (hF : Calls Tryz.prog F caps (w.alloc (.cells #[.int .i64 0] 37)) (Tried (w.alloc (.cells #[.int .i64 0] 37)) (w.heap.size + 1) ok l)) :
    Calls Tryz.prog 59 #[.func (.func F) #[] caps] w (PutR w ok l) := by
  have hmf : ∀ (fn : Fn) (first cap : Array Value) (w : World), (Instr.makeFunc fn first cap).run Tryz.prog w = .ok (.func fn first cap) w := fun _ _ _ _ => rfl
  have HF := Lib.hid hF
  clear hF
  go_enter_defers Tryz.func59, Tryz.ntmps59
  go_wp2_with fail
  refine HF.out.mono ?_
  clear HF
  have K0 : Hid (Blk (w.alloc (.cells #[.int .i64 0] 37)) w.heap.size [.int .i64 0] 37) := Blk.new w [.int .i64 0] 37 _ rfl
  have B0 := Lib.hid ((Below.refl w.heap.size w).alloc (Nat.le_refl _) (.cells #[.int .i64 0] 37))
  generalize w.alloc (.cells #[.int .i64 0] 37) = wa at *
  rintro e w1 ⟨hb, ⟨hk, v, rfl, ho⟩ | ⟨hk, rfl⟩⟩
  · have K1 := Lib.hid (K0.out.low hb)
    have B1 := Lib.hid (B0.out.trans (hb.mono B0.out.size))
    have k0 := K1.out.cell 0
    have f0 := K1.out.frozen 0
    simp only [List.getElem?_cons_zero] at k0
    have HO := Lib.hid ho
    have HK := Lib.hid hk
    clear hb ho hk K0 B0
    go_wp2_with fail
    refine leaves_cons (f := 104) (args := #[.pointer (some ⟨w.heap.size, 0, none⟩)]) (by simp) (by simp [go_sem]) ?_
    refine (catch_idle104 ⟨w.heap.size, 0, none⟩ _).mono ?_
    rintro e u' w'' ⟨rfl, rfl, rfl⟩
    have KZ := (K1.out.set 0 (.int .i64 0)).alloc (.cells #[] 162)
    have BZ := (B1.out.setCell (p := ⟨w.heap.size, 0, none⟩) (Nat.le_refl _) (.int .i64 0)).alloc (by simp; exact B1.out.size) (.cells #[] 162)
    have OZ : Own ((w1.setCell ⟨w.heap.size, 0, none⟩ (.int .i64 0)).alloc (.cells #[] 162)) (w.heap.size + 1) v l := World.ownsRow.alloc (ownsRow_setCell_below HO.out (a := ⟨w.heap.size, 0, none⟩) (Nat.lt_succ_self _) _) _
    exact ⟨_, results59_is _ _ w.heap.size (.int .i64 0) _ rfl rfl (by rw [KZ.cell 0]; rfl), BZ, .inl ⟨HK.out, v, rfl, Own.low OZ (Nat.le_succ _)⟩⟩
  · have K1 := Lib.hid (K0.out.low hb)
    have B1 := Lib.hid (B0.out.trans (hb.mono B0.out.size))
    have k0 := K1.out.cell 0
    have f0 := K1.out.frozen 0
    simp only [List.getElem?_cons_zero] at k0
    have HK := Lib.hid hk
    refine leaves_cons (f := 104) (args := #[.pointer (some ⟨w.heap.size, 0, none⟩)]) (by simp) (by simp [go_sem]) ?_
    refine (catch_wrong104 ⟨w.heap.size, 0, none⟩ _ _ k0 f0 K1.out.lt).mono ?_
    rintro e u' w'' ⟨rfl, rfl, rfl⟩
    have KZ := (K1.out.alloc (.cells #[] 162)).set 0 (.int .i64 80)
    have BZ := (B1.out.alloc B1.out.size (.cells #[] 162)).setCell (p := ⟨w.heap.size, 0, none⟩) (Nat.le_refl _) (.int .i64 80)
    exact ⟨_, results59_is _ _ w.heap.size (.int .i64 80) _ rfl rfl (by rw [KZ.cell 0]; rfl), BZ, .inr ⟨HK.out, rfl⟩⟩
theorem enters60 (args : Array Value) (w : World) : (callFunc 60 args).run Tryz.prog w = .ok (.enter 60 args) w := by kernel_rfl
theorem size26' : (Tryz.prog.info? 26).map (·.size) = some 7 := by kernel_rfl
set_option maxHeartbeats 1000000 in
set_option maxRecDepth 100000 in
theorem clo_meta (k a b d : Int) (t : ByteArray) (av rv : Value) (fv : Value) (gc gx gf : Nat) (w : World) (ok : Prop) (l : List UInt8)
    (hgc : Blk w gc [.func (.func 33) #[] #[]] 80) (hgx : Blk w gx [.int .i64 k, .int .i64 a, .int .i64 b, .int .i64 d, .string t, av, rv] 26) (hgf : Blk w gf [fv] 112)
    (hC : ∀ W, Below w.heap.size w W → Calls Tryz.prog 33 #[.agg #[.int .i64 k, .int .i64 a, .int .i64 b, .int .i64 d, .string t, av, rv]] W (Chk W ok)) (hP : ok → ∀ W, Below w.heap.size w W → Calls Tryz.prog 61 #[fv] W (Bys W l)) :
    Calls Tryz.prog 60 #[.pointer (some ⟨gc, 0, none⟩), .pointer (some ⟨gx, 0, none⟩), .pointer (some ⟨gf, 0, none⟩)] w (Tried w w.heap.size ok l) := by
  have CC := Lib.hid (hC w (Below.refl _ _))
  have HP := Lib.hid hP
  have KF := Lib.hid hgf
  have k0 := hgc.cell 0
  have hx := hgx
  unfold Blk at hx
  simp only [List.getElem?_cons_zero] at k0
  clear hC hP hgf hgc hgx
  go_enter Tryz.func60, Tryz.ntmps60
  go_wp2_with (refine wpList_load_row rfl 26 _ rfl gx rfl 26 _ (0, 0) _ hx Tryz.underlying26 rfl size26' ?_)
  refine CC.out.mono ?_
  clear CC
  rintro e w1 ⟨hb, ⟨hk, rfl⟩ | ⟨hk, rfl⟩⟩
  · have HB := Lib.hid hb
    have HK := Lib.hid hk
    have f0 := (KF.out.low hb).cell 0
    simp only [List.getElem?_cons_zero] at f0
    have CP := Lib.hid (HP.out hk w1 hb)
    clear hb hk HP KF k0 hx
    go_wp2_with fail
    refine CP.out.mono ?_
    clear CP
    rintro e w2 ⟨hb2, v, rfl, ho⟩
    have HB2 := Lib.hid (HB.out.trans (hb2.mono HB.out.size))
    have HO := Lib.hid (Own.low ho HB.out.size)
    clear hb2 ho f0
    go_wp2_with fail
    go_ret
    exact ⟨HB2.out, .inl ⟨HK.out, _, rfl, HO.out⟩⟩
  · exact ⟨rfl, hb, .inr ⟨hk, rfl⟩⟩
set_option maxHeartbeats 1000000 in
set_option maxRecDepth 100000 in
theorem written_meta (k a b d : Int) (t : ByteArray) (av rv : Value) (af : Option Addr) (fn fc : Nat) (w : World) (ok : Prop) (l : List UInt8)
    (hC : ∀ W, Below w.heap.size w W → Calls Tryz.prog 33 #[.agg #[.int .i64 k, .int .i64 a, .int .i64 b, .int .i64 d, .string t, av, rv]] W (Chk W ok)) (hP : ok → ∀ W, Below w.heap.size w W → Calls Tryz.prog 61 #[.slice af fn fc] W (Bys W l)) :
    Calls Tryz.prog 32 #[.agg #[.int .i64 k, .int .i64 a, .int .i64 b, .int .i64 d, .string t, av, rv], .func (.func 33) #[] #[], .slice af fn fc] w (PutR w ok l) := by
  have hmf : ∀ (fn : Fn) (first cap : Array Value) (w : World), (Instr.makeFunc fn first cap).run Tryz.prog w = .ok (.func fn first cap) w := fun _ _ _ _ => rfl
  have HC := Lib.hid hC
  have HP := Lib.hid hP
  obtain ⟨w1, hw1⟩ : ∃ w1, w1 = w.alloc (.cells #[.int .i64 k, .int .i64 a, .int .i64 b, .int .i64 d, .string t, av, rv] 26) := ⟨_, rfl⟩
  obtain ⟨w2, hw2⟩ : ∃ w2, w2 = w1.alloc (.cells #[.func (.func 33) #[] #[]] 80) := ⟨_, rfl⟩
  obtain ⟨w3, hw3⟩ : ∃ w3, w3 = w2.alloc (.cells #[.slice af fn fc] 112) := ⟨_, rfl⟩
  have s1 : w1.heap.size = w.heap.size + 1 := by rw [hw1]; simp
  have s2 : w2.heap.size = w.heap.size + 2 := by rw [hw2]; simp [s1]
  have s3 : w3.heap.size = w.heap.size + 3 := by rw [hw3]; simp [s2]
  have b1 : Below w.heap.size w w1 := by rw [hw1]; exact (Below.refl _ w).alloc (Nat.le_refl _) _
  have b2 : Below w.heap.size w w2 := by rw [hw2]; exact b1.alloc b1.size _
  have b3 : Below w.heap.size w w3 := by rw [hw3]; exact b2.alloc b2.size _
  have x1 : Blk w1 w.heap.size [.int .i64 k, .int .i64 a, .int .i64 b, .int .i64 d, .string t, av, rv] 26 := by rw [hw1]; exact Blk.new w [.int .i64 k, .int .i64 a, .int .i64 b, .int .i64 d, .string t, av, rv] 26 _ rfl
  have x3 : Blk w3 w.heap.size [.int .i64 k, .int .i64 a, .int .i64 b, .int .i64 d, .string t, av, rv] 26 := by rw [hw3, hw2]; exact (x1.alloc _).alloc _
  have c2 : Blk w2 (w.heap.size + 1) [.func (.func 33) #[] #[]] 80 := by rw [hw2]; exact Blk.new w1 [.func (.func 33) #[] #[]] 80 _ s1.symm
  have c3 : Blk w3 (w.heap.size + 1) [.func (.func 33) #[] #[]] 80 := by rw [hw3]; exact c2.alloc _
  have f3 : Blk w3 (w.heap.size + 2) [.slice af fn fc] 112 := by rw [hw3]; exact Blk.new w2 [.slice af fn fc] 112 _ s2.symm
  have B3 := Lib.hid b3
  have b4 : Below w3.heap.size w3 (w3.alloc (.cells #[.int .i64 0] 37)) := (Below.refl _ w3).alloc (Nat.le_refl _) _
  have b5 : Below w.heap.size w (w3.alloc (.cells #[.int .i64 0] 37)) := below_chain b3 b4
  have CL := clo_meta k a b d t av rv (.slice af fn fc) (w.heap.size + 1) w.heap.size (w.heap.size + 2) (w3.alloc (.cells #[.int .i64 0] 37)) ok l (c3.alloc _) (x3.alloc _) (f3.alloc _) (fun W hW => HC.out W (below_chain b5 hW)) (fun hk W hW => HP.out hk W (below_chain b5 hW))
  have e4 : (w3.alloc (.cells #[.int .i64 0] 37)).heap.size = w3.heap.size + 1 := by simp
  rw [e4] at CL
  have CA := Lib.hid (caught_bytes 60 _ w3 ok l enters60 CL)
  have HW1 := Lib.hid hw1
  have HW2 := Lib.hid hw2
  have HW3 := Lib.hid hw3
  clear hC hP s1 s2 s3 b1 b2 b3 x1 x3 c2 c3 f3 b4 b5 CL e4 hw1 hw2 hw3
  go_enter Tryz.func32, Tryz.ntmps32
  go_wp2_with fail
  rw [← HW1.out, ← HW2.out, ← HW3.out]
  refine CA.out.mono ?_
  clear CA
  rintro e w4 ⟨hb, ⟨hk, v, rfl, ho⟩ | ⟨hk, rfl⟩⟩
  · have HB := Lib.hid (below_chain B3.out hb)
    have HO := Lib.hid (Own.low ho B3.out.size)
    have HK := Lib.hid hk
    clear hb ho hk
    go_wp2_with fail
    go_ret2
    exact ⟨HB.out, .inl ⟨HK.out, _, rfl, HO.out⟩⟩
  · have HB := Lib.hid (below_chain B3.out hb)
    have HK := Lib.hid hk
    clear hb hk
    go_wp2_with fail
    go_ret2
    exact ⟨HB.out, .inr ⟨HK.out, rfl⟩⟩
theorem enters68 (args : Array Value) (w : World) : (callFunc 68 args).run Tryz.prog w = .ok (.enter 68 args) w := by kernel_rfl
theorem size30' : (Tryz.prog.info? 30).map (·.size) = some 3 := by kernel_rfl
set_option maxHeartbeats 1000000 in
set_option maxRecDepth 100000 in
theorem clo_listing (o : Bool) (sv zv : Value) (fv : Value) (gc gx gf : Nat) (w : World) (ok : Prop) (l : List UInt8)
    (hgc : Blk w gc [.func (.func 35) #[] #[]] 82) (hgx : Blk w gx [.bool o, sv, zv] 30) (hgf : Blk w gf [fv] 112)
    (hC : ∀ W, Below w.heap.size w W → Calls Tryz.prog 35 #[.agg #[.bool o, sv, zv]] W (Chk W ok)) (hP : ok → ∀ W, Below w.heap.size w W → Calls Tryz.prog 61 #[fv] W (Bys W l)) :
    Calls Tryz.prog 68 #[.pointer (some ⟨gc, 0, none⟩), .pointer (some ⟨gx, 0, none⟩), .pointer (some ⟨gf, 0, none⟩)] w (Tried w w.heap.size ok l) := by
  have CC := Lib.hid (hC w (Below.refl _ _))
  have HP := Lib.hid hP
  have KF := Lib.hid hgf
  have k0 := hgc.cell 0
  have hx := hgx
  unfold Blk at hx
  simp only [List.getElem?_cons_zero] at k0
  clear hC hP hgf hgc hgx
  go_enter Tryz.func68, Tryz.ntmps68
  go_wp2_with (refine wpList_load_row rfl 30 _ rfl gx rfl 30 _ (0, 0) _ hx Tryz.underlying30 rfl size30' ?_)
  refine CC.out.mono ?_
  clear CC
  rintro e w1 ⟨hb, ⟨hk, rfl⟩ | ⟨hk, rfl⟩⟩
  · have HB := Lib.hid hb
    have HK := Lib.hid hk
    have f0 := (KF.out.low hb).cell 0
    simp only [List.getElem?_cons_zero] at f0
    have CP := Lib.hid (HP.out hk w1 hb)
    clear hb hk HP KF k0 hx
    go_wp2_with fail
    refine CP.out.mono ?_
    clear CP
    rintro e w2 ⟨hb2, v, rfl, ho⟩
    have HB2 := Lib.hid (HB.out.trans (hb2.mono HB.out.size))
    have HO := Lib.hid (Own.low ho HB.out.size)
    clear hb2 ho f0
    go_wp2_with fail
    go_ret
    exact ⟨HB2.out, .inl ⟨HK.out, _, rfl, HO.out⟩⟩
  · exact ⟨rfl, hb, .inr ⟨hk, rfl⟩⟩
set_option maxHeartbeats 1000000 in
set_option maxRecDepth 100000 in
theorem written_listing (o : Bool) (sv zv : Value) (af : Option Addr) (fn fc : Nat) (w : World) (ok : Prop) (l : List UInt8)
    (hC : ∀ W, Below w.heap.size w W → Calls Tryz.prog 35 #[.agg #[.bool o, sv, zv]] W (Chk W ok)) (hP : ok → ∀ W, Below w.heap.size w W → Calls Tryz.prog 61 #[.slice af fn fc] W (Bys W l)) :
    Calls Tryz.prog 34 #[.agg #[.bool o, sv, zv], .func (.func 35) #[] #[], .slice af fn fc] w (PutR w ok l) := by
  have hmf : ∀ (fn : Fn) (first cap : Array Value) (w : World), (Instr.makeFunc fn first cap).run Tryz.prog w = .ok (.func fn first cap) w := fun _ _ _ _ => rfl
  have HC := Lib.hid hC
  have HP := Lib.hid hP
  obtain ⟨w1, hw1⟩ : ∃ w1, w1 = w.alloc (.cells #[.bool o, sv, zv] 30) := ⟨_, rfl⟩
  obtain ⟨w2, hw2⟩ : ∃ w2, w2 = w1.alloc (.cells #[.func (.func 35) #[] #[]] 82) := ⟨_, rfl⟩
  obtain ⟨w3, hw3⟩ : ∃ w3, w3 = w2.alloc (.cells #[.slice af fn fc] 112) := ⟨_, rfl⟩
  have s1 : w1.heap.size = w.heap.size + 1 := by rw [hw1]; simp
  have s2 : w2.heap.size = w.heap.size + 2 := by rw [hw2]; simp [s1]
  have s3 : w3.heap.size = w.heap.size + 3 := by rw [hw3]; simp [s2]
  have b1 : Below w.heap.size w w1 := by rw [hw1]; exact (Below.refl _ w).alloc (Nat.le_refl _) _
  have b2 : Below w.heap.size w w2 := by rw [hw2]; exact b1.alloc b1.size _
  have b3 : Below w.heap.size w w3 := by rw [hw3]; exact b2.alloc b2.size _
  have x1 : Blk w1 w.heap.size [.bool o, sv, zv] 30 := by rw [hw1]; exact Blk.new w [.bool o, sv, zv] 30 _ rfl
  have x3 : Blk w3 w.heap.size [.bool o, sv, zv] 30 := by rw [hw3, hw2]; exact (x1.alloc _).alloc _
  have c2 : Blk w2 (w.heap.size + 1) [.func (.func 35) #[] #[]] 82 := by rw [hw2]; exact Blk.new w1 [.func (.func 35) #[] #[]] 82 _ s1.symm
  have c3 : Blk w3 (w.heap.size + 1) [.func (.func 35) #[] #[]] 82 := by rw [hw3]; exact c2.alloc _
  have f3 : Blk w3 (w.heap.size + 2) [.slice af fn fc] 112 := by rw [hw3]; exact Blk.new w2 [.slice af fn fc] 112 _ s2.symm
  have B3 := Lib.hid b3
  have b4 : Below w3.heap.size w3 (w3.alloc (.cells #[.int .i64 0] 37)) := (Below.refl _ w3).alloc (Nat.le_refl _) _
  have b5 : Below w.heap.size w (w3.alloc (.cells #[.int .i64 0] 37)) := below_chain b3 b4
  have CL := clo_listing o sv zv (.slice af fn fc) (w.heap.size + 1) w.heap.size (w.heap.size + 2) (w3.alloc (.cells #[.int .i64 0] 37)) ok l (c3.alloc _) (x3.alloc _) (f3.alloc _) (fun W hW => HC.out W (below_chain b5 hW)) (fun hk W hW => HP.out hk W (below_chain b5 hW))
  have e4 : (w3.alloc (.cells #[.int .i64 0] 37)).heap.size = w3.heap.size + 1 := by simp
  rw [e4] at CL
  have CA := Lib.hid (caught_bytes 68 _ w3 ok l enters68 CL)
  have HW1 := Lib.hid hw1
  have HW2 := Lib.hid hw2
  have HW3 := Lib.hid hw3
  clear hC hP s1 s2 s3 b1 b2 b3 x1 x3 c2 c3 f3 b4 b5 CL e4 hw1 hw2 hw3
  go_enter Tryz.func34, Tryz.ntmps34
  go_wp2_with fail
  rw [← HW1.out, ← HW2.out, ← HW3.out]
  refine CA.out.mono ?_
  clear CA
  rintro e w4 ⟨hb, ⟨hk, v, rfl, ho⟩ | ⟨hk, rfl⟩⟩
  · have HB := Lib.hid (below_chain B3.out hb)
    have HO := Lib.hid (Own.low ho B3.out.size)
    have HK := Lib.hid hk
    clear hb ho hk
    go_wp2_with fail
    go_ret2
    exact ⟨HB.out, .inl ⟨HK.out, _, rfl, HO.out⟩⟩
  · have HB := Lib.hid (below_chain B3.out hb)
    have HK := Lib.hid hk
    clear hb hk
    go_wp2_with fail
    go_ret2
    exact ⟨HB.out, .inr ⟨HK.out, rfl⟩⟩
theorem enters71 (args : Array Value) (w : World) : (callFunc 71 args).run Tryz.prog w = .ok (.enter 71 args) w := by kernel_rfl
theorem size33' : (Tryz.prog.info? 33).map (·.size) = some 2 := by kernel_rfl
set_option maxHeartbeats 1000000 in
set_option maxRecDepth 100000 in
theorem clo_page (zv kv : Value) (fv : Value) (gc gx gf : Nat) (w : World) (ok : Prop) (l : List UInt8)
    (hgc : Blk w gc [.func (.func 37) #[] #[]] 85) (hgx : Blk w gx [zv, kv] 33) (hgf : Blk w gf [fv] 112)
    (hC : ∀ W, Below w.heap.size w W → Calls Tryz.prog 37 #[.agg #[zv, kv]] W (Chk W ok)) (hP : ok → ∀ W, Below w.heap.size w W → Calls Tryz.prog 61 #[fv] W (Bys W l)) :
    Calls Tryz.prog 71 #[.pointer (some ⟨gc, 0, none⟩), .pointer (some ⟨gx, 0, none⟩), .pointer (some ⟨gf, 0, none⟩)] w (Tried w w.heap.size ok l) := by
  have CC := Lib.hid (hC w (Below.refl _ _))
  have HP := Lib.hid hP
  have KF := Lib.hid hgf
  have k0 := hgc.cell 0
  have hx := hgx
  unfold Blk at hx
  simp only [List.getElem?_cons_zero] at k0
  clear hC hP hgf hgc hgx
  go_enter Tryz.func71, Tryz.ntmps71
  go_wp2_with (refine wpList_load_row rfl 33 _ rfl gx rfl 33 _ (0, 0) _ hx Tryz.underlying33 rfl size33' ?_)
  refine CC.out.mono ?_
  clear CC
  rintro e w1 ⟨hb, ⟨hk, rfl⟩ | ⟨hk, rfl⟩⟩
  · have HB := Lib.hid hb
    have HK := Lib.hid hk
    have f0 := (KF.out.low hb).cell 0
    simp only [List.getElem?_cons_zero] at f0
    have CP := Lib.hid (HP.out hk w1 hb)
    clear hb hk HP KF k0 hx
    go_wp2_with fail
    refine CP.out.mono ?_
    clear CP
    rintro e w2 ⟨hb2, v, rfl, ho⟩
    have HB2 := Lib.hid (HB.out.trans (hb2.mono HB.out.size))
    have HO := Lib.hid (Own.low ho HB.out.size)
    clear hb2 ho f0
    go_wp2_with fail
    go_ret
    exact ⟨HB2.out, .inl ⟨HK.out, _, rfl, HO.out⟩⟩
  · exact ⟨rfl, hb, .inr ⟨hk, rfl⟩⟩
set_option maxHeartbeats 1000000 in
set_option maxRecDepth 100000 in
theorem written_page (zv kv : Value) (af : Option Addr) (fn fc : Nat) (w : World) (ok : Prop) (l : List UInt8)
    (hC : ∀ W, Below w.heap.size w W → Calls Tryz.prog 37 #[.agg #[zv, kv]] W (Chk W ok)) (hP : ok → ∀ W, Below w.heap.size w W → Calls Tryz.prog 61 #[.slice af fn fc] W (Bys W l)) :
    Calls Tryz.prog 36 #[.agg #[zv, kv], .func (.func 37) #[] #[], .slice af fn fc] w (PutR w ok l) := by
  have hmf : ∀ (fn : Fn) (first cap : Array Value) (w : World), (Instr.makeFunc fn first cap).run Tryz.prog w = .ok (.func fn first cap) w := fun _ _ _ _ => rfl
  have HC := Lib.hid hC
  have HP := Lib.hid hP
  obtain ⟨w1, hw1⟩ : ∃ w1, w1 = w.alloc (.cells #[zv, kv] 33) := ⟨_, rfl⟩
  obtain ⟨w2, hw2⟩ : ∃ w2, w2 = w1.alloc (.cells #[.func (.func 37) #[] #[]] 85) := ⟨_, rfl⟩
  obtain ⟨w3, hw3⟩ : ∃ w3, w3 = w2.alloc (.cells #[.slice af fn fc] 112) := ⟨_, rfl⟩
  have s1 : w1.heap.size = w.heap.size + 1 := by rw [hw1]; simp
  have s2 : w2.heap.size = w.heap.size + 2 := by rw [hw2]; simp [s1]
  have s3 : w3.heap.size = w.heap.size + 3 := by rw [hw3]; simp [s2]
  have b1 : Below w.heap.size w w1 := by rw [hw1]; exact (Below.refl _ w).alloc (Nat.le_refl _) _
  have b2 : Below w.heap.size w w2 := by rw [hw2]; exact b1.alloc b1.size _
  have b3 : Below w.heap.size w w3 := by rw [hw3]; exact b2.alloc b2.size _
  have x1 : Blk w1 w.heap.size [zv, kv] 33 := by rw [hw1]; exact Blk.new w [zv, kv] 33 _ rfl
  have x3 : Blk w3 w.heap.size [zv, kv] 33 := by rw [hw3, hw2]; exact (x1.alloc _).alloc _
  have c2 : Blk w2 (w.heap.size + 1) [.func (.func 37) #[] #[]] 85 := by rw [hw2]; exact Blk.new w1 [.func (.func 37) #[] #[]] 85 _ s1.symm
  have c3 : Blk w3 (w.heap.size + 1) [.func (.func 37) #[] #[]] 85 := by rw [hw3]; exact c2.alloc _
  have f3 : Blk w3 (w.heap.size + 2) [.slice af fn fc] 112 := by rw [hw3]; exact Blk.new w2 [.slice af fn fc] 112 _ s2.symm
  have B3 := Lib.hid b3
  have b4 : Below w3.heap.size w3 (w3.alloc (.cells #[.int .i64 0] 37)) := (Below.refl _ w3).alloc (Nat.le_refl _) _
  have b5 : Below w.heap.size w (w3.alloc (.cells #[.int .i64 0] 37)) := below_chain b3 b4
  have CL := clo_page zv kv (.slice af fn fc) (w.heap.size + 1) w.heap.size (w.heap.size + 2) (w3.alloc (.cells #[.int .i64 0] 37)) ok l (c3.alloc _) (x3.alloc _) (f3.alloc _) (fun W hW => HC.out W (below_chain b5 hW)) (fun hk W hW => HP.out hk W (below_chain b5 hW))
  have e4 : (w3.alloc (.cells #[.int .i64 0] 37)).heap.size = w3.heap.size + 1 := by simp
  rw [e4] at CL
  have CA := Lib.hid (caught_bytes 71 _ w3 ok l enters71 CL)
  have HW1 := Lib.hid hw1
  have HW2 := Lib.hid hw2
  have HW3 := Lib.hid hw3
  clear hC hP s1 s2 s3 b1 b2 b3 x1 x3 c2 c3 f3 b4 b5 CL e4 hw1 hw2 hw3
  go_enter Tryz.func36, Tryz.ntmps36
  go_wp2_with fail
  rw [← HW1.out, ← HW2.out, ← HW3.out]
  refine CA.out.mono ?_
  clear CA
  rintro e w4 ⟨hb, ⟨hk, v, rfl, ho⟩ | ⟨hk, rfl⟩⟩
  · have HB := Lib.hid (below_chain B3.out hb)
    have HO := Lib.hid (Own.low ho B3.out.size)
    have HK := Lib.hid hk
    clear hb ho hk
    go_wp2_with fail
    go_ret2
    exact ⟨HB.out, .inl ⟨HK.out, _, rfl, HO.out⟩⟩
  · have HB := Lib.hid (below_chain B3.out hb)
    have HK := Lib.hid hk
    clear hb hk
    go_wp2_with fail
    go_ret2
    exact ⟨HB.out, .inr ⟨HK.out, rfl⟩⟩
theorem enters74 (args : Array Value) (w : World) : (callFunc 74 args).run Tryz.prog w = .ok (.enter 74 args) w := by kernel_rfl
theorem size35' : (Tryz.prog.info? 35).map (·.size) = some 2 := by kernel_rfl
set_option maxHeartbeats 1000000 in
set_option maxRecDepth 100000 in
theorem clo_root (nx : Int) (kv : Value) (fv : Value) (gc gx gf : Nat) (w : World) (ok : Prop) (l : List UInt8)
    (hgc : Blk w gc [.func (.func 39) #[] #[]] 88) (hgx : Blk w gx [.int .i64 nx, kv] 35) (hgf : Blk w gf [fv] 112)
    (hC : ∀ W, Below w.heap.size w W → Calls Tryz.prog 39 #[.agg #[.int .i64 nx, kv]] W (Chk W ok)) (hP : ok → ∀ W, Below w.heap.size w W → Calls Tryz.prog 61 #[fv] W (Bys W l)) :
    Calls Tryz.prog 74 #[.pointer (some ⟨gc, 0, none⟩), .pointer (some ⟨gx, 0, none⟩), .pointer (some ⟨gf, 0, none⟩)] w (Tried w w.heap.size ok l) := by
  have CC := Lib.hid (hC w (Below.refl _ _))
  have HP := Lib.hid hP
  have KF := Lib.hid hgf
  have k0 := hgc.cell 0
  have hx := hgx
  unfold Blk at hx
  simp only [List.getElem?_cons_zero] at k0
  clear hC hP hgf hgc hgx
  go_enter Tryz.func74, Tryz.ntmps74
  go_wp2_with (refine wpList_load_row rfl 35 _ rfl gx rfl 35 _ (0, 0) _ hx Tryz.underlying35 rfl size35' ?_)
  refine CC.out.mono ?_
  clear CC
  rintro e w1 ⟨hb, ⟨hk, rfl⟩ | ⟨hk, rfl⟩⟩
  · have HB := Lib.hid hb
    have HK := Lib.hid hk
    have f0 := (KF.out.low hb).cell 0
    simp only [List.getElem?_cons_zero] at f0
    have CP := Lib.hid (HP.out hk w1 hb)
    clear hb hk HP KF k0 hx
    go_wp2_with fail
    refine CP.out.mono ?_
    clear CP
    rintro e w2 ⟨hb2, v, rfl, ho⟩
    have HB2 := Lib.hid (HB.out.trans (hb2.mono HB.out.size))
    have HO := Lib.hid (Own.low ho HB.out.size)
    clear hb2 ho f0
    go_wp2_with fail
    go_ret
    exact ⟨HB2.out, .inl ⟨HK.out, _, rfl, HO.out⟩⟩
  · exact ⟨rfl, hb, .inr ⟨hk, rfl⟩⟩
set_option maxHeartbeats 1000000 in
set_option maxRecDepth 100000 in
theorem written_root (nx : Int) (kv : Value) (af : Option Addr) (fn fc : Nat) (w : World) (ok : Prop) (l : List UInt8)
    (hC : ∀ W, Below w.heap.size w W → Calls Tryz.prog 39 #[.agg #[.int .i64 nx, kv]] W (Chk W ok)) (hP : ok → ∀ W, Below w.heap.size w W → Calls Tryz.prog 61 #[.slice af fn fc] W (Bys W l)) :
    Calls Tryz.prog 38 #[.agg #[.int .i64 nx, kv], .func (.func 39) #[] #[], .slice af fn fc] w (PutR w ok l) := by
  have hmf : ∀ (fn : Fn) (first cap : Array Value) (w : World), (Instr.makeFunc fn first cap).run Tryz.prog w = .ok (.func fn first cap) w := fun _ _ _ _ => rfl
  have HC := Lib.hid hC
  have HP := Lib.hid hP
  obtain ⟨w1, hw1⟩ : ∃ w1, w1 = w.alloc (.cells #[.int .i64 nx, kv] 35) := ⟨_, rfl⟩
  obtain ⟨w2, hw2⟩ : ∃ w2, w2 = w1.alloc (.cells #[.func (.func 39) #[] #[]] 88) := ⟨_, rfl⟩
  obtain ⟨w3, hw3⟩ : ∃ w3, w3 = w2.alloc (.cells #[.slice af fn fc] 112) := ⟨_, rfl⟩
  have s1 : w1.heap.size = w.heap.size + 1 := by rw [hw1]; simp
  have s2 : w2.heap.size = w.heap.size + 2 := by rw [hw2]; simp [s1]
  have s3 : w3.heap.size = w.heap.size + 3 := by rw [hw3]; simp [s2]
  have b1 : Below w.heap.size w w1 := by rw [hw1]; exact (Below.refl _ w).alloc (Nat.le_refl _) _
  have b2 : Below w.heap.size w w2 := by rw [hw2]; exact b1.alloc b1.size _
  have b3 : Below w.heap.size w w3 := by rw [hw3]; exact b2.alloc b2.size _
  have x1 : Blk w1 w.heap.size [.int .i64 nx, kv] 35 := by rw [hw1]; exact Blk.new w [.int .i64 nx, kv] 35 _ rfl
  have x3 : Blk w3 w.heap.size [.int .i64 nx, kv] 35 := by rw [hw3, hw2]; exact (x1.alloc _).alloc _
  have c2 : Blk w2 (w.heap.size + 1) [.func (.func 39) #[] #[]] 88 := by rw [hw2]; exact Blk.new w1 [.func (.func 39) #[] #[]] 88 _ s1.symm
  have c3 : Blk w3 (w.heap.size + 1) [.func (.func 39) #[] #[]] 88 := by rw [hw3]; exact c2.alloc _
  have f3 : Blk w3 (w.heap.size + 2) [.slice af fn fc] 112 := by rw [hw3]; exact Blk.new w2 [.slice af fn fc] 112 _ s2.symm
  have B3 := Lib.hid b3
  have b4 : Below w3.heap.size w3 (w3.alloc (.cells #[.int .i64 0] 37)) := (Below.refl _ w3).alloc (Nat.le_refl _) _
  have b5 : Below w.heap.size w (w3.alloc (.cells #[.int .i64 0] 37)) := below_chain b3 b4
  have CL := clo_root nx kv (.slice af fn fc) (w.heap.size + 1) w.heap.size (w.heap.size + 2) (w3.alloc (.cells #[.int .i64 0] 37)) ok l (c3.alloc _) (x3.alloc _) (f3.alloc _) (fun W hW => HC.out W (below_chain b5 hW)) (fun hk W hW => HP.out hk W (below_chain b5 hW))
  have e4 : (w3.alloc (.cells #[.int .i64 0] 37)).heap.size = w3.heap.size + 1 := by simp
  rw [e4] at CL
  have CA := Lib.hid (caught_bytes 74 _ w3 ok l enters74 CL)
  have HW1 := Lib.hid hw1
  have HW2 := Lib.hid hw2
  have HW3 := Lib.hid hw3
  clear hC hP s1 s2 s3 b1 b2 b3 x1 x3 c2 c3 f3 b4 b5 CL e4 hw1 hw2 hw3
  go_enter Tryz.func38, Tryz.ntmps38
  go_wp2_with fail
  rw [← HW1.out, ← HW2.out, ← HW3.out]
  refine CA.out.mono ?_
  clear CA
  rintro e w4 ⟨hb, ⟨hk, v, rfl, ho⟩ | ⟨hk, rfl⟩⟩
  · have HB := Lib.hid (below_chain B3.out hb)
    have HO := Lib.hid (Own.low ho B3.out.size)
    have HK := Lib.hid hk
    clear hb ho hk
    go_wp2_with fail
    go_ret2
    exact ⟨HB.out, .inl ⟨HK.out, _, rfl, HO.out⟩⟩
  · have HB := Lib.hid (below_chain B3.out hb)
    have HK := Lib.hid hk
    clear hb hk
    go_wp2_with fail
    go_ret2
    exact ⟨HB.out, .inr ⟨HK.out, rfl⟩⟩
end Go.Proofs.YtpjgkboafmebbaaGreatDoor.Sh
