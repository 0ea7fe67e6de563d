/-
  The contract of obj's bytesOf at the plain types: what bytes a field is. Conditions: each law's own.
-/
import Derived.Test.YtcgbaiogbcodcaaGreatDoorOc
import Derived.Lib.AtoiErrMem
namespace Go.Proofs.YtcgbaiogbcodcaaGreatDoor.Sh
open Go.RowKit Go.Lib Lb

theorem assert_no {P : Program} {S : TypeId} {d : TypeDesc} {z : Value} (hu : P.underlying S = some d) (hd : (match d with | .interface _ => false | _ => true) = true) (hz : ∀ w, (zeroValue S).run P w = .ok z w) (T : TypeId) (h : T ≠ S) (v : Value) (x : TypeId) (w : World) :
    (Instr.typeAssert (.iface T v) x S true).run P w = .ok (.tuple #[z, .bool false]) w := by
  cases d <;> first | (cases hd; done) | simp [Instr.typeAssert, run_underlying hu, h, hz, Result.andThen]
theorem assert_yes {P : Program} {S : TypeId} {d : TypeDesc} (hu : P.underlying S = some d) (hd : (match d with | .interface _ => false | _ => true) = true) (v : Value) (x : TypeId) (w : World) :
    (Instr.typeAssert (.iface S v) x S true).run P w = .ok (.tuple #[v, .bool true]) w := by
  cases d <;> first | (cases hd; done) | simp [Instr.typeAssert, run_underlying hu, Result.andThen]
theorem assert_is {P : Program} {S : TypeId} {d : TypeDesc} (hu : P.underlying S = some d) (hd : (match d with | .interface _ => false | _ => true) = true) (v : Value) (x : TypeId) (w : World) :
    (Instr.typeAssert (.iface S v) x S false).run P w = .ok v w := by
  cases d <;> first | (cases hd; done) | simp [Instr.typeAssert, run_underlying hu, Result.andThen]
theorem no4 (T : TypeId) (h : T ≠ 4) (v : Value) (w : World) : (Instr.typeAssert (.iface T v) 20 4 true).run Tryz.prog w = .ok (.tuple #[.bool false, .bool false]) w := assert_no Tryz.underlying4 rfl (fun _ => by kernel_rfl) T h v 20 w
theorem is4 (v : Value) (w : World) : (Instr.typeAssert (.iface 4 v) 20 4 true).run Tryz.prog w = .ok (.tuple #[v, .bool true]) w := assert_yes Tryz.underlying4 rfl v 20 w
theorem be4 (v : Value) (w : World) : (Instr.typeAssert (.iface 4 v) 20 4 false).run Tryz.prog w = .ok v w := assert_is Tryz.underlying4 rfl v 20 w
theorem no3 (T : TypeId) (h : T ≠ 3) (v : Value) (w : World) : (Instr.typeAssert (.iface T v) 20 3 true).run Tryz.prog w = .ok (.tuple #[.int .i64 0, .bool false]) w := assert_no Tryz.underlying3 rfl (fun _ => by kernel_rfl) T h v 20 w
theorem is3 (v : Value) (w : World) : (Instr.typeAssert (.iface 3 v) 20 3 true).run Tryz.prog w = .ok (.tuple #[v, .bool true]) w := assert_yes Tryz.underlying3 rfl v 20 w
theorem be3 (v : Value) (w : World) : (Instr.typeAssert (.iface 3 v) 20 3 false).run Tryz.prog w = .ok v w := assert_is Tryz.underlying3 rfl v 20 w
theorem no22 (T : TypeId) (h : T ≠ 25) (v : Value) (w : World) : (Instr.typeAssert (.iface T v) 20 25 true).run Tryz.prog w = .ok (.tuple #[.int .i64 0, .bool false]) w := assert_no Tryz.underlying25 rfl (fun _ => by kernel_rfl) T h v 20 w
theorem is22 (v : Value) (w : World) : (Instr.typeAssert (.iface 25 v) 20 25 true).run Tryz.prog w = .ok (.tuple #[v, .bool true]) w := assert_yes Tryz.underlying25 rfl v 20 w
theorem be22 (v : Value) (w : World) : (Instr.typeAssert (.iface 25 v) 20 25 false).run Tryz.prog w = .ok v w := assert_is Tryz.underlying25 rfl v 20 w
theorem no9 (T : TypeId) (h : T ≠ 9) (v : Value) (w : World) : (Instr.typeAssert (.iface T v) 20 9 true).run Tryz.prog w = .ok (.tuple #[.string ⟨#[]⟩, .bool false]) w := assert_no Tryz.underlying9 rfl (fun _ => by kernel_rfl) T h v 20 w
theorem is9 (v : Value) (w : World) : (Instr.typeAssert (.iface 9 v) 20 9 true).run Tryz.prog w = .ok (.tuple #[v, .bool true]) w := assert_yes Tryz.underlying9 rfl v 20 w
theorem be9 (v : Value) (w : World) : (Instr.typeAssert (.iface 9 v) 20 9 false).run Tryz.prog w = .ok v w := assert_is Tryz.underlying9 rfl v 20 w
theorem no36 (T : TypeId) (h : T ≠ 33) (v : Value) (w : World) : (Instr.typeAssert (.iface T v) 20 33 true).run Tryz.prog w = .ok (.tuple #[.slice none 0 0, .bool false]) w := assert_no Tryz.underlying33 rfl (fun _ => by kernel_rfl) T h v 20 w
theorem is36 (v : Value) (w : World) : (Instr.typeAssert (.iface 33 v) 20 33 true).run Tryz.prog w = .ok (.tuple #[v, .bool true]) w := assert_yes Tryz.underlying33 rfl v 20 w
theorem be36 (v : Value) (w : World) : (Instr.typeAssert (.iface 33 v) 20 33 false).run Tryz.prog w = .ok v w := assert_is Tryz.underlying33 rfl v 20 w
theorem no47 (T : TypeId) (h : T ≠ 170) (v : Value) (w : World) : (Instr.typeAssert (.iface T v) 20 170 true).run Tryz.prog w = .ok (.tuple #[.string ⟨#[]⟩, .bool false]) w := assert_no Tryz.underlying170 rfl (fun _ => by kernel_rfl) T h v 20 w
theorem is47 (v : Value) (w : World) : (Instr.typeAssert (.iface 170 v) 20 170 true).run Tryz.prog w = .ok (.tuple #[v, .bool true]) w := assert_yes Tryz.underlying170 rfl v 20 w
theorem be47 (v : Value) (w : World) : (Instr.typeAssert (.iface 170 v) 20 170 false).run Tryz.prog w = .ok v w := assert_is Tryz.underlying170 rfl v 20 w
theorem no95 (T : TypeId) (h : T ≠ 105) (v : Value) (w : World) : (Instr.typeAssert (.iface T v) 20 105 true).run Tryz.prog w = .ok (.tuple #[.agg #[.string ⟨#[]⟩, .slice none 0 0], .bool false]) w := assert_no Tryz.underlying105 rfl (fun _ => by kernel_rfl) T h v 20 w
theorem is95 (v : Value) (w : World) : (Instr.typeAssert (.iface 105 v) 20 105 true).run Tryz.prog w = .ok (.tuple #[v, .bool true]) w := assert_yes Tryz.underlying105 rfl v 20 w
theorem be95 (v : Value) (w : World) : (Instr.typeAssert (.iface 105 v) 20 105 false).run Tryz.prog w = .ok v w := assert_is Tryz.underlying105 rfl v 20 w
theorem no49 (T : TypeId) (h : T ≠ 172) (v : Value) (w : World) : (Instr.typeAssert (.iface T v) 20 172 true).run Tryz.prog w = .ok (.tuple #[.agg #[.string ⟨#[]⟩, .int .i64 0, .int .i64 0, .int .i64 0], .bool false]) w := assert_no Tryz.underlying172 rfl (fun _ => by kernel_rfl) T h v 20 w
theorem is49 (v : Value) (w : World) : (Instr.typeAssert (.iface 172 v) 20 172 true).run Tryz.prog w = .ok (.tuple #[v, .bool true]) w := assert_yes Tryz.underlying172 rfl v 20 w
theorem be49 (v : Value) (w : World) : (Instr.typeAssert (.iface 172 v) 20 172 false).run Tryz.prog w = .ok v w := assert_is Tryz.underlying172 rfl v 20 w
theorem no83 (T : TypeId) (h : T ≠ 130) (v : Value) (w : World) : (Instr.typeAssert (.iface T v) 20 130 true).run Tryz.prog w = .ok (.tuple #[.slice none 0 0, .bool false]) w := assert_no Tryz.underlying130 rfl (fun _ => by kernel_rfl) T h v 20 w
theorem is83 (v : Value) (w : World) : (Instr.typeAssert (.iface 130 v) 20 130 true).run Tryz.prog w = .ok (.tuple #[v, .bool true]) w := assert_yes Tryz.underlying130 rfl v 20 w
theorem be83 (v : Value) (w : World) : (Instr.typeAssert (.iface 130 v) 20 130 false).run Tryz.prog w = .ok v w := assert_is Tryz.underlying130 rfl v 20 w
theorem no86 (T : TypeId) (h : T ≠ 182) (v : Value) (w : World) : (Instr.typeAssert (.iface T v) 20 182 true).run Tryz.prog w = .ok (.tuple #[.slice none 0 0, .bool false]) w := assert_no Tryz.underlying182 rfl (fun _ => by kernel_rfl) T h v 20 w
theorem is86 (v : Value) (w : World) : (Instr.typeAssert (.iface 182 v) 20 182 true).run Tryz.prog w = .ok (.tuple #[v, .bool true]) w := assert_yes Tryz.underlying182 rfl v 20 w
theorem be86 (v : Value) (w : World) : (Instr.typeAssert (.iface 182 v) 20 182 false).run Tryz.prog w = .ok v w := assert_is Tryz.underlying182 rfl v 20 w
theorem no28 (T : TypeId) (h : T ≠ 35) (v : Value) (w : World) : (Instr.typeAssert (.iface T v) 20 35 true).run Tryz.prog w = .ok (.tuple #[.slice none 0 0, .bool false]) w := assert_no Tryz.underlying35 rfl (fun _ => by kernel_rfl) T h v 20 w
theorem is28 (v : Value) (w : World) : (Instr.typeAssert (.iface 35 v) 20 35 true).run Tryz.prog w = .ok (.tuple #[v, .bool true]) w := assert_yes Tryz.underlying35 rfl v 20 w
theorem be28 (v : Value) (w : World) : (Instr.typeAssert (.iface 35 v) 20 35 false).run Tryz.prog w = .ok v w := assert_is Tryz.underlying35 rfl v 20 w
theorem no27 (T : TypeId) (h : T ≠ 34) (v : Value) (w : World) : (Instr.typeAssert (.iface T v) 20 34 true).run Tryz.prog w = .ok (.tuple #[.slice none 0 0, .bool false]) w := assert_no Tryz.underlying34 rfl (fun _ => by kernel_rfl) T h v 20 w
theorem is27 (v : Value) (w : World) : (Instr.typeAssert (.iface 34 v) 20 34 true).run Tryz.prog w = .ok (.tuple #[v, .bool true]) w := assert_yes Tryz.underlying34 rfl v 20 w
theorem be27 (v : Value) (w : World) : (Instr.typeAssert (.iface 34 v) 20 34 false).run Tryz.prog w = .ok v w := assert_is Tryz.underlying34 rfl v 20 w
theorem no31 (T : TypeId) (h : T ≠ 181) (v : Value) (w : World) : (Instr.typeAssert (.iface T v) 20 181 true).run Tryz.prog w = .ok (.tuple #[.slice none 0 0, .bool false]) w := assert_no Tryz.underlying181 rfl (fun _ => by kernel_rfl) T h v 20 w
theorem is31 (v : Value) (w : World) : (Instr.typeAssert (.iface 181 v) 20 181 true).run Tryz.prog w = .ok (.tuple #[v, .bool true]) w := assert_yes Tryz.underlying181 rfl v 20 w
theorem be31 (v : Value) (w : World) : (Instr.typeAssert (.iface 181 v) 20 181 false).run Tryz.prog w = .ok v w := assert_is Tryz.underlying181 rfl v 20 w
theorem no23 (T : TypeId) (h : T ≠ 36) (v : Value) (w : World) : (Instr.typeAssert (.iface T v) 20 36 true).run Tryz.prog w = .ok (.tuple #[.slice none 0 0, .bool false]) w := assert_no Tryz.underlying36 rfl (fun _ => by kernel_rfl) T h v 20 w
theorem is23 (v : Value) (w : World) : (Instr.typeAssert (.iface 36 v) 20 36 true).run Tryz.prog w = .ok (.tuple #[v, .bool true]) w := assert_yes Tryz.underlying36 rfl v 20 w
theorem be23 (v : Value) (w : World) : (Instr.typeAssert (.iface 36 v) 20 36 false).run Tryz.prog w = .ok v w := assert_is Tryz.underlying36 rfl v 20 w
theorem no24 (T : TypeId) (h : T ≠ 94) (v : Value) (w : World) : (Instr.typeAssert (.iface T v) 20 94 true).run Tryz.prog w = .ok (.tuple #[.slice none 0 0, .bool false]) w := assert_no Tryz.underlying94 rfl (fun _ => by kernel_rfl) T h v 20 w
theorem is24 (v : Value) (w : World) : (Instr.typeAssert (.iface 94 v) 20 94 true).run Tryz.prog w = .ok (.tuple #[v, .bool true]) w := assert_yes Tryz.underlying94 rfl v 20 w
theorem be24 (v : Value) (w : World) : (Instr.typeAssert (.iface 94 v) 20 94 false).run Tryz.prog w = .ok v w := assert_is Tryz.underlying94 rfl v 20 w
/-- a row of bytes is given -/
def Bys (w : World) (l : List UInt8) (e : Ending) (w' : World) : Prop := Below w.heap.size w w' ∧ ∃ v, e = .returned v ∧ Own w' w.heap.size v l
set_option maxHeartbeats 1000000 in
set_option maxRecDepth 100000 in
theorem bytesof_int (x : Int) (h0 : 0 ≤ x) (h1 : x < 9223372036854775808) (w : World) : Calls Tryz.prog 107 #[.iface 3 (.int .i64 x)] w (Bys w (numL x)) := by
  obtain ⟨n, rfl⟩ : ∃ n : Nat, x = (n : Int) := ⟨x.toNat, by omega⟩
  have e1 : numL (n : Int) = putL n := by rw [numL, Int.toNat_natCast]
  rw [e1]
  have CP := Lib.hid (put_any n (by omega) w)
  have OW := Lib.hid (own_put w (putL n) w.heap.size (Nat.le_refl _) (by have := putL_len n; omega))
  have hw : IntKind.u64.wrap (n : Int) = (n : Int) := by rw [IntKind.wrap]; simp [IntKind.bits, IntKind.signed]; omega
  clear e1 h0 h1
  have a4 := no4 3 (by decide)
  have a3 := is3
  go_enter Tryz.func107, Tryz.ntmps107
  go_wp2_with fail
  refine CP.out.mono ?_
  rintro e w1 ⟨rfl, rfl⟩
  go_wp2_with fail
  go_ret
  exact ⟨(Below.refl _ w).alloc (Nat.le_refl _) _, _, rfl, OW.out⟩
set_option maxHeartbeats 1000000 in
set_option maxRecDepth 100000 in
theorem bytesof_kind (x : Int) (h0 : 0 ≤ x) (h1 : x < 9223372036854775808) (w : World) : Calls Tryz.prog 107 #[.iface 25 (.int .i64 x)] w (Bys w (numL x)) := by
  obtain ⟨n, rfl⟩ : ∃ n : Nat, x = (n : Int) := ⟨x.toNat, by omega⟩
  have e1 : numL (n : Int) = putL n := by rw [numL, Int.toNat_natCast]
  rw [e1]
  have CP := Lib.hid (put_any n (by omega) w)
  have OW := Lib.hid (own_put w (putL n) w.heap.size (Nat.le_refl _) (by have := putL_len n; omega))
  have hw : IntKind.u64.wrap (n : Int) = (n : Int) := by rw [IntKind.wrap]; simp [IntKind.bits, IntKind.signed]; omega
  clear e1 h0 h1
  have a4 := no4 25 (by decide)
  have a3 := no3 25 (by decide)
  have a22 := is22
  go_enter Tryz.func107, Tryz.ntmps107
  go_wp2_with fail
  refine CP.out.mono ?_
  rintro e w1 ⟨rfl, rfl⟩
  go_wp2_with fail
  go_ret
  exact ⟨(Below.refl _ w).alloc (Nat.le_refl _) _, _, rfl, OW.out⟩
set_option maxHeartbeats 1000000 in
set_option maxRecDepth 100000 in
theorem bytesof_true (w : World) : Calls Tryz.prog 107 #[.iface 4 (.bool true)] w (Bys w (flagL true)) := by
  have CP := Lib.hid (put_any 1 (by omega) w)
  have OW := Lib.hid (own_put w (putL 1) w.heap.size (Nat.le_refl _) (by have := putL_len 1; omega))
  have e1 : flagL true = putL 1 := rfl
  rw [e1]
  obtain ⟨p, hp⟩ : ∃ p, p = putL 1 := ⟨_, rfl⟩
  rw [← hp] at CP OW ⊢
  clear e1 hp
  have a4 := is4
  go_enter Tryz.func107, Tryz.ntmps107
  go_wp2_with fail
  refine CP.out.mono ?_
  rintro e w1 ⟨rfl, rfl⟩
  go_wp2_with fail
  go_ret
  exact ⟨(Below.refl _ w).alloc (Nat.le_refl _) _, _, rfl, OW.out⟩
set_option maxHeartbeats 1000000 in
set_option maxRecDepth 100000 in
theorem bytesof_false (w : World) : Calls Tryz.prog 107 #[.iface 4 (.bool false)] w (Bys w (flagL false)) := by
  have CP := Lib.hid (put_any 0 (by omega) w)
  have OW := Lib.hid (own_put w (putL 0) w.heap.size (Nat.le_refl _) (by have := putL_len 0; omega))
  have e1 : flagL false = putL 0 := rfl
  rw [e1]
  obtain ⟨p, hp⟩ : ∃ p, p = putL 0 := ⟨_, rfl⟩
  rw [← hp] at CP OW ⊢
  clear e1 hp
  have a4 := is4
  go_enter Tryz.func107, Tryz.ntmps107
  go_wp2_with fail
  refine CP.out.mono ?_
  rintro e w1 ⟨rfl, rfl⟩
  go_wp2_with fail
  go_ret
  exact ⟨(Below.refl _ w).alloc (Nat.le_refl _) _, _, rfl, OW.out⟩
theorem bytesof_bool (b : Bool) (w : World) : Calls Tryz.prog 107 #[.iface 4 (.bool b)] w (Bys w (flagL b)) := by
  cases b
  · exact bytesof_false w
  · exact bytesof_true w
set_option maxHeartbeats 1000000 in
set_option maxRecDepth 100000 in
theorem bytesof_bytes (ao : Option Addr) (l : List UInt8) (m c : Nat) (w : World) (h : Byt w ao l) (hn : ao = none → c = 0) (hlm : l.length = m) (hl : m ≤ 140737488355318) : Calls Tryz.prog 107 #[.iface 33 (.slice ao m c)] w (Bys w (dataL l)) := by
  subst hlm
  have CP := Lib.hid (bytes_any ao l c w h hn hl)
  clear h
  have a4 := no4 33 (by decide)
  have a3 := no3 33 (by decide)
  have a22 := no22 33 (by decide)
  have a9 := no9 33 (by decide)
  have a36 := is36
  go_enter Tryz.func107, Tryz.ntmps107
  go_wp2_with fail
  refine CP.out.mono ?_
  clear CP
  rintro e w1 ⟨hb, v, rfl, ho⟩
  have HB := Lib.hid hb
  have HO := Lib.hid ho
  clear hb ho
  go_wp2_with fail
  go_ret
  exact ⟨HB.out, _, rfl, HO.out⟩
theorem conv_text (s : ByteArray) (w : World) : ∃ c W, (convert 9 33 (.string s)).run Tryz.prog w = .ok (.slice (some ⟨w.heap.size, 0, none⟩) s.data.toList.length c) W ∧ Below w.heap.size w W ∧ Byt W (some ⟨w.heap.size, 0, none⟩) s.data.toList := by
  have h := Lib.run_convert_string_bytes (P := Tryz.prog) w 9 33 5 s (u := .string) Tryz.underlying9 Tryz.underlying33 Tryz.underlying5
  have hl : s.data.toList.length = s.size := Array.length_toList
  refine ⟨_, _, by rw [hl]; exact h, Lib.bytesWorld_below w 5 s, fun _ => ⟨w.heap.size, 0, rfl, by rw [Lib.bytesWorld_size]; omega, fun j hj => ?_⟩⟩
  rw [Nat.zero_add, Lib.bytesWorld_cell w 5 s j (by omega), List.getD_eq_getElem?_getD, List.getElem?_eq_getElem hj]
  rfl
set_option maxHeartbeats 1000000 in
set_option maxRecDepth 100000 in
theorem bytesof_string (s : ByteArray) (w : World) (hl : s.size ≤ 140737488355318) : Calls Tryz.prog 107 #[.iface 9 (.string s)] w (Bys w (textL s)) := by
  have a4 := no4 9 (by decide)
  have a3 := no3 9 (by decide)
  have a22 := no22 9 (by decide)
  have a9 := is9
  obtain ⟨c, W, hcv, hW, hr⟩ := conv_text s w
  have CP := Lib.hid (bytes_any _ s.data.toList c W hr (fun h => by cases h) (by rw [Array.length_toList]; exact hl))
  have HW := Lib.hid hW
  obtain ⟨n, hn⟩ : ∃ n, n = s.data.toList.length := ⟨_, rfl⟩
  rw [← hn] at CP hcv
  clear hW hr hn
  go_enter Tryz.func107, Tryz.ntmps107
  go_wp2_with fail
  refine CP.out.mono ?_
  clear CP
  rintro e w1 ⟨hb, v, rfl, ho⟩
  have HB := Lib.hid (HW.out.trans (hb.mono HW.out.size))
  have HO := Lib.hid (Own.low ho HW.out.size)
  clear hb ho hcv
  go_wp2_with fail
  go_ret
  exact ⟨HB.out, _, rfl, HO.out⟩
set_option maxHeartbeats 1000000 in
set_option maxRecDepth 100000 in
theorem bytesof_key (k : ByteArray) (w : World) (hk : keyOk k) : Calls Tryz.prog 107 #[.iface 170 (.string k)] w (Bys w (keyL k)) := by
  have CP := Lib.hid (keybytes_any k w (by have := key_size k hk; omega))
  have a4 := no4 170 (by decide)
  have a3 := no3 170 (by decide)
  have a22 := no22 170 (by decide)
  have a9 := no9 170 (by decide)
  have a36 := no36 170 (by decide)
  have a47 := is47
  go_enter Tryz.func107, Tryz.ntmps107
  go_wp2_with fail
  refine CP.out.mono ?_
  clear CP
  rintro e w1 ⟨hb, v, rfl, ho⟩
  have HB := Lib.hid hb
  have HO : Hid (Own w1 w.heap.size v (keyL k)) := ho
  clear hb ho
  go_wp2_with fail
  go_ret
  exact ⟨HB.out, _, rfl, HO.out⟩
end Go.Proofs.YtcgbaiogbcodcaaGreatDoor.Sh
