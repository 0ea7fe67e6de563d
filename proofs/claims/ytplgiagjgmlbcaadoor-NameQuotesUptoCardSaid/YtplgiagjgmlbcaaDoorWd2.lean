/-
  The contracts of the document's own digit and encode: a digit of 16 in small letters, and a rune's bytes. Condition: a number below 2^24.
-/
import Derived.Test.YtplgiagjgmlbcaaDoorWh2
import Derived.BigRegion
namespace Go.Proofs.YtplgiagjgmlbcaaDoor.Nm
open Go.RowKit Go.Lib

def digF : Nat → Nat → UInt8 → Int
  | 0, _, _ => -1
  | f + 1, i, c => if digs.getD i 0 = c then (i : Int) else digF f (i + 1) c
/-- a digit's worth; -1: none -/
def digR (c : UInt8) : Int := digF 16 0 c
theorem digx_key : ∀ v : Fin 16, (({ data := #[48, 49, 50, 51, 52, 53, 54, 55, 56, 57, 97, 98, 99, 100, 101, 102] } : ByteArray)[v.val]'v.isLt) = digs.getD v.val 0 := by decide
theorem digx_at (u : Nat) (h : u < 16) (h16 : u < ({ data := #[48, 49, 50, 51, 52, 53, 54, 55, 56, 57, 97, 98, 99, 100, 101, 102] } : ByteArray).size) : (({ data := #[48, 49, 50, 51, 52, 53, 54, 55, 56, 57, 97, 98, 99, 100, 101, 102] } : ByteArray)[u]'h16) = digs.getD u 0 := digx_key ⟨u, h⟩

set_option maxHeartbeats 1000000 in
set_option maxRecDepth 100000 in
theorem digit_ref (c : UInt8) (w : World) :
    Calls Tryd.prog 52 #[.int .u8 c.toNat] w fun e w' => e = .returned (.int .i64 (digR c)) ∧ w = w' := by
  obtain ⟨z, hz⟩ : ∃ z, z = digR c := ⟨_, rfl⟩
  rw [← hz]
  have HZ := Lib.hid hz
  clear hz
  have hc256 : c.toNat < 256 := c.toNat_lt
  go_enter Tryd.func52, Tryd.ntmps52
  go_wp2_with fail
  go_loop [3] (fun vi => ∃ (i f : Nat), vi = .int .i64 i ∧ i + f = 16 ∧ Hid (z = digF f i c)) (fun vi => 16 - (RowKit.intOf vi).toNat)
  case atStart => exact ⟨0, 16, rfl, by omega, HZ.out⟩
  case round =>
    obtain ⟨i, f, rfl, hif, hh⟩ := hrel
    by_cases hi : i < 16
    · obtain ⟨g, rfl⟩ : ∃ g, f = g + 1 := ⟨f - 1, by omega⟩
      have hn := hh.out
      rw [digF] at hn
      have h16 : i < ({ data := #[48, 49, 50, 51, 52, 53, 54, 55, 56, 57, 97, 98, 99, 100, 101, 102] } : ByteArray).size := hi
      have hd := digx_at i hi h16
      by_cases he : digs.getD i 0 = c
      · rw [if_pos he] at hn
        obtain rfl : z = i := hn
        have hb : ((((({ data := #[48, 49, 50, 51, 52, 53, 54, 55, 56, 57, 97, 98, 99, 100, 101, 102] } : ByteArray)[i]'h16).toNat : Nat) : Int) == (c.toNat : Int)) = true := by rw [hd, he]; simp
        clear hd he hh
        go_wp2_with fail
        go_ret
        exact ⟨rfl, rfl⟩
      · rw [if_neg he] at hn
        have HN := Lib.hid hn
        have hb : ((((({ data := #[48, 49, 50, 51, 52, 53, 54, 55, 56, 57, 97, 98, 99, 100, 101, 102] } : ByteArray)[i]'h16).toNat : Nat) : Int) == (c.toNat : Int)) = false := by
          rw [hd]
          simp only [beq_eq_false_iff_ne, ne_eq]
          intro hq
          exact he (UInt8.toNat_inj.1 (by omega))
        clear hd he hh hn
        go_wp2_with fail
        go_round
        case rel => exact ⟨i + 1, g, by go_num, by omega, HN⟩
        case measure => simp [RowKit.intOf]; omega
    · obtain rfl : f = 0 := by omega
      obtain rfl : z = -1 := hh.out
      clear hh
      go_wp2_with fail
      go_ret
      exact ⟨rfl, rfl⟩

/-- bytes in new memory -/
def Bytes (w : World) (v : Value) (l : List UInt8) : Prop :=
  ∃ b cap, v = .slice (some ⟨b, 0, none⟩) l.length cap ∧ l.length ≤ cap ∧ b < w.heap.size ∧ ∀ j (h : j < l.length), w.cell? ⟨b, j, none⟩ = some (.int .u8 (l[j]).toNat)
/-- a rune's bytes; none: it is none -/
def encR (x : Nat) : Option (List UInt8) :=
  if (55296 ≤ x ∧ x < 57344) ∨ 1114111 < x then none else some (encodeRune x)
def EPost (o : Option (List UInt8)) (w : World) (e : Ending) (w' : World) : Prop :=
  Below w.heap.size w w' ∧ match o with
    | none => e = .returned (.tuple #[.slice none 0 0, .bool false])
    | some l => ∃ v, e = .returned (.tuple #[v, .bool true]) ∧ Bytes w' v l
theorem u8n (n : Nat) (h : n < 256) : ((n.toUInt8.toNat : Nat) : Int) = n := by simp; omega
theorem enc_fin (w : World) (l : List UInt8) (n : Nat) (hn : l.length = n) (vs : Array Value) (h : vs = (l.map fun c => Value.int .u8 c.toNat).toArray) :
    EPost (some l) w (.returned (.tuple #[.slice (some ⟨w.heap.size, 0, none⟩) n n, .bool true])) (w.alloc (.cells vs 5)) := by
  subst hn
  refine ⟨(Below.refl _ w).alloc (Nat.le_refl _) _, _, rfl, w.heap.size, l.length, rfl, Nat.le_refl _, by simp, fun j hj => ?_⟩
  rw [World.cell?_alloc_new, h]
  simp [hj]
set_option maxHeartbeats 1000000 in
set_option maxRecDepth 100000 in
theorem enc1 (x : Nat) (h : x < 128) (w : World) (l : List UInt8) (hl : Hid (l = [(x).toUInt8])) : Calls Tryd.prog 53 #[.int .i64 x] w (EPost (some l) w) := by
  go_enter Tryd.func53, Tryd.ntmps53
  go_wp2_with fail
  go_ret2
  exact enc_fin w l _ (by rw [hl.out]; rfl) _ (by rw [hl.out]; simp only [List.map_cons, List.map_nil]; rw [u8n (x) (by omega)]; try rfl)
set_option maxHeartbeats 1000000 in
set_option maxRecDepth 100000 in
theorem enc2 (x : Nat) (h0 : 128 ≤ x) (h : x < 2048) (w : World) (l : List UInt8) (hl : Hid (l = [(192 + x / 64).toUInt8, (128 + x % 64).toUInt8])) : Calls Tryd.prog 53 #[.int .i64 x] w (EPost (some l) w) := by
  go_enter Tryd.func53, Tryd.ntmps53
  go_wp2_with fail
  go_ret2
  exact enc_fin w l _ (by rw [hl.out]; rfl) _ (by rw [hl.out]; simp only [List.map_cons, List.map_nil]; rw [u8n (192 + x / 64) (by omega), u8n (128 + x % 64) (by omega)]; try rfl)
set_option maxHeartbeats 2000000 in
set_option maxRecDepth 1000000 in
theorem enc3a (x : Nat) (h0 : 2048 ≤ x) (h : x < 55296) (w : World) (l : List UInt8) (hl : Hid (l = [(224 + x / 4096).toUInt8, (128 + x / 64 % 64).toUInt8, (128 + x % 64).toUInt8])) : Calls Tryd.prog 53 #[.int .i64 x] w (EPost (some l) w) := by
  go_enter Tryd.func53, Tryd.ntmps53
  go_wp2_with fail
  go_ret2
  exact enc_fin w l _ (by rw [hl.out]; rfl) _ (by rw [hl.out]; simp only [List.map_cons, List.map_nil]; rw [u8n (224 + x / 4096) (by omega), u8n (128 + x / 64 % 64) (by omega), u8n (128 + x % 64) (by omega)]; try rfl)
set_option maxHeartbeats 2000000 in
set_option maxRecDepth 1000000 in
theorem enc3b (x : Nat) (h0 : 57344 ≤ x) (h : x < 65536) (w : World) (l : List UInt8) (hl : Hid (l = [(224 + x / 4096).toUInt8, (128 + x / 64 % 64).toUInt8, (128 + x % 64).toUInt8])) : Calls Tryd.prog 53 #[.int .i64 x] w (EPost (some l) w) := by
  go_enter Tryd.func53, Tryd.ntmps53
  go_wp2_with fail
  go_ret2
  exact enc_fin w l _ (by rw [hl.out]; rfl) _ (by rw [hl.out]; simp only [List.map_cons, List.map_nil]; rw [u8n (224 + x / 4096) (by omega), u8n (128 + x / 64 % 64) (by omega), u8n (128 + x % 64) (by omega)]; try rfl)
set_option maxHeartbeats 2000000 in
set_option maxRecDepth 1000000 in
theorem enc4 (x : Nat) (h0 : 65536 ≤ x) (h : x ≤ 1114111) (w : World) (l : List UInt8) (hl : Hid (l = [(240 + x / 262144).toUInt8, (128 + x / 4096 % 64).toUInt8, (128 + x / 64 % 64).toUInt8, (128 + x % 64).toUInt8])) : Calls Tryd.prog 53 #[.int .i64 x] w (EPost (some l) w) := by
  go_enter Tryd.func53, Tryd.ntmps53
  go_wp2_with fail
  go_ret2
  exact enc_fin w l _ (by rw [hl.out]; rfl) _ (by rw [hl.out]; simp only [List.map_cons, List.map_nil]; rw [u8n (240 + x / 262144) (by omega), u8n (128 + x / 4096 % 64) (by omega), u8n (128 + x / 64 % 64) (by omega), u8n (128 + x % 64) (by omega)]; try rfl)
set_option maxRecDepth 100000 in
theorem enc_none (x : Nat) (h : (55296 ≤ x ∧ x < 57344) ∨ (1114111 < x ∧ x < 4294967296)) (w : World) : Calls Tryd.prog 53 #[.int .i64 x] w (EPost none w) := by
  rcases h with ⟨h1, h2⟩ | ⟨h1, h2⟩
  all_goals
    go_enter Tryd.func53, Tryd.ntmps53
    go_wp2_with fail
    all_goals go_ret2
    all_goals exact ⟨Below.refl _ _, rfl⟩
theorem u8e {n : Nat} {z : Int} (h : z = n) : z.toNat.toUInt8 = n.toUInt8 := by subst h; rw [Int.toNat_natCast]
theorem encode_ref (x : Nat) (hx : x < 4294967296) (w : World) : Calls Tryd.prog 53 #[.int .i64 x] w (EPost (encR x) w) := by
  unfold encR
  by_cases hn : (55296 ≤ x ∧ x < 57344) ∨ 1114111 < x
  · rw [if_pos hn]
    exact enc_none x (by omega) w
  rw [if_neg hn]
  by_cases k1 : x < 128
  · have e : encodeRune (x : Int) = [x.toUInt8] := by
      unfold encodeRune
      rw [encodeRuneZ_one (by omega) (by omega)]
      simp
    rw [e]
    exact enc1 x k1 w _ (Lib.hid rfl)
  by_cases k2 : x < 2048
  · have e : encodeRune (x : Int) = [(192 + x / 64).toUInt8, (128 + x % 64).toUInt8] := by
      unfold encodeRune
      rw [encodeRuneZ_two (by omega) (by omega)]
      simp only [List.map_cons, List.map_nil]
      rw [u8e (n := 192 + x / 64) (by omega), u8e (n := 128 + x % 64) (by omega)]
    rw [e]
    exact enc2 x (by omega) k2 w _ (Lib.hid rfl)
  by_cases k3 : x < 65536
  · have e : encodeRune (x : Int) = [(224 + x / 4096).toUInt8, (128 + x / 64 % 64).toUInt8, (128 + x % 64).toUInt8] := by
      unfold encodeRune
      rw [encodeRuneZ_three (by omega)]
      simp only [List.map_cons, List.map_nil]
      rw [u8e (n := 224 + x / 4096) (by omega), u8e (n := 128 + x / 64 % 64) (by omega), u8e (n := 128 + x % 64) (by omega)]
    rw [e]
    by_cases k4 : x < 55296
    · exact enc3a x (by omega) k4 w _ (Lib.hid rfl)
    · exact enc3b x (by omega) k3 w _ (Lib.hid rfl)
  · have e : encodeRune (x : Int) = [(240 + x / 262144).toUInt8, (128 + x / 4096 % 64).toUInt8, (128 + x / 64 % 64).toUInt8, (128 + x % 64).toUInt8] := by
      unfold encodeRune
      rw [encodeRuneZ_four (by omega) (by omega)]
      simp only [List.map_cons, List.map_nil]
      rw [u8e (n := 240 + x / 262144) (by omega), u8e (n := 128 + x / 4096 % 64) (by omega), u8e (n := 128 + x / 64 % 64) (by omega), u8e (n := 128 + x % 64) (by omega)]
    rw [e]
    exact enc4 x (by omega) (by omega) w _ (Lib.hid rfl)
end Go.Proofs.YtplgiagjgmlbcaaDoor.Nm
