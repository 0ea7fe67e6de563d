/-
  What Check asks of a row, and the contract of the package's Check. Conditions: each law's own.
-/
import Derived.Test.YtpcmminokhmkjaaDoorSm
namespace Go.Proofs.YtpcmminokhmkjaaDoor.St
open Go.Shelf Go.RowKit Go.Lib Go.Sort
def kP (l : List Ent) (i : Nat) : Bool := okE l[i]! && (i == 0 || kl l[i - 1]!.key l[i]!.key)
def chkN (l : List Ent) (n : Nat) : Bool := (List.range n).all (kP l)
/-- a row that may be -/
def chk (l : List Ent) : Bool := chkN l l.length
theorem le_kl (a b : ByteArray) : (Op.bytesLess a.toList b.toList || a.toList == b.toList) = !kl b a := by
  unfold kl
  cases h : Op.bytesLess a.toList b.toList with
  | true =>
    have h1 := (bl_lt _ _).1 h
    cases h2 : Op.bytesLess b.toList a.toList with
    | false => rfl
    | true => exact absurd (List.lt_trans h1 ((bl_lt _ _).1 h2)) (List.lt_irrefl _)
  | false => rw [bl_eq h]; rfl
theorem chkN_succ (l : List Ent) (n : Nat) : chkN l (n + 1) = (chkN l n && kP l n) := by
  unfold chkN
  rw [List.range_succ, List.all_append]
  simp
theorem chk_no {l : List Ent} {i : Nat} (hi : i < l.length) (h : kP l i = false) : chk l = false := by
  cases hc : chk l with
  | false => rfl
  | true =>
    have := List.all_eq_true.1 hc i (List.mem_range.2 hi)
    rw [h] at this
    cases this
theorem below_grow {B : Nat} {w : World} : ∀ (L : List Obj) (W : World), B ≤ W.heap.size → Below B w W → Below B w (grow W L.toArray)
  | [], W, _, h => by rw [show ([] : List Obj).toArray = #[] from rfl, grow_empty]; exact h
  | o :: L, W, hs, h => by
    have e : grow W (o :: L).toArray = grow (W.alloc o) L.toArray := by rw [alloc_eq_grow, grow_grow]; simp
    rw [e]
    exact below_grow L _ (by simp; omega) (h.alloc hs o)
theorem Gw.below {w w' : World} (h : Gw w w') : Below w.heap.size w w' := by
  obtain ⟨q, os, rfl⟩ := h
  have := below_grow (B := w.heap.size) (w := w) os.toList (w.drewN q) (Nat.le_refl _) (Sh.below_drewN (Below.refl _ _) q)
  simpa using this
theorem cs_get (l : List Ent) (i : Nat) (hi : i < l.length) (c : Nat) (u : Value) (h : (encE l[i]!)[c]? = some u) : (cs l)[i * 5 + c]? = some u := by
  have hc : c < 5 := (List.getElem?_eq_some_iff.1 h).1
  have e : cs l = cs (l.take i) ++ (encE l[i]! ++ cs (l.drop (i + 1))) := by
    have : l = l.take i ++ (l[i]! :: l.drop (i + 1)) := by
      rw [getElem!_pos l i hi, ← List.drop_eq_getElem_cons hi, List.take_append_drop]
    conv => lhs; rw [this, cs_app]
    rfl
  have hl : (cs (l.take i)).length = i * 5 := by rw [cs_len, List.length_take, Nat.min_eq_left (Nat.le_of_lt hi)]
  rw [e, List.getElem?_append_right (by omega), hl, Nat.add_sub_cancel_left, List.getElem?_append_left (by exact hc)]
  exact h
attribute [local irreducible] Go.Region.wanted
set_option maxHeartbeats 8000000 in
set_option maxRecDepth 100000 in
theorem check_some (b o n cap : Nat) (l : List Ent) (w : World) (hb : b < w.heap.size) (hc : ∀ j u, (cs l)[j]? = some u → w.cell? ⟨b, o + j, none⟩ = some u) (hn : l.length = n) (hn2 : n ≤ 1099511627776) (hk : ∀ i, i < n → l[i]!.key.size ≤ 9223372036854775807) :
    Calls Tryd.prog 5 #[.slice (some ⟨b, o, none⟩) n cap] w fun e w' => e = .returned (.bool (chk l)) ∧ Gw w w' := by
  have HN := Lib.hid hn
  have HK := Lib.hid hk
  have HR := Lib.hid (fun (e : Ent) (hz : e.key.size ≤ 9223372036854775807) (W : World) => rightG e hz W)
  have HC : Hid (∀ W, Gw w W → ∀ i, i < n → ∀ c u, (encE l[i]!)[c]? = some u → W.cell? ⟨b, o + i * 5 + c, none⟩ = some u) := fun W hW i hi c u hu => by
    rw [hW.below.cell (p := ⟨b, o + i * 5 + c, none⟩) hb, Nat.add_assoc]
    exact hc _ _ (cs_get l i (by omega) c u hu)
  have mixed : Tryd.prog.follows Departure.mixedOrders = true := by kernel_rfl
  have G0 : Hid (Gw w w) := Gw.refl w
  have L0 : Hid (chkN l 0 = true) := rfl
  clear hn hk hc
  go_enter Tryd.func5, Tryd.ntmps5
  go_wp2_with fail
  go_loopg [7, 18] n (fun kx s7 s18 wr => ∃ (i : Nat), s7 = .int .i64 i ∧ i ≤ n ∧ n - i ≤ kx ∧ Hid (Gw w wr) ∧ Hid (chkN l i = true) ∧ Hid (s18 = undef ∨ s18 = .bool false ∨ (s18 = .bool true ∧ 0 < i)))
  case atStart => exact ⟨0, rfl, Nat.zero_le _, by omega, G0, L0, .inl rfl⟩
  case round =>
    clear G0 L0
    obtain ⟨i, rfl, hin, hkx, G1, L1, H18⟩ := hrel
    by_cases hlt : i < n
    · have hltz : (i : Int) < (n : Int) := by omega
      have pa1 : (0 : Int) ≤ (i : Int) := by omega
      have hcell := HC.out wr G1.out i hlt
      have hz := HK.out i hlt
      obtain ⟨x, hx⟩ : ∃ x, x = l[i]! := ⟨_, rfl⟩
      rw [← hx] at hcell hz
      have HX := Lib.hid hx
      clear hx
      have hR := HR.out x hz
      have hok : Hid (kP l i = (okE x && (i == 0 || kl l[i - 1]!.key x.key))) := by show _ = _; rw [kP, ← HX.out]
      obtain ⟨key, p1, p2, p3, p4⟩ := x
      have x0 := hcell 0 _ rfl
      have x1 := hcell 1 _ rfl
      have x2 := hcell 2 _ rfl
      have x3 := hcell 3 _ rfl
      have x4 := hcell 4 _ rfl
      simp only [Nat.add_zero] at x0
      obtain ⟨W1, hW1⟩ : ∃ W1, W1 = wr.alloc (.cells #[.string key, .int .i64 p1, .int .i64 p2, .int .i64 p3, .int .i64 p4] 31) := ⟨_, rfl⟩
      have B1 : Hid (Gw w W1) := by rw [hW1]; exact Gw.alloc G1.out _
      have lt1 : wr.heap.size < W1.heap.size := by rw [hW1]; simp
      have CL : Hid (∀ j u, (encE ⟨key, p1, p2, p3, p4⟩)[j]? = some u → W1.cell? ⟨wr.heap.size, j, none⟩ = some u) := fun j u hj => by
        rw [hW1]
        simp only [encE] at hj
        rw [World.cell?_alloc_new]
        simpa using hj
      simp only [encE] at hR
      clear hcell
      go_wp2_with fail
      rw [← hW1]
      clear hW1
      have cg : ∀ N os a, a.block < W1.heap.size → (grow (W1.drewN N) os).cell? a = W1.cell? a := fun N os a ha => by
        rw [cell?_grow _ _ _ (by exact ha)]
        rfl
      have bx : ∀ N os j u, (encE ⟨key, p1, p2, p3, p4⟩)[j]? = some u → (grow (W1.drewN N) os).cell? ⟨wr.heap.size, j, none⟩ = some u := fun N os j u hj => by rw [cg _ _ _ lt1]; exact CL.out j u hj
      have y0 : ∀ N os, (grow (W1.drewN N) os).cell? ⟨wr.heap.size, 0, none⟩ = some (.string key) := fun N os => bx N os 0 _ rfl
      have y1 : ∀ N os, (grow (W1.drewN N) os).cell? ⟨wr.heap.size, 1, none⟩ = some (.int .i64 p1) := fun N os => bx N os 1 _ rfl
      have y2 : ∀ N os, (grow (W1.drewN N) os).cell? ⟨wr.heap.size, 2, none⟩ = some (.int .i64 p2) := fun N os => bx N os 2 _ rfl
      have y3 : ∀ N os, (grow (W1.drewN N) os).cell? ⟨wr.heap.size, 3, none⟩ = some (.int .i64 p3) := fun N os => bx N os 3 _ rfl
      have y4 : ∀ N os, (grow (W1.drewN N) os).cell? ⟨wr.heap.size, 4, none⟩ = some (.int .i64 p4) := fun N os => bx N os 4 _ rfl
      clear cg bx x0 x1 x2 x3 x4
      cases hK : okE ⟨key, p1, p2, p3, p4⟩ with
      | false =>
        simp only [hK] at hR
        have CK : Hid (chk l = false) := chk_no (by rw [HN.out]; exact hlt) (by rw [hok.out, hK]; rfl)
        clear hK hok
        have KR := Lib.hid hR
        clear hR
        rcases H18.out with rfl | rfl | ⟨rfl, h0⟩
        · clear H18
          go_quiet_grown (first | (go_at_call 11; refine Calls.grown_of (KR.out _)))
          go_wp2_with fail
          go_ret
          exact ⟨by rw [CK.out]; rfl, Gw.trans B1.out ⟨_, _, rfl⟩⟩
        · clear H18
          go_quiet_grown (first | (go_at_call 11; refine Calls.grown_of (KR.out _)))
          go_wp2_with fail
          go_ret
          exact ⟨by rw [CK.out]; rfl, Gw.trans B1.out ⟨_, _, rfl⟩⟩
        · clear H18
          obtain ⟨p, hp⟩ : ∃ p, p = i - 1 := ⟨_, rfl⟩
          have pI : (i : Int) - 1 = (p : Int) := by omega
          have q1 : p + 1 ≤ i := by omega
          have q2 : i ≤ p + 1 := by omega
          have pc1 : (0 : Int) ≤ (p : Int) := by omega
          have pc2 : (p : Int) < (n : Int) := by omega
          have rc1 : IntKind.i64.wrap (p : Int) = (p : Int) := by rw [IntKind.wrap_i64]; omega
          have ec1 : ((p : Int)).toNat = p := by omega
          obtain ⟨pk, hpk⟩ : ∃ pk, pk = l[p]!.key := ⟨_, rfl⟩
          have z0 : ∀ N os, (grow (W1.drewN N) os).cell? ⟨b, o + p * 5, none⟩ = some (.string pk) := fun N os => by
            have := HC.out (grow (W1.drewN N) os) (Gw.trans B1.out ⟨N, os, rfl⟩) p (by omega) 0 (.string pk) (by rw [hpk]; rfl)
            simpa using this
          clear hp hpk
          obtain ⟨bb, hle⟩ : ∃ bb, (Op.bytesLess key.toList pk.toList || key.toList == pk.toList) = bb := ⟨_, rfl⟩
          go_quiet_grown (first | (go_at_call 11; refine Calls.grown_of (KR.out _)))
          go_wp2_with fail
          go_ret
          exact ⟨by rw [CK.out]; rfl, Gw.trans B1.out ⟨_, _, rfl⟩⟩
      | true =>
        simp only [hK] at hR
        have KR := Lib.hid hR
        clear hR
        rcases Nat.eq_zero_or_pos i with h0 | h0
        · have hg0 : decide ((0 : Int) < (i : Int)) = false := decide_eq_false (by omega)
          have hg1 : decide (0 < i) = false := decide_eq_false (by omega)
          have CK : Hid (chkN l (i + 1) = true) := by show _ = _; rw [chkN_succ, L1.out, hok.out, hK, h0]; rfl
          clear hK hok h0
          go_quiet_grown (first | (go_at_call 11; refine Calls.grown_of (KR.out _)))
          have G2 : Hid (Gw w (grow (W1.drewN nq) osq)) := Gw.trans B1.out ⟨_, _, rfl⟩
          generalize grow (W1.drewN nq) osq = w2 at G2 ⊢
          go_wp2_with fail
          go_roundg (n - (i + 1))
          case measure => omega
          case rel => exact ⟨i + 1, by go_num, by omega, Nat.le_refl _, G2, CK, .inr (.inl rfl)⟩
        · obtain ⟨p, hp⟩ : ∃ p, p = i - 1 := ⟨_, rfl⟩
          have pI : (i : Int) - 1 = (p : Int) := by omega
          have q1 : p + 1 ≤ i := by omega
          have q2 : i ≤ p + 1 := by omega
          have hg0 : decide ((0 : Int) < (i : Int)) = true := decide_eq_true (by omega)
          have pc1 : (0 : Int) ≤ (p : Int) := by omega
          have pc2 : (p : Int) < (n : Int) := by omega
          have rc1 : IntKind.i64.wrap (p : Int) = (p : Int) := by rw [IntKind.wrap_i64]; omega
          have ec1 : ((p : Int)).toNat = p := by omega
          obtain ⟨pk, hpk⟩ : ∃ pk, pk = l[p]!.key := ⟨_, rfl⟩
          have z0 : ∀ N os, (grow (W1.drewN N) os).cell? ⟨b, o + p * 5, none⟩ = some (.string pk) := fun N os => by
            have := HC.out (grow (W1.drewN N) os) (Gw.trans B1.out ⟨N, os, rfl⟩) p (by omega) 0 (.string pk) (by rw [hpk]; rfl)
            simpa using this
          have hok2 : Hid (kP l i = kl pk key) := by show _ = _; rw [hok.out, hK, ← hp, ← hpk, show (i == 0) = false by simp; omega]; rfl
          clear hok hK hp hpk
          have hle : (Op.bytesLess key.toList pk.toList || key.toList == pk.toList) = !kl pk key := le_kl key pk
          cases hkl : kl pk key with
          | true =>
            rw [hkl] at hle hok2
            have CK : Hid (chkN l (i + 1) = true) := by show _ = _; rw [chkN_succ, L1.out, hok2.out]; rfl
            clear hkl hok2
            go_quiet_grown (first | (go_at_call 11; refine Calls.grown_of (KR.out _)))
            have G2 : Hid (Gw w (grow (W1.drewN nq) osq)) := Gw.trans B1.out ⟨_, _, rfl⟩
            clear y0 y1 y2 y3 y4 z0
            generalize grow (W1.drewN nq) osq = w2 at G2 ⊢
            go_wp2_with fail
            go_roundg (n - (i + 1))
            case measure => omega
            case rel => exact ⟨i + 1, by go_num, by omega, Nat.le_refl _, G2, CK, .inr (.inr ⟨rfl, by omega⟩)⟩
          | false =>
            rw [hkl] at hle hok2
            have CK : Hid (chk l = false) := chk_no (by rw [HN.out]; exact hlt) hok2.out
            clear hkl hok2
            go_quiet_grown (first | (go_at_call 11; refine Calls.grown_of (KR.out _)))
            go_wp2_with fail
            go_ret
            exact ⟨by rw [CK.out]; rfl, Gw.trans B1.out ⟨_, _, rfl⟩⟩
    · have hltz : ¬ (i : Int) < (n : Int) := by omega
      have eN : Hid (chk l = true) := by
        show chk l = true
        unfold chk
        rw [HN.out, show n = i by omega]
        exact L1.out
      go_wp2_with fail
      go_ret
      exact ⟨by rw [eN.out]; rfl, G1.out⟩
end Go.Proofs.YtpcmminokhmkjaaDoor.St
