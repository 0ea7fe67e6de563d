/-
  THE STATEMENT LowerOnce (P16.2, P16.3): of all bytes, an image that is read out of them is written again as it was, noughts behind; the bytes read behind the call as before.
  Conditions: none but what the row lists.
-/
import Derived.Test.YtojhlhpbhoeplaaGreatDoorTie
import Derived.Test.YtojhlhpbhoeplaaGreatDoorCards
import Derived.Test.YtojhlhpbhoeplaaGreatDoorLwA
import Derived.ProofKit
import Derived.OpenShut
import Derived.LaidMore
import Derived.LaidHandle
import Derived.Lay
import Derived.Stop.Joined
import Derived.Stop.LaidErr
import Derived.Deep.DeepHandedRow
import Derived.Lib.LaidTab
import Derived.Lib.LaidU8
import Derived.MakeChecks
import Derived.Test.YtojhlhpbhoeplaaGreatDoorLwB
namespace Go.Proofs.YtojhlhpbhoeplaaGreatDoor.Sh
open Go.ChangeShapes Go.WideShapes Go.ChangeAt Go.RowKit Go.Lib Lb

theorem own : ownKnob Tryz.prog.godebug = none := by kernel_rfl
/-- what each row lists -/
def laidAll : List (String × DataW Unit) := Rows.lowerOnceRow.laid
theorem kGlobal : Tryz.prog.globalNamed "errors.errorType" = some 1 := by kernel_rfl
theorem kRtype : (Tryz.prog.cutTypes.find? (·.1 == "internal/reflectlite.rtype")).map (·.2) = some 133 := by kernel_rfl
theorem kTypes : Tryz.prog.types.size = 273 := by kernel_rfl
theorem kOneRow : ((List.range 273).filter fun t => Tryz.prog.rowNamed t [101, 114, 114, 111, 114]) = [48] := by kernel_rfl
theorem filtOf : (laidAll.filter fun x => x.2.handleName?.isSome) = [("errors.errorType", Rows.laid_errors_errorType)] := by kernel_rfl
theorem errT_of {W : World} (h : laidMetH Tryz.prog laidAll W) : ErrT W := by
  have h' : laidMet Tryz.prog (laidAll.filter fun x => x.2.handleName?.isNone) W ∧ handlesMet Tryz.prog [("errors.errorType", Rows.laid_errors_errorType)] W := h
  obtain ⟨name, u, ty, e1, e2, e3, e4, e5⟩ := h'.2 _ (List.mem_singleton.2 rfl)
  have en : name = [101, 114, 114, 111, 114] := (Option.some.inj e1).symm
  subst en
  obtain rfl := Option.some.inj (kRtype.symm.trans e2)
  have hm : ty ∈ (List.range 273).filter fun t => Tryz.prog.rowNamed t [101, 114, 114, 111, 114] := List.mem_filter.2 ⟨List.mem_range.2 (by rw [← kTypes]; exact e3), e4⟩
  rw [kOneRow] at hm
  obtain rfl := List.mem_singleton.1 hm
  have hh : typeHandle Tryz.prog 48 = .pointer (some ⟨8, 48, none⟩) := by kernel_rfl
  rw [hh] at e5
  simpa [ErrT] using World.var?_cell kGlobal e5 0
/-- the tables and the sentinel -/
def six : List (String × DataW Unit) := [("math/bits.deBruijn32tab", Rows.laid_math_bits_deBruijn32tab), ("math/bits.deBruijn64tab", Rows.laid_math_bits_deBruijn64tab), ("internal/strconv.uint64pow10", Rows.laid_internal_strconv_uint64pow10), ("unicode/utf8.acceptRanges", Rows.laid_unicode_utf8_acceptRanges), ("palimpsest/lower.errImage", Rows.laid_palimpsest_lower_errImage), ("unicode/utf8.first", Rows.laid_unicode_utf8_first)]
theorem sixIs : (laidAll.filter fun x => x.2.handleName?.isNone) = six := by kernel_rfl
theorem powIs : (Rows.laid_internal_strconv_uint64pow10 : DataW Unit) = tabData .u64 Lib.pow10Tab := by kernel_rfl
theorem cells76 : Tryz.prog.cellsOf 76 = 1 := by kernel_rfl
theorem tab_of {W : World} (h0 : laidMet Tryz.prog six W) : Lw.Tab W := by
  have h1 : laidMet Tryz.prog (("internal/strconv.uint64pow10", tabData .u64 Lib.pow10Tab) :: six.tail.tail.tail) W := by
    rw [← powIs]
    exact h0.tail.tail
  exact tabIs_of_head (g := 2) (by kernel_rfl) (by kernel_rfl) Tryz.underlying204 Tryz.underlying76 cells76 (by kernel_rfl) h1
theorem gS : Tryz.prog.globalNamed "palimpsest/lower.errImage" = some 0 := by kernel_rfl
theorem gST : (Tryz.prog.globals[0]?).map (·.type) = some 48 := by kernel_rfl
theorem cells261 : Tryz.prog.cellsOf 261 = 1 := by kernel_rfl
theorem cells9 : Tryz.prog.cellsOf 9 = 1 := by kernel_rfl
theorem star : "*" ++ "errors.errorString" = "*errors.errorString" := by decide
theorem row242 (u : TypeId) (h : Tryz.prog.typeName? 3 u = some "*errors.errorString") : u = 242 :=
  typeName_ptr_named (nm := "errors.errorString") (by rw [star]; kernel_rfl) (by kernel_rfl) (by decide) u (by rw [star]; exact h)
theorem sen_of {W : World} (h0 : laidMet Tryz.prog six W) : ∃ a, Lw.Sen W a := by
  obtain ⟨a, s, hv, _⟩ := laid_sentinel h0.tail.tail.tail.tail gS gST Tryz.underlying48 row242 Tryz.underlying242 Tryz.underlying261 rfl rfl Tryz.underlying9 cells261 cells9
  exact ⟨a, by simpa [Lw.Sen] using World.var?_cell gS hv 0⟩
theorem env_of {W : World} (h : laidMetH Tryz.prog laidAll W) : ∃ a, Lw.Env W a := by
  have h' : laidMet Tryz.prog (laidAll.filter fun x => x.2.handleName?.isNone) W := h.1
  rw [sixIs] at h'
  obtain ⟨a, hs⟩ := sen_of h'
  have ht := tab_of h'
  have hc := Lib.TabIs.cell ht (g := 2) (by kernel_rfl) 0 (by decide)
  exact ⟨a, errT_of h, hs, ht, Lw.lt_of_cell hc⟩
/-- the settled state, with the handle's cell laid -/
noncomputable def baseWorld (os : Os) : World :=
  { World.holding Tryz.prog os ⟨#[], #[], []⟩ with heap := (World.holding Tryz.prog os ⟨#[], #[], []⟩).heap.modify 1 fun
      | .cells _ t frozen => .cells #[.iface 133 (.agg #[.pointer (some ⟨8, 48, none⟩)])] t frozen
      | o => o }
/-- a state that meets the rows -/
noncomputable def laidWorld (os : Os) : World := (baseWorld os).layVars Tryz.prog six
theorem laidWorld_os (os : Os) : (laidWorld os).os = os := World.layVars_os _ _ _
theorem six_met (os : Os) (args : Array Value) : laidMet Tryz.prog six ((laidWorld os).forCall (fun _ _ => 0) ⟨#[], args, []⟩).memory := by
  have e1 : (six.filter fun x => (six.map (·.1)).contains x.1) = six := List.filter_eq_self.2 fun x hx => List.contains_iff_mem.2 (List.mem_map.2 ⟨x, hx, rfl⟩)
  have e2 : (six.filter fun x => !(six.map (·.1)).contains x.1) = [] := List.filter_eq_nil_iff.2 fun x hx => by rw [List.contains_iff_mem.2 (List.mem_map.2 ⟨x, hx, rfl⟩)]; simp
  have h : laidMet Tryz.prog six (laidWorld os) := laidMet_layVars (w0 := baseWorld os) (six.map (·.1)) [] (by rw [e1]; rfl) (by rw [e1]; kernel_rfl) (by rw [e1]; kernel_rfl) (by rw [e2]; exact LaidIn.none)
  exact h.of_heap (by simp [World.memory, World.forCall, Input.heap])
theorem laidWorld_met (os : Os) (args : Array Value) : laidMetH Tryz.prog laidAll ((laidWorld os).forCall (fun _ _ => 0) ⟨#[], args, []⟩).memory :=
  laidMetH_of_parts (by rw [sixIs]; exact six_met os args) (by rw [filtOf]; kernel_rfl)
theorem laidWorld_shaped (os : Os) (args : Array Value) : ((laidWorld os).forCall (fun _ _ => 0) ⟨#[], args, []⟩).Shaped Tryz.prog :=
  World.shaped_of_ZipB (by kernel_rfl) (by kernel_rfl)
theorem laidOut : laidOutB Tryz.prog = true := by kernel_rfl
theorem cells5 : Tryz.prog.cellsOf 5 = 1 := by kernel_rfl
theorem bytes5 : Tryz.prog.bytesOf 5 = 1 := by kernel_rfl
/-- a row of bytes within the reach -/
theorem reach_byt {H : Type} {ts : List TypeId} {ds : List (DataW H)} (hsz : (DataW.weightsEach Tryz.prog ts ds).all (· ≤ reachBytes) = true) {j : Nat} {d : DataW H} {l : List UInt8} (ht : ts[j]? = some 22) (hd : ds[j]? = some d)
    (h : (d = .nil ∧ l = []) ∨ ∃ es sp, d = .slice es sp ∧ es.length = l.length) : l.length ≤ 140737488351232 := by
  rcases h with ⟨_, rfl⟩ | ⟨es, sp, rfl, hl⟩
  · simp
  · have := sized_slice hsz ht hd Tryz.underlying22
    rw [bytes5] at this
    simp only [reachBytes] at this
    omega
theorem okWide_far {P : Program} {w : World} {base : Nat} {t e : TypeId} {ao : Option Addr} {n c : Nat} (ht : P.underlying t = some (.slice e)) (h : Value.okWide P w .any base t (.slice ao n c)) : ∀ a, ao = some a → a.block < w.heap.size := by
  rintro a rfl
  simp only [Value.okWide, ht, Cell.okWide, Cell.ok] at h
  obtain ⟨_, _, _, _, row, cells, hs, _⟩ := h
  rcases Nat.lt_or_ge a.block w.heap.size with h1 | h0
  · exact h1
  · exfalso
    unfold World.shape? at hs
    rw [Array.getElem?_eq_none h0] at hs
    simp at hs
end Go.Proofs.YtojhlhpbhoeplaaGreatDoor.Sh
namespace Go.Proofs.YtojhlhpbhoeplaaGreatDoor.Lw
open Go.RowKit Go.Lib Go.Proofs.YtojhlhpbhoeplaaGreatDoor.Sh Go.Proofs.YtojhlhpbhoeplaaGreatDoor.Lb

theorem img_pos (l : List InoP) : imgL l ≠ [] := by
  unfold imgL markL
  simp
set_option maxHeartbeats 8000000 in
set_option maxRecDepth 100000 in
theorem once_law (a : Addr) (ao : Option Addr) (b : List UInt8) (n c : Nat) (w : World) (hE : Env w a) (hb : Byt w ao b) (hn : ao = none → c = 0) (hl : b.length = n) (hc : n ≤ c) (hcc : c ≤ 9223372036854775807) (hfar : ∀ x, ao = some x → x.block < w.heap.size) :
    Calls Tryz.prog 3 #[.slice ao n c] w fun e w' => e = .returned (.bool true) ∧ Below w.heap.size w w' := by
  have E0 := Lib.hid hE
  have CH := Lib.hid (fun W (hb : Below w.heap.size w W) => heads_any a W (hE.below hb))
  have B0 := Lib.hid (Below.refl w.heap.size w)
  clear hE
  by_cases hbig : 30000 < n
  · have t0 : decide ((30000 : Int) < (n : Int)) = true := by simp; omega
    clear hb hn hl hc hcc hfar
    go_enter Tryz.func3, Tryz.ntmps3
    go_wp2_with fail
    refine (CH.out _ B0.out).mono ?_
    rintro e w' ⟨rfl, hb⟩
    have B1 := Lib.hid hb
    clear hb
    go_wp2_with fail
    go_ret
    exact ⟨rfl, B1.out⟩
  have t0 : decide ((30000 : Int) < (n : Int)) = false := by simp; omega
  have C := Lib.hid (lget_any a ao b n c w E0.out hb hn hl hc hcc (by omega) hfar)
  have HB := Lib.hid hb
  have HL := Lib.hid hl
  have HN : Hid (n ≤ 30000) := by show _ ≤ _; omega
  clear hb hn hl hfar hbig
  go_enter Tryz.func3, Tryz.ntmps3
  go_wp2_with fail
  refine C.out.mono ?_
  clear C t0
  rintro e w1 ⟨hb1, hv⟩
  rcases hv with ⟨l, ap, cp, rfl, hfs, ho, hs⟩ | ⟨rfl, _⟩
  rotate_left
  · have b2 : Below w.heap.size w (w1.alloc (.cells #[.slice none 0 0, .int .i64 0] 26)) := hb1.alloc hb1.size _
    have C := Lib.hid (CH.out _ b2)
    have B2 := Lib.hid b2
    clear b2 hb1
    go_wp2_with fail
    refine C.out.mono ?_
    clear C
    rintro e w3 ⟨rfl, hb⟩
    have B3 := Lib.hid (below_chain B2.out hb)
    clear hb
    go_wp2_with fail
    go_ret
    exact ⟨rfl, B3.out⟩
  obtain ⟨q, hq⟩ : ∃ q, q = l.length := ⟨_, rfl⟩
  rw [← hq] at ho ⊢
  obtain ⟨ap', cp', e, g1, g2, _, hi⟩ := ownI_irw ho hs
  injection e with e1 e2 e3
  clear e2
  subst e1
  subst e3
  obtain ⟨hok, z, hz⟩ := hfs
  rw [← hq] at g1 hok
  obtain ⟨w2, hw2⟩ : ∃ w2, w2 = w1.alloc (.cells #[.slice ap q cp, .int .i64 ((q : Int) + 1)] 26) := ⟨_, rfl⟩
  have b2 : Below w1.heap.size w1 w2 := by rw [hw2]; exact (Below.refl _ w1).alloc (Nat.le_refl _) _
  have F2 : Hid (Sh.Blk w2 w1.heap.size [.slice ap q cp, .int .i64 ((q : Int) + 1)] 26) := by show Sh.Blk _ _ _ _; rw [hw2]; exact Sh.Blk.new w1 [.slice ap q cp, .int .i64 ((q : Int) + 1)] 26 _ rfl
  have B2 := Lib.hid (below_chain hb1 b2)
  have I2 := Lib.hid (hi.below b2)
  have C := Lib.hid (put_any a ap l q cp ((q : Int) + 1) w2 (E0.out.below B2.out) I2.out hq.symm g1 g2)
  have x0 := F2.out.cell 0
  have x1 := F2.out.cell 1
  simp only [List.getElem?_cons_zero, List.getElem?_cons_succ] at x0 x1
  have HW := Lib.hid hw2
  rw [hw2] at x0 x1
  have OK := Lib.hid hok
  have HZ := Lib.hid hz
  have HQ := Lib.hid hq
  have G1 := Lib.hid g1
  have G2 := Lib.hid g2
  clear hb1 b2 hi hw2 hok hz hq g1 g2 ho hs
  go_wp2_with fail
  rw [← HW.out]
  refine C.out.mono ?_
  clear C HW x0 x1
  rintro e w3 ⟨hb3, hv⟩
  rcases hv with ⟨_, v, rfl, hown⟩ | ⟨hno, _⟩
  rotate_left
  · exact absurd OK.out hno
  obtain ⟨va, vc, hve, v1, v2, v3, v4⟩ := own_byt (show w3.ownsRow w2.heap.size 5 1 v _ (bs _) from hown)
  obtain ⟨k, hk⟩ : ∃ k, k = (imgL l).length := ⟨_, rfl⟩
  rw [← hk] at hve v1
  subst hve
  have hkn : k ≤ n := by rw [hk, ← HL.out, HZ.out, List.length_append]; omega
  have hk0 : 0 < k := by rw [hk]; exact List.length_pos_iff.2 (img_pos l)
  obtain ⟨sb, so, hao, hsb, hcell⟩ := HB.out (fun h => by have := HL.out; rw [h] at this; simp at this; omega)
  subst hao
  have B3 := Lib.hid (below_chain B2.out hb3)
  have HB3 : Byt w3 (some ⟨sb, so, none⟩) b := HB.out.below B3.out
  have htk : b.take k = imgL l := by rw [HZ.out, hk]; exact List.take_left
  have HBT : Byt w3 (some ⟨sb, so, none⟩) (imgL l) := by rw [← htk]; exact HB3.take k
  have C := Lib.hid (same_any va (some ⟨sb, so, none⟩) (imgL l) (imgL l) k k vc c w3 hk.symm hk.symm v3 HBT v4 (fun h => by cases h))
  have t1 : decide (n < k) = false := by simp; omega
  have t2 : decide ((n : Int) < (k : Int)) = false := by simp; omega
  have r1 : (0 : Int) ≤ (k : Int) := by omega
  have r2 : (k : Int) ≤ (c : Int) := by omega
  have F3 := Lib.hid (F2.out.low hb3)
  have I3 := Lib.hid (I2.out.below hb3)
  have HKN := Lib.hid hkn
  have HK := Lib.hid hk
  have VZ : Hid (∀ i, k ≤ i → i < n → b[i]? = some 0) := fun i h1 h2 => by
    have h3 := HZ.out
    have h4 := HL.out
    have hlen := congrArg List.length h3
    rw [List.length_append, List.length_replicate] at hlen
    rw [h3, List.getElem?_append_right (by omega), List.getElem?_replicate, if_pos (by omega)]
  clear hb3 hown v1 v2 v3 v4 hk hkn hk0 hcell HB3 htk HBT B2 F2 I2
  go_wp2_with fail
  refine C.out.mono ?_
  clear C t1 t2 r2
  rintro e w4 ⟨rfl, rfl⟩
  rw [decide_true]
  go_wp2_with fail
  go_loopw [7] (fun vi wr => ∃ i : Nat, k ≤ i ∧ i ≤ n ∧ vi = .int .i64 i ∧ Hid (Below w3.heap.size w3 wr)) (fun vi _ => n - (RowKit.intOf vi).toNat)
  case atStart => exact ⟨k, Nat.le_refl _, HKN.out, rfl, Below.refl _ w3⟩
  case round =>
    clear r1
    obtain ⟨i, hki, hi, rfl, hB⟩ := hrel
    by_cases hin : i < n
    · have q1 : (0 : Int) ≤ (i : Int) := by omega
      have q2 : (i : Int) < (n : Int) := by omega
      obtain ⟨sb', so', hao', _, hcell⟩ := HB.out (fun h => by have := HL.out; rw [h] at this; simp at this; omega)
      injection hao' with hao'
      injection hao' with e1 e2 _
      subst e1
      subst e2
      have hil : i < b.length := by have := HL.out; omega
      have hz : b[i] = 0 := by
        have h1 := VZ.out i hki hin
        rw [List.getElem?_eq_getElem hil] at h1
        injection h1
      have hc1 := hcell i hil
      rw [hz] at hc1
      have hc2 : wr.cell? ⟨sb, so + i, none⟩ = some (.int .u8 0) := (hB.out.cell (p := ⟨sb, so + i, none⟩) (Nat.lt_of_lt_of_le hsb B3.out.size)).trans ((B3.out.cell (p := ⟨sb, so + i, none⟩) hsb).trans hc1)
      have hwr : IntKind.i64.wrap ((i : Int) + 1) = (i : Int) + 1 := by have := HN.out; rw [IntKind.wrap]; simp [IntKind.bits, IntKind.signed]; omega
      have HK2 := Lib.hid hki
      clear hcell hil hz hc1 hki
      go_wp2_with fail
      go_roundw
      case rel => exact ⟨i + 1, by have := HK2.out; omega, by omega, by go_num, hB⟩
      case measure => simp [RowKit.intOf]; omega
    · obtain rfl : i = n := by omega
      have B4 := Lib.hid (below_chain B3.out hB.out)
      have y0 := (F3.out.low hB.out).cell 0
      have y1 := (F3.out.low hB.out).cell 1
      simp only [List.getElem?_cons_zero, List.getElem?_cons_succ] at y0 y1
      have C := Lib.hid (checkfs_any a ap l q cp ((q : Int) + 1) wr (E0.out.below B4.out) (I3.out.below hB.out) HQ.out.symm G1.out G2.out)
      clear hki hB
      go_wp2_with fail
      refine C.out.mono ?_
      clear C y0 y1
      rintro e w5 ⟨hb, r, rfl, hr⟩
      obtain rfl : r = true := hr.2 OK.out
      have B5 := Lib.hid (below_chain B4.out hb)
      clear hb hr
      go_wp2_with fail
      refine (CH.out _ B5.out).mono ?_
      rintro e w6 ⟨rfl, hb⟩
      have B6 := Lib.hid (below_chain B5.out hb)
      clear hb
      go_wp2_with fail
      go_ret
      exact ⟨rfl, B6.out⟩
end Go.Proofs.YtojhlhpbhoeplaaGreatDoor.Lw
namespace Go.Proofs.YtojhlhpbhoeplaaGreatDoor
namespace Sh
open Go.ChangeShapes Go.WideShapes Go.ChangeAt Go.RowKit Go.Lib Go.ChangeMaps

theorem once_env (ao : Option Addr) (b : List UInt8) (c : Nat) (w : World) (hL : laidMetH Tryz.prog laidAll w) (h : Byt w ao b) (hn : ao = none → c = 0) (hc : b.length ≤ c) (hc2 : c ≤ 9223372036854775807) (hfar : ∀ x, ao = some x → x.block < w.heap.size) :
    Calls Tryz.prog 3 #[.slice ao b.length c] w fun e w' => e = .returned (.bool true) ∧ Below w.heap.size w w' := by
  obtain ⟨a, hE⟩ := env_of hL
  exact Lw.once_law a ao b b.length c w hE h hn rfl hc hc2 hfar
set_option maxRecDepth 100000 in
/-- WHAT THE WALK GIVES, for every argument and every memory that meets the row. -/
theorem lowerOnce_contract (H : Type) (enc : TypeId × Value → H) (W : World) (base : Nat) (args : Array Value) (ds gs : List (DataW H)) (before : List MemPlace)
    (hval : ∀ (j : Nat) t v, Tryz.f3.params[j]? = some t → args[j]? = some v → Value.okWide Tryz.prog W .any base t v)
    (hW : DataW.Whole enc Tryz.prog Tryz.f3.params.toList Rows.lowerOnceSpec.vars false W args.toList ds gs before) 
    (hsz0 : (DataW.weightsEach Tryz.prog (Tryz.f3.params.toList ++ (OpenSpec.ofChange Rows.lowerOnceSpec).bare.plain.varTypes Tryz.prog) (ds ++ gs)).all (· ≤ reachBytes) = true) (hL : laidMetH Tryz.prog Rows.lowerOnceRow.laid W) :
    Calls Tryz.prog 3 args W fun e W' => ∃ v, e = .returned v ∧ Rows.lowerOnceSpec.post enc Tryz.prog Tryz.f3 false true false false W args v W' := by
  have hsz := hsz0
  clear hsz0
  have hW' := hW
  obtain ⟨p, q, hA0, hV, rfl, hfz, hnd⟩ := hW
  have hA : DataW.TrodAll enc Tryz.prog W 0 (fun _ => true) true Tryz.f3.params.toList args.toList ds p := hA0
  have hAk := hA
  clear hA0
  rw [Tryz.params3] at hA hval hsz
  obtain ⟨rfl, rfl⟩ := trodVars_none hV
  simp only [List.append_nil] at hW' hsz
  have hlt : ∀ x ∈ p, x.block < W.heap.size := fun x hx => by simpa using hW'.lt x hx
  obtain ⟨v0, vs0, d0, ds0, p0, q0, hargs, rfl, hp0, h0, r0⟩ := trodAll_cons hA
  obtain ⟨rfl, rfl, hpn⟩ := trodAll_nil r0
  obtain rfl : args = #[v0] := by cases args; simp_all
  have hlt0 : ∀ x ∈ p0, x.block < W.heap.size := fun x hx => hlt x (by rw [hp0]; exact List.mem_append_left _ hx)
  have hltq0 : ∀ x ∈ q0, x.block < W.heap.size := fun x hx => hlt x (by rw [hp0]; exact List.mem_append_right _ hx)
  obtain ⟨ab, b, cb, rfl, hbc, hbm, hbr, hbn, e0⟩ := open_byt Tryz.underlying22 Tryz.underlying5 cells5 (hval 0 22 v0 rfl rfl) h0 hlt0
  have hbz := reach_byt hsz (j := 0) (d := d0) rfl rfl e0
  refine (once_env ab b cb W hL hbr hbn hbc hbm (okWide_far Tryz.underlying22 (hval 0 22 _ rfl rfl))).mono fun e W' ⟨he, hb⟩ => ?_
  subst he
  exact ⟨_, rfl, _, _, _, [], p, [], hW', trodAll_mk1 (shut_bool Tryz.underlying4 _), below_trodAll laidOut hb _ _ _ _ (by kernel_rfl) hAk hlt, rfl, hb.frame _, fun h => by cases h⟩

theorem lowerOnce_reads (os : Os) {H : Type} (enc : TypeId × Value → H) : ∃ places, DataW.whole enc Tryz.prog ((laidWorld os).forCall (fun _ _ => 0) ⟨#[], #[.slice none 0 0], []⟩).memory Tryz.f3.params.toList Rows.lowerOnceSpec.vars false (#[Value.slice none 0 0] : Array Value).toList 8 = some ([.nil], [], places) :=
  ⟨[], by kernel_rfl⟩

set_option maxRecDepth 100000 in
theorem lowerOnce_lifted (os : Os) (started : os.Started) (H : Type) (enc : TypeId × Value → H) (F : Stop.Interp) :
    ReturnsInHanded {} Tryz.checked os 3 .any ((OpenSpec.ofChange Rows.lowerOnceSpec).preRow enc Tryz.prog Tryz.f3 Rows.lowerOnceRow.domain false Rows.lowerOnceRow.laid) (((OpenSpec.ofChange Rows.lowerOnceSpec).at F).post enc Tryz.prog Tryz.f3 false true false false) := by
  obtain ⟨places, hx⟩ := lowerOnce_reads os enc
  refine returnsInHanded_of_row (C := Tryz.checked) (s := OpenSpec.ofChange Rows.lowerOnceSpec) own started (by kernel_rfl) Tryz.func3 ?_ ?_
  · refine ⟨laidWorld os, fun _ _ => 0, ⟨#[], #[.slice none 0 0], []⟩, laidWorld_os os, laidWorld_shaped os _, rfl, (Input.okWide_of_okWideB (by kernel_rfl)).2, ?_, ?_⟩
    · exact OpenSpec.preRow_of_cond 8 hx (by kernel_rfl) (fun k hk => by cases hk) (by kernel_rfl) (laidWorld_met os _)
    · simp only [Assume.holds]
      exact ⟨by simp, by simp, fun _ => Modest.zero, by simp, by simp⟩
  intro W base args ds gs before hval hW _ _ hsz hL hsh _
  exact lowerOnce_contract H enc W base args ds gs before hval hW hsz hL

theorem lowerOnce_said : Rows.LowerOnceSaid :=
  OpenClaim.holds_of_cond 3 Tryz.f3 rfl rfl rfl rfl rfl rfl rfl ⟨rfl, rfl, rfl, rfl, rfl⟩ rfl rfl rfl rfl rfl (by kernel_rfl) Tryz.func3 (by kernel_rfl)
    (of_decide_eq_true (by kernel_rfl)) (by unfold Func.isWrapper; first | (rw [if_pos (by decide +kernel)]; kernel_rfl) | (rw [if_neg (by decide +kernel)]; exact ⟨rfl, rfl⟩))
    (fun os started H enc _ F => by rw [OpenClaim.pre_eq_preRow]; exact lowerOnce_lifted os started H enc F)
end Sh
theorem lowerOnce_plain (f : FuncId) (fn : Func) (hf : Tryz.pinned.checked.prog.funcNamed Rows.lowerOnceRow.func = some f) (hfn : Tryz.pinned.checked.prog.funcs[f]? = some fn) :
    true = Tryz.pinned.checked.prog.looks [] ∧ ∀ (j : Nat) t, fn.params[j]? = some t → Tryz.pinned.checked.prog.wantsStandIn t = false := by
  obtain rfl : f = 3 := Option.some.inj ((show Tryz.prog.funcNamed Rows.lowerOnceRow.func = some 3 by kernel_rfl).symm.trans hf) |>.symm
  obtain rfl : fn = Tryz.f3 := (Option.some.inj (Tryz.func3.symm.trans hfn)).symm
  refine ⟨by kernel_rfl, fun j t ht => ?_⟩
  rw [Tryz.params3] at ht
  have hm : t ∈ [22] := by simpa using Array.mem_of_getElem? ht
  have hall : ([22].all fun u => !Tryz.prog.wantsStandIn u) = true := by kernel_rfl
  exact (show Tryz.prog.wantsStandIn t = false by simpa using List.all_eq_true.1 hall t hm)
/-- THE STATEMENT. -/
theorem lowerOnce_card : Rows.LowerOnceCardSaid :=
  Claim7.holds_tied_plain_at .later [] _ _ _ _ Sh.lowerOnce_said (fun _ h => by cases h) (by kernel_rfl) (fun _ h => by cases h) lowerOnce_row_tie rfl ⟨rfl, rfl⟩ (by kernel_rfl) rfl lowerOnce_plain (by kernel_rfl)
end Go.Proofs.YtojhlhpbhoeplaaGreatDoor
