/-
  The contracts of super's Put and Get. Conditions: each law's own.
-/
import Derived.Test.YtlpbkjonicjccaaDoorSe
import Derived.Test.YtlpbkjonicjccaaDoorWm
import Derived.Deep.MidRow
import Derived.DeepKeys
namespace Go.Proofs.YtlpbkjonicjccaaDoor.Sh
open Go.RowKit Go.Lib

theorem guard51 : Tryd.prog.eqGuardType Tryd.prog.depth 51 = false := by kernel_rfl

section
variable (w : World)
theorem part5 (l : List UInt8) (i : Nat) (h : i < l.length) : (Go.part 5 (bs l).toArray i).run Tryd.prog w = .ok (.int .u8 (l[i].toNat : Int)) w := by
  refine run_part_plain w (by kernel_rfl) ?_
  rw [List.getElem?_toArray, bs_get l i h]
theorem items_eq (d : Nat) (l m : List UInt8) : ∀ (is : List Nat), (∀ i ∈ is, i < l.length ∧ i < m.length) → (Op.eqItems (d + 1) 5 1 (bs l).toArray (bs m).toArray is).run Tryd.prog w = .ok (decide (∀ i ∈ is, l[i]? = m[i]?)) w
  | [], _ => by simp [Op.eqItems]
  | i :: is, h => by
    obtain ⟨h1, h2⟩ := h i (List.mem_cons_self)
    have ih := items_eq d l m is (fun j hj => h j (List.mem_cons_of_mem _ hj))
    simp only [Op.eqItems, Sem.run_bind, Nat.mul_one, part5 w l i h1, part5 w m i h2, Result.andThen_ok, run_equalIn_int w d 5 .u8 .u8 _ _ Tryd.underlying5]
    by_cases hc : l[i] = m[i]
    · have e1 : ((l[i].toNat : Int) == (m[i].toNat : Int)) = true := by rw [hc]; simp
      have e2 : l[i]? = m[i]? := by rw [List.getElem?_eq_getElem h1, List.getElem?_eq_getElem h2, hc]
      rw [e1]
      simp [ih, e2]
    · have e1 : ((l[i].toNat : Int) == (m[i].toNat : Int)) = false := by
        simp only [beq_eq_false_iff_ne, ne_eq]
        intro h0
        exact hc (u8_eq (by omega))
      have e2 : ¬ l[i]? = m[i]? := by rw [List.getElem?_eq_getElem h1, List.getElem?_eq_getElem h2]; simpa using hc
      rw [e1]
      simp [e2]
theorem eq51 (l m : List UInt8) (hl : l.length = 256) (hm : m.length = 256) : (Op.equalIn 10000 51 (.agg (bs l).toArray) (.agg (bs m).toArray)).run Tryd.prog w = .ok (l == m) w := by
  obtain ⟨i5, hi, _⟩ := info_parts info5
  have c5 : Tryd.prog.cellsOf 5 = 1 := by kernel_rfl
  rw [run_equalIn_array w 9999 _ _ Tryd.underlying51 hi, c5, items_eq w 9998 l m (List.range 256) (fun i hi => by have := List.mem_range.1 hi; omega)]
  have e : decide (∀ i ∈ List.range 256, l[i]? = m[i]?) = (l == m) := by
    by_cases h : l = m
    · subst h; simp
    · have : ¬ ∀ i ∈ List.range 256, l[i]? = m[i]? := fun h0 => h (List.ext_getElem? fun i => by
        by_cases hi : i < 256
        · exact h0 i (List.mem_range.2 hi)
        · rw [List.getElem?_eq_none (by omega), List.getElem?_eq_none (by omega)])
      simp only [this, decide_false]
      simp [h]
  rw [e]
end
/-- the value reads as the superblock -/
def SupV (w : World) (v : Value) (s : SP) : Prop := ∃ ao c, v = .agg #[.int .i64 s.g, .string s.r, .slice ao s.p.length c] ∧ Zrw w ao s.p ∧ (ao = none → c = 0) ∧ s.p.length ≤ c ∧ c ≤ 9223372036854775807 ∧ s.r.size ≤ 9223372036854775807
theorem SupV.below {w w' : World} {v : Value} {s : SP} (h : SupV w v s) (hb : Below w.heap.size w w') : SupV w' v s := by
  obtain ⟨ao, c, h1, h2, h3⟩ := h
  exact ⟨ao, c, h1, h2.below hb, h3⟩
def noSP : SP := ⟨0, ⟨#[]⟩, []⟩
theorem sup_none (w : World) : SupV w (.agg #[.int .i64 0, .string ⟨#[]⟩, .slice none 0 0]) noSP := ⟨none, 0, rfl, zrw_nil _ _, fun _ => rfl, Nat.le_refl _, by omega, by decide⟩
/-- the same, its row in memory from K on -/
def SupF (w : World) (K : Nat) (v : Value) (s : SP) : Prop := ∃ ao c, v = .agg #[.int .i64 s.g, .string s.r, .slice ao s.p.length c] ∧ Zrw w ao s.p ∧ (ao = none → c = 0) ∧ s.p.length ≤ c ∧ c ≤ 9223372036854775807 ∧ s.r.size ≤ 9223372036854775807 ∧ ∀ b o, ao = some ⟨b, o, none⟩ → K ≤ b
theorem SupF.val {w : World} {K : Nat} {v : Value} {s : SP} (h : SupF w K v s) : SupV w v s := by
  obtain ⟨ao, c, h1, h2, h3, h4, h5, h6, _⟩ := h
  exact ⟨ao, c, h1, h2, h3, h4, h5, h6⟩
theorem supF_none (w : World) (K : Nat) : SupF w K (.agg #[.int .i64 0, .string ⟨#[]⟩, .slice none 0 0]) noSP := ⟨none, 0, rfl, zrw_nil _ _, fun _ => rfl, Nat.le_refl _, by omega, by decide, fun b o h => by cases h⟩
def putE (s : SP) : Int := if okP s then 0 else 110
/-- what Put answers -/
def AnsP (w : World) (s : SP) (e : Ending) (w' : World) : Prop := Below w.heap.size w w' ∧ ∃ u, e = .returned (.tuple #[u, .int .i64 (putE s)]) ∧ (okP s = false → u = .slice none 0 0) ∧ (okP s = true → ∃ g, u = .slice (some ⟨g, 0, none⟩) 256 256 ∧ w.heap.size ≤ g ∧ Blk w' g (bs (secL s)) 51)
set_option maxHeartbeats 4000000 in
set_option maxRecDepth 100000 in
theorem put8 (s : SP) (v : Value) (w : World) (h : SupV w v s) : Calls Tryd.prog 8 #[v] w (AnsP w s) := by
  obtain ⟨ao, c, rfl, hz, hn, hc, hm, hr⟩ := h
  have B0 := below_alloc' (Below.refl w.heap.size w) (Nat.le_refl _) (.cells #[.int .i64 s.g, .string s.r, .slice ao s.p.length c] 25)
  have X0 := Bxs.new w s.g s.r ao s.p.length c
  obtain ⟨n, hpn⟩ : ∃ n, n = s.p.length := ⟨_, rfl⟩
  rw [← hpn] at B0 X0 hc ⊢
  have C19 := Lib.hid (okp_any s.g s.r ao s.p n c _ (hz.below B0) hpn.symm (by omega) hr)
  have HZ := Lib.hid hz
  have HPN := Lib.hid hpn.symm
  have HB0 := Lib.hid B0
  have HX0 := Lib.hid X0
  have hc' : n ≤ 9223372036854775807 := by omega
  clear hz hpn B0 X0 hc
  cases hok : okP s with
  | false =>
    have e0 : okP ⟨s.g, s.r, s.p⟩ = false := hok
    rw [e0] at C19
    clear e0
    have HOK := Lib.hid hok
    clear hok
    go_enter Tryd.func8, Tryd.ntmps8
    go_wp2_with fail
    refine C19.out.mono ?_
    rintro e w1 ⟨rfl, b1⟩
    have HB1 := Lib.hid (below_chain HB0.out b1)
    clear b1
    go_wp2_with fail
    go_ret2
    exact ⟨HB1.out, .slice none 0 0, by rw [putE, HOK.out]; rfl, fun _ => rfl, fun h => by rw [HOK.out] at h; cases h⟩
  | true =>
    have e0 : okP ⟨s.g, s.r, s.p⟩ = true := hok
    rw [e0] at C19
    clear e0
    have HOK := Lib.hid hok
    have HSL := Lib.hid (secL_len hok)
    have zv := zv51
    obtain ⟨Z, hZ⟩ : ∃ Z, Z = nou.toArray := ⟨_, rfl⟩
    rw [← hZ] at zv
    have HZZ := Lib.hid hZ
    clear hok hZ
    go_enter Tryd.func8, Tryd.ntmps8
    go_wp2_with fail
    refine C19.out.mono ?_
    rintro e w1 ⟨rfl, b1⟩
    have HB1 := Lib.hid (below_chain HB0.out b1)
    have HX1 := Lib.hid (HX0.out.low b1)
    have C20 := Lib.hid (written20 s HOK.out ao n c w1 (HZ.out.below HB1.out) HPN.out hc' hr)
    have f0 := HX1.out.c0
    have f1 := HX1.out.c1
    have f2 := HX1.out.c2
    clear b1 HX0 HB0
    obtain ⟨R, hR⟩ : ∃ R, R = (bs (secL s)).toArray := ⟨_, rfl⟩
    rw [← hR] at C20
    go_wp2_with fail
    refine C20.out.mono ?_
    rintro e w2 ⟨rfl, b2⟩
    have B2 := Lib.hid (below_chain HB1.out b2)
    clear b2 f0 f1 f2
    have K3 : Hid ((w2.alloc (.cells Z 51)).heap[w2.heap.size]? = some (.cells Z 51 (0, 0))) := heap_alloc_new w2 _
    have B3 : Hid (Below w.heap.size w (w2.alloc (.cells Z 51))) := below_alloc' B2.out (Nat.le_refl _) _
    have hsl := slice51 w2.heap.size
    have hsz : (Tryd.prog.info? 51).map (·.size) = some (bs (secL s)).toArray.size := by rw [info51, List.size_toArray, bs_len, HSL.out]
    have hold : Z.size = (bs (secL s)).toArray.size := by rw [HZZ.out, List.size_toArray, List.size_toArray, nou_len, bs_len, HSL.out]
    have hall : (bs (secL s)).toArray.all (·.oneCell') = true := all_oneCell_toArray (bs_one _)
    rw [← hR] at hsz hold hall
    have HR := Lib.hid hR
    have HHS := Lib.hid hsz
    have HHO := Lib.hid hold
    have HHA := Lib.hid hall
    have K4 := Lib.hid (setRow_heap (w2.alloc (.cells Z 51)) w2.heap.size Z R 51 (0, 0) K3.out)
    have B4 : Hid (Below w.heap.size w ((w2.alloc (.cells Z 51)).setRow w2.heap.size R)) := below_row B3.out B2.out.size _
    clear hR hsz hold hall
    go_wp2_with (first
      | (with_reducible refine wpList_store_row rfl 51 (.tmp 4) (.tmp 9) rfl w2.heap.size R rfl rfl 51 Z K3.out HHS.out HHO.out HHA.out ?_))
    go_ret2
    exact ⟨B4.out, .slice (some ⟨w2.heap.size, 0, none⟩) 256 256, by rw [putE, HOK.out]; rfl, (fun h => by rw [HOK.out] at h; cases h), fun _ => ⟨w2.heap.size, rfl, B2.out.size, by unfold Blk; rw [← HR.out]; exact K4.out⟩⟩
theorem results_row_tmp {P : Program} {fn : Func} {p u : Tmp} {ty : TypeId} (h : fn.results = #[.cell p ty, .tmp u]) (tmps : Array Value) (w : World) (g : Nat) (t : TypeId) (cs : List Value) (d : TypeDesc) (y : Value)
    (hp : tmps.getD p undef = .pointer (some ⟨g, 0, none⟩)) (hy : tmps.getD u undef = y) (hg : Blk w g cs t)
    (hu : P.underlying ty = some d) (hd : (match d with | .struct _ | .array _ _ => true | _ => false) = true) (hi : (P.info? ty).map (·.size) = some cs.toArray.size) :
    (results fn tmps).run P w = .ok (.tuple #[.agg cs.toArray, y]) w := by
  rw [results_cell_tmp h, hp, hy]
  simp [asAddr, Result.andThen, run_loadVar_row w g t ty cs.toArray (0, 0) d hg hu hd hi]
def getE (l : List UInt8) : Int := if (getL l).isSome then 0 else 110
/-- what Get answers -/
def AnsG (w : World) (l : List UInt8) (e : Ending) (w' : World) : Prop := Below w.heap.size w w' ∧ ∃ v, e = .returned (.tuple #[v, .int .i64 (getE l)]) ∧ SupF w' w.heap.size v ((getL l).getD noSP)
theorem getL_short {l : List UInt8} (h : l.length ≠ 256) : getL l = none := by simp [getL, okL, h]
theorem size25 (a b c : Value) : (Tryd.prog.info? 25).map (·.size) = some ([a, b, c] : List Value).toArray.size := info25
set_option maxHeartbeats 4000000 in
set_option maxRecDepth 100000 in
theorem get_short (ao : Option Addr) (l : List UInt8) (n c : Nat) (w : World) (hln : l.length = n) (h : n ≠ 256) : Calls Tryd.prog 9 #[.slice ao n c] w (AnsG w l) := by
  have hg : getL l = none := getL_short (by omega)
  have e1 : ((n : Int) == 256) = false := by simp; omega
  have HG := Lib.hid hg
  have K0 := Lib.hid (Blk.new w [.int .i64 0, .string ⟨#[]⟩, .slice none 0 0] 25 w.heap.size rfl)
  have B0 := Lib.hid (below_alloc' (Below.refl w.heap.size w) (Nat.le_refl _) (.cells #[.int .i64 0, .string ⟨#[]⟩, .slice none 0 0] 25))
  clear hg h hln
  go_enter Tryd.func9, Tryd.ntmps9
  go_wp2_with fail
  exact bodyPost_ret (results_row_tmp rfl _ _ w.heap.size 25 _ _ _ rfl rfl K0.out Tryd.underlying25 rfl (size25 _ _ _)) rfl
    ⟨B0.out, _, by rw [getE, HG.out]; rfl, by rw [HG.out]; exact supF_none _ _⟩
theorem getL_bad {l : List UInt8} {s : SP} (hs : s = spOf l) (h : okP s = false) : getL l = none := by
  subst hs
  simp [getL, okL, h]
theorem getL_is {l : List UInt8} {s : SP} (hs : s = spOf l) (h : okP s = true) (hl : l.length = 256) : getL l = if (secL s == l) = true then some s else none := by
  subst hs
  simp [getL, okL, h, hl]
theorem s2a51 (b o n c : Nat) (h : 256 ≤ n) (W : World) : (Instr.arrayAt 51 (.slice (some ⟨b, o, none⟩) n c)).run Tryd.prog W = .ok (.pointer (some ⟨b, o, none⟩)) W := by
  simp [Instr.arrayAt, run_underlying Tryd.underlying51]
  intro h2
  omega
set_option maxHeartbeats 4000000 in
set_option maxRecDepth 100000 in
theorem get_full (b o : Nat) (l : List UInt8) (c : Nat) (w : World) (hln : l.length = 256) (h : Byt w (some ⟨b, o, none⟩) l) : Calls Tryd.prog 9 #[.slice (some ⟨b, o, none⟩) 256 c] w (AnsG w l) := by
  have K0 := Lib.hid (Blk.new w [.int .i64 0, .string ⟨#[]⟩, .slice none 0 0] 25 w.heap.size rfl)
  have B0 := Lib.hid (below_alloc' (Below.refl w.heap.size w) (Nat.le_refl _) (.cells #[.int .i64 0, .string ⟨#[]⟩, .slice none 0 0] 25))
  have RG := Lib.hid (range_byt (h.below B0.out))
  have zv := zv51
  obtain ⟨Z, hZ⟩ : ∃ Z, Z = nou.toArray := ⟨_, rfl⟩
  rw [← hZ] at zv
  have hsa := s2a51 b o 256 c (by decide)
  have hsz : (Tryd.prog.info? 51).map (·.size) = some (bs l).length := by rw [info51, bs_len, hln]
  have hszR : (Tryd.prog.info? 51).map (·.size) = some (bs l).toArray.size := by rw [hsz]; rfl
  have hold : Z.size = (bs l).toArray.size := by rw [hZ, List.size_toArray, List.size_toArray, nou_len, bs_len, hln]
  have hall : (bs l).toArray.all (·.oneCell') = true := all_oneCell_toArray (bs_one l)
  have K1 : Hid (((w.alloc (.cells #[.int .i64 0, .string ⟨#[]⟩, .slice none 0 0] 25)).alloc (.cells Z 51)).heap[w.heap.size + 1]? = some (.cells Z 51 (0, 0))) := by
    have := heap_alloc_new (w.alloc (.cells #[.int .i64 0, .string ⟨#[]⟩, .slice none 0 0] 25)) (.cells Z 51)
    rwa [World.size_alloc] at this
  have CR := Lib.hid (fun (W : World) => read21 l hln W)
  unfold AnsR at CR
  obtain ⟨s0, hs0⟩ : ∃ s0, s0 = spOf l := ⟨_, rfl⟩
  rw [← hs0] at CR
  have HS0 := Lib.hid hs0
  clear hs0
  have NQ := Lib.hid (fun (W : World) (s : SP) (hs : okP s = true) => eq51 W (secL s) l (secL_len hs) hln)
  obtain ⟨Rl, hRl⟩ : ∃ Rl, Rl = bs l := ⟨_, rfl⟩
  rw [← hRl] at RG hsz hszR hold hall CR NQ
  have HRG := Lib.hid RG.out
  have HSZ := Lib.hid hsz
  have HSR := Lib.hid hszR
  have HHO := Lib.hid hold
  have HHA := Lib.hid hall
  have K2 := Lib.hid (setRow_heap _ (w.heap.size + 1) Z Rl.toArray 51 (0, 0) K1.out)
  have K3 : Hid (Blk (((w.alloc (.cells #[.int .i64 0, .string ⟨#[]⟩, .slice none 0 0] 25)).alloc (.cells Z 51)).setRow (w.heap.size + 1) Rl.toArray) w.heap.size [.int .i64 0, .string ⟨#[]⟩, .slice none 0 0] 25) := blk_rowo (K0.out.alloc _) (by omega)
  have B2 : Hid (Below w.heap.size w (((w.alloc (.cells #[.int .i64 0, .string ⟨#[]⟩, .slice none 0 0] 25)).alloc (.cells Z 51)).setRow (w.heap.size + 1) Rl.toArray)) := below_row (below_alloc' B0.out (Nat.le_refl _) _) (by omega) _
  obtain ⟨R, hR⟩ : ∃ R, R = Rl.toArray := ⟨_, rfl⟩
  rw [← hR] at HSR HHO HHA K2 K3 B2 CR
  have HRL := Lib.hid hRl
  have HR := Lib.hid hR
  clear hsz hszR hold hall RG hZ h hRl hR
  go_enter Tryd.func9, Tryd.ntmps9
  go_wp2_with (first
    | (with_reducible refine wpList_load_mid rfl 51 (.tmp 11) rfl b o rfl Rl (.array 256 5) HRG.out Tryd.underlying51 rfl HSZ.out ?_; rw [← HR.out])
    | (with_reducible refine wpList_store_row rfl 51 (.tmp 4) (.tmp 12) rfl (w.heap.size + 1) R rfl rfl 51 Z K1.out HSR.out HHO.out HHA.out ?_; generalize ((w.alloc (.cells #[.int .i64 0, .string ⟨#[]⟩, .slice none 0 0] 25)).alloc (.cells Z 51)).setRow (w.heap.size + 1) R = w2 at *)
    | (with_reducible refine wpList_load_row rfl 51 (.tmp 4) rfl (w.heap.size + 1) rfl 51 R (0, 0) (.array 256 5) K2.out Tryd.underlying51 rfl HSR.out ?_))
  refine (CR.out _).mono ?_
  rintro e w3 ⟨b3, a3, c3, rfl, hz3, hn3, hc3, hm3, hf3⟩
  have HF3 : Hid (∀ b o, a3 = some ⟨b, o, none⟩ → w.heap.size < b) := fun b o e => by have h1 := hf3 b o e; have h2 := (Array.getElem?_eq_some_iff.1 K2.out).1; omega
  clear hf3
  have hrs : s0.r.size ≤ 9223372036854775807 := by
    rw [HS0.out]
    show (hexL (mOf l)).toArray.size ≤ _
    rw [List.size_toArray, hexL_len, mOf_len l hln]
    decide
  obtain ⟨n3, hp3⟩ : ∃ n3, n3 = s0.p.length := ⟨_, rfl⟩
  rw [← hp3] at hc3 ⊢
  have X4 := Bxs.new w3 s0.g s0.r a3 n3 c3
  have B4 := below_alloc' (Below.refl w3.heap.size w3) (Nat.le_refl _) (.cells #[.int .i64 s0.g, .string s0.r, .slice a3 n3 c3] 25)
  have C19 := Lib.hid (fun (W : World) (hb : Below w3.heap.size w3 W) => okp_any s0.g s0.r a3 s0.p n3 c3 W (hz3.below hb) hp3.symm (by omega) hrs)
  have HB3 := Lib.hid (below_chain B2.out b3)
  have K2b : Hid ((w3.alloc (.cells #[.int .i64 s0.g, .string s0.r, .slice a3 n3 c3] 25)).heap[w.heap.size + 1]? = some (.cells R 51 (0, 0))) := by
    have hlt : w.heap.size + 1 < w2.heap.size := (Array.getElem?_eq_some_iff.1 K2.out).1
    have hlt3 := Nat.lt_of_lt_of_le hlt b3.size
    exact (Below.heap_alloc w3 _ _ hlt3).trans ((b3.block _ hlt).trans K2.out)
  have K3b := Lib.hid ((K3.out.low b3).alloc (.cells #[.int .i64 s0.g, .string s0.r, .slice a3 n3 c3] 25))
  have HZ3 := Lib.hid hz3
  have HN3 := Lib.hid hn3
  have HC3 := Lib.hid hc3
  have HM3 := Lib.hid hm3
  have HP3 := Lib.hid hp3
  have HX4 := Lib.hid X4
  have HB4 := Lib.hid B4
  have f0 := X4.c0
  have f1 := X4.c1
  have f2 := X4.c2
  clear b3 hz3 hn3 hc3 hm3 hp3 X4 B4 K2 K3 B2 K0 B0 CR HRG hsa
  have hrd : s0.r.size ≤ 9223372036854775807 := hrs
  clear hrs
  cases hok : okP s0 with
  | false =>
    have C19b := Lib.hid (fun (W : World) (hb : Below w3.heap.size w3 W) => (C19.out W hb).mono (R' := fun e w' => e = .returned (.bool false) ∧ Below W.heap.size W w') fun e w' hh => ⟨by rw [hh.1]; exact congrArg (fun b => Ending.returned (.bool b)) hok, hh.2⟩)
    have HOK := Lib.hid hok
    clear hok C19 NQ
    go_wp2_with fail
    go_region_with (first
      | (go_at_call 19; (with_reducible refine (C19b.out _ (Below.drew HB4.out)).mono ?_); rintro e w5 ⟨rfl, b5⟩
         have K5 := Lib.hid (Blk.low (Blk.drew K3b.out) b5)
         have B5 := Lib.hid (below_chain HB3.out (below_chain (Below.drew HB4.out) b5))
         have t0 := K5.out.cell 0
         have t1 := K5.out.cell 1
         have t2 := K5.out.cell 2
         have tf := fun j => K5.out.frozen j
         simp only [List.getElem?_cons_zero, List.getElem?_cons_succ] at t0 t1 t2
         clear b5))
    all_goals
      go_wp2_with fail
      exact bodyPost_ret (results_row_tmp rfl _ _ w.heap.size 25 _ _ _ rfl rfl (((K5.out.set 0 (.int .i64 0)).set 1 (.string ⟨#[]⟩)).set 2 (.slice none 0 0)) Tryd.underlying25 rfl (size25 _ _ _)) rfl
        ⟨((B5.out.setCell (p := ⟨w.heap.size, 0, none⟩) (Nat.le_refl _) (.int .i64 0)).setCell (p := ⟨w.heap.size, 1, none⟩) (Nat.le_refl _) (.string ⟨#[]⟩)).setCell (p := ⟨w.heap.size, 2, none⟩) (Nat.le_refl _) (.slice none 0 0), _,
          by rw [getE, getL_bad HS0.out HOK.out]; rfl, by rw [getL_bad HS0.out HOK.out]; exact supF_none _ _⟩
  | true =>
    have C20 := Lib.hid (fun (W : World) (hb : Below w3.heap.size w3 W) => written20 s0 hok a3 n3 c3 W (HZ3.out.below hb) HP3.out.symm (by have := HC3.out; have := HM3.out; omega) hrd)
    have C19b := Lib.hid (fun (W : World) (hb : Below w3.heap.size w3 W) => (C19.out W hb).mono (R' := fun e w' => e = .returned (.bool true) ∧ Below W.heap.size W w') fun e w' hh => ⟨by rw [hh.1]; exact congrArg (fun b => Ending.returned (.bool b)) hok, hh.2⟩)
    have hqg := guard51
    have hne := fun W => NQ.out W s0 hok
    obtain ⟨z, hz⟩ : ∃ z, z = (secL s0 == l) := ⟨_, rfl⟩
    rw [← hz] at hne
    obtain ⟨RS, hRS⟩ : ∃ RS, RS = (bs (secL s0)).toArray := ⟨_, rfl⟩
    rw [← hRS] at hne C20
    have HOK := Lib.hid hok
    have HZQ := Lib.hid hz
    have hone : ∀ v ∈ Rl, v.oneCell' = true := by rw [HRL.out]; exact bs_one l
    have hrg : Hid (∀ W, Below (w3.alloc (.cells #[.int .i64 s0.g, .string s0.r, .slice a3 n3 c3] 25)).heap.size (w3.alloc (.cells #[.int .i64 s0.g, .string s0.r, .slice a3 n3 c3] 25)) W → W.cell? ⟨w3.heap.size, 0, none⟩ = some (.int .i64 s0.g) ∧ W.cell? ⟨w3.heap.size, 1, none⟩ = some (.string s0.r) ∧ W.cell? ⟨w3.heap.size, 2, none⟩ = some (.slice a3 n3 c3) ∧ W.rangeAt (w.heap.size + 1) 0 Rl) := fun W hb => by
      refine ⟨(HX4.out.low hb).c0, (HX4.out.low hb).c1, (HX4.out.low hb).c2, ?_⟩
      have hk : W.heap[w.heap.size + 1]? = some (.cells R 51 (0, 0)) := (hb.block _ (Array.getElem?_eq_some_iff.1 K2b.out).1).trans K2b.out
      intro j v hj
      refine (cell_of_row _ _ _ _ _ _ hk).trans ?_
      rw [HR.out, Nat.zero_add, List.getElem?_toArray]
      exact hj
    have hu51 := Tryd.underlying51
    have hsz51 := HSZ.out
    have BQ := Lib.hid (Below.refl (w3.alloc (.cells #[.int .i64 s0.g, .string s0.r, .slice a3 n3 c3] 25)).heap.size (w3.alloc (.cells #[.int .i64 s0.g, .string s0.r, .slice a3 n3 c3] 25)))
    clear hok C19 NQ hz hRS
    go_wp2_with fail
    go_region_held3 (fun W => W.cell? ⟨w3.heap.size, 0, none⟩ = some (.int .i64 s0.g) ∧ W.cell? ⟨w3.heap.size, 1, none⟩ = some (.string s0.r) ∧ W.cell? ⟨w3.heap.size, 2, none⟩ = some (.slice a3 n3 c3) ∧ W.rangeAt (w.heap.size + 1) 0 Rl)
      (first
        | (with_reducible refine hrg.out _ ?_; (repeat' (first | (with_reducible exact BQ.out) | (with_reducible refine Below.drew ?_)))))
      (first
        | (go_at_call 19; (with_reducible refine (C19b.out _ (below_chain HB4.out (by (repeat' (first | (with_reducible exact BQ.out) | (with_reducible refine Below.drew ?_)))))).mono ?_); rintro e w5 ⟨rfl, b5⟩
           have BQ : Hid (Below (w3.alloc (.cells #[.int .i64 s0.g, .string s0.r, .slice a3 n3 c3] 25)).heap.size (w3.alloc (.cells #[.int .i64 s0.g, .string s0.r, .slice a3 n3 c3] 25)) w5) := Lib.hid (below_chain (by (repeat' (first | (with_reducible exact BQ.out) | (with_reducible refine Below.drew ?_)))) b5)
           clear b5)
        | (go_at_call 20; (with_reducible refine (C20.out _ (below_chain HB4.out BQ.out)).mono ?_); rintro e w6 ⟨rfl, b6⟩
           have BQ : Hid (Below (w3.alloc (.cells #[.int .i64 s0.g, .string s0.r, .slice a3 n3 c3] 25)).heap.size (w3.alloc (.cells #[.int .i64 s0.g, .string s0.r, .slice a3 n3 c3] 25)) w6) := Lib.hid (below_chain BQ.out b6)
           clear b6))
    have K6 := Lib.hid (Blk.low K3b.out BQ.out)
    have B6 := Lib.hid (below_chain HB3.out (below_chain HB4.out BQ.out))
    have Z6 := Lib.hid (HZ3.out.below (below_chain HB4.out BQ.out))
    have X6 := HX4.out.low BQ.out
    have x0 := X6.c0
    have x1 := X6.c1
    have x2 := X6.c2
    have t0 := K6.out.cell 0
    have t1 := K6.out.cell 1
    have t2 := K6.out.cell 2
    have tf := fun j => K6.out.frozen j
    simp only [List.getElem?_cons_zero, List.getElem?_cons_succ] at t0 t1 t2
    have HGL := Lib.hid (getL_is HS0.out HOK.out hln)
    rw [← HZQ.out] at HGL
    clear X6 hne HZQ
    cases z with
    | true =>
      have HGS : Hid (getL l = some s0) := HGL.out
      go_wp2_with fail
      have Z7 : Hid (Zrw (((w6.setCell ⟨w.heap.size, 0, none⟩ (.int .i64 s0.g)).setCell ⟨w.heap.size, 1, none⟩ (.string s0.r)).setCell ⟨w.heap.size, 2, none⟩ (.slice a3 n3 c3)) a3 s0.p) :=
        zrw_set (zrw_set (zrw_set Z6.out _ _ HF3.out) _ _ HF3.out) _ _ HF3.out
      exact bodyPost_ret (results_row_tmp rfl _ _ w.heap.size 25 _ _ _ rfl rfl (((K6.out.set 0 (.int .i64 s0.g)).set 1 (.string s0.r)).set 2 (.slice a3 n3 c3)) Tryd.underlying25 rfl (size25 _ _ _)) rfl
        ⟨((B6.out.setCell (p := ⟨w.heap.size, 0, none⟩) (Nat.le_refl _) (.int .i64 s0.g)).setCell (p := ⟨w.heap.size, 1, none⟩) (Nat.le_refl _) (.string s0.r)).setCell (p := ⟨w.heap.size, 2, none⟩) (Nat.le_refl _) (.slice a3 n3 c3), _,
          by rw [getE, HGS.out]; rfl, by rw [HGS.out, Option.getD_some]; exact ⟨a3, c3, by rw [← HP3.out]; rfl, Z7.out, HN3.out, by rw [← HP3.out]; exact HC3.out, HM3.out, hrd, fun b o e => Nat.le_of_lt (HF3.out b o e)⟩⟩
    | false =>
      have HGN : Hid (getL l = none) := HGL.out
      go_wp2_with fail
      exact bodyPost_ret (results_row_tmp rfl _ _ w.heap.size 25 _ _ _ rfl rfl (((K6.out.set 0 (.int .i64 0)).set 1 (.string ⟨#[]⟩)).set 2 (.slice none 0 0)) Tryd.underlying25 rfl (size25 _ _ _)) rfl
        ⟨((B6.out.setCell (p := ⟨w.heap.size, 0, none⟩) (Nat.le_refl _) (.int .i64 0)).setCell (p := ⟨w.heap.size, 1, none⟩) (Nat.le_refl _) (.string ⟨#[]⟩)).setCell (p := ⟨w.heap.size, 2, none⟩) (Nat.le_refl _) (.slice none 0 0), _,
          by rw [getE, HGN.out]; rfl, by rw [HGN.out]; exact supF_none _ _⟩
theorem get9 (ao : Option Addr) (l : List UInt8) (n c : Nat) (w : World) (h : Byt w ao l) (hln : l.length = n) : Calls Tryd.prog 9 #[.slice ao n c] w (AnsG w l) := by
  by_cases hn : n = 256
  · subst hn
    have h' := h
    obtain ⟨b, o, rfl, _⟩ := h (by intro h0; rw [h0] at hln; cases hln)
    exact get_full b o l c w hln h'
  · exact get_short ao l n c w hln hn
end Go.Proofs.YtlpbkjonicjccaaDoor.Sh
