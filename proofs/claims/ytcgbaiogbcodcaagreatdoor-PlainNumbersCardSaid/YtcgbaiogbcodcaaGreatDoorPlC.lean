/-
  The contract of Drop. Conditions: each law's own.
-/
import Derived.Test.YtcgbaiogbcodcaaGreatDoorPlB
namespace Go.Proofs.YtcgbaiogbcodcaaGreatDoor.Lw
open Go.RowKit Go.Lib Go.Proofs.YtcgbaiogbcodcaaGreatDoor.Sh Go.Proofs.YtcgbaiogbcodcaaGreatDoor.Lb Go.Proofs.YtcgbaiogbcodcaaGreatDoor.Pf
open Go.Maps

/-- the number that a new inode has -/
def newNum (l : List InoP) (nx : Int) : Int := l.foldl (fun k y => if y.num = k then k + 1 else k) nx
theorem newNum_snoc {l : List InoP} {i : Nat} {y : InoP} (h : l[i]? = some y) (nx : Int) : newNum (l.take (i + 1)) nx = if y.num = newNum (l.take i) nx then newNum (l.take i) nx + 1 else newNum (l.take i) nx := by
  unfold newNum
  rw [List.take_add_one, h]
  simp
theorem newNum_le (l : List InoP) (nx : Int) : nx ≤ newNum l nx ∧ newNum l nx ≤ nx + l.length := by
  unfold newNum
  induction l generalizing nx with
  | nil => simp
  | cons y r ih =>
    rw [List.foldl_cons, List.length_cons]
    have h := ih (if y.num = nx then nx + 1 else nx)
    split at h
    · rename_i he
      rw [if_pos he]
      omega
    · rename_i he
      rw [if_neg he]
      omega
def At11 (w : World) (h0 h1 : Nat) (ao : Option Addr) (n c : Nat) (nx : Int) (c0 c1 c2 c3 c4 c5 c6 c7 c8 : Value) : Prop := w.cell? ⟨h0, 0, none⟩ = some (.slice ao n c) ∧ w.cell? ⟨h0, 1, none⟩ = some (.int .i64 nx) ∧ w.cell? ⟨h1, 0, none⟩ = some c0 ∧ w.cell? ⟨h1, 1, none⟩ = some c1 ∧ w.cell? ⟨h1, 2, none⟩ = some c2 ∧ w.cell? ⟨h1, 3, none⟩ = some c3 ∧ w.cell? ⟨h1, 4, none⟩ = some c4 ∧ w.cell? ⟨h1, 5, none⟩ = some c5 ∧ w.cell? ⟨h1, 6, none⟩ = some c6 ∧ w.cell? ⟨h1, 7, none⟩ = some c7 ∧ w.cell? ⟨h1, 8, none⟩ = some c8
theorem at11_out {w : World} {h0 h1 : Nat} {ao : Option Addr} {n c : Nat} {nx : Int} {c0 c1 c2 c3 c4 c5 c6 c7 c8 : Value} (h : At11 w h0 h1 ao n c nx c0 c1 c2 c3 c4 c5 c6 c7 c8) : w.cell? ⟨h0, 0, none⟩ = some (.slice ao n c) ∧ w.cell? ⟨h0, 1, none⟩ = some (.int .i64 nx) ∧ w.cell? ⟨h1, 0, none⟩ = some c0 ∧ w.cell? ⟨h1, 1, none⟩ = some c1 ∧ w.cell? ⟨h1, 2, none⟩ = some c2 ∧ w.cell? ⟨h1, 3, none⟩ = some c3 ∧ w.cell? ⟨h1, 4, none⟩ = some c4 ∧ w.cell? ⟨h1, 5, none⟩ = some c5 ∧ w.cell? ⟨h1, 6, none⟩ = some c6 ∧ w.cell? ⟨h1, 7, none⟩ = some c7 ∧ w.cell? ⟨h1, 8, none⟩ = some c8 := h
theorem at11_of {w : World} {h0 h1 : Nat} {ao : Option Addr} {n c : Nat} {nx : Int} {c0 c1 c2 c3 c4 c5 c6 c7 c8 : Value} (h : Sh.Blk w h0 [.slice ao n c, .int .i64 nx] 24) (k : Sh.Blk w h1 [c0, c1, c2, c3, c4, c5, c6, c7, c8] 38) : At11 w h0 h1 ao n c nx c0 c1 c2 c3 c4 c5 c6 c7 c8 :=
  ⟨h.cell 0, h.cell 1, k.cell 0, k.cell 1, k.cell 2, k.cell 3, k.cell 4, k.cell 5, k.cell 6, k.cell 7, k.cell 8⟩
theorem at11_map {w w' : World} {h0 h1 : Nat} {ao : Option Addr} {n c : Nat} {nx : Int} {c0 c1 c2 c3 c4 c5 c6 c7 c8 : Value} (h : At11 w h0 h1 ao n c nx c0 c1 c2 c3 c4 c5 c6 c7 c8) (k : ∀ {q : Addr} {u : Value}, q.block = h0 ∨ q.block = h1 → w.cell? q = some u → w'.cell? q = some u) : At11 w' h0 h1 ao n c nx c0 c1 c2 c3 c4 c5 c6 c7 c8 := by
  obtain ⟨a1, a2, h2, h3, h4, h5, h6, h7, h8, h9, h10⟩ := h
  exact ⟨k (.inl rfl) a1, k (.inl rfl) a2, k (.inr rfl) h2, k (.inr rfl) h3, k (.inr rfl) h4, k (.inr rfl) h5, k (.inr rfl) h6, k (.inr rfl) h7, k (.inr rfl) h8, k (.inr rfl) h9, k (.inr rfl) h10⟩
theorem at11_low {w w' : World} {h0 h1 : Nat} {ao : Option Addr} {n c : Nat} {nx : Int} {c0 c1 c2 c3 c4 c5 c6 c7 c8 : Value} (h : At11 w h0 h1 ao n c nx c0 c1 c2 c3 c4 c5 c6 c7 c8) (hb : Below w.heap.size w w') : At11 w' h0 h1 ao n c nx c0 c1 c2 c3 c4 c5 c6 c7 c8 :=
  at11_map h fun {q _} _ h => (hb.cell (p := q) (World.block_lt_of_cell? w _ h)).trans h
theorem at11_alloc {w : World} {h0 h1 : Nat} {ao : Option Addr} {n c : Nat} {nx : Int} {c0 c1 c2 c3 c4 c5 c6 c7 c8 : Value} {o : Obj} (h : At11 w h0 h1 ao n c nx c0 c1 c2 c3 c4 c5 c6 c7 c8) : (w.alloc o).drew.cell? ⟨h0, 0, none⟩ = some (.slice ao n c) ∧ (w.alloc o).drew.cell? ⟨h0, 1, none⟩ = some (.int .i64 nx) ∧ (w.alloc o).drew.cell? ⟨h1, 0, none⟩ = some c0 ∧ (w.alloc o).drew.cell? ⟨h1, 1, none⟩ = some c1 ∧ (w.alloc o).drew.cell? ⟨h1, 2, none⟩ = some c2 ∧ (w.alloc o).drew.cell? ⟨h1, 3, none⟩ = some c3 ∧ (w.alloc o).drew.cell? ⟨h1, 4, none⟩ = some c4 ∧ (w.alloc o).drew.cell? ⟨h1, 5, none⟩ = some c5 ∧ (w.alloc o).drew.cell? ⟨h1, 6, none⟩ = some c6 ∧ (w.alloc o).drew.cell? ⟨h1, 7, none⟩ = some c7 ∧ (w.alloc o).drew.cell? ⟨h1, 8, none⟩ = some c8 := at11_low h ((Below.refl _ w).alloc (Nat.le_refl _) o).drew
theorem at11_set3 {w : World} {h0 h1 h2 : Nat} {ao : Option Addr} {n c : Nat} {nx : Int} {c0 c1 c2 c3 c4 c5 c6 c7 c8 v0 v1 v2 : Value} (h : At11 w h0 h1 ao n c nx c0 c1 c2 c3 c4 c5 c6 c7 c8) (n0 : h0 ≠ h2) (n1 : h1 ≠ h2) : (((w.setCell ⟨h2, 0, none⟩ v0).setCell ⟨h2, 1, none⟩ v1).setCell ⟨h2, 2, none⟩ v2).cell? ⟨h0, 0, none⟩ = some (.slice ao n c) ∧ (((w.setCell ⟨h2, 0, none⟩ v0).setCell ⟨h2, 1, none⟩ v1).setCell ⟨h2, 2, none⟩ v2).cell? ⟨h0, 1, none⟩ = some (.int .i64 nx) ∧ (((w.setCell ⟨h2, 0, none⟩ v0).setCell ⟨h2, 1, none⟩ v1).setCell ⟨h2, 2, none⟩ v2).cell? ⟨h1, 0, none⟩ = some c0 ∧ (((w.setCell ⟨h2, 0, none⟩ v0).setCell ⟨h2, 1, none⟩ v1).setCell ⟨h2, 2, none⟩ v2).cell? ⟨h1, 1, none⟩ = some c1 ∧ (((w.setCell ⟨h2, 0, none⟩ v0).setCell ⟨h2, 1, none⟩ v1).setCell ⟨h2, 2, none⟩ v2).cell? ⟨h1, 2, none⟩ = some c2 ∧ (((w.setCell ⟨h2, 0, none⟩ v0).setCell ⟨h2, 1, none⟩ v1).setCell ⟨h2, 2, none⟩ v2).cell? ⟨h1, 3, none⟩ = some c3 ∧ (((w.setCell ⟨h2, 0, none⟩ v0).setCell ⟨h2, 1, none⟩ v1).setCell ⟨h2, 2, none⟩ v2).cell? ⟨h1, 4, none⟩ = some c4 ∧ (((w.setCell ⟨h2, 0, none⟩ v0).setCell ⟨h2, 1, none⟩ v1).setCell ⟨h2, 2, none⟩ v2).cell? ⟨h1, 5, none⟩ = some c5 ∧ (((w.setCell ⟨h2, 0, none⟩ v0).setCell ⟨h2, 1, none⟩ v1).setCell ⟨h2, 2, none⟩ v2).cell? ⟨h1, 6, none⟩ = some c6 ∧ (((w.setCell ⟨h2, 0, none⟩ v0).setCell ⟨h2, 1, none⟩ v1).setCell ⟨h2, 2, none⟩ v2).cell? ⟨h1, 7, none⟩ = some c7 ∧ (((w.setCell ⟨h2, 0, none⟩ v0).setCell ⟨h2, 1, none⟩ v1).setCell ⟨h2, 2, none⟩ v2).cell? ⟨h1, 8, none⟩ = some c8 :=
  at11_map h fun {q _} hq h => keepc (G := h2) (o := 0) (ds := [v0, v1, v2]) h (by rcases hq with e | e <;> rw [e] <;> assumption)
/-- what is made of a file system with one inode more -/
def AnsMade (l : List InoP) (nx : Int) (xk xm : Int) (xt : ByteArray) (w : World) (e : Ending) (w' : World) : Prop := Below w.heap.size w w' ∧
  ((l.length = 512 ∧ ∃ s, e = .returned (.tuple #[.agg #[.slice none 0 0, .int .i64 0, .int .i64 0], Ref s 211])) ∨
   (l.length ≠ 512 ∧ ∃ L v, Puts l [⟨newNum l nx, xk, xm, if xk = 2 then 1 else 0, [], xt, [], [], []⟩] L ∧ e = .returned (.tuple #[.agg #[v, .int .i64 nx, .int .i64 (newNum l nx)], .nilIface]) ∧ OwnI w.heap.size w' L v))
theorem irw_new (w : World) (k xk xm lk : Int) (xt : ByteArray) (h : xt.size ≤ 9223372036854775807) : Irw (w.alloc (.cells #[.int .i64 k, .int .i64 xk, .int .i64 xm, .int .i64 lk, .slice none 0 0, .string xt, .slice none 0 0, .slice none 0 0, .slice none 0 0] 38)) (some ⟨w.heap.size, 0, none⟩) [⟨k, xk, xm, lk, [], xt, [], [], []⟩] := by
  have K : Sh.Blk (w.alloc (.cells #[.int .i64 k, .int .i64 xk, .int .i64 xm, .int .i64 lk, .slice none 0 0, .string xt, .slice none 0 0, .slice none 0 0, .slice none 0 0] 38)) w.heap.size [.int .i64 k, .int .i64 xk, .int .i64 xm, .int .i64 lk, .slice none 0 0, .string xt, .slice none 0 0, .slice none 0 0, .slice none 0 0] 38 := Sh.Blk.new w _ 38 _ rfl
  intro _
  refine ⟨w.heap.size, 0, rfl, K.lt, fun j x hx => ?_⟩
  match j with
  | 0 =>
    obtain rfl : ⟨k, xk, xm, lk, [], xt, [], [], []⟩ = x := by simpa using hx
    refine ⟨none, 0, 0, none, 0, 0, none, 0, 0, none, 0, 0, ⟨K.cell 0, K.cell 1, K.cell 2, K.cell 3, K.cell 4, K.cell 5, K.cell 6, K.cell 7, K.cell 8⟩, ?_⟩
    exact ⟨rfl, Nat.le_refl _, by omega, fun h => absurd rfl h, fun _ => rfl, rfl, Nat.le_refl _, by omega, fun h => absurd rfl h, fun _ => rfl, rfl, Nat.le_refl _, by omega, fun h => absurd rfl h, fun _ => rfl, rfl, Nat.le_refl _, by omega, fun h => absurd rfl h, fun _ => rfl, h⟩
  | j + 1 => simp at hx
theorem far_new (k xk xm lk : Int) (xt : ByteArray) : FarI ⟨k, xk, xm, lk, [], xt, [], [], []⟩ := ⟨by simp, by simp, by simp, by simp, by simp⟩
theorem size50 (a b c : Value) : (Tryz.prog.info? 50).map (·.size) = some (#[a, b, c] : Array Value).size := by
  show _ = some 3
  kernel_rfl
set_option maxHeartbeats 16000000 in
set_option maxRecDepth 100000 in
theorem made_any (ao : Option Addr) (l : List InoP) (n c : Nat) (nx xk xm : Int) (xt : ByteArray) (w : World) (h : Irw w ao l) (hl : l.length = n) (hn : ao = none → c = 0) (hc : n ≤ c) (hF : FarL l) (hr : Rise l) (hl0 : l ≠ []) (hb : n ≤ 1000) (hx1 : 0 ≤ nx) (hx2 : nx ≤ 1000000) (ht : xt.size ≤ 9223372036854775807) :
    Calls Tryz.prog 19 #[.agg #[.slice ao n c, .int .i64 nx], .agg #[.int .i64 0, .int .i64 xk, .int .i64 xm, .int .i64 0, .slice none 0 0, .string xt, .slice none 0 0, .slice none 0 0, .slice none 0 0]] w (AnsMade l nx xk xm xt w) := by
  obtain ⟨w1, hw1⟩ : ∃ w1, w1 = ((w.alloc (.cells #[.slice ao n c, .int .i64 nx] 24)).alloc (.cells #[.int .i64 0, .int .i64 xk, .int .i64 xm, .int .i64 0, .slice none 0 0, .string xt, .slice none 0 0, .slice none 0 0, .slice none 0 0] 38)).alloc (.cells #[.slice none 0 0, .int .i64 0, .int .i64 0] 50) := ⟨_, rfl⟩
  have b1 : Below w.heap.size w w1 := by rw [hw1]; exact below_alloc (below_alloc (below_alloc (Below.refl _ w) _) _) _
  have s1 : w1.heap.size = w.heap.size + 3 := by rw [hw1]; simp
  have x1 : Sh.Blk w1 w.heap.size [.slice ao n c, .int .i64 nx] 24 := by rw [hw1]; exact ((Sh.Blk.new w [.slice ao n c, .int .i64 nx] 24 _ rfl).alloc _).alloc _
  have y1 : Sh.Blk w1 (w.heap.size + 1) [.int .i64 0, .int .i64 xk, .int .i64 xm, .int .i64 0, .slice none 0 0, .string xt, .slice none 0 0, .slice none 0 0, .slice none 0 0] 38 := by rw [hw1]; exact (Sh.Blk.new _ [.int .i64 0, .int .i64 xk, .int .i64 xm, .int .i64 0, .slice none 0 0, .string xt, .slice none 0 0, .slice none 0 0, .slice none 0 0] 38 _ (by simp)).alloc _
  have r1 : Sh.Blk w1 (w.heap.size + 2) [.slice none 0 0, .int .i64 0, .int .i64 0] 50 := by rw [hw1]; exact Sh.Blk.new _ [.slice none 0 0, .int .i64 0, .int .i64 0] 50 _ (by simp)
  have HI := Lib.hid h
  have HL := Lib.hid hl
  have HF := Lib.hid hF
  have HR := Lib.hid hr
  have HP : Hid ((ao = none → c = 0) ∧ n ≤ c ∧ l ≠ []) := ⟨hn, hc, hl0⟩
  have HT := Lib.hid ht
  have HW1 : Hid (((w.alloc (.cells #[.slice ao n c, .int .i64 nx] 24)).alloc (.cells #[.int .i64 0, .int .i64 xk, .int .i64 xm, .int .i64 0, .slice none 0 0, .string xt, .slice none 0 0, .slice none 0 0, .slice none 0 0] 38)).alloc (.cells #[.slice none 0 0, .int .i64 0, .int .i64 0] 50) = w1) := hw1.symm
  by_cases h512 : n = 512
  · have B1 := Lib.hid b1
    have R1 := Lib.hid r1
    rw [hw1] at R1
    subst h512
    have BX := Lib.hid b1
    rw [hw1] at BX
    clear h hl hF hr hn hc hl0 ht b1 s1 x1 y1 r1 hw1
    go_enter Tryz.func19, Tryz.ntmps19
    go_wp2_with fail
    exact bodyPost_ret (results_row_tmp rfl _ _ (w.heap.size + 2) 50 _ _ _ rfl rfl R1.out Tryz.underlying50 rfl (size50 _ _ _)) rfl ⟨BX.out, .inl ⟨HL.out, _, rfl⟩⟩
  have H512 := Lib.hid h512
  have hn512 : ¬ (n : Int) = 512 := by omega
  clear b1 s1 x1 y1 r1 hw1 HW1
  obtain ⟨w2, hw2⟩ : ∃ w2, w2 = ((w.alloc (.cells #[.slice ao n c, .int .i64 nx] 24)).alloc (.cells #[.int .i64 nx, .int .i64 xk, .int .i64 xm, .int .i64 0, .slice none 0 0, .string xt, .slice none 0 0, .slice none 0 0, .slice none 0 0] 38)).alloc (.cells #[.slice none 0 0, .int .i64 0, .int .i64 0] 50) := ⟨_, rfl⟩
  have B2 : Hid (Below w.heap.size w w2) := by show Below _ _ _; rw [hw2]; exact below_alloc (below_alloc (below_alloc (Below.refl _ w) _) _) _
  have X2 : Hid (Sh.Blk w2 w.heap.size [.slice ao n c, .int .i64 nx] 24) := by show Sh.Blk _ _ _ _; rw [hw2]; exact ((Sh.Blk.new w [.slice ao n c, .int .i64 nx] 24 _ rfl).alloc _).alloc _
  have Y2 : Hid (Sh.Blk w2 (w.heap.size + 1) [.int .i64 nx, .int .i64 xk, .int .i64 xm, .int .i64 0, .slice none 0 0, .string xt, .slice none 0 0, .slice none 0 0, .slice none 0 0] 38) := by show Sh.Blk _ _ _ _; rw [hw2]; exact (Sh.Blk.new _ [.int .i64 nx, .int .i64 xk, .int .i64 xm, .int .i64 0, .slice none 0 0, .string xt, .slice none 0 0, .slice none 0 0, .slice none 0 0] 38 _ (by simp)).alloc _
  have R2 : Hid (Sh.Blk w2 (w.heap.size + 2) [.slice none 0 0, .int .i64 0, .int .i64 0] 50) := by show Sh.Blk _ _ _ _; rw [hw2]; exact Sh.Blk.new _ [.slice none 0 0, .int .i64 0, .int .i64 0] 50 _ (by simp)
  have HW2 : Hid (((w.alloc (.cells #[.slice ao n c, .int .i64 nx] 24)).alloc (.cells #[.int .i64 nx, .int .i64 xk, .int .i64 xm, .int .i64 0, .slice none 0 0, .string xt, .slice none 0 0, .slice none 0 0, .slice none 0 0] 38)).alloc (.cells #[.slice none 0 0, .int .i64 0, .int .i64 0] 50) = w2) := hw2.symm
  clear h hl hF hr hn hc hl0 ht hw2 h512
  go_enter Tryz.func19, Tryz.ntmps19
  go_wp2_with fail
  rw [HW2.out]
  clear HW2
  go_loopw [21] (fun vi wr => ∃ (i : Nat), i ≤ n ∧ vi = .int .i64 i ∧ Hid (Sh.Blk wr w.heap.size [.slice ao n c, .int .i64 nx] 24) ∧ Hid (Sh.Blk wr (w.heap.size + 2) [.slice none 0 0, .int .i64 0, .int .i64 0] 50) ∧ Hid (Below w.heap.size w wr) ∧ Hid (Sh.Blk wr (w.heap.size + 1) [.int .i64 (newNum (l.take i) nx), .int .i64 xk, .int .i64 xm, .int .i64 0, .slice none 0 0, .string xt, .slice none 0 0, .slice none 0 0, .slice none 0 0] 38)) (fun vi _ => n - (RowKit.intOf vi).toNat)
  case atStart => exact ⟨0, Nat.zero_le _, rfl, X2.out, R2.out, B2.out, Y2.out⟩
  case round =>
    clear X2 Y2 R2 B2
    obtain ⟨i, hi, rfl, hX, hRes, hB, hY⟩ := hrel
    obtain ⟨k, hk0⟩ : ∃ k, k = newNum (l.take i) nx := ⟨_, rfl⟩
    have hkb : Hid (0 ≤ k ∧ k ≤ 1000000 + i) := by
      have h1 := newNum_le (l.take i) nx
      rw [← hk0, List.length_take] at h1
      exact ⟨by omega, by omega⟩
    have hk := Lib.hid hk0
    rw [← hk0] at hY
    clear hk0
    by_cases hin : i < n
    · obtain ⟨y, hy⟩ : ∃ y, l[i]? = some y := ⟨_, List.getElem?_eq_getElem (by have := HL.out; omega)⟩
      obtain ⟨b, o, e, hbl, da, dn, dc, na, nn, nc, za, zn, zc, aa, an, ac, h9, _⟩ := irw_at HI.out i y hy
      subst e
      have SN := Lib.hid (newNum_snoc hy nx)
      obtain ⟨xn, yk, ym, xl, xd, yt, xs, xz, xa⟩ := y
      have RG : wr.rangeAt b (o + i * 9) [.int .i64 xn, .int .i64 yk, .int .i64 ym, .int .i64 xl, .slice da dn dc, .string yt, .slice na nn nc, .slice za zn zc, .slice aa an ac] := at9_range (x := ⟨xn, yk, ym, xl, xd, yt, xs, xz, xa⟩) (p := ⟨da, dn, dc, na, nn, nc, za, zn, zc, aa, an, ac⟩) (h9.below hB.out hbl)
      have LS : (Tryz.prog.info? 38).map (·.size) = some ([.int .i64 xn, .int .i64 yk, .int .i64 ym, .int .i64 xl, .slice da dn dc, .string yt, .slice na nn nc, .slice za zn zc, .slice aa an ac] : List Value).length := size9 _ _ _ _ _ _ _ _ _
      obtain ⟨wz, hwz⟩ : ∃ wz, wz = wr.alloc (.cells #[.int .i64 0, .int .i64 0, .int .i64 0, .int .i64 0, .slice none 0 0, .string ⟨#[]⟩, .slice none 0 0, .slice none 0 0, .slice none 0 0] 38) := ⟨_, rfl⟩
      have GZ : wz.heap[wr.heap.size]? = some (.cells #[.int .i64 0, .int .i64 0, .int .i64 0, .int .i64 0, .slice none 0 0, .string ⟨#[]⟩, .slice none 0 0, .slice none 0 0, .slice none 0 0] 38 (0, 0)) := by rw [hwz]; exact Sh.Blk.new wr [.int .i64 0, .int .i64 0, .int .i64 0, .int .i64 0, .slice none 0 0, .string ⟨#[]⟩, .slice none 0 0, .slice none 0 0, .slice none 0 0] 38 _ rfl
      obtain ⟨wm, hwm⟩ : ∃ wm, wm = wz.setRow wr.heap.size #[.int .i64 xn, .int .i64 yk, .int .i64 ym, .int .i64 xl, .slice da dn dc, .string yt, .slice na nn nc, .slice za zn zc, .slice aa an ac] := ⟨_, rfl⟩
      have KM : Sh.Blk wm wr.heap.size [.int .i64 xn, .int .i64 yk, .int .i64 ym, .int .i64 xl, .slice da dn dc, .string yt, .slice na nn nc, .slice za zn zc, .slice aa an ac] 38 := by rw [hwm]; exact setRow_heap wz wr.heap.size _ #[.int .i64 xn, .int .i64 yk, .int .i64 ym, .int .i64 xl, .slice da dn dc, .string yt, .slice na nn nc, .slice za zn zc, .slice aa an ac] 38 (0, 0) GZ
      have bm := below_row (hB.out.alloc hB.out.size (.cells #[.int .i64 0, .int .i64 0, .int .i64 0, .int .i64 0, .slice none 0 0, .string ⟨#[]⟩, .slice none 0 0, .slice none 0 0, .slice none 0 0] 38)) hB.out.size #[.int .i64 xn, .int .i64 yk, .int .i64 ym, .int .i64 xl, .slice da dn dc, .string yt, .slice na nn nc, .slice za zn zc, .slice aa an ac]
      have bm2 := below_row ((Below.refl wr.heap.size wr).alloc (Nat.le_refl _) (.cells #[.int .i64 0, .int .i64 0, .int .i64 0, .int .i64 0, .slice none 0 0, .string ⟨#[]⟩, .slice none 0 0, .slice none 0 0, .slice none 0 0] 38)) (Nat.le_refl _) #[.int .i64 xn, .int .i64 yk, .int .i64 ym, .int .i64 xl, .slice da dn dc, .string yt, .slice na nn nc, .slice za zn zc, .slice aa an ac]
      rw [← hwz, ← hwm] at bm bm2
      have km : wm.cell? ⟨wr.heap.size, 0, none⟩ = some (.int .i64 xn) := KM.cell 0
      have YM := hY.out.low bm2
      have k0 := YM.cell 0
      have f0 := YM.frozen 0
      simp only [List.getElem?_cons_zero] at k0
      have XM := Lib.hid (hX.out.low bm2)
      have RM := Lib.hid (hRes.out.low bm2)
      have YMH := Lib.hid YM
      have BM := Lib.hid bm
      have hwi : IntKind.i64.wrap ((i : Int) + 1) = (i : Int) + 1 := by rw [IntKind.wrap]; simp [IntKind.bits, IntKind.signed]; omega
      by_cases he : xn = k
      · subst he
        have hwk : IntKind.i64.wrap (xn + 1) = xn + 1 := by have := hkb.out; rw [IntKind.wrap]; simp [IntKind.bits, IntKind.signed]; omega
        have gs := grownBy_setCell wm (w.heap.size + 1) 0 (.int .i64 (xn + 1))
        have X9' := Lib.hid (blk_grown XM.out gs (by omega))
        have R9' := Lib.hid (blk_grown RM.out gs (by omega))
        have Y9' := Lib.hid (YM.set 0 (.int .i64 (xn + 1)))
        have B9' := Lib.hid (below_own bm gs (Nat.le_succ _))
        have HK : Hid (xn + 1 = newNum (l.take (i + 1)) nx) := by
          show _ = _
          rw [SN.out, ← hk.out, if_pos rfl]
        simp only [List.set_cons_zero] at Y9'
        rw [hwm, hwz] at km k0 f0 X9' R9' Y9' B9'
        rw [hwz] at GZ
        clear hwz hwm bm bm2 hy h9 KM hbl hX hY hRes hB YM gs hk hkb XM RM BM YMH
        go_wp2_with (first | with_reducible refine wpList_load_mid rfl 38 (.tmp 23) rfl b (o + i * 9) rfl [.int .i64 xn, .int .i64 yk, .int .i64 ym, .int .i64 xl, .slice da dn dc, .string yt, .slice na nn nc, .slice za zn zc, .slice aa an ac] _ RG Tryz.underlying38 rfl LS ?_ | with_reducible refine wpList_store_row rfl 38 (.tmp 7) (.tmp 24) rfl wr.heap.size #[.int .i64 xn, .int .i64 yk, .int .i64 ym, .int .i64 xl, .slice da dn dc, .string yt, .slice na nn nc, .slice za zn zc, .slice aa an ac] rfl rfl 38 #[.int .i64 0, .int .i64 0, .int .i64 0, .int .i64 0, .slice none 0 0, .string ⟨#[]⟩, .slice none 0 0, .slice none 0 0, .slice none 0 0] GZ (size9 _ _ _ _ _ _ _ _ _) (sz9 _ _ _ _ _ _ _ _ _ _ _ _ _ _ _ _ _ _) (all9 _ _ _ _ _ _ _ _ _ _ _ _ _ _ _ _ _) ?_)
        go_roundw
        case rel => exact ⟨i + 1, hin, by go_num, (by show Sh.Blk _ _ _ _; rw [← HK.out]; exact Y9'.out)⟩
        case measure => simp only [RowKit.intOf]; omega
      · have HK : Hid (k = newNum (l.take (i + 1)) nx) := by
          show _ = _
          rw [SN.out, ← hk.out, if_neg he]
        rw [hwm, hwz] at km k0 XM RM YMH BM
        rw [hwz] at GZ
        clear hwz hwm bm bm2 hy h9 KM hbl hX hY hRes hB YM hk hkb f0
        go_wp2_with (first | with_reducible refine wpList_load_mid rfl 38 (.tmp 23) rfl b (o + i * 9) rfl [.int .i64 xn, .int .i64 yk, .int .i64 ym, .int .i64 xl, .slice da dn dc, .string yt, .slice na nn nc, .slice za zn zc, .slice aa an ac] _ RG Tryz.underlying38 rfl LS ?_ | with_reducible refine wpList_store_row rfl 38 (.tmp 7) (.tmp 24) rfl wr.heap.size #[.int .i64 xn, .int .i64 yk, .int .i64 ym, .int .i64 xl, .slice da dn dc, .string yt, .slice na nn nc, .slice za zn zc, .slice aa an ac] rfl rfl 38 #[.int .i64 0, .int .i64 0, .int .i64 0, .int .i64 0, .slice none 0 0, .string ⟨#[]⟩, .slice none 0 0, .slice none 0 0, .slice none 0 0] GZ (size9 _ _ _ _ _ _ _ _ _) (sz9 _ _ _ _ _ _ _ _ _ _ _ _ _ _ _ _ _ _) (all9 _ _ _ _ _ _ _ _ _ _ _ _ _ _ _ _ _) ?_)
        go_roundw
        case rel => exact ⟨i + 1, hin, by go_num, (by show Sh.Blk _ _ _ _; rw [← HK.out]; exact YMH.out)⟩
        case measure => simp only [RowKit.intOf]; omega
    · obtain rfl : i = n := by omega
      have HK : Hid (k = newNum l nx) := by
        have := hk.out
        rwa [List.take_of_length_le (by rw [HL.out]; exact Nat.le_refl _)] at this
      obtain ⟨lk, hlk⟩ : ∃ lk : Int, lk = if xk = 2 then 1 else 0 := ⟨_, rfl⟩
      have HLK := Lib.hid hlk
      have y1 := hY.out.cell 1
      have y3 := hY.out.cell 3
      have f3 := hY.out.frozen 3
      simp only [List.getElem?_cons_zero, List.getElem?_cons_succ] at y1 y3
      clear hk hkb
      obtain ⟨wq, hwq⟩ : ∃ wq, wq = if xk = 2 then wr.setCell ⟨w.heap.size + 1, 3, none⟩ (.int .i64 1) else wr := ⟨_, rfl⟩
      have KEY : Hid (Sh.Blk wq w.heap.size [.slice ao i c, .int .i64 nx] 24) ∧ Hid (Sh.Blk wq (w.heap.size + 1) [.int .i64 k, .int .i64 xk, .int .i64 xm, .int .i64 lk, .slice none 0 0, .string xt, .slice none 0 0, .slice none 0 0, .slice none 0 0] 38) ∧ Hid (Sh.Blk wq (w.heap.size + 2) [.slice none 0 0, .int .i64 0, .int .i64 0] 50) ∧ Hid (Below w.heap.size w wq) ∧ Hid (wq.heap.size = wr.heap.size) := by
        by_cases h2 : xk = 2
        · rw [if_pos h2] at hwq hlk
          subst hwq hlk
          have gs := grownBy_setCell wr (w.heap.size + 1) 3 (.int .i64 1)
          exact ⟨blk_grown hX.out gs (by omega), hY.out.set 3 (.int .i64 1), blk_grown hRes.out gs (by omega), below_own hB.out gs (Nat.le_succ _), (by show _ = _; simp)⟩
        · rw [if_neg h2] at hwq hlk
          subst hwq hlk
          exact ⟨hX, hY, hRes, hB, (rfl : _ = _)⟩
      obtain ⟨XQ, YQ, RQ, BQ, HSZ⟩ := KEY
      clear hX hY hRes hB
      have b8 : Below wq.heap.size wq wq.drew := (Below.refl _ wq).drew
      have AT : Hid (At11 wq.drew w.heap.size (w.heap.size + 1) ao i c nx (.int .i64 k) (.int .i64 xk) (.int .i64 xm) (.int .i64 lk) (.slice none 0 0) (.string xt) (.slice none 0 0) (.slice none 0 0) (.slice none 0 0)) := at11_of (XQ.out.low b8) (YQ.out.low b8)
      have RD := Lib.hid (RQ.out.low b8)
      have BD := Lib.hid (below_chain BQ.out b8)
      have AT0 : Hid (At11 wq w.heap.size (w.heap.size + 1) ao i c nx (.int .i64 k) (.int .i64 xk) (.int .i64 xm) (.int .i64 lk) (.slice none 0 0) (.string xt) (.slice none 0 0) (.slice none 0 0) (.slice none 0 0)) := at11_of XQ.out YQ.out
      have CP : Hid (Calls Tryz.prog 38 #[.agg #[.slice ao i c, .int .i64 nx], .slice (some ⟨wq.heap.size, 0, none⟩) 1 1] ((wq.alloc (.cells #[.int .i64 k, .int .i64 xk, .int .i64 xm, .int .i64 lk, .slice none 0 0, .string xt, .slice none 0 0, .slice none 0 0, .slice none 0 0] 38)).drew) (AnsPut l [⟨k, xk, xm, lk, [], xt, [], [], []⟩] nx ((wq.alloc (.cells #[.int .i64 k, .int .i64 xk, .int .i64 xm, .int .i64 lk, .slice none 0 0, .string xt, .slice none 0 0, .slice none 0 0, .slice none 0 0] 38)).drew))) :=
        put_any ao l [⟨k, xk, xm, lk, [], xt, [], [], []⟩] i c 1 wq.heap.size 0 1 nx _ (HI.out.below (below_alloc BQ.out _).drew) HL.out HP.out.1 HP.out.2.1 HF.out HR.out HP.out.2.2 hb ((irw_new wq k xk xm lk xt HT.out).below (Below.refl _ _).drew) rfl (by decide) (fun x hx => by
          obtain rfl := List.mem_singleton.1 hx
          exact far_new k xk xm lk xt)
      have GA : Hid (Below wq.heap.size wq ((wq.alloc (.cells #[.int .i64 k, .int .i64 xk, .int .i64 xm, .int .i64 lk, .slice none 0 0, .string xt, .slice none 0 0, .slice none 0 0, .slice none 0 0] 38)).drew)) := ((Below.refl _ wq).alloc (Nat.le_refl _) _).drew
      have HGA : Hid (w.heap.size + 2 < ((wq.alloc (.cells #[.int .i64 k, .int .i64 xk, .int .i64 xm, .int .i64 lk, .slice none 0 0, .string xt, .slice none 0 0, .slice none 0 0, .slice none 0 0] 38)).drew).heap.size) := Nat.lt_of_lt_of_le RQ.out.lt GA.out.size
      have HQ := Lib.hid RQ.out
      have CP' := CP.out
      rw [show (wq.heap.size) = wr.heap.size from HSZ.out] at CP'
      have CP := Lib.hid CP'
      clear CP'
      have BD := Lib.hid BQ.out
      clear RD
      have SZ : Hid (wq.drew.heap.size = wq.heap.size) := by show _ = _; simp
      clear b8 XQ YQ RQ BQ
      by_cases h2 : xk = 2
      · subst h2
        rw [if_pos rfl] at hwq hlk
        subst hwq hlk
        have NE0 : ¬ w.heap.size = w.heap.size + 2 := by omega
        have NE1 : ¬ w.heap.size + 1 = w.heap.size + 2 := by omega
        go_wp2_with fail
        go_region_held3 (fun w' => w'.cell? ⟨w.heap.size, 0, none⟩ = some (.slice ao i c) ∧ w'.cell? ⟨w.heap.size, 1, none⟩ = some (.int .i64 nx) ∧ w'.cell? ⟨w.heap.size + 1, 0, none⟩ = some (.int .i64 k) ∧ w'.cell? ⟨w.heap.size + 1, 1, none⟩ = some (.int .i64 2) ∧ w'.cell? ⟨w.heap.size + 1, 2, none⟩ = some (.int .i64 xm) ∧ w'.cell? ⟨w.heap.size + 1, 3, none⟩ = some (.int .i64 1) ∧ w'.cell? ⟨w.heap.size + 1, 4, none⟩ = some (.slice none 0 0) ∧ w'.cell? ⟨w.heap.size + 1, 5, none⟩ = some (.string xt) ∧ w'.cell? ⟨w.heap.size + 1, 6, none⟩ = some (.slice none 0 0) ∧ w'.cell? ⟨w.heap.size + 1, 7, none⟩ = some (.slice none 0 0) ∧ w'.cell? ⟨w.heap.size + 1, 8, none⟩ = some (.slice none 0 0))
          (first | with_reducible exact at11_out AT.out | with_reducible exact at11_alloc AT0.out | with_reducible exact at11_set3 AT.out NE0 NE1)
          ((go_at_call 38; (with_reducible refine CP.out.mono ?_); rintro e w5 ⟨b5, L, v, hPu, rfl, hOw⟩; have PU := Lib.hid hPu; have AT := Lib.hid (at11_low AT0.out (below_chain GA.out b5)); have RD := Lib.hid (HQ.out.low (below_chain GA.out b5)); have r0 := RD.out.cell 0; have r1 := RD.out.cell 1; have r2 := RD.out.cell 2; have z0 := RD.out.frozen 0; have z1 := RD.out.frozen 1; have z2 := RD.out.frozen 2; simp only [List.getElem?_cons_zero, List.getElem?_cons_succ] at r0 r1 r2; have OW := Lib.hid hOw; obtain ⟨ao2, c2, rfl, _⟩ := hOw; have B5 := Lib.hid (below_chain GA.out b5); clear b5 hPu CP GA))
        all_goals
          have K5 := Lib.hid (((RD.out.set 0 (.slice ao2 L.length c2)).set 1 (.int .i64 nx)).set 2 (.int .i64 k))
          have gs3 := gb_sets (w.heap.size + 2) [.slice ao2 L.length c2, .int .i64 nx, .int .i64 k] 0 w5
          have B6 := Lib.hid (below_own (below_chain BD.out B5.out) gs3 (by omega))
          have OW6 := Lib.hid ((OW.out.grown gs3 HGA.out).low (B' := w.heap.size) (by have := HGA.out; omega))
          clear gs3 AT0 AT
          go_wp2_with fail
          exact bodyPost_ret (results_row_tmp rfl _ _ (w.heap.size + 2) 50 _ _ _ rfl rfl K5.out Tryz.underlying50 rfl (size50 _ _ _)) rfl ⟨B6.out, .inr ⟨by rw [HL.out]; exact H512.out, L, _, by rw [if_pos rfl, ← HK.out]; exact PU.out, by rw [← HK.out]; rfl, OW6.out⟩⟩
      · rw [if_neg h2] at hwq hlk
        subst hwq hlk
        have NE0 : ¬ w.heap.size = w.heap.size + 2 := by omega
        have NE1 : ¬ w.heap.size + 1 = w.heap.size + 2 := by omega
        go_wp2_with fail
        go_region_held3 (fun w' => w'.cell? ⟨w.heap.size, 0, none⟩ = some (.slice ao i c) ∧ w'.cell? ⟨w.heap.size, 1, none⟩ = some (.int .i64 nx) ∧ w'.cell? ⟨w.heap.size + 1, 0, none⟩ = some (.int .i64 k) ∧ w'.cell? ⟨w.heap.size + 1, 1, none⟩ = some (.int .i64 xk) ∧ w'.cell? ⟨w.heap.size + 1, 2, none⟩ = some (.int .i64 xm) ∧ w'.cell? ⟨w.heap.size + 1, 3, none⟩ = some (.int .i64 0) ∧ w'.cell? ⟨w.heap.size + 1, 4, none⟩ = some (.slice none 0 0) ∧ w'.cell? ⟨w.heap.size + 1, 5, none⟩ = some (.string xt) ∧ w'.cell? ⟨w.heap.size + 1, 6, none⟩ = some (.slice none 0 0) ∧ w'.cell? ⟨w.heap.size + 1, 7, none⟩ = some (.slice none 0 0) ∧ w'.cell? ⟨w.heap.size + 1, 8, none⟩ = some (.slice none 0 0))
          (first | with_reducible exact at11_out AT.out | with_reducible exact at11_alloc AT0.out | with_reducible exact at11_set3 AT.out NE0 NE1)
          ((go_at_call 38; (with_reducible refine CP.out.mono ?_); rintro e w5 ⟨b5, L, v, hPu, rfl, hOw⟩; have PU := Lib.hid hPu; have AT := Lib.hid (at11_low AT0.out (below_chain GA.out b5)); have RD := Lib.hid (HQ.out.low (below_chain GA.out b5)); have r0 := RD.out.cell 0; have r1 := RD.out.cell 1; have r2 := RD.out.cell 2; have z0 := RD.out.frozen 0; have z1 := RD.out.frozen 1; have z2 := RD.out.frozen 2; simp only [List.getElem?_cons_zero, List.getElem?_cons_succ] at r0 r1 r2; have OW := Lib.hid hOw; obtain ⟨ao2, c2, rfl, _⟩ := hOw; have B5 := Lib.hid (below_chain GA.out b5); clear b5 hPu CP GA))
        all_goals
          have K5 := Lib.hid (((RD.out.set 0 (.slice ao2 L.length c2)).set 1 (.int .i64 nx)).set 2 (.int .i64 k))
          have gs3 := gb_sets (w.heap.size + 2) [.slice ao2 L.length c2, .int .i64 nx, .int .i64 k] 0 w5
          have B6 := Lib.hid (below_own (below_chain BD.out B5.out) gs3 (by omega))
          have OW6 := Lib.hid ((OW.out.grown gs3 HGA.out).low (B' := w.heap.size) (by have := HGA.out; omega))
          clear gs3 AT0 AT
          go_wp2_with fail
          exact bodyPost_ret (results_row_tmp rfl _ _ (w.heap.size + 2) 50 _ _ _ rfl rfl K5.out Tryz.underlying50 rfl (size50 _ _ _)) rfl ⟨B6.out, .inr ⟨by rw [HL.out]; exact H512.out, L, _, by rw [if_neg h2, ← HK.out]; exact PU.out, by rw [← HK.out]; rfl, OW6.out⟩⟩
end Go.Proofs.YtcgbaiogbcodcaaGreatDoor.Lw
namespace Go.Proofs.YtcgbaiogbcodcaaGreatDoor.Lw
open Go.RowKit Go.Lib Go.Proofs.YtcgbaiogbcodcaaGreatDoor.Sh Go.Proofs.YtcgbaiogbcodcaaGreatDoor.Lb Go.Proofs.YtcgbaiogbcodcaaGreatDoor.Pf
open Go.Maps

/-- what one answers that does something: why not, or what is made, and a number -/
def AnsDo (M : Int → Prop) (G : List InoP → Int → Prop) (nx : Int) (w : World) (e : Ending) (w' : World) : Prop := Below w.heap.size w w' ∧
  ((∃ s m, M m ∧ e = .returned (.tuple #[.agg #[.slice none 0 0, .int .i64 0, .int .i64 0], Ref s m])) ∨
   (∃ L v k, G L k ∧ e = .returned (.tuple #[.agg #[v, .int .i64 nx, .int .i64 k], .nilIface]) ∧ OwnI w.heap.size w' L v))
/-- what is answered of it -/
def AnsDone (l : List InoP) (M : Int → Prop) (G : List InoP → Int → Prop) (nx : Int) (w : World) (e : Ending) (w' : World) : Prop := Below w.heap.size w w' ∧
  ((∃ v, ((¬ OkP l nx) ∨ OkP l nx ∧ ∃ L k, G L k ∧ ¬ OkP L nx) ∧ e = .returned (.tuple #[.agg #[v, .int .i64 nx], .int .i64 0, .int .i64 2]) ∧ OwnI w.heap.size w' l v) ∨
   (OkP l nx ∧ ∃ m, M m ∧ e = .returned (.tuple #[.agg #[.slice none 0 0, .int .i64 0], .int .i64 0, .int .i64 m])) ∨
   (OkP l nx ∧ ∃ L k v, G L k ∧ OkP L nx ∧ e = .returned (.tuple #[.agg #[v, .int .i64 nx], .int .i64 k, .int .i64 0]) ∧ OwnI w.heap.size w' L v))
set_option maxHeartbeats 16000000 in
set_option maxRecDepth 100000 in
theorem done_make (ao : Option Addr) (l : List InoP) (n c : Nat) (nx : Int) (c0 c1 c2 c3 : Addr) (M : Int → Prop) (G : List InoP → Int → Prop) (w : World) (hE : ErrT w) (h : Irw w ao l) (hl : l.length = n) (hn : ao = none → c = 0) (hc : n ≤ c) (hF : FarL l)
    (hM : ∀ m, M m → m ≠ 0 ∧ m ≠ 2) (hD : OkP l nx → ∀ W, Below w.heap.size w W → Calls Tryz.prog 18 #[.pointer (some c0), .pointer (some c1), .pointer (some c2), .pointer (some c3)] W (AnsDo M G nx W)) :
    Calls Tryz.prog 17 #[.agg #[.slice ao n c, .int .i64 nx], .func (.func 18) #[] #[.pointer (some c0), .pointer (some c1), .pointer (some c2), .pointer (some c3)]] w (AnsDone l M G nx w) := by
  have eg : ∀ args w, (callFunc 18 args).run Tryz.prog w = .ok (.enter 18 args) w := enters_of Tryz.func18 (by decide) rfl
  obtain ⟨w1, hw1⟩ : ∃ w1, w1 = ((w.alloc (.cells #[.slice ao n c, .int .i64 nx] 24)).alloc (.cells #[.slice none 0 0, .int .i64 0] 24)).alloc (.cells #[.slice none 0 0, .int .i64 0, .int .i64 0] 50) := ⟨_, rfl⟩
  have b1 : Below w.heap.size w w1 := by rw [hw1]; exact below_alloc (below_alloc (below_alloc (Below.refl _ w) _) _) _
  have s1 : w1.heap.size = w.heap.size + 3 := by rw [hw1]; simp
  have x1 : Sh.Blk w1 w.heap.size [.slice ao n c, .int .i64 nx] 24 := by rw [hw1]; exact ((Sh.Blk.new w [.slice ao n c, .int .i64 nx] 24 _ rfl).alloc _).alloc _
  have r1 : Sh.Blk w1 (w.heap.size + 1) [.slice none 0 0, .int .i64 0] 24 := by rw [hw1]; exact (Sh.Blk.new _ [.slice none 0 0, .int .i64 0] 24 _ (by simp)).alloc _
  have y1 : Sh.Blk w1 (w.heap.size + 2) [.slice none 0 0, .int .i64 0, .int .i64 0] 50 := by rw [hw1]; exact Sh.Blk.new _ [.slice none 0 0, .int .i64 0, .int .i64 0] 50 _ (by simp)
  have HI := Lib.hid h
  have HL := Lib.hid hl
  have HF := Lib.hid hF
  have HN : Hid ((ao = none → c = 0) ∧ n ≤ c) := ⟨hn, hc⟩
  have HM := Lib.hid hM
  have HD := Lib.hid hD
  have ET := Lib.hid hE
  have B1 := Lib.hid b1
  have X1 := Lib.hid x1
  have R1 := Lib.hid r1
  have Y1 := Lib.hid y1
  have S1 := Lib.hid s1
  have HW1 := Lib.hid hw1
  have CK := Lib.hid (checkerr_any ao l n c nx w1 (h.below b1) hl)
  have c0 := x1.cell 0
  have c1 := x1.cell 1
  simp only [List.getElem?_cons_zero, List.getElem?_cons_succ] at c0 c1
  rw [hw1] at c0 c1
  clear h hl hn hc hF hM hD hE b1 s1 x1 r1 y1 hw1
  go_enter Tryz.func17, Tryz.ntmps17
  go_wp2_with fail
  rw [← HW1.out]
  refine CK.out.mono ?_
  clear CK HW1 c0 c1
  rintro e w2 ⟨hk, hb2⟩
  have B2 := Lib.hid (below_chain B1.out hb2)
  have X2 := Lib.hid (X1.out.low hb2)
  have R2 := Lib.hid (R1.out.low hb2)
  have Y2 := Lib.hid (Y1.out.low hb2)
  have S2 : Hid (w.heap.size + 3 ≤ w2.heap.size) := by show _ ≤ _; have := S1.out; have := hb2.size; omega
  clear X1 R1 Y1 B1 S1 hb2
  rcases hk with ⟨hok, rfl⟩ | ⟨hno, rfl⟩
  rotate_left
  · have NO := Lib.hid hno
    have CE := Lib.hid (errno_ref ⟨#[102, 105, 108, 101, 32, 115, 121, 115, 116, 101, 109]⟩ 2 w2 (ET.out.below B2.out))
    obtain ⟨y, hy⟩ : ∃ y, cerr = .iface 76 y := ⟨_, rfl⟩
    rw [show Ref ⟨#[102, 105, 108, 101, 32, 115, 121, 115, 116, 101, 109]⟩ 2 = cerr from rfl, hy] at CE
    rw [hy]
    clear hno hy
    go_wp2_with fail
    refine CE.out.mono ?_
    clear CE
    rintro e w3 ⟨rfl, hb3⟩
    have B3 := Lib.hid (below_chain B2.out hb3)
    have X3 := X2.out.low hb3
    have R3 := Lib.hid (R2.out.low hb3)
    have S3 : Hid (w.heap.size + 3 ≤ w3.heap.size) := by show _ ≤ _; have := S2.out; have := hb3.size; omega
    have CR := Lib.hid (renewed_any ao l n c nx w3 (HI.out.below B3.out) HL.out HN.out.1 HN.out.2 HF.out)
    have c0 := X3.cell 0
    have c1 := X3.cell 1
    simp only [List.getElem?_cons_zero, List.getElem?_cons_succ] at c0 c1
    clear hb3 X3
    go_wp2_with fail
    refine CR.out.mono ?_
    clear CR c0 c1
    rintro e w9 ⟨hb9, v, rfl, hown⟩
    have OV := Lib.hid hown
    obtain ⟨ao2, c2, rfl, _⟩ := hown
    have R9 := R3.out.low hb9
    have r0 := R9.cell 0
    have r1 := R9.cell 1
    have z0 := R9.frozen 0
    have z1 := R9.frozen 1
    simp only [List.getElem?_cons_zero, List.getElem?_cons_succ] at r0 r1
    have K9 := Lib.hid ((R9.set 0 (.slice ao2 l.length c2)).set 1 (.int .i64 nx))
    have gs := gb_sets (w.heap.size + 1) [.slice ao2 l.length c2, .int .i64 nx] 0 w9
    have B9 := Lib.hid (below_own (below_chain B3.out hb9) gs (Nat.le_succ _))
    have O9 := Lib.hid ((OV.out.grown gs (by have := S3.out; omega)).low (B' := w.heap.size) (by have := S3.out; omega))
    clear hb9 R9 gs OV
    go_wp2_with fail
    exact bodyPost_ret (results_row_tmp2 rfl _ _ (w.heap.size + 1) 24 _ _ _ _ rfl rfl rfl K9.out Tryz.underlying24 rfl (size24 _ _)) rfl ⟨B9.out, .inl ⟨_, .inl NO.out, rfl, O9.out⟩⟩
  · have YES := Lib.hid hok
    have CF := Lib.hid (HD.out hok w2 B2.out)
    clear hok
    go_wp2_with fail
    refine CF.out.mono ?_
    clear CF
    rintro e w4 ⟨hb4, hans⟩
    have B4 := Lib.hid (below_chain B2.out hb4)
    have X4 := X2.out.low hb4
    have R4 := R2.out.low hb4
    have Y4 := Y2.out.low hb4
    have y0 := Y4.cell 0
    have y1 := Y4.cell 1
    have y2 := Y4.cell 2
    have g0 := Y4.frozen 0
    have g1 := Y4.frozen 1
    have g2 := Y4.frozen 2
    simp only [List.getElem?_cons_zero, List.getElem?_cons_succ] at y0 y1 y2
    have S4 : Hid (w.heap.size + 3 ≤ w4.heap.size) := by show _ ≤ _; have := S2.out; have := hb4.size; omega
    have ne1 : ¬ w.heap.size = w.heap.size + 2 := by omega
    have ne2 : ¬ w.heap.size + 1 = w.heap.size + 2 := by omega
    rcases hans with ⟨s, m, hm, rfl⟩ | ⟨L, v, k, hg, rfl, hown⟩
    · have gs := gb_sets (w.heap.size + 2) [.slice none 0 0, .int .i64 0, .int .i64 0] 0 w4
      have R5 := blk_grown R4 gs (by omega)
      have b5 := below_own B4.out gs (by omega)
      obtain ⟨w5, hw5⟩ : ∃ w5, w5 = w4.setCells (w.heap.size + 2) 0 [.slice none 0 0, .int .i64 0, .int .i64 0] := ⟨_, rfl⟩
      have HW5 : Hid (((w4.setCell ⟨w.heap.size + 2, 0, none⟩ (.slice none 0 0)).setCell ⟨w.heap.size + 2, 1, none⟩ (.int .i64 0)).setCell ⟨w.heap.size + 2, 2, none⟩ (.int .i64 0) = w5) := hw5.symm
      rw [← hw5] at R5 b5
      have B5 := Lib.hid b5
      have RR5 := Lib.hid R5
      obtain ⟨hm0, hm2⟩ := HM.out m hm
      have HMM := Lib.hid hm
      have CE := Lib.hid (errno_ref s m w5 (ET.out.below B5.out))
      obtain ⟨y, hy⟩ : ∃ y, Ref s m = .iface 76 y := ⟨_, rfl⟩
      rw [hy] at CE ⊢
      clear hb4 X4 R4 Y4 gs R5 b5 hw5 hm hy
      go_wp2_with fail
      rw [HW5.out]
      refine CE.out.mono ?_
      clear CE y0 y1 y2 g0 g1 g2 HW5
      rintro e w6 ⟨rfl, hb6⟩
      have R6 := RR5.out.low hb6
      have r0 := R6.cell 0
      have r1 := R6.cell 1
      have z0 := R6.frozen 0
      have z1 := R6.frozen 1
      simp only [List.getElem?_cons_zero, List.getElem?_cons_succ] at r0 r1
      have K9 := Lib.hid ((R6.set 0 (.slice none 0 0)).set 1 (.int .i64 0))
      have gs := gb_sets (w.heap.size + 1) [.slice none 0 0, .int .i64 0] 0 w6
      have B9 := Lib.hid (below_own (below_chain B5.out hb6) gs (Nat.le_succ _))
      clear hb6 R6 gs
      go_wp2_with fail
      exact bodyPost_ret (results_row_tmp2 rfl _ _ (w.heap.size + 1) 24 _ _ _ _ rfl rfl rfl K9.out Tryz.underlying24 rfl (size24 _ _)) rfl ⟨B9.out, .inr (.inl ⟨YES.out, m, HMM.out, rfl⟩)⟩
    · have OV := hown
      obtain ⟨ao2, c2, rfl, _⟩ := hown
      have gs := gb_sets (w.heap.size + 2) [.slice ao2 L.length c2, .int .i64 nx, .int .i64 k] 0 w4
      have R5 := blk_grown R4 gs (by omega)
      have X5 := blk_grown X4 gs (by omega)
      have Y5 := ((Y4.set 0 (.slice ao2 L.length c2)).set 1 (.int .i64 nx)).set 2 (.int .i64 k)
      simp only [List.set_cons_zero, List.set_cons_succ] at Y5
      have b5 := below_own B4.out gs (by omega)
      have OV5 := OV.grown gs (by have := S2.out; omega)
      have gsz := gs.size
      obtain ⟨w5, hw5⟩ : ∃ w5, w5 = w4.setCells (w.heap.size + 2) 0 [.slice ao2 L.length c2, .int .i64 nx, .int .i64 k] := ⟨_, rfl⟩
      have HW5 : Hid (((w4.setCell ⟨w.heap.size + 2, 0, none⟩ (.slice ao2 L.length c2)).setCell ⟨w.heap.size + 2, 1, none⟩ (.int .i64 nx)).setCell ⟨w.heap.size + 2, 2, none⟩ (.int .i64 k) = w5) := hw5.symm
      have Y5' : Hid (Sh.Blk w5 (w.heap.size + 2) [.slice ao2 L.length c2, .int .i64 nx, .int .i64 k] 50) := by show Sh.Blk _ _ _ _; rw [hw5]; exact Y5
      rw [← hw5] at R5 X5 b5 OV5 gsz
      have B5 := Lib.hid b5
      have RR5 := Lib.hid R5
      have XX5 := Lib.hid X5
      have O5 := Lib.hid OV5
      have S5 : Hid (w.heap.size + 3 ≤ w5.heap.size) := by show _ ≤ _; have := S4.out; omega
      have HG := Lib.hid hg
      obtain ⟨_, _, ew, _, _, _, IW⟩ := OV5.newI
      injection ew with ew1 _ ew3
      subst ew1 ew3
      have CK := Lib.hid (checkerr_any ao2 L L.length c2 nx w5 IW.self rfl)
      have k0 := Y5'.out.cell 0
      have k1 := Y5'.out.cell 1
      simp only [List.getElem?_cons_zero, List.getElem?_cons_succ] at k0 k1
      rw [hw5] at k0 k1
      simp only [World.setCells] at k0 k1
      clear hb4 X4 R4 Y4 gs R5 X5 Y5 b5 OV OV5 gsz hw5 IW hg
      go_wp2_with fail
      rw [HW5.out]
      refine CK.out.mono ?_
      clear CK y0 y1 y2 g0 g1 g2 k0 k1 HW5
      rintro e w6 ⟨hk, hb6⟩
      have B6 := Lib.hid (below_chain B5.out hb6)
      have X6 := Lib.hid (XX5.out.low hb6)
      have R6 := Lib.hid (RR5.out.low hb6)
      have Y6 := Lib.hid (Y5'.out.low hb6)
      have O6 := Lib.hid (O5.out.below hb6)
      have S6 : Hid (w.heap.size + 3 ≤ w6.heap.size) := by show _ ≤ _; have := S5.out; have := hb6.size; omega
      clear hb6 XX5 RR5 Y5' B5 O5 S5
      rcases hk with ⟨hok2, rfl⟩ | ⟨hno2, rfl⟩
      · have OK2 := Lib.hid hok2
        have CE := Lib.hid (errno_nil w6)
        clear hok2
        go_wp2_with fail
        refine CE.out.mono ?_
        clear CE
        rintro e w7 ⟨rfl, hb7⟩
        have R7 := Lib.hid (R6.out.low hb7)
        have Y7 := Y6.out.low hb7
        have b8 : Below w7.heap.size w7 w7.drew := (Below.refl _ w7).drew
        have R8 := R7.out.low b8
        have Y8 := Y7.low b8
        have r0 := R8.cell 0
        have r1 := R8.cell 1
        have z0 := R8.frozen 0
        have z1 := R8.frozen 1
        have y0 := Y8.cell 0
        have y1 := Y8.cell 1
        have y2 := Y8.cell 2
        have yy0 := Y7.cell 0
        have yy1 := Y7.cell 1
        have yy2 := Y7.cell 2
        have R7' := R7.out
        have rr0 := R7'.cell 0
        have rr1 := R7'.cell 1
        have zz0 := R7'.frozen 0
        have zz1 := R7'.frozen 1
        simp only [List.getElem?_cons_zero, List.getElem?_cons_succ] at r0 r1 y0 y1 y2 yy0 yy1 yy2 rr0 rr1
        have K9 := Lib.hid ((R8.set 0 (.slice ao2 L.length c2)).set 1 (.int .i64 nx))
        have gs := gb_sets (w.heap.size + 1) [.slice ao2 L.length c2, .int .i64 nx] 0 w7.drew
        have B9 := Lib.hid (below_own (below_chain (below_chain B6.out hb7) b8) gs (Nat.le_succ _))
        have O9 := Lib.hid ((((O6.out.below hb7).below b8).grown gs (by have := S2.out; omega)).low (B' := w.heap.size) (by have := S2.out; omega))
        clear hb7 b8 R8 Y8 Y7 R7' gs
        go_wp2_with fail
        go_region
        all_goals
          go_wp2_with fail
          exact bodyPost_ret (results_row_tmp2 rfl _ _ (w.heap.size + 1) 24 _ _ _ _ rfl rfl rfl K9.out Tryz.underlying24 rfl (size24 _ _)) rfl ⟨B9.out, .inr (.inr ⟨YES.out, L, k, _, HG.out, OK2.out, rfl, O9.out⟩)⟩
      · have NO2 := Lib.hid hno2
        have CE := Lib.hid (errno_ref ⟨#[102, 105, 108, 101, 32, 115, 121, 115, 116, 101, 109]⟩ 2 w6 (ET.out.below B6.out))
        obtain ⟨y, hy⟩ : ∃ y, cerr = .iface 76 y := ⟨_, rfl⟩
        rw [show Ref ⟨#[102, 105, 108, 101, 32, 115, 121, 115, 116, 101, 109]⟩ 2 = cerr from rfl, hy] at CE
        rw [hy]
        clear hno2 hy
        go_wp2_with fail
        refine CE.out.mono ?_
        clear CE
        rintro e w7 ⟨rfl, hb7⟩
        have B7 := Lib.hid (below_chain B6.out hb7)
        have X7 := X6.out.low hb7
        have R7 := Lib.hid (R6.out.low hb7)
        have S7 : Hid (w.heap.size + 3 ≤ w7.heap.size) := by show _ ≤ _; have := S6.out; have := hb7.size; omega
        have CR := Lib.hid (renewed_any ao l n c nx w7 (HI.out.below B7.out) HL.out HN.out.1 HN.out.2 HF.out)
        have c0 := X7.cell 0
        have c1 := X7.cell 1
        simp only [List.getElem?_cons_zero, List.getElem?_cons_succ] at c0 c1
        clear hb7 X7
        go_wp2_with fail
        refine CR.out.mono ?_
        clear CR c0 c1
        rintro e w9 ⟨hb9, v, rfl, hown⟩
        have OV := Lib.hid hown
        obtain ⟨ao2, c2, rfl, _⟩ := hown
        have R9 := R7.out.low hb9
        have r0 := R9.cell 0
        have r1 := R9.cell 1
        have z0 := R9.frozen 0
        have z1 := R9.frozen 1
        simp only [List.getElem?_cons_zero, List.getElem?_cons_succ] at r0 r1
        have K9 := Lib.hid ((R9.set 0 (.slice ao2 l.length c2)).set 1 (.int .i64 nx))
        have gs := gb_sets (w.heap.size + 1) [.slice ao2 l.length c2, .int .i64 nx] 0 w9
        have B9 := Lib.hid (below_own (below_chain B7.out hb9) gs (Nat.le_succ _))
        have O9 := Lib.hid ((OV.out.grown gs (by have := S7.out; omega)).low (B' := w.heap.size) (by have := S7.out; omega))
        clear hb9 R9 gs OV
        go_wp2_with fail
        exact bodyPost_ret (results_row_tmp2 rfl _ _ (w.heap.size + 1) 24 _ _ _ _ rfl rfl rfl K9.out Tryz.underlying24 rfl (size24 _ _)) rfl ⟨B9.out, .inl ⟨_, .inr ⟨YES.out, L, k, HG.out, NO2.out⟩, rfl, O9.out⟩⟩
set_option maxHeartbeats 16000000 in
set_option maxRecDepth 100000 in
theorem done_enter (ao : Option Addr) (l : List InoP) (n c : Nat) (nx : Int) (c0 c1 c2 c3 : Addr) (M : Int → Prop) (G : List InoP → Int → Prop) (w : World) (hE : ErrT w) (h : Irw w ao l) (hl : l.length = n) (hn : ao = none → c = 0) (hc : n ≤ c) (hF : FarL l)
    (hM : ∀ m, M m → m ≠ 0 ∧ m ≠ 2) (hD : OkP l nx → ∀ W, Below w.heap.size w W → Calls Tryz.prog 28 #[.pointer (some c0), .pointer (some c1), .pointer (some c2), .pointer (some c3)] W (AnsDo M G nx W)) :
    Calls Tryz.prog 17 #[.agg #[.slice ao n c, .int .i64 nx], .func (.func 28) #[] #[.pointer (some c0), .pointer (some c1), .pointer (some c2), .pointer (some c3)]] w (AnsDone l M G nx w) := by
  have eg : ∀ args w, (callFunc 28 args).run Tryz.prog w = .ok (.enter 28 args) w := enters_of Tryz.func28 (by decide) rfl
  obtain ⟨w1, hw1⟩ : ∃ w1, w1 = ((w.alloc (.cells #[.slice ao n c, .int .i64 nx] 24)).alloc (.cells #[.slice none 0 0, .int .i64 0] 24)).alloc (.cells #[.slice none 0 0, .int .i64 0, .int .i64 0] 50) := ⟨_, rfl⟩
  have b1 : Below w.heap.size w w1 := by rw [hw1]; exact below_alloc (below_alloc (below_alloc (Below.refl _ w) _) _) _
  have s1 : w1.heap.size = w.heap.size + 3 := by rw [hw1]; simp
  have x1 : Sh.Blk w1 w.heap.size [.slice ao n c, .int .i64 nx] 24 := by rw [hw1]; exact ((Sh.Blk.new w [.slice ao n c, .int .i64 nx] 24 _ rfl).alloc _).alloc _
  have r1 : Sh.Blk w1 (w.heap.size + 1) [.slice none 0 0, .int .i64 0] 24 := by rw [hw1]; exact (Sh.Blk.new _ [.slice none 0 0, .int .i64 0] 24 _ (by simp)).alloc _
  have y1 : Sh.Blk w1 (w.heap.size + 2) [.slice none 0 0, .int .i64 0, .int .i64 0] 50 := by rw [hw1]; exact Sh.Blk.new _ [.slice none 0 0, .int .i64 0, .int .i64 0] 50 _ (by simp)
  have HI := Lib.hid h
  have HL := Lib.hid hl
  have HF := Lib.hid hF
  have HN : Hid ((ao = none → c = 0) ∧ n ≤ c) := ⟨hn, hc⟩
  have HM := Lib.hid hM
  have HD := Lib.hid hD
  have ET := Lib.hid hE
  have B1 := Lib.hid b1
  have X1 := Lib.hid x1
  have R1 := Lib.hid r1
  have Y1 := Lib.hid y1
  have S1 := Lib.hid s1
  have HW1 := Lib.hid hw1
  have CK := Lib.hid (checkerr_any ao l n c nx w1 (h.below b1) hl)
  have c0 := x1.cell 0
  have c1 := x1.cell 1
  simp only [List.getElem?_cons_zero, List.getElem?_cons_succ] at c0 c1
  rw [hw1] at c0 c1
  clear h hl hn hc hF hM hD hE b1 s1 x1 r1 y1 hw1
  go_enter Tryz.func17, Tryz.ntmps17
  go_wp2_with fail
  rw [← HW1.out]
  refine CK.out.mono ?_
  clear CK HW1 c0 c1
  rintro e w2 ⟨hk, hb2⟩
  have B2 := Lib.hid (below_chain B1.out hb2)
  have X2 := Lib.hid (X1.out.low hb2)
  have R2 := Lib.hid (R1.out.low hb2)
  have Y2 := Lib.hid (Y1.out.low hb2)
  have S2 : Hid (w.heap.size + 3 ≤ w2.heap.size) := by show _ ≤ _; have := S1.out; have := hb2.size; omega
  clear X1 R1 Y1 B1 S1 hb2
  rcases hk with ⟨hok, rfl⟩ | ⟨hno, rfl⟩
  rotate_left
  · have NO := Lib.hid hno
    have CE := Lib.hid (errno_ref ⟨#[102, 105, 108, 101, 32, 115, 121, 115, 116, 101, 109]⟩ 2 w2 (ET.out.below B2.out))
    obtain ⟨y, hy⟩ : ∃ y, cerr = .iface 76 y := ⟨_, rfl⟩
    rw [show Ref ⟨#[102, 105, 108, 101, 32, 115, 121, 115, 116, 101, 109]⟩ 2 = cerr from rfl, hy] at CE
    rw [hy]
    clear hno hy
    go_wp2_with fail
    refine CE.out.mono ?_
    clear CE
    rintro e w3 ⟨rfl, hb3⟩
    have B3 := Lib.hid (below_chain B2.out hb3)
    have X3 := X2.out.low hb3
    have R3 := Lib.hid (R2.out.low hb3)
    have S3 : Hid (w.heap.size + 3 ≤ w3.heap.size) := by show _ ≤ _; have := S2.out; have := hb3.size; omega
    have CR := Lib.hid (renewed_any ao l n c nx w3 (HI.out.below B3.out) HL.out HN.out.1 HN.out.2 HF.out)
    have c0 := X3.cell 0
    have c1 := X3.cell 1
    simp only [List.getElem?_cons_zero, List.getElem?_cons_succ] at c0 c1
    clear hb3 X3
    go_wp2_with fail
    refine CR.out.mono ?_
    clear CR c0 c1
    rintro e w9 ⟨hb9, v, rfl, hown⟩
    have OV := Lib.hid hown
    obtain ⟨ao2, c2, rfl, _⟩ := hown
    have R9 := R3.out.low hb9
    have r0 := R9.cell 0
    have r1 := R9.cell 1
    have z0 := R9.frozen 0
    have z1 := R9.frozen 1
    simp only [List.getElem?_cons_zero, List.getElem?_cons_succ] at r0 r1
    have K9 := Lib.hid ((R9.set 0 (.slice ao2 l.length c2)).set 1 (.int .i64 nx))
    have gs := gb_sets (w.heap.size + 1) [.slice ao2 l.length c2, .int .i64 nx] 0 w9
    have B9 := Lib.hid (below_own (below_chain B3.out hb9) gs (Nat.le_succ _))
    have O9 := Lib.hid ((OV.out.grown gs (by have := S3.out; omega)).low (B' := w.heap.size) (by have := S3.out; omega))
    clear hb9 R9 gs OV
    go_wp2_with fail
    exact bodyPost_ret (results_row_tmp2 rfl _ _ (w.heap.size + 1) 24 _ _ _ _ rfl rfl rfl K9.out Tryz.underlying24 rfl (size24 _ _)) rfl ⟨B9.out, .inl ⟨_, .inl NO.out, rfl, O9.out⟩⟩
  · have YES := Lib.hid hok
    have CF := Lib.hid (HD.out hok w2 B2.out)
    clear hok
    go_wp2_with fail
    refine CF.out.mono ?_
    clear CF
    rintro e w4 ⟨hb4, hans⟩
    have B4 := Lib.hid (below_chain B2.out hb4)
    have X4 := X2.out.low hb4
    have R4 := R2.out.low hb4
    have Y4 := Y2.out.low hb4
    have y0 := Y4.cell 0
    have y1 := Y4.cell 1
    have y2 := Y4.cell 2
    have g0 := Y4.frozen 0
    have g1 := Y4.frozen 1
    have g2 := Y4.frozen 2
    simp only [List.getElem?_cons_zero, List.getElem?_cons_succ] at y0 y1 y2
    have S4 : Hid (w.heap.size + 3 ≤ w4.heap.size) := by show _ ≤ _; have := S2.out; have := hb4.size; omega
    have ne1 : ¬ w.heap.size = w.heap.size + 2 := by omega
    have ne2 : ¬ w.heap.size + 1 = w.heap.size + 2 := by omega
    rcases hans with ⟨s, m, hm, rfl⟩ | ⟨L, v, k, hg, rfl, hown⟩
    · have gs := gb_sets (w.heap.size + 2) [.slice none 0 0, .int .i64 0, .int .i64 0] 0 w4
      have R5 := blk_grown R4 gs (by omega)
      have b5 := below_own B4.out gs (by omega)
      obtain ⟨w5, hw5⟩ : ∃ w5, w5 = w4.setCells (w.heap.size + 2) 0 [.slice none 0 0, .int .i64 0, .int .i64 0] := ⟨_, rfl⟩
      have HW5 : Hid (((w4.setCell ⟨w.heap.size + 2, 0, none⟩ (.slice none 0 0)).setCell ⟨w.heap.size + 2, 1, none⟩ (.int .i64 0)).setCell ⟨w.heap.size + 2, 2, none⟩ (.int .i64 0) = w5) := hw5.symm
      rw [← hw5] at R5 b5
      have B5 := Lib.hid b5
      have RR5 := Lib.hid R5
      obtain ⟨hm0, hm2⟩ := HM.out m hm
      have HMM := Lib.hid hm
      have CE := Lib.hid (errno_ref s m w5 (ET.out.below B5.out))
      obtain ⟨y, hy⟩ : ∃ y, Ref s m = .iface 76 y := ⟨_, rfl⟩
      rw [hy] at CE ⊢
      clear hb4 X4 R4 Y4 gs R5 b5 hw5 hm hy
      go_wp2_with fail
      rw [HW5.out]
      refine CE.out.mono ?_
      clear CE y0 y1 y2 g0 g1 g2 HW5
      rintro e w6 ⟨rfl, hb6⟩
      have R6 := RR5.out.low hb6
      have r0 := R6.cell 0
      have r1 := R6.cell 1
      have z0 := R6.frozen 0
      have z1 := R6.frozen 1
      simp only [List.getElem?_cons_zero, List.getElem?_cons_succ] at r0 r1
      have K9 := Lib.hid ((R6.set 0 (.slice none 0 0)).set 1 (.int .i64 0))
      have gs := gb_sets (w.heap.size + 1) [.slice none 0 0, .int .i64 0] 0 w6
      have B9 := Lib.hid (below_own (below_chain B5.out hb6) gs (Nat.le_succ _))
      clear hb6 R6 gs
      go_wp2_with fail
      exact bodyPost_ret (results_row_tmp2 rfl _ _ (w.heap.size + 1) 24 _ _ _ _ rfl rfl rfl K9.out Tryz.underlying24 rfl (size24 _ _)) rfl ⟨B9.out, .inr (.inl ⟨YES.out, m, HMM.out, rfl⟩)⟩
    · have OV := hown
      obtain ⟨ao2, c2, rfl, _⟩ := hown
      have gs := gb_sets (w.heap.size + 2) [.slice ao2 L.length c2, .int .i64 nx, .int .i64 k] 0 w4
      have R5 := blk_grown R4 gs (by omega)
      have X5 := blk_grown X4 gs (by omega)
      have Y5 := ((Y4.set 0 (.slice ao2 L.length c2)).set 1 (.int .i64 nx)).set 2 (.int .i64 k)
      simp only [List.set_cons_zero, List.set_cons_succ] at Y5
      have b5 := below_own B4.out gs (by omega)
      have OV5 := OV.grown gs (by have := S2.out; omega)
      have gsz := gs.size
      obtain ⟨w5, hw5⟩ : ∃ w5, w5 = w4.setCells (w.heap.size + 2) 0 [.slice ao2 L.length c2, .int .i64 nx, .int .i64 k] := ⟨_, rfl⟩
      have HW5 : Hid (((w4.setCell ⟨w.heap.size + 2, 0, none⟩ (.slice ao2 L.length c2)).setCell ⟨w.heap.size + 2, 1, none⟩ (.int .i64 nx)).setCell ⟨w.heap.size + 2, 2, none⟩ (.int .i64 k) = w5) := hw5.symm
      have Y5' : Hid (Sh.Blk w5 (w.heap.size + 2) [.slice ao2 L.length c2, .int .i64 nx, .int .i64 k] 50) := by show Sh.Blk _ _ _ _; rw [hw5]; exact Y5
      rw [← hw5] at R5 X5 b5 OV5 gsz
      have B5 := Lib.hid b5
      have RR5 := Lib.hid R5
      have XX5 := Lib.hid X5
      have O5 := Lib.hid OV5
      have S5 : Hid (w.heap.size + 3 ≤ w5.heap.size) := by show _ ≤ _; have := S4.out; omega
      have HG := Lib.hid hg
      obtain ⟨_, _, ew, _, _, _, IW⟩ := OV5.newI
      injection ew with ew1 _ ew3
      subst ew1 ew3
      have CK := Lib.hid (checkerr_any ao2 L L.length c2 nx w5 IW.self rfl)
      have k0 := Y5'.out.cell 0
      have k1 := Y5'.out.cell 1
      simp only [List.getElem?_cons_zero, List.getElem?_cons_succ] at k0 k1
      rw [hw5] at k0 k1
      simp only [World.setCells] at k0 k1
      clear hb4 X4 R4 Y4 gs R5 X5 Y5 b5 OV OV5 gsz hw5 IW hg
      go_wp2_with fail
      rw [HW5.out]
      refine CK.out.mono ?_
      clear CK y0 y1 y2 g0 g1 g2 k0 k1 HW5
      rintro e w6 ⟨hk, hb6⟩
      have B6 := Lib.hid (below_chain B5.out hb6)
      have X6 := Lib.hid (XX5.out.low hb6)
      have R6 := Lib.hid (RR5.out.low hb6)
      have Y6 := Lib.hid (Y5'.out.low hb6)
      have O6 := Lib.hid (O5.out.below hb6)
      have S6 : Hid (w.heap.size + 3 ≤ w6.heap.size) := by show _ ≤ _; have := S5.out; have := hb6.size; omega
      clear hb6 XX5 RR5 Y5' B5 O5 S5
      rcases hk with ⟨hok2, rfl⟩ | ⟨hno2, rfl⟩
      · have OK2 := Lib.hid hok2
        have CE := Lib.hid (errno_nil w6)
        clear hok2
        go_wp2_with fail
        refine CE.out.mono ?_
        clear CE
        rintro e w7 ⟨rfl, hb7⟩
        have R7 := Lib.hid (R6.out.low hb7)
        have Y7 := Y6.out.low hb7
        have b8 : Below w7.heap.size w7 w7.drew := (Below.refl _ w7).drew
        have R8 := R7.out.low b8
        have Y8 := Y7.low b8
        have r0 := R8.cell 0
        have r1 := R8.cell 1
        have z0 := R8.frozen 0
        have z1 := R8.frozen 1
        have y0 := Y8.cell 0
        have y1 := Y8.cell 1
        have y2 := Y8.cell 2
        have yy0 := Y7.cell 0
        have yy1 := Y7.cell 1
        have yy2 := Y7.cell 2
        have R7' := R7.out
        have rr0 := R7'.cell 0
        have rr1 := R7'.cell 1
        have zz0 := R7'.frozen 0
        have zz1 := R7'.frozen 1
        simp only [List.getElem?_cons_zero, List.getElem?_cons_succ] at r0 r1 y0 y1 y2 yy0 yy1 yy2 rr0 rr1
        have K9 := Lib.hid ((R8.set 0 (.slice ao2 L.length c2)).set 1 (.int .i64 nx))
        have gs := gb_sets (w.heap.size + 1) [.slice ao2 L.length c2, .int .i64 nx] 0 w7.drew
        have B9 := Lib.hid (below_own (below_chain (below_chain B6.out hb7) b8) gs (Nat.le_succ _))
        have O9 := Lib.hid ((((O6.out.below hb7).below b8).grown gs (by have := S2.out; omega)).low (B' := w.heap.size) (by have := S2.out; omega))
        clear hb7 b8 R8 Y8 Y7 R7' gs
        go_wp2_with fail
        go_region
        all_goals
          go_wp2_with fail
          exact bodyPost_ret (results_row_tmp2 rfl _ _ (w.heap.size + 1) 24 _ _ _ _ rfl rfl rfl K9.out Tryz.underlying24 rfl (size24 _ _)) rfl ⟨B9.out, .inr (.inr ⟨YES.out, L, k, _, HG.out, OK2.out, rfl, O9.out⟩)⟩
      · have NO2 := Lib.hid hno2
        have CE := Lib.hid (errno_ref ⟨#[102, 105, 108, 101, 32, 115, 121, 115, 116, 101, 109]⟩ 2 w6 (ET.out.below B6.out))
        obtain ⟨y, hy⟩ : ∃ y, cerr = .iface 76 y := ⟨_, rfl⟩
        rw [show Ref ⟨#[102, 105, 108, 101, 32, 115, 121, 115, 116, 101, 109]⟩ 2 = cerr from rfl, hy] at CE
        rw [hy]
        clear hno2 hy
        go_wp2_with fail
        refine CE.out.mono ?_
        clear CE
        rintro e w7 ⟨rfl, hb7⟩
        have B7 := Lib.hid (below_chain B6.out hb7)
        have X7 := X6.out.low hb7
        have R7 := Lib.hid (R6.out.low hb7)
        have S7 : Hid (w.heap.size + 3 ≤ w7.heap.size) := by show _ ≤ _; have := S6.out; have := hb7.size; omega
        have CR := Lib.hid (renewed_any ao l n c nx w7 (HI.out.below B7.out) HL.out HN.out.1 HN.out.2 HF.out)
        have c0 := X7.cell 0
        have c1 := X7.cell 1
        simp only [List.getElem?_cons_zero, List.getElem?_cons_succ] at c0 c1
        clear hb7 X7
        go_wp2_with fail
        refine CR.out.mono ?_
        clear CR c0 c1
        rintro e w9 ⟨hb9, v, rfl, hown⟩
        have OV := Lib.hid hown
        obtain ⟨ao2, c2, rfl, _⟩ := hown
        have R9 := R7.out.low hb9
        have r0 := R9.cell 0
        have r1 := R9.cell 1
        have z0 := R9.frozen 0
        have z1 := R9.frozen 1
        simp only [List.getElem?_cons_zero, List.getElem?_cons_succ] at r0 r1
        have K9 := Lib.hid ((R9.set 0 (.slice ao2 l.length c2)).set 1 (.int .i64 nx))
        have gs := gb_sets (w.heap.size + 1) [.slice ao2 l.length c2, .int .i64 nx] 0 w9
        have B9 := Lib.hid (below_own (below_chain B7.out hb9) gs (Nat.le_succ _))
        have O9 := Lib.hid ((OV.out.grown gs (by have := S7.out; omega)).low (B' := w.heap.size) (by have := S7.out; omega))
        clear hb9 R9 gs OV
        go_wp2_with fail
        exact bodyPost_ret (results_row_tmp2 rfl _ _ (w.heap.size + 1) 24 _ _ _ _ rfl rfl rfl K9.out Tryz.underlying24 rfl (size24 _ _)) rfl ⟨B9.out, .inl ⟨_, .inr ⟨YES.out, L, k, HG.out, NO2.out⟩, rfl, O9.out⟩⟩
set_option maxHeartbeats 16000000 in
set_option maxRecDepth 100000 in
theorem done_leave (ao : Option Addr) (l : List InoP) (n c : Nat) (nx : Int) (c0 c1 c2 : Addr) (M : Int → Prop) (G : List InoP → Int → Prop) (w : World) (hE : ErrT w) (h : Irw w ao l) (hl : l.length = n) (hn : ao = none → c = 0) (hc : n ≤ c) (hF : FarL l)
    (hM : ∀ m, M m → m ≠ 0 ∧ m ≠ 2) (hD : OkP l nx → ∀ W, Below w.heap.size w W → Calls Tryz.prog 30 #[.pointer (some c0), .pointer (some c1), .pointer (some c2)] W (AnsDo M G nx W)) :
    Calls Tryz.prog 17 #[.agg #[.slice ao n c, .int .i64 nx], .func (.func 30) #[] #[.pointer (some c0), .pointer (some c1), .pointer (some c2)]] w (AnsDone l M G nx w) := by
  have eg : ∀ args w, (callFunc 30 args).run Tryz.prog w = .ok (.enter 30 args) w := enters_of Tryz.func30 (by decide) rfl
  obtain ⟨w1, hw1⟩ : ∃ w1, w1 = ((w.alloc (.cells #[.slice ao n c, .int .i64 nx] 24)).alloc (.cells #[.slice none 0 0, .int .i64 0] 24)).alloc (.cells #[.slice none 0 0, .int .i64 0, .int .i64 0] 50) := ⟨_, rfl⟩
  have b1 : Below w.heap.size w w1 := by rw [hw1]; exact below_alloc (below_alloc (below_alloc (Below.refl _ w) _) _) _
  have s1 : w1.heap.size = w.heap.size + 3 := by rw [hw1]; simp
  have x1 : Sh.Blk w1 w.heap.size [.slice ao n c, .int .i64 nx] 24 := by rw [hw1]; exact ((Sh.Blk.new w [.slice ao n c, .int .i64 nx] 24 _ rfl).alloc _).alloc _
  have r1 : Sh.Blk w1 (w.heap.size + 1) [.slice none 0 0, .int .i64 0] 24 := by rw [hw1]; exact (Sh.Blk.new _ [.slice none 0 0, .int .i64 0] 24 _ (by simp)).alloc _
  have y1 : Sh.Blk w1 (w.heap.size + 2) [.slice none 0 0, .int .i64 0, .int .i64 0] 50 := by rw [hw1]; exact Sh.Blk.new _ [.slice none 0 0, .int .i64 0, .int .i64 0] 50 _ (by simp)
  have HI := Lib.hid h
  have HL := Lib.hid hl
  have HF := Lib.hid hF
  have HN : Hid ((ao = none → c = 0) ∧ n ≤ c) := ⟨hn, hc⟩
  have HM := Lib.hid hM
  have HD := Lib.hid hD
  have ET := Lib.hid hE
  have B1 := Lib.hid b1
  have X1 := Lib.hid x1
  have R1 := Lib.hid r1
  have Y1 := Lib.hid y1
  have S1 := Lib.hid s1
  have HW1 := Lib.hid hw1
  have CK := Lib.hid (checkerr_any ao l n c nx w1 (h.below b1) hl)
  have c0 := x1.cell 0
  have c1 := x1.cell 1
  simp only [List.getElem?_cons_zero, List.getElem?_cons_succ] at c0 c1
  rw [hw1] at c0 c1
  clear h hl hn hc hF hM hD hE b1 s1 x1 r1 y1 hw1
  go_enter Tryz.func17, Tryz.ntmps17
  go_wp2_with fail
  rw [← HW1.out]
  refine CK.out.mono ?_
  clear CK HW1 c0 c1
  rintro e w2 ⟨hk, hb2⟩
  have B2 := Lib.hid (below_chain B1.out hb2)
  have X2 := Lib.hid (X1.out.low hb2)
  have R2 := Lib.hid (R1.out.low hb2)
  have Y2 := Lib.hid (Y1.out.low hb2)
  have S2 : Hid (w.heap.size + 3 ≤ w2.heap.size) := by show _ ≤ _; have := S1.out; have := hb2.size; omega
  clear X1 R1 Y1 B1 S1 hb2
  rcases hk with ⟨hok, rfl⟩ | ⟨hno, rfl⟩
  rotate_left
  · have NO := Lib.hid hno
    have CE := Lib.hid (errno_ref ⟨#[102, 105, 108, 101, 32, 115, 121, 115, 116, 101, 109]⟩ 2 w2 (ET.out.below B2.out))
    obtain ⟨y, hy⟩ : ∃ y, cerr = .iface 76 y := ⟨_, rfl⟩
    rw [show Ref ⟨#[102, 105, 108, 101, 32, 115, 121, 115, 116, 101, 109]⟩ 2 = cerr from rfl, hy] at CE
    rw [hy]
    clear hno hy
    go_wp2_with fail
    refine CE.out.mono ?_
    clear CE
    rintro e w3 ⟨rfl, hb3⟩
    have B3 := Lib.hid (below_chain B2.out hb3)
    have X3 := X2.out.low hb3
    have R3 := Lib.hid (R2.out.low hb3)
    have S3 : Hid (w.heap.size + 3 ≤ w3.heap.size) := by show _ ≤ _; have := S2.out; have := hb3.size; omega
    have CR := Lib.hid (renewed_any ao l n c nx w3 (HI.out.below B3.out) HL.out HN.out.1 HN.out.2 HF.out)
    have c0 := X3.cell 0
    have c1 := X3.cell 1
    simp only [List.getElem?_cons_zero, List.getElem?_cons_succ] at c0 c1
    clear hb3 X3
    go_wp2_with fail
    refine CR.out.mono ?_
    clear CR c0 c1
    rintro e w9 ⟨hb9, v, rfl, hown⟩
    have OV := Lib.hid hown
    obtain ⟨ao2, c2, rfl, _⟩ := hown
    have R9 := R3.out.low hb9
    have r0 := R9.cell 0
    have r1 := R9.cell 1
    have z0 := R9.frozen 0
    have z1 := R9.frozen 1
    simp only [List.getElem?_cons_zero, List.getElem?_cons_succ] at r0 r1
    have K9 := Lib.hid ((R9.set 0 (.slice ao2 l.length c2)).set 1 (.int .i64 nx))
    have gs := gb_sets (w.heap.size + 1) [.slice ao2 l.length c2, .int .i64 nx] 0 w9
    have B9 := Lib.hid (below_own (below_chain B3.out hb9) gs (Nat.le_succ _))
    have O9 := Lib.hid ((OV.out.grown gs (by have := S3.out; omega)).low (B' := w.heap.size) (by have := S3.out; omega))
    clear hb9 R9 gs OV
    go_wp2_with fail
    exact bodyPost_ret (results_row_tmp2 rfl _ _ (w.heap.size + 1) 24 _ _ _ _ rfl rfl rfl K9.out Tryz.underlying24 rfl (size24 _ _)) rfl ⟨B9.out, .inl ⟨_, .inl NO.out, rfl, O9.out⟩⟩
  · have YES := Lib.hid hok
    have CF := Lib.hid (HD.out hok w2 B2.out)
    clear hok
    go_wp2_with fail
    refine CF.out.mono ?_
    clear CF
    rintro e w4 ⟨hb4, hans⟩
    have B4 := Lib.hid (below_chain B2.out hb4)
    have X4 := X2.out.low hb4
    have R4 := R2.out.low hb4
    have Y4 := Y2.out.low hb4
    have y0 := Y4.cell 0
    have y1 := Y4.cell 1
    have y2 := Y4.cell 2
    have g0 := Y4.frozen 0
    have g1 := Y4.frozen 1
    have g2 := Y4.frozen 2
    simp only [List.getElem?_cons_zero, List.getElem?_cons_succ] at y0 y1 y2
    have S4 : Hid (w.heap.size + 3 ≤ w4.heap.size) := by show _ ≤ _; have := S2.out; have := hb4.size; omega
    have ne1 : ¬ w.heap.size = w.heap.size + 2 := by omega
    have ne2 : ¬ w.heap.size + 1 = w.heap.size + 2 := by omega
    rcases hans with ⟨s, m, hm, rfl⟩ | ⟨L, v, k, hg, rfl, hown⟩
    · have gs := gb_sets (w.heap.size + 2) [.slice none 0 0, .int .i64 0, .int .i64 0] 0 w4
      have R5 := blk_grown R4 gs (by omega)
      have b5 := below_own B4.out gs (by omega)
      obtain ⟨w5, hw5⟩ : ∃ w5, w5 = w4.setCells (w.heap.size + 2) 0 [.slice none 0 0, .int .i64 0, .int .i64 0] := ⟨_, rfl⟩
      have HW5 : Hid (((w4.setCell ⟨w.heap.size + 2, 0, none⟩ (.slice none 0 0)).setCell ⟨w.heap.size + 2, 1, none⟩ (.int .i64 0)).setCell ⟨w.heap.size + 2, 2, none⟩ (.int .i64 0) = w5) := hw5.symm
      rw [← hw5] at R5 b5
      have B5 := Lib.hid b5
      have RR5 := Lib.hid R5
      obtain ⟨hm0, hm2⟩ := HM.out m hm
      have HMM := Lib.hid hm
      have CE := Lib.hid (errno_ref s m w5 (ET.out.below B5.out))
      obtain ⟨y, hy⟩ : ∃ y, Ref s m = .iface 76 y := ⟨_, rfl⟩
      rw [hy] at CE ⊢
      clear hb4 X4 R4 Y4 gs R5 b5 hw5 hm hy
      go_wp2_with fail
      rw [HW5.out]
      refine CE.out.mono ?_
      clear CE y0 y1 y2 g0 g1 g2 HW5
      rintro e w6 ⟨rfl, hb6⟩
      have R6 := RR5.out.low hb6
      have r0 := R6.cell 0
      have r1 := R6.cell 1
      have z0 := R6.frozen 0
      have z1 := R6.frozen 1
      simp only [List.getElem?_cons_zero, List.getElem?_cons_succ] at r0 r1
      have K9 := Lib.hid ((R6.set 0 (.slice none 0 0)).set 1 (.int .i64 0))
      have gs := gb_sets (w.heap.size + 1) [.slice none 0 0, .int .i64 0] 0 w6
      have B9 := Lib.hid (below_own (below_chain B5.out hb6) gs (Nat.le_succ _))
      clear hb6 R6 gs
      go_wp2_with fail
      exact bodyPost_ret (results_row_tmp2 rfl _ _ (w.heap.size + 1) 24 _ _ _ _ rfl rfl rfl K9.out Tryz.underlying24 rfl (size24 _ _)) rfl ⟨B9.out, .inr (.inl ⟨YES.out, m, HMM.out, rfl⟩)⟩
    · have OV := hown
      obtain ⟨ao2, c2, rfl, _⟩ := hown
      have gs := gb_sets (w.heap.size + 2) [.slice ao2 L.length c2, .int .i64 nx, .int .i64 k] 0 w4
      have R5 := blk_grown R4 gs (by omega)
      have X5 := blk_grown X4 gs (by omega)
      have Y5 := ((Y4.set 0 (.slice ao2 L.length c2)).set 1 (.int .i64 nx)).set 2 (.int .i64 k)
      simp only [List.set_cons_zero, List.set_cons_succ] at Y5
      have b5 := below_own B4.out gs (by omega)
      have OV5 := OV.grown gs (by have := S2.out; omega)
      have gsz := gs.size
      obtain ⟨w5, hw5⟩ : ∃ w5, w5 = w4.setCells (w.heap.size + 2) 0 [.slice ao2 L.length c2, .int .i64 nx, .int .i64 k] := ⟨_, rfl⟩
      have HW5 : Hid (((w4.setCell ⟨w.heap.size + 2, 0, none⟩ (.slice ao2 L.length c2)).setCell ⟨w.heap.size + 2, 1, none⟩ (.int .i64 nx)).setCell ⟨w.heap.size + 2, 2, none⟩ (.int .i64 k) = w5) := hw5.symm
      have Y5' : Hid (Sh.Blk w5 (w.heap.size + 2) [.slice ao2 L.length c2, .int .i64 nx, .int .i64 k] 50) := by show Sh.Blk _ _ _ _; rw [hw5]; exact Y5
      rw [← hw5] at R5 X5 b5 OV5 gsz
      have B5 := Lib.hid b5
      have RR5 := Lib.hid R5
      have XX5 := Lib.hid X5
      have O5 := Lib.hid OV5
      have S5 : Hid (w.heap.size + 3 ≤ w5.heap.size) := by show _ ≤ _; have := S4.out; omega
      have HG := Lib.hid hg
      obtain ⟨_, _, ew, _, _, _, IW⟩ := OV5.newI
      injection ew with ew1 _ ew3
      subst ew1 ew3
      have CK := Lib.hid (checkerr_any ao2 L L.length c2 nx w5 IW.self rfl)
      have k0 := Y5'.out.cell 0
      have k1 := Y5'.out.cell 1
      simp only [List.getElem?_cons_zero, List.getElem?_cons_succ] at k0 k1
      rw [hw5] at k0 k1
      simp only [World.setCells] at k0 k1
      clear hb4 X4 R4 Y4 gs R5 X5 Y5 b5 OV OV5 gsz hw5 IW hg
      go_wp2_with fail
      rw [HW5.out]
      refine CK.out.mono ?_
      clear CK y0 y1 y2 g0 g1 g2 k0 k1 HW5
      rintro e w6 ⟨hk, hb6⟩
      have B6 := Lib.hid (below_chain B5.out hb6)
      have X6 := Lib.hid (XX5.out.low hb6)
      have R6 := Lib.hid (RR5.out.low hb6)
      have Y6 := Lib.hid (Y5'.out.low hb6)
      have O6 := Lib.hid (O5.out.below hb6)
      have S6 : Hid (w.heap.size + 3 ≤ w6.heap.size) := by show _ ≤ _; have := S5.out; have := hb6.size; omega
      clear hb6 XX5 RR5 Y5' B5 O5 S5
      rcases hk with ⟨hok2, rfl⟩ | ⟨hno2, rfl⟩
      · have OK2 := Lib.hid hok2
        have CE := Lib.hid (errno_nil w6)
        clear hok2
        go_wp2_with fail
        refine CE.out.mono ?_
        clear CE
        rintro e w7 ⟨rfl, hb7⟩
        have R7 := Lib.hid (R6.out.low hb7)
        have Y7 := Y6.out.low hb7
        have b8 : Below w7.heap.size w7 w7.drew := (Below.refl _ w7).drew
        have R8 := R7.out.low b8
        have Y8 := Y7.low b8
        have r0 := R8.cell 0
        have r1 := R8.cell 1
        have z0 := R8.frozen 0
        have z1 := R8.frozen 1
        have y0 := Y8.cell 0
        have y1 := Y8.cell 1
        have y2 := Y8.cell 2
        have yy0 := Y7.cell 0
        have yy1 := Y7.cell 1
        have yy2 := Y7.cell 2
        have R7' := R7.out
        have rr0 := R7'.cell 0
        have rr1 := R7'.cell 1
        have zz0 := R7'.frozen 0
        have zz1 := R7'.frozen 1
        simp only [List.getElem?_cons_zero, List.getElem?_cons_succ] at r0 r1 y0 y1 y2 yy0 yy1 yy2 rr0 rr1
        have K9 := Lib.hid ((R8.set 0 (.slice ao2 L.length c2)).set 1 (.int .i64 nx))
        have gs := gb_sets (w.heap.size + 1) [.slice ao2 L.length c2, .int .i64 nx] 0 w7.drew
        have B9 := Lib.hid (below_own (below_chain (below_chain B6.out hb7) b8) gs (Nat.le_succ _))
        have O9 := Lib.hid ((((O6.out.below hb7).below b8).grown gs (by have := S2.out; omega)).low (B' := w.heap.size) (by have := S2.out; omega))
        clear hb7 b8 R8 Y8 Y7 R7' gs
        go_wp2_with fail
        go_region
        all_goals
          go_wp2_with fail
          exact bodyPost_ret (results_row_tmp2 rfl _ _ (w.heap.size + 1) 24 _ _ _ _ rfl rfl rfl K9.out Tryz.underlying24 rfl (size24 _ _)) rfl ⟨B9.out, .inr (.inr ⟨YES.out, L, k, _, HG.out, OK2.out, rfl, O9.out⟩)⟩
      · have NO2 := Lib.hid hno2
        have CE := Lib.hid (errno_ref ⟨#[102, 105, 108, 101, 32, 115, 121, 115, 116, 101, 109]⟩ 2 w6 (ET.out.below B6.out))
        obtain ⟨y, hy⟩ : ∃ y, cerr = .iface 76 y := ⟨_, rfl⟩
        rw [show Ref ⟨#[102, 105, 108, 101, 32, 115, 121, 115, 116, 101, 109]⟩ 2 = cerr from rfl, hy] at CE
        rw [hy]
        clear hno2 hy
        go_wp2_with fail
        refine CE.out.mono ?_
        clear CE
        rintro e w7 ⟨rfl, hb7⟩
        have B7 := Lib.hid (below_chain B6.out hb7)
        have X7 := X6.out.low hb7
        have R7 := Lib.hid (R6.out.low hb7)
        have S7 : Hid (w.heap.size + 3 ≤ w7.heap.size) := by show _ ≤ _; have := S6.out; have := hb7.size; omega
        have CR := Lib.hid (renewed_any ao l n c nx w7 (HI.out.below B7.out) HL.out HN.out.1 HN.out.2 HF.out)
        have c0 := X7.cell 0
        have c1 := X7.cell 1
        simp only [List.getElem?_cons_zero, List.getElem?_cons_succ] at c0 c1
        clear hb7 X7
        go_wp2_with fail
        refine CR.out.mono ?_
        clear CR c0 c1
        rintro e w9 ⟨hb9, v, rfl, hown⟩
        have OV := Lib.hid hown
        obtain ⟨ao2, c2, rfl, _⟩ := hown
        have R9 := R7.out.low hb9
        have r0 := R9.cell 0
        have r1 := R9.cell 1
        have z0 := R9.frozen 0
        have z1 := R9.frozen 1
        simp only [List.getElem?_cons_zero, List.getElem?_cons_succ] at r0 r1
        have K9 := Lib.hid ((R9.set 0 (.slice ao2 l.length c2)).set 1 (.int .i64 nx))
        have gs := gb_sets (w.heap.size + 1) [.slice ao2 l.length c2, .int .i64 nx] 0 w9
        have B9 := Lib.hid (below_own (below_chain B7.out hb9) gs (Nat.le_succ _))
        have O9 := Lib.hid ((OV.out.grown gs (by have := S7.out; omega)).low (B' := w.heap.size) (by have := S7.out; omega))
        clear hb9 R9 gs OV
        go_wp2_with fail
        exact bodyPost_ret (results_row_tmp2 rfl _ _ (w.heap.size + 1) 24 _ _ _ _ rfl rfl rfl K9.out Tryz.underlying24 rfl (size24 _ _)) rfl ⟨B9.out, .inl ⟨_, .inr ⟨YES.out, L, k, HG.out, NO2.out⟩, rfl, O9.out⟩⟩
set_option maxHeartbeats 16000000 in
set_option maxRecDepth 100000 in
theorem done_drop (ao : Option Addr) (l : List InoP) (n c : Nat) (nx : Int) (c0 c1 : Addr) (M : Int → Prop) (G : List InoP → Int → Prop) (w : World) (hE : ErrT w) (h : Irw w ao l) (hl : l.length = n) (hn : ao = none → c = 0) (hc : n ≤ c) (hF : FarL l)
    (hM : ∀ m, M m → m ≠ 0 ∧ m ≠ 2) (hD : OkP l nx → ∀ W, Below w.heap.size w W → Calls Tryz.prog 22 #[.pointer (some c0), .pointer (some c1)] W (AnsDo M G nx W)) :
    Calls Tryz.prog 17 #[.agg #[.slice ao n c, .int .i64 nx], .func (.func 22) #[] #[.pointer (some c0), .pointer (some c1)]] w (AnsDone l M G nx w) := by
  have eg : ∀ args w, (callFunc 22 args).run Tryz.prog w = .ok (.enter 22 args) w := enters_of Tryz.func22 (by decide) rfl
  obtain ⟨w1, hw1⟩ : ∃ w1, w1 = ((w.alloc (.cells #[.slice ao n c, .int .i64 nx] 24)).alloc (.cells #[.slice none 0 0, .int .i64 0] 24)).alloc (.cells #[.slice none 0 0, .int .i64 0, .int .i64 0] 50) := ⟨_, rfl⟩
  have b1 : Below w.heap.size w w1 := by rw [hw1]; exact below_alloc (below_alloc (below_alloc (Below.refl _ w) _) _) _
  have s1 : w1.heap.size = w.heap.size + 3 := by rw [hw1]; simp
  have x1 : Sh.Blk w1 w.heap.size [.slice ao n c, .int .i64 nx] 24 := by rw [hw1]; exact ((Sh.Blk.new w [.slice ao n c, .int .i64 nx] 24 _ rfl).alloc _).alloc _
  have r1 : Sh.Blk w1 (w.heap.size + 1) [.slice none 0 0, .int .i64 0] 24 := by rw [hw1]; exact (Sh.Blk.new _ [.slice none 0 0, .int .i64 0] 24 _ (by simp)).alloc _
  have y1 : Sh.Blk w1 (w.heap.size + 2) [.slice none 0 0, .int .i64 0, .int .i64 0] 50 := by rw [hw1]; exact Sh.Blk.new _ [.slice none 0 0, .int .i64 0, .int .i64 0] 50 _ (by simp)
  have HI := Lib.hid h
  have HL := Lib.hid hl
  have HF := Lib.hid hF
  have HN : Hid ((ao = none → c = 0) ∧ n ≤ c) := ⟨hn, hc⟩
  have HM := Lib.hid hM
  have HD := Lib.hid hD
  have ET := Lib.hid hE
  have B1 := Lib.hid b1
  have X1 := Lib.hid x1
  have R1 := Lib.hid r1
  have Y1 := Lib.hid y1
  have S1 := Lib.hid s1
  have HW1 := Lib.hid hw1
  have CK := Lib.hid (checkerr_any ao l n c nx w1 (h.below b1) hl)
  have c0 := x1.cell 0
  have c1 := x1.cell 1
  simp only [List.getElem?_cons_zero, List.getElem?_cons_succ] at c0 c1
  rw [hw1] at c0 c1
  clear h hl hn hc hF hM hD hE b1 s1 x1 r1 y1 hw1
  go_enter Tryz.func17, Tryz.ntmps17
  go_wp2_with fail
  rw [← HW1.out]
  refine CK.out.mono ?_
  clear CK HW1 c0 c1
  rintro e w2 ⟨hk, hb2⟩
  have B2 := Lib.hid (below_chain B1.out hb2)
  have X2 := Lib.hid (X1.out.low hb2)
  have R2 := Lib.hid (R1.out.low hb2)
  have Y2 := Lib.hid (Y1.out.low hb2)
  have S2 : Hid (w.heap.size + 3 ≤ w2.heap.size) := by show _ ≤ _; have := S1.out; have := hb2.size; omega
  clear X1 R1 Y1 B1 S1 hb2
  rcases hk with ⟨hok, rfl⟩ | ⟨hno, rfl⟩
  rotate_left
  · have NO := Lib.hid hno
    have CE := Lib.hid (errno_ref ⟨#[102, 105, 108, 101, 32, 115, 121, 115, 116, 101, 109]⟩ 2 w2 (ET.out.below B2.out))
    obtain ⟨y, hy⟩ : ∃ y, cerr = .iface 76 y := ⟨_, rfl⟩
    rw [show Ref ⟨#[102, 105, 108, 101, 32, 115, 121, 115, 116, 101, 109]⟩ 2 = cerr from rfl, hy] at CE
    rw [hy]
    clear hno hy
    go_wp2_with fail
    refine CE.out.mono ?_
    clear CE
    rintro e w3 ⟨rfl, hb3⟩
    have B3 := Lib.hid (below_chain B2.out hb3)
    have X3 := X2.out.low hb3
    have R3 := Lib.hid (R2.out.low hb3)
    have S3 : Hid (w.heap.size + 3 ≤ w3.heap.size) := by show _ ≤ _; have := S2.out; have := hb3.size; omega
    have CR := Lib.hid (renewed_any ao l n c nx w3 (HI.out.below B3.out) HL.out HN.out.1 HN.out.2 HF.out)
    have c0 := X3.cell 0
    have c1 := X3.cell 1
    simp only [List.getElem?_cons_zero, List.getElem?_cons_succ] at c0 c1
    clear hb3 X3
    go_wp2_with fail
    refine CR.out.mono ?_
    clear CR c0 c1
    rintro e w9 ⟨hb9, v, rfl, hown⟩
    have OV := Lib.hid hown
    obtain ⟨ao2, c2, rfl, _⟩ := hown
    have R9 := R3.out.low hb9
    have r0 := R9.cell 0
    have r1 := R9.cell 1
    have z0 := R9.frozen 0
    have z1 := R9.frozen 1
    simp only [List.getElem?_cons_zero, List.getElem?_cons_succ] at r0 r1
    have K9 := Lib.hid ((R9.set 0 (.slice ao2 l.length c2)).set 1 (.int .i64 nx))
    have gs := gb_sets (w.heap.size + 1) [.slice ao2 l.length c2, .int .i64 nx] 0 w9
    have B9 := Lib.hid (below_own (below_chain B3.out hb9) gs (Nat.le_succ _))
    have O9 := Lib.hid ((OV.out.grown gs (by have := S3.out; omega)).low (B' := w.heap.size) (by have := S3.out; omega))
    clear hb9 R9 gs OV
    go_wp2_with fail
    exact bodyPost_ret (results_row_tmp2 rfl _ _ (w.heap.size + 1) 24 _ _ _ _ rfl rfl rfl K9.out Tryz.underlying24 rfl (size24 _ _)) rfl ⟨B9.out, .inl ⟨_, .inl NO.out, rfl, O9.out⟩⟩
  · have YES := Lib.hid hok
    have CF := Lib.hid (HD.out hok w2 B2.out)
    clear hok
    go_wp2_with fail
    refine CF.out.mono ?_
    clear CF
    rintro e w4 ⟨hb4, hans⟩
    have B4 := Lib.hid (below_chain B2.out hb4)
    have X4 := X2.out.low hb4
    have R4 := R2.out.low hb4
    have Y4 := Y2.out.low hb4
    have y0 := Y4.cell 0
    have y1 := Y4.cell 1
    have y2 := Y4.cell 2
    have g0 := Y4.frozen 0
    have g1 := Y4.frozen 1
    have g2 := Y4.frozen 2
    simp only [List.getElem?_cons_zero, List.getElem?_cons_succ] at y0 y1 y2
    have S4 : Hid (w.heap.size + 3 ≤ w4.heap.size) := by show _ ≤ _; have := S2.out; have := hb4.size; omega
    have ne1 : ¬ w.heap.size = w.heap.size + 2 := by omega
    have ne2 : ¬ w.heap.size + 1 = w.heap.size + 2 := by omega
    rcases hans with ⟨s, m, hm, rfl⟩ | ⟨L, v, k, hg, rfl, hown⟩
    · have gs := gb_sets (w.heap.size + 2) [.slice none 0 0, .int .i64 0, .int .i64 0] 0 w4
      have R5 := blk_grown R4 gs (by omega)
      have b5 := below_own B4.out gs (by omega)
      obtain ⟨w5, hw5⟩ : ∃ w5, w5 = w4.setCells (w.heap.size + 2) 0 [.slice none 0 0, .int .i64 0, .int .i64 0] := ⟨_, rfl⟩
      have HW5 : Hid (((w4.setCell ⟨w.heap.size + 2, 0, none⟩ (.slice none 0 0)).setCell ⟨w.heap.size + 2, 1, none⟩ (.int .i64 0)).setCell ⟨w.heap.size + 2, 2, none⟩ (.int .i64 0) = w5) := hw5.symm
      rw [← hw5] at R5 b5
      have B5 := Lib.hid b5
      have RR5 := Lib.hid R5
      obtain ⟨hm0, hm2⟩ := HM.out m hm
      have HMM := Lib.hid hm
      have CE := Lib.hid (errno_ref s m w5 (ET.out.below B5.out))
      obtain ⟨y, hy⟩ : ∃ y, Ref s m = .iface 76 y := ⟨_, rfl⟩
      rw [hy] at CE ⊢
      clear hb4 X4 R4 Y4 gs R5 b5 hw5 hm hy
      go_wp2_with fail
      rw [HW5.out]
      refine CE.out.mono ?_
      clear CE y0 y1 y2 g0 g1 g2 HW5
      rintro e w6 ⟨rfl, hb6⟩
      have R6 := RR5.out.low hb6
      have r0 := R6.cell 0
      have r1 := R6.cell 1
      have z0 := R6.frozen 0
      have z1 := R6.frozen 1
      simp only [List.getElem?_cons_zero, List.getElem?_cons_succ] at r0 r1
      have K9 := Lib.hid ((R6.set 0 (.slice none 0 0)).set 1 (.int .i64 0))
      have gs := gb_sets (w.heap.size + 1) [.slice none 0 0, .int .i64 0] 0 w6
      have B9 := Lib.hid (below_own (below_chain B5.out hb6) gs (Nat.le_succ _))
      clear hb6 R6 gs
      go_wp2_with fail
      exact bodyPost_ret (results_row_tmp2 rfl _ _ (w.heap.size + 1) 24 _ _ _ _ rfl rfl rfl K9.out Tryz.underlying24 rfl (size24 _ _)) rfl ⟨B9.out, .inr (.inl ⟨YES.out, m, HMM.out, rfl⟩)⟩
    · have OV := hown
      obtain ⟨ao2, c2, rfl, _⟩ := hown
      have gs := gb_sets (w.heap.size + 2) [.slice ao2 L.length c2, .int .i64 nx, .int .i64 k] 0 w4
      have R5 := blk_grown R4 gs (by omega)
      have X5 := blk_grown X4 gs (by omega)
      have Y5 := ((Y4.set 0 (.slice ao2 L.length c2)).set 1 (.int .i64 nx)).set 2 (.int .i64 k)
      simp only [List.set_cons_zero, List.set_cons_succ] at Y5
      have b5 := below_own B4.out gs (by omega)
      have OV5 := OV.grown gs (by have := S2.out; omega)
      have gsz := gs.size
      obtain ⟨w5, hw5⟩ : ∃ w5, w5 = w4.setCells (w.heap.size + 2) 0 [.slice ao2 L.length c2, .int .i64 nx, .int .i64 k] := ⟨_, rfl⟩
      have HW5 : Hid (((w4.setCell ⟨w.heap.size + 2, 0, none⟩ (.slice ao2 L.length c2)).setCell ⟨w.heap.size + 2, 1, none⟩ (.int .i64 nx)).setCell ⟨w.heap.size + 2, 2, none⟩ (.int .i64 k) = w5) := hw5.symm
      have Y5' : Hid (Sh.Blk w5 (w.heap.size + 2) [.slice ao2 L.length c2, .int .i64 nx, .int .i64 k] 50) := by show Sh.Blk _ _ _ _; rw [hw5]; exact Y5
      rw [← hw5] at R5 X5 b5 OV5 gsz
      have B5 := Lib.hid b5
      have RR5 := Lib.hid R5
      have XX5 := Lib.hid X5
      have O5 := Lib.hid OV5
      have S5 : Hid (w.heap.size + 3 ≤ w5.heap.size) := by show _ ≤ _; have := S4.out; omega
      have HG := Lib.hid hg
      obtain ⟨_, _, ew, _, _, _, IW⟩ := OV5.newI
      injection ew with ew1 _ ew3
      subst ew1 ew3
      have CK := Lib.hid (checkerr_any ao2 L L.length c2 nx w5 IW.self rfl)
      have k0 := Y5'.out.cell 0
      have k1 := Y5'.out.cell 1
      simp only [List.getElem?_cons_zero, List.getElem?_cons_succ] at k0 k1
      rw [hw5] at k0 k1
      simp only [World.setCells] at k0 k1
      clear hb4 X4 R4 Y4 gs R5 X5 Y5 b5 OV OV5 gsz hw5 IW hg
      go_wp2_with fail
      rw [HW5.out]
      refine CK.out.mono ?_
      clear CK y0 y1 y2 g0 g1 g2 k0 k1 HW5
      rintro e w6 ⟨hk, hb6⟩
      have B6 := Lib.hid (below_chain B5.out hb6)
      have X6 := Lib.hid (XX5.out.low hb6)
      have R6 := Lib.hid (RR5.out.low hb6)
      have Y6 := Lib.hid (Y5'.out.low hb6)
      have O6 := Lib.hid (O5.out.below hb6)
      have S6 : Hid (w.heap.size + 3 ≤ w6.heap.size) := by show _ ≤ _; have := S5.out; have := hb6.size; omega
      clear hb6 XX5 RR5 Y5' B5 O5 S5
      rcases hk with ⟨hok2, rfl⟩ | ⟨hno2, rfl⟩
      · have OK2 := Lib.hid hok2
        have CE := Lib.hid (errno_nil w6)
        clear hok2
        go_wp2_with fail
        refine CE.out.mono ?_
        clear CE
        rintro e w7 ⟨rfl, hb7⟩
        have R7 := Lib.hid (R6.out.low hb7)
        have Y7 := Y6.out.low hb7
        have b8 : Below w7.heap.size w7 w7.drew := (Below.refl _ w7).drew
        have R8 := R7.out.low b8
        have Y8 := Y7.low b8
        have r0 := R8.cell 0
        have r1 := R8.cell 1
        have z0 := R8.frozen 0
        have z1 := R8.frozen 1
        have y0 := Y8.cell 0
        have y1 := Y8.cell 1
        have y2 := Y8.cell 2
        have yy0 := Y7.cell 0
        have yy1 := Y7.cell 1
        have yy2 := Y7.cell 2
        have R7' := R7.out
        have rr0 := R7'.cell 0
        have rr1 := R7'.cell 1
        have zz0 := R7'.frozen 0
        have zz1 := R7'.frozen 1
        simp only [List.getElem?_cons_zero, List.getElem?_cons_succ] at r0 r1 y0 y1 y2 yy0 yy1 yy2 rr0 rr1
        have K9 := Lib.hid ((R8.set 0 (.slice ao2 L.length c2)).set 1 (.int .i64 nx))
        have gs := gb_sets (w.heap.size + 1) [.slice ao2 L.length c2, .int .i64 nx] 0 w7.drew
        have B9 := Lib.hid (below_own (below_chain (below_chain B6.out hb7) b8) gs (Nat.le_succ _))
        have O9 := Lib.hid ((((O6.out.below hb7).below b8).grown gs (by have := S2.out; omega)).low (B' := w.heap.size) (by have := S2.out; omega))
        clear hb7 b8 R8 Y8 Y7 R7' gs
        go_wp2_with fail
        go_region
        all_goals
          go_wp2_with fail
          exact bodyPost_ret (results_row_tmp2 rfl _ _ (w.heap.size + 1) 24 _ _ _ _ rfl rfl rfl K9.out Tryz.underlying24 rfl (size24 _ _)) rfl ⟨B9.out, .inr (.inr ⟨YES.out, L, k, _, HG.out, OK2.out, rfl, O9.out⟩)⟩
      · have NO2 := Lib.hid hno2
        have CE := Lib.hid (errno_ref ⟨#[102, 105, 108, 101, 32, 115, 121, 115, 116, 101, 109]⟩ 2 w6 (ET.out.below B6.out))
        obtain ⟨y, hy⟩ : ∃ y, cerr = .iface 76 y := ⟨_, rfl⟩
        rw [show Ref ⟨#[102, 105, 108, 101, 32, 115, 121, 115, 116, 101, 109]⟩ 2 = cerr from rfl, hy] at CE
        rw [hy]
        clear hno2 hy
        go_wp2_with fail
        refine CE.out.mono ?_
        clear CE
        rintro e w7 ⟨rfl, hb7⟩
        have B7 := Lib.hid (below_chain B6.out hb7)
        have X7 := X6.out.low hb7
        have R7 := Lib.hid (R6.out.low hb7)
        have S7 : Hid (w.heap.size + 3 ≤ w7.heap.size) := by show _ ≤ _; have := S6.out; have := hb7.size; omega
        have CR := Lib.hid (renewed_any ao l n c nx w7 (HI.out.below B7.out) HL.out HN.out.1 HN.out.2 HF.out)
        have c0 := X7.cell 0
        have c1 := X7.cell 1
        simp only [List.getElem?_cons_zero, List.getElem?_cons_succ] at c0 c1
        clear hb7 X7
        go_wp2_with fail
        refine CR.out.mono ?_
        clear CR c0 c1
        rintro e w9 ⟨hb9, v, rfl, hown⟩
        have OV := Lib.hid hown
        obtain ⟨ao2, c2, rfl, _⟩ := hown
        have R9 := R7.out.low hb9
        have r0 := R9.cell 0
        have r1 := R9.cell 1
        have z0 := R9.frozen 0
        have z1 := R9.frozen 1
        simp only [List.getElem?_cons_zero, List.getElem?_cons_succ] at r0 r1
        have K9 := Lib.hid ((R9.set 0 (.slice ao2 l.length c2)).set 1 (.int .i64 nx))
        have gs := gb_sets (w.heap.size + 1) [.slice ao2 l.length c2, .int .i64 nx] 0 w9
        have B9 := Lib.hid (below_own (below_chain B7.out hb9) gs (Nat.le_succ _))
        have O9 := Lib.hid ((OV.out.grown gs (by have := S7.out; omega)).low (B' := w.heap.size) (by have := S7.out; omega))
        clear hb9 R9 gs OV
        go_wp2_with fail
        exact bodyPost_ret (results_row_tmp2 rfl _ _ (w.heap.size + 1) 24 _ _ _ _ rfl rfl rfl K9.out Tryz.underlying24 rfl (size24 _ _)) rfl ⟨B9.out, .inl ⟨_, .inr ⟨YES.out, L, k, HG.out, NO2.out⟩, rfl, O9.out⟩⟩
end Go.Proofs.YtcgbaiogbcodcaaGreatDoor.Lw
namespace Go.Proofs.YtcgbaiogbcodcaaGreatDoor.Lw
open Go.RowKit Go.Lib Go.Proofs.YtcgbaiogbcodcaaGreatDoor.Sh Go.Proofs.YtcgbaiogbcodcaaGreatDoor.Lb Go.Proofs.YtcgbaiogbcodcaaGreatDoor.Pf
open Go.Maps

/-- what a new inode is -/
def newP (l : List InoP) (nx xk xm : Int) (xt : ByteArray) : InoP := ⟨newNum l nx, xk, xm, if xk = 2 then 1 else 0, [], xt, [], [], []⟩
def MadeM (l : List InoP) (m : Int) : Prop := m = 211 ∧ l.length = 512
def MadeG (l : List InoP) (nx xk xm : Int) (xt : ByteArray) (L : List InoP) (k : Int) : Prop := l.length ≠ 512 ∧ k = newNum l nx ∧ Puts l [newP l nx xk xm xt] L
theorem OkP.ne {l : List InoP} {nx : Int} (h : OkP l nx) : l ≠ [] := fun e => by
  have := h.nums.one
  rw [e] at this
  simp at this
set_option maxHeartbeats 4000000 in
set_option maxRecDepth 100000 in
theorem make1_any (ao : Option Addr) (l : List InoP) (n c : Nat) (nx xk xm : Int) (xt : ByteArray) (b0 b1 b2 b3 : Nat) (w : World) (h : Irw w ao l) (hl : l.length = n) (hn : ao = none → c = 0) (hc : n ≤ c) (hF : FarL l) (hok : OkP l nx) (ht : xt.size ≤ 9223372036854775807)
    (k0 : Sh.Blk w b0 [.slice ao n c, .int .i64 nx] 24) (k1 : w.cell? ⟨b1, 0, none⟩ = some (.int .i64 xk)) (k2 : w.cell? ⟨b2, 0, none⟩ = some (.int .i64 xm)) (k3 : w.cell? ⟨b3, 0, none⟩ = some (.string xt)) :
    Calls Tryz.prog 18 #[.pointer (some ⟨b0, 0, none⟩), .pointer (some ⟨b1, 0, none⟩), .pointer (some ⟨b2, 0, none⟩), .pointer (some ⟨b3, 0, none⟩)] w (AnsDo (MadeM l) (MadeG l nx xk xm xt) nx w) := by
  obtain ⟨w1, hw1⟩ : ∃ w1, w1 = w.alloc (.cells #[.slice none 0 0, .int .i64 0, .int .i64 0] 50) := ⟨_, rfl⟩
  have bb : Below w.heap.size w w1 := by rw [hw1]; exact below_alloc (Below.refl _ w) _
  have r1 : Sh.Blk w1 w.heap.size [.slice none 0 0, .int .i64 0, .int .i64 0] 50 := by rw [hw1]; exact Sh.Blk.new w [.slice none 0 0, .int .i64 0, .int .i64 0] 50 _ rfl
  have s1 : w1.heap.size = w.heap.size + 1 := by rw [hw1]; simp
  have CM := Lib.hid (made_any ao l n c nx xk xm xt w1 (h.below bb) hl hn hc hF hok.nums.risen hok.ne (by have := hok.nums.most; omega) (by have := hok.nums.lo; omega) (by have := hok.nums.hi; omega) ht)
  have kk := k0.low bb
  have c0 := kk.cell 0
  have c1 := kk.cell 1
  simp only [List.getElem?_cons_zero, List.getElem?_cons_succ] at c0 c1
  have d1 := (bb.cell (p := ⟨b1, 0, none⟩) (World.block_lt_of_cell? w _ k1)).trans k1
  have d2 := (bb.cell (p := ⟨b2, 0, none⟩) (World.block_lt_of_cell? w _ k2)).trans k2
  have d3 := (bb.cell (p := ⟨b3, 0, none⟩) (World.block_lt_of_cell? w _ k3)).trans k3
  have HW1 : Hid (w.alloc (.cells #[.slice none 0 0, .int .i64 0, .int .i64 0] 50) = w1) := hw1.symm
  rw [hw1] at c0 c1 d1 d2 d3
  have B1 := Lib.hid bb
  have R1 := Lib.hid r1
  have S1 := Lib.hid s1
  have HL := Lib.hid hl
  clear h hl hn hc hF hok ht k0 k1 k2 k3 bb r1 s1 kk hw1
  go_enter Tryz.func18, Tryz.ntmps18
  go_wp2_with fail
  rw [HW1.out]
  refine CM.out.mono ?_
  clear CM c0 c1 d1 d2 d3 HW1
  rintro e w2 ⟨hb2, hans⟩
  have R2 := R1.out.low hb2
  have r0 := R2.cell 0
  have r1 := R2.cell 1
  have r2 := R2.cell 2
  have z0 := R2.frozen 0
  have z1 := R2.frozen 1
  have z2 := R2.frozen 2
  simp only [List.getElem?_cons_zero, List.getElem?_cons_succ] at r0 r1 r2
  have B2 := Lib.hid (below_chain B1.out hb2)
  rcases hans with ⟨h512, s, rfl⟩ | ⟨h512, L, v, hp, rfl, hown⟩
  · have K9 := Lib.hid (((R2.set 0 (.slice none 0 0)).set 1 (.int .i64 0)).set 2 (.int .i64 0))
    have gs := gb_sets w.heap.size [.slice none 0 0, .int .i64 0, .int .i64 0] 0 w2
    have B9 := Lib.hid (below_own B2.out gs (Nat.le_refl _))
    have HM : Hid (MadeM l 211) := ⟨rfl, h512⟩
    obtain ⟨y, hy⟩ : ∃ y, y = Ref s 211 := ⟨_, rfl⟩
    rw [← hy]
    have HY := Lib.hid hy
    clear hb2 R2 gs h512 hy
    go_wp2_with fail
    exact bodyPost_ret (results_row_tmp rfl _ _ w.heap.size 50 _ _ _ rfl rfl K9.out Tryz.underlying50 rfl (size50 _ _ _)) rfl ⟨B9.out, .inl ⟨s, 211, HM.out, by rw [← HY.out]; rfl⟩⟩
  · have OV := Lib.hid hown
    obtain ⟨ao2, c2, rfl, _⟩ := hown
    have K9 := Lib.hid (((R2.set 0 (.slice ao2 L.length c2)).set 1 (.int .i64 nx)).set 2 (.int .i64 (newNum l nx)))
    have gs := gb_sets w.heap.size [.slice ao2 L.length c2, .int .i64 nx, .int .i64 (newNum l nx)] 0 w2
    have B9 := Lib.hid (below_own B2.out gs (Nat.le_refl _))
    have O9 := Lib.hid ((OV.out.grown gs (by have := S1.out; omega)).low (B' := w.heap.size) (by have := S1.out; omega))
    have HG : Hid (MadeG l nx xk xm xt L (newNum l nx)) := ⟨h512, rfl, hp⟩
    clear hb2 R2 gs h512 hp OV
    go_wp2_with fail
    exact bodyPost_ret (results_row_tmp rfl _ _ w.heap.size 50 _ _ _ rfl rfl K9.out Tryz.underlying50 rfl (size50 _ _ _)) rfl ⟨B9.out, .inr ⟨L, _, _, HG.out, rfl, O9.out⟩⟩
set_option maxHeartbeats 4000000 in
set_option maxRecDepth 100000 in
theorem make_any (ao : Option Addr) (l : List InoP) (n c : Nat) (nx xk xm : Int) (xt : ByteArray) (w : World) (hE : ErrT w) (h : Irw w ao l) (hl : l.length = n) (hn : ao = none → c = 0) (hc : n ≤ c) (hF : FarL l) (ht : xt.size ≤ 9223372036854775807) :
    Calls Tryz.prog 7 #[.agg #[.slice ao n c, .int .i64 nx], .int .i64 xk, .int .i64 xm, .string xt] w (AnsDone l (MadeM l) (MadeG l nx xk xm xt) nx w) := by
  obtain ⟨w1, hw1⟩ : ∃ w1, w1 = ((((w.alloc (.cells #[.slice ao n c, .int .i64 nx] 24)).alloc (.cells #[.int .i64 xk] 25)).alloc (.cells #[.int .i64 xm] 3)).alloc (.cells #[.string xt] 9)).alloc (.cells #[.slice none 0 0, .int .i64 0] 24) := ⟨_, rfl⟩
  have bb : Below w.heap.size w w1 := by rw [hw1]; exact below_alloc (below_alloc (below_alloc (below_alloc (below_alloc (Below.refl _ w) _) _) _) _) _
  have s1 : w1.heap.size = w.heap.size + 5 := by rw [hw1]; simp
  have x0 : Sh.Blk w1 w.heap.size [.slice ao n c, .int .i64 nx] 24 := by rw [hw1]; exact ((((Sh.Blk.new w [.slice ao n c, .int .i64 nx] 24 _ rfl).alloc _).alloc _).alloc _).alloc _
  have x1 : Sh.Blk w1 (w.heap.size + 1) [.int .i64 xk] 25 := by rw [hw1]; exact (((Sh.Blk.new _ [.int .i64 xk] 25 _ (by simp)).alloc _).alloc _).alloc _
  have x2 : Sh.Blk w1 (w.heap.size + 2) [.int .i64 xm] 3 := by rw [hw1]; exact ((Sh.Blk.new _ [.int .i64 xm] 3 _ (by simp)).alloc _).alloc _
  have x3 : Sh.Blk w1 (w.heap.size + 3) [.string xt] 9 := by rw [hw1]; exact (Sh.Blk.new _ [.string xt] 9 _ (by simp)).alloc _
  have r1 : Sh.Blk w1 (w.heap.size + 4) [.slice none 0 0, .int .i64 0] 24 := by rw [hw1]; exact Sh.Blk.new _ [.slice none 0 0, .int .i64 0] 24 _ (by simp)
  have CD := Lib.hid (done_make ao l n c nx ⟨w.heap.size, 0, none⟩ ⟨w.heap.size + 1, 0, none⟩ ⟨w.heap.size + 2, 0, none⟩ ⟨w.heap.size + 3, 0, none⟩ (MadeM l) (MadeG l nx xk xm xt) w1 (hE.below bb) (h.below bb) hl hn hc hF (fun m hm => by rw [hm.1]; exact ⟨by decide, by decide⟩)
    (fun hok W hW => make1_any ao l n c nx xk xm xt w.heap.size (w.heap.size + 1) (w.heap.size + 2) (w.heap.size + 3) W ((h.below bb).below hW) hl hn hc hF hok ht (x0.low hW) ((x1.low hW).cell 0) ((x2.low hW).cell 0) ((x3.low hW).cell 0)))
  have c0 := x0.cell 0
  have c1 := x0.cell 1
  simp only [List.getElem?_cons_zero, List.getElem?_cons_succ] at c0 c1
  have HW1 : Hid (((((w.alloc (.cells #[.slice ao n c, .int .i64 nx] 24)).alloc (.cells #[.int .i64 xk] 25)).alloc (.cells #[.int .i64 xm] 3)).alloc (.cells #[.string xt] 9)).alloc (.cells #[.slice none 0 0, .int .i64 0] 24) = w1) := hw1.symm
  rw [hw1] at c0 c1
  have B1 := Lib.hid bb
  have R1 := Lib.hid r1
  have S1 := Lib.hid s1
  clear hE h hl hn hc hF ht bb s1 x0 x1 x2 x3 r1 hw1
  go_enter Tryz.func7, Tryz.ntmps7
  go_wp2_with fail
  rw [HW1.out]
  refine CD.out.mono ?_
  clear CD c0 c1 HW1
  rintro e w2 ⟨hb2, hans⟩
  have R2 := R1.out.low hb2
  have r0 := R2.cell 0
  have r1 := R2.cell 1
  have z0 := R2.frozen 0
  have z1 := R2.frozen 1
  simp only [List.getElem?_cons_zero, List.getElem?_cons_succ] at r0 r1
  have B2 := Lib.hid (below_chain B1.out hb2)
  rcases hans with ⟨v, hy, rfl, hown⟩ | ⟨hok, m, hm, rfl⟩ | ⟨hok, L, k, v, hg, hok2, rfl, hown⟩
  · have OV := Lib.hid hown
    obtain ⟨ao2, c2, rfl, _⟩ := hown
    have K9 := Lib.hid ((R2.set 0 (.slice ao2 l.length c2)).set 1 (.int .i64 nx))
    have gs := gb_sets (w.heap.size + 4) [.slice ao2 l.length c2, .int .i64 nx] 0 w2
    have B9 := Lib.hid (below_own B2.out gs (by omega))
    have O9 := Lib.hid ((OV.out.grown gs (by have := S1.out; omega)).low (B' := w.heap.size) (by have := S1.out; omega))
    have HY := Lib.hid hy
    clear hb2 R2 gs hy OV
    go_wp2_with fail
    exact bodyPost_ret (results_row_tmp2 rfl _ _ (w.heap.size + 4) 24 _ _ _ _ rfl rfl rfl K9.out Tryz.underlying24 rfl (size24 _ _)) rfl ⟨B9.out, .inl ⟨_, HY.out, rfl, O9.out⟩⟩
  · have K9 := Lib.hid ((R2.set 0 (.slice none 0 0)).set 1 (.int .i64 0))
    have gs := gb_sets (w.heap.size + 4) [.slice none 0 0, .int .i64 0] 0 w2
    have B9 := Lib.hid (below_own B2.out gs (by omega))
    have HM := Lib.hid hm
    have HOK := Lib.hid hok
    clear hb2 R2 gs hm hok
    go_wp2_with fail
    exact bodyPost_ret (results_row_tmp2 rfl _ _ (w.heap.size + 4) 24 _ _ _ _ rfl rfl rfl K9.out Tryz.underlying24 rfl (size24 _ _)) rfl ⟨B9.out, .inr (.inl ⟨HOK.out, m, HM.out, rfl⟩)⟩
  · have OV := Lib.hid hown
    obtain ⟨ao2, c2, rfl, _⟩ := hown
    have K9 := Lib.hid ((R2.set 0 (.slice ao2 L.length c2)).set 1 (.int .i64 nx))
    have gs := gb_sets (w.heap.size + 4) [.slice ao2 L.length c2, .int .i64 nx] 0 w2
    have B9 := Lib.hid (below_own B2.out gs (by omega))
    have O9 := Lib.hid ((OV.out.grown gs (by have := S1.out; omega)).low (B' := w.heap.size) (by have := S1.out; omega))
    have HG := Lib.hid hg
    have H1 := Lib.hid hok
    have H2 := Lib.hid hok2
    clear hb2 R2 gs hg hok hok2 OV
    go_wp2_with fail
    exact bodyPost_ret (results_row_tmp2 rfl _ _ (w.heap.size + 4) 24 _ _ _ _ rfl rfl rfl K9.out Tryz.underlying24 rfl (size24 _ _)) rfl ⟨B9.out, .inr (.inr ⟨H1.out, L, k, _, HG.out, H2.out, rfl, O9.out⟩)⟩
end Go.Proofs.YtcgbaiogbcodcaaGreatDoor.Lw
namespace Go.Proofs.YtcgbaiogbcodcaaGreatDoor.Lw
open Go.RowKit Go.Lib Go.Proofs.YtcgbaiogbcodcaaGreatDoor.Sh Go.Proofs.YtcgbaiogbcodcaaGreatDoor.Lb Go.Proofs.YtcgbaiogbcodcaaGreatDoor.Pf
open Go.Maps

def cutAt (l : List InoP) (i : Nat) : List InoP := l.take i ++ l.drop (i + 1)
theorem cutAt_len {l : List InoP} {i : Nat} (h : i < l.length) : (cutAt l i).length = l.length - 1 := by
  unfold cutAt
  rw [List.length_append, List.length_take, List.length_drop]
  omega
theorem cutAt_get {l : List InoP} {i : Nat} (h : i < l.length) (j : Nat) : (cutAt l i)[j]? = if j < i then l[j]? else l[j + 1]? := by
  unfold cutAt
  by_cases hj : j < i
  · rw [if_pos hj, List.getElem?_append_left (by rw [List.length_take]; omega), List.getElem?_take, if_pos hj]
  · rw [if_neg hj, List.getElem?_append_right (by rw [List.length_take]; omega), List.length_take, Nat.min_eq_left (by omega), List.getElem?_drop]
    congr 1
    omega
theorem rowI_del {B g n G i : Nat} {w W : World} {l : List InoP} {P : Nat → Sl} (h : RowI B w g n l P) (hi : i < n) (hb : Below w.heap.size w W) (hG : B ≤ G) (hGw : w.heap.size ≤ G)
    (hr : Rk 38 9 W G (n - 1) (fun j => if j < i then inF l P j else inF l P (j + 1))) : RowI B W G (n - 1) (cutAt l i) (fun j => if j < i then P j else P (j + 1)) := by
  obtain ⟨h1, h2, h3, h4⟩ := h
  have hd : ∀ j y, l[j]? = some y → Dep (fun b => B ≤ b ∧ b ≠ G) W fun w' => IvS w' y (P j) := fun j y hy w' hs' hb' => by
    refine h4 j y hy w' (Nat.le_trans hb.size hs') fun b hbb hlt => ?_
    rw [hb' b ⟨hbb.1, by omega⟩ (Nat.lt_of_lt_of_le hlt hb.size)]
    exact hb.block b hlt
  refine ⟨hG, by rw [cutAt_len (by omega), h2], hr.congr fun j hj => ?_, fun j y hy => ?_⟩
  · obtain ⟨y, hy⟩ : ∃ y, (cutAt l i)[j]? = some y := ⟨_, List.getElem?_eq_getElem (by rw [cutAt_len (by omega)]; omega)⟩
    rw [inF_at hy]
    rw [cutAt_get (by omega)] at hy
    by_cases hji : j < i
    · rw [if_pos hji] at hy
      rw [if_pos hji, if_pos hji, inF_at hy]
    · rw [if_neg hji] at hy
      rw [if_neg hji, if_neg hji, inF_at hy]
  · rw [cutAt_get (by omega)] at hy
    by_cases hji : j < i
    · rw [if_pos hji] at hy
      simp only [if_pos hji]
      exact hd j y hy
    · rw [if_neg hji] at hy
      simp only [if_neg hji]
      exact hd (j + 1) y hy
def DropM (l : List InoP) (k m : Int) : Prop := (m = 201 ∧ ∀ x ∈ l, x.num ≠ k) ∨ (m = 215 ∧ ∃ x ∈ l, x.num = k ∧ (k = 1 ∨ x.names ≠ [] ∨ 0 < times (enL l) k))
def DropG (l : List InoP) (k : Int) (L : List InoP) (num : Int) : Prop := num = 0 ∧ ∃ i x, l[i]? = some x ∧ x.num = k ∧ k ≠ 1 ∧ x.names = [] ∧ times (enL l) k = 0 ∧ L = cutAt l i
set_option maxHeartbeats 16000000 in
set_option maxRecDepth 100000 in
theorem dropped_any (ao : Option Addr) (l : List InoP) (n c : Nat) (nx k : Int) (w : World) (h : Irw w ao l) (hl : l.length = n) (hn : ao = none → c = 0) (hc : n ≤ c) (hF : FarL l) (hok : OkP l nx) :
    Calls Tryz.prog 23 #[.agg #[.slice ao n c, .int .i64 nx], .int .i64 k] w (AnsDo (DropM l k) (DropG l k) nx w) := by
  have hf0 := f66_0
  obtain ⟨w1, hw1⟩ : ∃ w1, w1 = (w.alloc (.cells #[.slice ao n c, .int .i64 nx] 24)).alloc (.cells #[.slice none 0 0, .int .i64 0, .int .i64 0] 50) := ⟨_, rfl⟩
  have b1 : Below w.heap.size w w1 := by rw [hw1]; exact below_alloc (below_alloc (Below.refl _ w) _) _
  have s1 : w1.heap.size = w.heap.size + 2 := by rw [hw1]; simp
  have x1 : Sh.Blk w1 w.heap.size [.slice ao n c, .int .i64 nx] 24 := by rw [hw1]; exact (Sh.Blk.new w [.slice ao n c, .int .i64 nx] 24 _ rfl).alloc _
  have r1 : Sh.Blk w1 (w.heap.size + 1) [.slice none 0 0, .int .i64 0, .int .i64 0] 50 := by rw [hw1]; exact Sh.Blk.new _ [.slice none 0 0, .int .i64 0, .int .i64 0] 50 _ (by simp)
  have HI := Lib.hid h
  have HL := Lib.hid hl
  have HF := Lib.hid hF
  have HN : Hid ((ao = none → c = 0) ∧ n ≤ c) := ⟨hn, hc⟩
  have YES := Lib.hid hok
  have B1 := Lib.hid b1
  have X1 := Lib.hid x1
  have R1 := Lib.hid r1
  have S1 := Lib.hid s1
  have HW1 : Hid ((w.alloc (.cells #[.slice ao n c, .int .i64 nx] 24)).alloc (.cells #[.slice none 0 0, .int .i64 0, .int .i64 0] 50) = w1) := hw1.symm
  have C := Lib.hid (inode_any ao l n c k w1 w1 (h.below b1) (Below.refl _ _) hl (by have := hok.nums.most; omega) hok.nums.risen)
  have nb : n ≤ 512 := by have := hok.nums.most; omega
  have c0 := x1.cell 0
  simp only [List.getElem?_cons_zero] at c0
  rw [hw1] at c0
  clear h hl hn hc hF hok b1 s1 x1 r1 hw1
  go_enter Tryz.func23, Tryz.ntmps23
  go_wp2_with fail
  rw [HW1.out]
  refine C.out.mono ?_
  clear C c0 HW1
  rintro e w2 ⟨hb, ⟨q, x, da, dn, dc, na, nn, nc, za, zn, zc, aa, an, ac, hx, hxk, _, hv, rfl⟩ | ⟨t, m, hm, rfl⟩⟩
  rotate_left
  · have b3 : Below w.heap.size w (w2.alloc (.cells #[.int .i64 0, .int .i64 0, .int .i64 0, .int .i64 0, .slice none 0 0, .string ⟨#[]⟩, .slice none 0 0, .slice none 0 0, .slice none 0 0] 38)) := (below_chain B1.out hb).alloc (below_chain B1.out hb).size _
    have HM : Hid (DropM l k m) := by
      rcases hm with h1 | ⟨_, h1, _⟩
      · exact .inl h1
      · cases h1
    have R2 := (R1.out.low hb).alloc (.cells #[.int .i64 0, .int .i64 0, .int .i64 0, .int .i64 0, .slice none 0 0, .string ⟨#[]⟩, .slice none 0 0, .slice none 0 0, .slice none 0 0] 38)
    have r0 := R2.cell 0
    have r1 := R2.cell 1
    have r2 := R2.cell 2
    have z0 := R2.frozen 0
    have z1 := R2.frozen 1
    have z2 := R2.frozen 2
    simp only [List.getElem?_cons_zero, List.getElem?_cons_succ] at r0 r1 r2
    have K9 := Lib.hid (((R2.set 0 (.slice none 0 0)).set 1 (.int .i64 0)).set 2 (.int .i64 0))
    have gs := gb_sets (w.heap.size + 1) [.slice none 0 0, .int .i64 0, .int .i64 0] 0 (w2.alloc (.cells #[.int .i64 0, .int .i64 0, .int .i64 0, .int .i64 0, .slice none 0 0, .string ⟨#[]⟩, .slice none 0 0, .slice none 0 0, .slice none 0 0] 38))
    have B9 := Lib.hid (below_own b3 gs (Nat.le_succ _))
    obtain ⟨y, hy⟩ : ∃ y, Ref t m = .iface 76 y := ⟨_, rfl⟩
    have HY := Lib.hid hy
    rw [hy]
    clear hb hm hy b3 R2 gs
    go_wp2_with fail
    exact bodyPost_ret (results_row_tmp rfl _ _ (w.heap.size + 1) 50 _ _ _ rfl rfl K9.out Tryz.underlying50 rfl (size50 _ _ _)) rfl ⟨B9.out, .inl ⟨t, m, HM.out, by rw [HY.out]; rfl⟩⟩
  have b3 : Below w.heap.size w (w2.alloc (.cells (ivC x da dn dc na nn nc za zn zc aa an ac).toArray 38)) := (below_chain B1.out hb).alloc (below_chain B1.out hb).size _
  have XM : Hid (x ∈ l) := List.mem_of_getElem? hx
  have XI := Lib.hid hx
  have HXK := Lib.hid hxk
  have x3 : Sh.Blk (w2.alloc (.cells (ivC x da dn dc na nn nc za zn zc aa an ac).toArray 38)) w.heap.size [.slice ao n c, .int .i64 nx] 24 := (X1.out.low hb).alloc _
  have r3 : Sh.Blk (w2.alloc (.cells (ivC x da dn dc na nn nc za zn zc aa an ac).toArray 38)) (w.heap.size + 1) [.slice none 0 0, .int .i64 0, .int .i64 0] 50 := (R1.out.low hb).alloc _
  have k3 : Sh.Blk (w2.alloc (.cells (ivC x da dn dc na nn nc za zn zc aa an ac).toArray 38)) w2.heap.size (ivC x da dn dc na nn nc za zn zc aa an ac) 38 := Sh.Blk.new w2 _ 38 _ rfl
  have S2 : Hid (w.heap.size + 2 ≤ w2.heap.size) := by show _ ≤ _; have := S1.out; have := hb.size; omega
  have NL : Hid (x.names.length = nn) := hv.n1
  have c0 := x3.cell 0
  have c1 := x3.cell 1
  have c6 := k3.cell 6
  simp only [ivC, List.getElem?_cons_zero, List.getElem?_cons_succ] at c0 c1 c6
  obtain ⟨w3, hw3⟩ : ∃ w3, w3 = w2.alloc (.cells (ivC x da dn dc na nn nc za zn zc aa an ac).toArray 38) := ⟨_, rfl⟩
  have HW3 : Hid (w2.alloc (.cells (ivC x da dn dc na nn nc za zn zc aa an ac).toArray 38) = w3) := hw3.symm
  rw [← hw3] at b3 x3 r3
  have B3 := Lib.hid b3
  have X3 := Lib.hid x3
  have R3 := Lib.hid r3
  have S3 : Hid (w.heap.size + 2 ≤ w3.heap.size) := by show _ ≤ _; rw [hw3]; simp; have := S2.out; omega
  have C27 := Lib.hid (places_any ao l n c w3 (HI.out.below b3) HL.out (few_of YES.out.nums (fun y hy => (YES.out.each y hy).2)))
  have kb0 := YES.out.nums.pos hx
  have kb1 := YES.out.nums.top hx
  rw [hxk] at kb0 kb1
  simp only [ivC] at HW3
  simp only [ivC]
  clear hb hx hxk hv b3 x3 r3 k3 hw3 X1 R1 B1 S1
  by_cases hk1 : k = 1
  · subst hk1
    have R9 := R3.out
    have r0 := R9.cell 0
    have r1 := R9.cell 1
    have r2 := R9.cell 2
    have z0 := R9.frozen 0
    have z1 := R9.frozen 1
    have z2 := R9.frozen 2
    simp only [List.getElem?_cons_zero, List.getElem?_cons_succ] at r0 r1 r2
    have K9 := Lib.hid (((R9.set 0 (.slice none 0 0)).set 1 (.int .i64 0)).set 2 (.int .i64 0))
    have gs := gb_sets (w.heap.size + 1) [.slice none 0 0, .int .i64 0, .int .i64 0] 0 w3
    have B9 := Lib.hid (below_own B3.out gs (Nat.le_succ _))
    have HM : Hid (DropM l 1 215) := .inr ⟨rfl, x, XM.out, HXK.out, .inl rfl⟩
    clear R9 gs
    rw [← HW3.out] at r0 r1 r2 z0 z1 z2 K9 B9
    go_wp2_with fail
    exact bodyPost_ret (results_row_tmp rfl _ _ (w.heap.size + 1) 50 _ _ _ rfl rfl K9.out Tryz.underlying50 rfl (size50 _ _ _)) rfl ⟨B9.out, .inl ⟨_, 215, HM.out, rfl⟩⟩
  have e1 : (k == 1) = false := by simpa using hk1
  by_cases hn0 : nn = 0
  rotate_left
  · have e2 : decide ((0 : Int) < (nn : Int)) = true := by simp; omega
    have e3 : decide ((nn : Int) > 0) = true := by simp; omega
    have R9 := R3.out
    have r0 := R9.cell 0
    have r1 := R9.cell 1
    have r2 := R9.cell 2
    have z0 := R9.frozen 0
    have z1 := R9.frozen 1
    have z2 := R9.frozen 2
    simp only [List.getElem?_cons_zero, List.getElem?_cons_succ] at r0 r1 r2
    have K9 := Lib.hid (((R9.set 0 (.slice none 0 0)).set 1 (.int .i64 0)).set 2 (.int .i64 0))
    have gs := gb_sets (w.heap.size + 1) [.slice none 0 0, .int .i64 0, .int .i64 0] 0 w3
    have B9 := Lib.hid (below_own B3.out gs (Nat.le_succ _))
    have HM : Hid (DropM l k 215) := .inr ⟨rfl, x, XM.out, HXK.out, .inr (.inl fun e => hn0 (by rw [← NL.out, e]; rfl))⟩
    clear R9 gs
    rw [← HW3.out] at r0 r1 r2 z0 z1 z2 K9 B9
    go_wp2_with fail
    exact bodyPost_ret (results_row_tmp rfl _ _ (w.heap.size + 1) 50 _ _ _ rfl rfl K9.out Tryz.underlying50 rfl (size50 _ _ _)) rfl ⟨B9.out, .inl ⟨_, 215, HM.out, rfl⟩⟩
  subst hn0
  have XN : Hid (x.names = []) := List.eq_nil_of_length_eq_zero NL.out
  go_wp2_with fail
  rw [HW3.out]
  refine C27.out.mono ?_
  clear C27 c0 c1 c6
  rintro e w4 ⟨hb, mb, D, cnt, rfl, hP, hO, _⟩
  have B4 := Lib.hid (below_chain B3.out hb)
  have X4 := Lib.hid (X3.out.low hb)
  have R4 := Lib.hid (R3.out.low hb)
  have S4 : Hid (w.heap.size + 2 ≤ w4.heap.size) := by show _ ≤ _; have := S3.out; have := hb.size; omega
  have hr := look_pl hP hO k (by omega) (by omega)
  obtain ⟨dd, hdd⟩ : ∃ dd, dd = dirOf (enL l) k := ⟨_, rfl⟩
  obtain ⟨tt, htt⟩ : ∃ tt, tt = times (enL l) k := ⟨_, rfl⟩
  rw [← hdd, ← htt] at hr
  have HTT := Lib.hid htt
  clear hb hP hO hdd htt kb0 kb1 HW3
  by_cases ht0 : tt = 0
  rotate_left
  · have e2 : decide ((0 : Int) < (tt : Int)) = true := by simp; omega
    have R9 := R4.out
    have r0 := R9.cell 0
    have r1 := R9.cell 1
    have r2 := R9.cell 2
    have z0 := R9.frozen 0
    have z1 := R9.frozen 1
    have z2 := R9.frozen 2
    simp only [List.getElem?_cons_zero, List.getElem?_cons_succ] at r0 r1 r2
    have K9 := Lib.hid (((R9.set 0 (.slice none 0 0)).set 1 (.int .i64 0)).set 2 (.int .i64 0))
    have gs := gb_sets (w.heap.size + 1) [.slice none 0 0, .int .i64 0, .int .i64 0] 0 w4
    have B9 := Lib.hid (below_own B4.out gs (Nat.le_succ _))
    have HM : Hid (DropM l k 215) := .inr ⟨rfl, x, XM.out, HXK.out, .inr (.inr (by rw [← HTT.out]; omega))⟩
    clear R9 gs
    go_wp2_with fail
    exact bodyPost_ret (results_row_tmp rfl _ _ (w.heap.size + 1) 50 _ _ _ rfl rfl K9.out Tryz.underlying50 rfl (size50 _ _ _)) rfl ⟨B9.out, .inl ⟨_, 215, HM.out, rfl⟩⟩
  subst ht0
  have c0 := X4.out.cell 0
  have c1 := X4.out.cell 1
  simp only [List.getElem?_cons_zero, List.getElem?_cons_succ] at c0 c1
  have CR := Lib.hid (renewed_any ao l n c nx w4 (HI.out.below B4.out) HL.out HN.out.1 HN.out.2 HF.out)
  go_wp2_with fail
  refine CR.out.mono ?_
  clear CR c0 c1
  rintro e w5 ⟨hb5, v, rfl, hown⟩
  obtain ⟨ao', c', rfl, o1, o2, o3, o4⟩ := hown
  obtain ⟨g, P, rfl, hrow⟩ := o4 YES.out.ne
  rw [HL.out] at o1 hrow ⊢
  have qn : q < n := by have := (List.getElem?_eq_some_iff.1 XI.out).1; have := HL.out; omega
  have q0 : 1 ≤ q := by
    rcases Nat.eq_zero_or_pos q with rfl | h0
    · exact absurd ((YES.out.nums.root x XI.out).1) (by rw [HXK.out]; exact hk1)
    · exact h0
  have B5 := Lib.hid (below_chain B4.out hb5)
  have R5 := Lib.hid (R4.out.low hb5)
  have ROW := Lib.hid hrow
  have S5 : Hid (w4.heap.size ≤ w5.heap.size) := hb5.size
  obtain ⟨w6, hw6⟩ : ∃ w6, w6 = w5.alloc (.cells #[.slice (some ⟨g, 0, none⟩) n c', .int .i64 nx] 24) := ⟨_, rfl⟩
  have b6 : Below w5.heap.size w5 w6 := by rw [hw6]; exact below_alloc (Below.refl _ w5) _
  have y6 : Sh.Blk w6 w5.heap.size [.slice (some ⟨g, 0, none⟩) n c', .int .i64 nx] 24 := by rw [hw6]; exact Sh.Blk.new w5 [.slice (some ⟨g, 0, none⟩) n c', .int .i64 nx] 24 _ rfl
  have CS := Lib.hid (sought_any _ l n c' k w6 ((hrow.irw (by omega)).below b6) HL.out (by omega) YES.out.nums.risen)
  have d0 := y6.cell 0
  simp only [List.getElem?_cons_zero] at d0
  have HW6 : Hid (w5.alloc (.cells #[.slice (some ⟨g, 0, none⟩) n c', .int .i64 nx] 24) = w6) := hw6.symm
  rw [hw6] at d0
  have B6 := Lib.hid b6
  have Y6 := Lib.hid y6
  have O12 : Hid (n ≤ c' ∧ c' ≤ 9223372036854775807) := ⟨o1, o2⟩
  clear o1 o2 o3 o4 hrow hb5 hw6 b6 y6
  go_wp2_with fail
  rw [HW6.out]
  refine CS.out.mono ?_
  clear CS d0 HW6
  rintro e w7 ⟨a, bb, rfl, hsk, hb7⟩
  obtain ⟨ea, eb⟩ := hsk.yes XI.out HXK.out YES.out.nums.risen
  subst ea eb
  have B7 := Lib.hid (below_chain B6.out hb7)
  have Y7 := Lib.hid (Y6.out.low hb7)
  have d0 := Y7.out.cell 0
  simp only [List.getElem?_cons_zero] at d0
  have S7 : Hid (w5.heap.size < w7.heap.size) := Y7.out.lt
  have ROW7 := ROW.out.below B7.out
  have C0 := without_ino ⟨g, 0, none⟩ n c' a (flatF (inF l P) n) w7 (rk_cr ROW7.2.2.1 (by decide) (fun j _ => inF_len _ _ _)) (flatF_len (k := 9) n (fun j _ => inF_len _ _ _)) (flatF_one fun j _ => inF_one _ _ _) O12.out.1 qn (by omega)
  rw [flatF_del (k := 9) (fun j _ => inF_len l P j) qn] at C0
  have C44 := Lib.hid C0
  clear C0 ROW7 hsk hb7
  go_wp2_with fail
  refine C44.out.mono ?_
  clear C44 d0
  rintro e w8 ⟨hb8, v, rfl, hown⟩
  have F9 : ∀ j, j < n - 1 → (if j < a then inF l P j else inF l P (j + 1)).length = 9 := fun j _ => by
    split
    · exact inF_len _ _ _
    · exact inF_len _ _ _
  obtain ⟨G, D, rfl, hG, hD1, hD2, hrk⟩ := own_rk_flat (k := 9) hown F9 (by omega)
  have Y8 := Y7.out.low hb8
  have R8 := (R5.out.low B7.out).low hb8
  have c0 := Y8.cell 0
  have f0 := Y8.frozen 0
  have gs := grownBy_setCell w8 w5.heap.size 0 (.slice (some ⟨G, 0, none⟩) (n - 1) D)
  have Y9 := Y8.set 0 (.slice (some ⟨G, 0, none⟩) (n - 1) D)
  have R9 := blk_grown R8 gs (by have := S4.out; have := S5.out; omega)
  have d0 := Y9.cell 0
  have d1 := Y9.cell 1
  have r0 := R9.cell 0
  have r1 := R9.cell 1
  have r2 := R9.cell 2
  have z0 := R9.frozen 0
  have z1 := R9.frozen 1
  have z2 := R9.frozen 2
  simp only [List.set_cons_zero, List.getElem?_cons_zero, List.getElem?_cons_succ] at c0 d0 d1 r0 r1 r2
  obtain ⟨w9, hw9⟩ : ∃ w9, w9 = w8.setCell ⟨w5.heap.size, 0, none⟩ (.slice (some ⟨G, 0, none⟩) (n - 1) D) := ⟨_, rfl⟩
  have b59 : Below w5.heap.size w5 w9 := by rw [hw9]; exact below_own (below_chain B7.out hb8) gs (Nat.le_refl _)
  have rk9 : Rk 38 9 w9 G (n - 1) (fun j => if j < a then inF l P j else inF l P (j + 1)) := by rw [hw9]; exact hrk.grown gs (by have := S7.out; omega)
  have ro := rowI_del ROW.out qn b59 (by have := S5.out; have := S7.out; omega) (by have := S7.out; omega) rk9
  have K9 := Lib.hid (((R9.set 0 (.slice (some ⟨G, 0, none⟩) (n - 1) D)).set 1 (.int .i64 nx)).set 2 (.int .i64 0))
  have gs3 := gb_sets (w.heap.size + 1) [.slice (some ⟨G, 0, none⟩) (n - 1) D, .int .i64 nx, .int .i64 0] 0 w9
  have B10 := Lib.hid (below_own (below_chain B5.out b59) gs3 (Nat.le_succ _))
  have ro10 := (ro.grown gs3 (by have := S4.out; omega)).low (B' := w.heap.size) (by have := S4.out; omega)
  rw [hw9] at ro10 B10
  have LC : (cutAt l a).length = n - 1 := by rw [cutAt_len (by rw [HL.out]; exact qn), HL.out]
  have O10 : Hid (OwnI w.heap.size ((((w8.setCell ⟨w5.heap.size, 0, none⟩ (.slice (some ⟨G, 0, none⟩) (n - 1) D)).setCell ⟨w.heap.size + 1, 0, none⟩ (.slice (some ⟨G, 0, none⟩) (n - 1) D)).setCell ⟨w.heap.size + 1, 1, none⟩ (.int .i64 nx)).setCell ⟨w.heap.size + 1, 2, none⟩ (.int .i64 0)) (cutAt l a) (.slice (some ⟨G, 0, none⟩) (n - 1) D)) :=
    ⟨_, D, by rw [LC], by rw [LC]; exact hD1, hD2, (fun h => by cases h), fun _ => ⟨G, _, rfl, by rw [LC]; exact ro10⟩⟩
  have HG : Hid (DropG l k (cutAt l a) 0) := ⟨rfl, a, x, XI.out, HXK.out, hk1, XN.out, HTT.out.symm, rfl⟩
  have ne3 : ¬ w5.heap.size = w.heap.size + 1 := by have := S4.out; have := S5.out; omega
  have ne4 : ¬ w.heap.size + 1 = w5.heap.size := by have := S4.out; have := S5.out; omega
  clear hb8 hown F9 hG hD1 hD2 hrk Y8 R8 gs Y9 R9 hw9 b59 rk9 ro gs3 ro10 LC
  go_wp2_with fail
  exact bodyPost_ret (results_row_tmp rfl _ _ (w.heap.size + 1) 50 _ _ _ rfl rfl K9.out Tryz.underlying50 rfl (size50 _ _ _)) rfl ⟨B10.out, .inr ⟨_, _, 0, HG.out, rfl, O10.out⟩⟩
end Go.Proofs.YtcgbaiogbcodcaaGreatDoor.Lw
namespace Go.Proofs.YtcgbaiogbcodcaaGreatDoor.Lw
open Go.RowKit Go.Lib Go.Proofs.YtcgbaiogbcodcaaGreatDoor.Sh Go.Proofs.YtcgbaiogbcodcaaGreatDoor.Lb Go.Proofs.YtcgbaiogbcodcaaGreatDoor.Pf
open Go.Maps

set_option maxHeartbeats 4000000 in
set_option maxRecDepth 100000 in
theorem drop1_any (ao : Option Addr) (l : List InoP) (n c : Nat) (nx k : Int) (b0 b1 : Nat) (w : World) (h : Irw w ao l) (hl : l.length = n) (hn : ao = none → c = 0) (hc : n ≤ c) (hF : FarL l) (hok : OkP l nx)
    (k0 : Sh.Blk w b0 [.slice ao n c, .int .i64 nx] 24) (k1 : w.cell? ⟨b1, 0, none⟩ = some (.int .i64 k)) :
    Calls Tryz.prog 22 #[.pointer (some ⟨b0, 0, none⟩), .pointer (some ⟨b1, 0, none⟩)] w (AnsDo (DropM l k) (DropG l k) nx w) := by
  obtain ⟨w1, hw1⟩ : ∃ w1, w1 = w.alloc (.cells #[.slice none 0 0, .int .i64 0, .int .i64 0] 50) := ⟨_, rfl⟩
  have bb : Below w.heap.size w w1 := by rw [hw1]; exact below_alloc (Below.refl _ w) _
  have r1 : Sh.Blk w1 w.heap.size [.slice none 0 0, .int .i64 0, .int .i64 0] 50 := by rw [hw1]; exact Sh.Blk.new w [.slice none 0 0, .int .i64 0, .int .i64 0] 50 _ rfl
  have s1 : w1.heap.size = w.heap.size + 1 := by rw [hw1]; simp
  have CM := Lib.hid (dropped_any ao l n c nx k w1 (h.below bb) hl hn hc hF hok)
  have kk := k0.low bb
  have c0 := kk.cell 0
  have c1 := kk.cell 1
  simp only [List.getElem?_cons_zero, List.getElem?_cons_succ] at c0 c1
  have d1 := (bb.cell (p := ⟨b1, 0, none⟩) (World.block_lt_of_cell? w _ k1)).trans k1
  have HW1 : Hid (w.alloc (.cells #[.slice none 0 0, .int .i64 0, .int .i64 0] 50) = w1) := hw1.symm
  rw [hw1] at c0 c1 d1
  have B1 := Lib.hid bb
  have R1 := Lib.hid r1
  have S1 := Lib.hid s1
  clear h hl hn hc hF hok k0 k1 bb r1 s1 kk hw1
  go_enter Tryz.func22, Tryz.ntmps22
  go_wp2_with fail
  rw [HW1.out]
  refine CM.out.mono ?_
  clear CM c0 c1 d1 HW1
  rintro e w2 ⟨hb2, hans⟩
  have R2 := R1.out.low hb2
  have r0 := R2.cell 0
  have r1 := R2.cell 1
  have r2 := R2.cell 2
  have z0 := R2.frozen 0
  have z1 := R2.frozen 1
  have z2 := R2.frozen 2
  simp only [List.getElem?_cons_zero, List.getElem?_cons_succ] at r0 r1 r2
  have B2 := Lib.hid (below_chain B1.out hb2)
  rcases hans with ⟨s, m, hm, rfl⟩ | ⟨L, v, num, hp, rfl, hown⟩
  · have K9 := Lib.hid (((R2.set 0 (.slice none 0 0)).set 1 (.int .i64 0)).set 2 (.int .i64 0))
    have gs := gb_sets w.heap.size [.slice none 0 0, .int .i64 0, .int .i64 0] 0 w2
    have B9 := Lib.hid (below_own B2.out gs (Nat.le_refl _))
    have HM := Lib.hid hm
    obtain ⟨y, hy⟩ : ∃ y, y = Ref s m := ⟨_, rfl⟩
    rw [← hy]
    have HY := Lib.hid hy
    clear hb2 R2 gs hm hy
    go_wp2_with fail
    exact bodyPost_ret (results_row_tmp rfl _ _ w.heap.size 50 _ _ _ rfl rfl K9.out Tryz.underlying50 rfl (size50 _ _ _)) rfl ⟨B9.out, .inl ⟨s, m, HM.out, by rw [← HY.out]; rfl⟩⟩
  · have OV := Lib.hid hown
    obtain ⟨ao2, c2, rfl, _⟩ := hown
    have K9 := Lib.hid (((R2.set 0 (.slice ao2 L.length c2)).set 1 (.int .i64 nx)).set 2 (.int .i64 num))
    have gs := gb_sets w.heap.size [.slice ao2 L.length c2, .int .i64 nx, .int .i64 num] 0 w2
    have B9 := Lib.hid (below_own B2.out gs (Nat.le_refl _))
    have O9 := Lib.hid ((OV.out.grown gs (by have := S1.out; omega)).low (B' := w.heap.size) (by have := S1.out; omega))
    have HG := Lib.hid hp
    clear hb2 R2 gs hp OV
    go_wp2_with fail
    exact bodyPost_ret (results_row_tmp rfl _ _ w.heap.size 50 _ _ _ rfl rfl K9.out Tryz.underlying50 rfl (size50 _ _ _)) rfl ⟨B9.out, .inr ⟨L, _, num, HG.out, rfl, O9.out⟩⟩
/-- what is answered of it where no number is told -/
def AnsDon2 (l : List InoP) (M : Int → Prop) (G : List InoP → Int → Prop) (nx : Int) (w : World) (e : Ending) (w' : World) : Prop := Below w.heap.size w w' ∧
  ((∃ v, ((¬ OkP l nx) ∨ OkP l nx ∧ ∃ L k, G L k ∧ ¬ OkP L nx) ∧ e = .returned (.tuple #[.agg #[v, .int .i64 nx], .int .i64 2]) ∧ OwnI w.heap.size w' l v) ∨
   (OkP l nx ∧ ∃ m, M m ∧ e = .returned (.tuple #[.agg #[.slice none 0 0, .int .i64 0], .int .i64 m])) ∨
   (OkP l nx ∧ ∃ L k v, G L k ∧ OkP L nx ∧ e = .returned (.tuple #[.agg #[v, .int .i64 nx], .int .i64 0]) ∧ OwnI w.heap.size w' L v))
set_option maxHeartbeats 4000000 in
set_option maxRecDepth 100000 in
theorem drop_any (ao : Option Addr) (l : List InoP) (n c : Nat) (nx k : Int) (w : World) (hE : ErrT w) (h : Irw w ao l) (hl : l.length = n) (hn : ao = none → c = 0) (hc : n ≤ c) (hF : FarL l) :
    Calls Tryz.prog 10 #[.agg #[.slice ao n c, .int .i64 nx], .int .i64 k] w (AnsDon2 l (DropM l k) (DropG l k) nx w) := by
  obtain ⟨w1, hw1⟩ : ∃ w1, w1 = ((w.alloc (.cells #[.slice ao n c, .int .i64 nx] 24)).alloc (.cells #[.int .i64 k] 3)).alloc (.cells #[.slice none 0 0, .int .i64 0] 24) := ⟨_, rfl⟩
  have bb : Below w.heap.size w w1 := by rw [hw1]; exact below_alloc (below_alloc (below_alloc (Below.refl _ w) _) _) _
  have s1 : w1.heap.size = w.heap.size + 3 := by rw [hw1]; simp
  have x0 : Sh.Blk w1 w.heap.size [.slice ao n c, .int .i64 nx] 24 := by rw [hw1]; exact ((Sh.Blk.new w [.slice ao n c, .int .i64 nx] 24 _ rfl).alloc _).alloc _
  have x1 : Sh.Blk w1 (w.heap.size + 1) [.int .i64 k] 3 := by rw [hw1]; exact (Sh.Blk.new _ [.int .i64 k] 3 _ (by simp)).alloc _
  have r1 : Sh.Blk w1 (w.heap.size + 2) [.slice none 0 0, .int .i64 0] 24 := by rw [hw1]; exact Sh.Blk.new _ [.slice none 0 0, .int .i64 0] 24 _ (by simp)
  have CD := Lib.hid (done_drop ao l n c nx ⟨w.heap.size, 0, none⟩ ⟨w.heap.size + 1, 0, none⟩ (DropM l k) (DropG l k) w1 (hE.below bb) (h.below bb) hl hn hc hF (fun m hm => by rcases hm with h1 | h1 <;> rw [h1.1] <;> exact ⟨by decide, by decide⟩)
    (fun hok W hW => drop1_any ao l n c nx k w.heap.size (w.heap.size + 1) W ((h.below bb).below hW) hl hn hc hF hok (x0.low hW) ((x1.low hW).cell 0)))
  have c0 := x0.cell 0
  have c1 := x0.cell 1
  simp only [List.getElem?_cons_zero, List.getElem?_cons_succ] at c0 c1
  have HW1 : Hid (((w.alloc (.cells #[.slice ao n c, .int .i64 nx] 24)).alloc (.cells #[.int .i64 k] 3)).alloc (.cells #[.slice none 0 0, .int .i64 0] 24) = w1) := hw1.symm
  rw [hw1] at c0 c1
  have B1 := Lib.hid bb
  have R1 := Lib.hid r1
  have S1 := Lib.hid s1
  clear hE h hl hn hc hF bb s1 x0 x1 r1 hw1
  go_enter Tryz.func10, Tryz.ntmps10
  go_wp2_with fail
  rw [HW1.out]
  refine CD.out.mono ?_
  clear CD c0 c1 HW1
  rintro e w2 ⟨hb2, hans⟩
  have B2 := Lib.hid (below_chain B1.out hb2)
  have SS : Hid (w.heap.size + 3 ≤ w2.heap.size) := by show _ ≤ _; have := S1.out; have := hb2.size; omega
  rcases hans with ⟨v, hy, rfl, hown⟩ | ⟨hok, m, hm, rfl⟩ | ⟨hok, L, num, v, hg, hok2, rfl, hown⟩
  · have OV := Lib.hid hown
    obtain ⟨ao2, c2, rfl, _⟩ := hown
    have R2 := (R1.out.low hb2).alloc (.cells #[.slice ao2 l.length c2, .int .i64 nx] 24)
    have r0 := R2.cell 0
    have r1 := R2.cell 1
    have z0 := R2.frozen 0
    have z1 := R2.frozen 1
    simp only [List.getElem?_cons_zero, List.getElem?_cons_succ] at r0 r1
    have K9 := Lib.hid ((R2.set 0 (.slice ao2 l.length c2)).set 1 (.int .i64 nx))
    have gs := gb_sets (w.heap.size + 2) [.slice ao2 l.length c2, .int .i64 nx] 0 (w2.alloc (.cells #[.slice ao2 l.length c2, .int .i64 nx] 24))
    have B9 := Lib.hid (below_own (B2.out.alloc B2.out.size (.cells #[.slice ao2 l.length c2, .int .i64 nx] 24)) gs (by omega))
    have O9 := Lib.hid (((OV.out.below ((Below.refl _ w2).alloc (Nat.le_refl _) (.cells #[.slice ao2 l.length c2, .int .i64 nx] 24))).grown gs (by have := S1.out; omega)).low (B' := w.heap.size) (by have := S1.out; omega))
    clear OV
    have HY := Lib.hid hy
    clear hb2 R2 gs hy
    go_wp2_with fail
    exact bodyPost_ret (results_row_tmp rfl _ _ (w.heap.size + 2) 24 _ _ _ rfl rfl K9.out Tryz.underlying24 rfl (size24 _ _)) rfl ⟨B9.out, .inl ⟨_, HY.out, rfl, O9.out⟩⟩
  · have R2 := (R1.out.low hb2).alloc (.cells #[.slice none 0 0, .int .i64 0] 24)
    have r0 := R2.cell 0
    have r1 := R2.cell 1
    have z0 := R2.frozen 0
    have z1 := R2.frozen 1
    simp only [List.getElem?_cons_zero, List.getElem?_cons_succ] at r0 r1
    have K9 := Lib.hid ((R2.set 0 (.slice none 0 0)).set 1 (.int .i64 0))
    have gs := gb_sets (w.heap.size + 2) [.slice none 0 0, .int .i64 0] 0 (w2.alloc (.cells #[.slice none 0 0, .int .i64 0] 24))
    have B9 := Lib.hid (below_own (B2.out.alloc B2.out.size (.cells #[.slice none 0 0, .int .i64 0] 24)) gs (by omega))
    have HM := Lib.hid hm
    have HOK := Lib.hid hok
    clear hb2 R2 gs hm hok
    go_wp2_with fail
    exact bodyPost_ret (results_row_tmp rfl _ _ (w.heap.size + 2) 24 _ _ _ rfl rfl K9.out Tryz.underlying24 rfl (size24 _ _)) rfl ⟨B9.out, .inr (.inl ⟨HOK.out, m, HM.out, rfl⟩)⟩
  · have OV := Lib.hid hown
    obtain ⟨ao2, c2, rfl, _⟩ := hown
    have R2 := (R1.out.low hb2).alloc (.cells #[.slice ao2 L.length c2, .int .i64 nx] 24)
    have r0 := R2.cell 0
    have r1 := R2.cell 1
    have z0 := R2.frozen 0
    have z1 := R2.frozen 1
    simp only [List.getElem?_cons_zero, List.getElem?_cons_succ] at r0 r1
    have K9 := Lib.hid ((R2.set 0 (.slice ao2 L.length c2)).set 1 (.int .i64 nx))
    have gs := gb_sets (w.heap.size + 2) [.slice ao2 L.length c2, .int .i64 nx] 0 (w2.alloc (.cells #[.slice ao2 L.length c2, .int .i64 nx] 24))
    have B9 := Lib.hid (below_own (B2.out.alloc B2.out.size (.cells #[.slice ao2 L.length c2, .int .i64 nx] 24)) gs (by omega))
    have O9 := Lib.hid (((OV.out.below ((Below.refl _ w2).alloc (Nat.le_refl _) (.cells #[.slice ao2 L.length c2, .int .i64 nx] 24))).grown gs (by have := S1.out; omega)).low (B' := w.heap.size) (by have := S1.out; omega))
    clear OV
    have HG := Lib.hid hg
    have H1 := Lib.hid hok
    have H2 := Lib.hid hok2
    clear hb2 R2 gs hg hok hok2
    go_wp2_with fail
    exact bodyPost_ret (results_row_tmp rfl _ _ (w.heap.size + 2) 24 _ _ _ rfl rfl K9.out Tryz.underlying24 rfl (size24 _ _)) rfl ⟨B9.out, .inr (.inr ⟨H1.out, L, num, _, HG.out, H2.out, rfl, O9.out⟩)⟩
end Go.Proofs.YtcgbaiogbcodcaaGreatDoor.Lw
