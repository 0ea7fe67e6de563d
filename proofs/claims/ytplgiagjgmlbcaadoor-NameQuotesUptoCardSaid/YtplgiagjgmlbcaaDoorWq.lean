/-
  The contract of name.Quote: for every text of at most 2^32 bytes it returns the quoted text of the plain definition. Conditions: the library's tables and variables as their texts lay them.
-/
import Derived.Test.YtplgiagjgmlbcaaDoorWa
import Derived.Test.YtplgiagjgmlbcaaDoorWb
namespace Go.Proofs.YtplgiagjgmlbcaaDoor.Nm
open Go.RowKit Go.Lib

theorem later_at {p : Value} {B b : Nat} {bs : List Value} {W W' : World} (h : BuilderAtF 46 5 B b p bs W) (hb : Below W.heap.size W W') : BuilderAtF 46 5 B b p bs W' := by
  have hlt := h.lt
  obtain ⟨h1, v, h2, h3, h4⟩ := h
  have hk : W.grownBy W' none := ⟨hb.os, hb.tape, hb.output, hb.size, fun i hi _ => hb.block i hi⟩
  exact ⟨h1, v, (hb.block b hlt).trans h2, h3.kept hk (Classical.em _), h4⟩
/-- a builder stays one while memory is laid behind it -/
theorem later {B b : Nat} {bs : List Value} {W W' : World} (h : IsBuilderF 46 5 B b bs W) (hb : Below W.heap.size W W') : IsBuilderF 46 5 B b bs W' :=
  h.elim (fun x => Or.inl (later_at x hb)) (fun x => Or.inr (later_at x hb))

theorem size_list (a : List UInt8) : (⟨a.toArray⟩ : ByteArray).size = a.length := by simp [ByteArray.size]
theorem size_app (a b : List UInt8) : ((⟨a.toArray⟩ : ByteArray) ++ (⟨b.toArray⟩ : ByteArray)).size = a.length + b.length := by
  rw [Lib.size_eq, app_list, List.length_append]
theorem app_list3 (h : List UInt8) : ((⟨#[92, 117, 123]⟩ : ByteArray) ++ (⟨h.toArray⟩ : ByteArray) ++ (⟨#[125]⟩ : ByteArray)).data.toList = [92, 117, 123] ++ h ++ [125] := by simp
theorem size_app3 (h : List UInt8) : ((⟨#[92, 117, 123]⟩ : ByteArray) ++ (⟨h.toArray⟩ : ByteArray) ++ (⟨#[125]⟩ : ByteArray)).size = h.length + 4 := by
  rw [Lib.size_eq, app_list3]; simp
/-- the iterator stands where it stood, behind what is laid and written -/
theorem iter_later {s : ByteArray} {wi w2 W2 : World} {B K p' : Nat} (hit2 : wi.heap[K]? = some (.stringIter s p')) (hb2 : Below wi.heap.size wi w2) (hK : B < K) (k1 : OthersKept 5 (some B) w2 W2) :
    W2.heap[K]? = some (.stringIter s p') := by
  have hlt : K < wi.heap.size := (Array.getElem?_eq_some_iff.1 hit2).1
  exact k1.iter ((hb2.block K hlt).trans hit2) (by omega)
/-- a round of Quote's loop -/
theorem again {s : ByteArray} {w wi w2 W2 : World} {K pos p' f : Nat} {acc X tot : List UInt8} {V : List Value} {p : Value}
    (hit2 : wi.heap[K]? = some (.stringIter s p')) (hbw2 : Below w.heap.size w wi) (hb2 : Below wi.heap.size wi w2) (hK : w.heap.size < K)
    (hp4 : p' ≤ s.size + 4) (hp' : pos + 1 ≤ p') (hfu : s.size ≤ pos + (f + 1)) (hal : acc.length ≤ 1 + 16 * pos)
    (HX : Hid (X.length ≤ 16 ∧ (acc ++ X) ++ quoteB f (s.data.toList.drop p') = tot)) (hx : V = byteCells X)
    (h1 : BuilderAtF 46 5 w.heap.size w.heap.size p (byteCells acc ++ V) W2) (hp : p = .pointer (some ⟨w.heap.size, 0, none⟩)) (b1 : Below w.heap.size w2 W2) (k1 : OthersKept 5 (some w.heap.size) w2 W2) :
    ∃ (pos fuel : Nat) (acc : List UInt8), IsBuilderF 46 5 w.heap.size w.heap.size (byteCells acc) W2 ∧ W2.heap[K]? = some (.stringIter s pos) ∧ Below w.heap.size w W2 ∧ Hid (acc ++ quoteB fuel (s.data.toList.drop pos) = tot) ∧ s.size ≤ pos + fuel ∧ acc.length ≤ 1 + 16 * pos ∧ pos ≤ s.size + 4 := by
  subst hp hx
  obtain ⟨hx16, htot⟩ := HX.out
  refine ⟨p', f, acc ++ X, ?_, iter_later hit2 hb2 hK k1, (hbw2.trans (hb2.mono hbw2.size)).trans b1, htot, by omega, by rw [List.length_append]; omega, hp4⟩
  rw [byteCells_append]
  exact Or.inr h1

set_option maxHeartbeats 4000000 in
set_option maxRecDepth 100000 in
theorem quote_any (s : ByteArray) (w : World) (hg : Glob w) (hs : s.size ≤ 4294967296) :
    Calls Tryd.prog 15 #[.string s] w fun e w' => e = .returned (.string ⟨(quoteL s.data.toList).toArray⟩) ∧ Below w.heap.size w w' := by
  go_enter Tryd.func15, Tryd.ntmps15
  have hI0 : Lib.IsBuilderF 46 5 w.heap.size w.heap.size [] (w.alloc (.cells #[.pointer none, .slice none 0 0] 46)) := Lib.IsBuilderF.of (Lib.fresh_isBuilder 46 5 w)
  have hb0 : Below w.heap.size w (w.alloc (.cells #[.pointer none, .slice none 0 0] 46)) := (Below.refl _ w).alloc (Nat.le_refl _) _
  go_wp2_with (go_at_call 30; refine (Tryd.Builder_WriteByte_k w.heap.size w.heap.size _ 34 _ hI0 (by simp) (by simp)).mono ?_; rintro e W1 ⟨rfl, h1, b1, k1⟩)
  have hI1 : Lib.IsBuilderF 46 5 w.heap.size w.heap.size (Lib.byteCells [34]) W1 := Or.inr h1
  have hb1 : Below w.heap.size w W1 := hb0.trans b1
  have hz1 : w.heap.size + 1 ≤ W1.heap.size := by have := b1.size; simp at this; omega
  clear hI0 hb0 h1 b1 k1
  obtain ⟨tot, ht⟩ : ∃ tot, tot = 34 :: quoteB s.size s.data.toList := ⟨_, rfl⟩
  go_loopw [] (fun wr => ∃ (pos fuel : Nat) (acc : List UInt8), Lib.IsBuilderF 46 5 w.heap.size w.heap.size (Lib.byteCells acc) wr ∧ wr.heap[W1.heap.size]? = some (.stringIter s pos) ∧ Below w.heap.size w wr ∧ Hid (acc ++ quoteB fuel (s.data.toList.drop pos) = tot) ∧ s.size ≤ pos + fuel ∧ acc.length ≤ 1 + 16 * pos ∧ pos ≤ s.size + 4) (fun wr => s.size - wr.iterPos W1.heap.size)
  case atStart =>
    refine ⟨0, s.size, [34], hI1.alloc _, ?_, hb1.alloc (by omega) _, by simp [Hid, ht], by omega, by simp, by omega⟩
    have := World.iter_heap W1 s 0
    simpa using this
  case round =>
    obtain ⟨pos, fuel, acc, hI, hit, hbw, hn, hfu, hal, hpl⟩ := hrel
    have hsz : W1.heap.size < wr.heap.size := (Array.getElem?_eq_some_iff.1 hit).1
    by_cases hp : pos < s.size
    · have hnx : ∀ ty, (Instr.next (.pointer (some ⟨W1.heap.size, 0, none⟩)) true ty).run Tryd.prog wr = _ := fun ty => Lib.run_next_any_at wr W1.heap.size s pos ty hit hp
      have hwd := width_pos' s pos
      have hw4 : (Utf8.decode s pos).2 ≤ 4 := by rw [← decodeL_drop]; exact width_four _
      have hrl := rune_le s pos
      have hit2 := Lib.iterAt_heap wr W1.heap.size s pos (pos + (Utf8.decode s pos).2) hit
      have hbw2 := Lib.below_iterAt hbw (k := W1.heap.size) (by omega) s (pos + (Utf8.decode s pos).2)
      have hI2 := hI.iterAt hit (pos + (Utf8.decode s pos).2)
      have hg2 := hg.below hbw2
      have hsz2 : (wr.iterAt W1.heap.size s (pos + (Utf8.decode s pos).2)).heap.size = wr.heap.size := Lib.iterAt_size _ _ _ _
      obtain ⟨f, rfl⟩ : ∃ f, fuel = f + 1 := ⟨fuel - 1, by omega⟩
      have HN := hn.out
      rw [quoteB_cons _ _ (drop_ne s pos hp), decodeL_drop, drop_drop'] at HN
      clear hn
      have HSZ := Lib.hid hsz2
      clear hsz2
      have hq16 := quoteOne_len (s.data.toList.drop pos)
      have HR : Hid (∀ X : List UInt8, quoteOne (s.data.toList.drop pos) = X → Hid (X.length ≤ 16 ∧ (acc ++ X) ++ quoteB f (s.data.toList.drop (pos + (Utf8.decode s pos).2)) = tot)) := Lib.hid (fun X hX => by
        subst hX
        exact ⟨hq16, by rw [List.append_assoc]; exact HN⟩)
      clear HN hq16
      have hbal : (Lib.byteCells acc).length ≤ 1 + 16 * pos := by rw [Lib.byteCells_length]; exact hal
      cases hst : strayL (s.data.toList.drop pos) with
      | true =>
        have hX := quoteOne_stray _ hst
        rw [drop_getD s pos hp] at hX
        have HX := HR.out _ hX
        have HS := Lib.hid hst
        clear hst hX HR
        have hb8 : (s[pos]'hp).toNat < 256 := UInt8.toNat_lt _
        have hx6 := (hexF_len 5 (s[pos]'hp).toNat).2
        go_wp2_with (first | (go_at_call 26; refine (stray_at s pos true HS.out _).mono ?_; rintro e w' ⟨rfl, rfl⟩) | (go_at_call 31; refine (format16 (s[pos]'hp).toNat (by omega) _ hg2).mono ?_; rintro e w2 ⟨rfl, hb2⟩))
        refine (Tryd.Builder_WriteString_k w.heap.size w.heap.size (Lib.byteCells acc) _ _ (later hI2 hb2) (by rw [size_app]; simp only [List.length_cons, List.length_nil]; omega) ?_).mono ?_
        · have h1 := hb2.size; have h2 := HSZ.out; omega
        rintro e W2 ⟨rfl, h1, b1, k1⟩
        go_wp2
        go_roundw
        case rel => exact again hit2 hbw2 hb2 hz1 (by omega) (by omega) (by omega) hal HX (by rw [strCells_eq, app_list]) h1 rfl b1 k1
        case measure =>
          simp only [World.iterPos, iter_later hit2 hb2 hz1 k1, hit]
          omega
      | false =>
        have HS := Lib.hid hst
        by_cases hm : (Utf8.decode s pos).1 = 34 ∨ (Utf8.decode s pos).1 = 92
        · have hX := quoteOne_mark _ hst (by rw [decodeL_drop]; exact hm)
          rw [decodeL_drop] at hX
          have HX := HR.out _ hX
          clear hst hX HR
          rcases hm with hm | hm
          · have hcv : ∀ W, (convert 21 9 (.int .i32 34)).run Tryd.prog W = .ok (.string ⟨#[34]⟩) W := fun _ => by kernel_rfl
            have hz : ((Utf8.decode s pos).1 : Int) = 34 := by omega
            rw [hm] at HX
            clear hm
            have HX' : Hid (([92, 34] : List UInt8).length ≤ 16 ∧ (acc ++ [92, 34]) ++ quoteB f (s.data.toList.drop (pos + (Utf8.decode s pos).2)) = tot) := HX
            clear HX
            obtain ⟨r, hrr⟩ : ∃ r : Int, r = ((Utf8.decode s pos).1 : Int) := ⟨_, rfl⟩
            have hnx' : ∀ ty, (Instr.next (.pointer (some ⟨W1.heap.size, 0, none⟩)) true ty).run Tryd.prog wr = .ok (.tuple #[.bool true, .int .i64 pos, .int .i32 34]) (wr.iterAt W1.heap.size s (pos + (Utf8.decode s pos).2)) := fun ty => by rw [← hz]; exact hnx ty
            have hstr : ∀ W, Calls Tryd.prog 26 #[.int .i32 34, .string (s.extract pos s.size)] W fun e w' => e = .returned (.bool false) ∧ W = w' := fun W => by rw [← hz]; exact stray_at s pos false HS.out W
            have HSTR := Lib.hid hstr
            clear hnx hz hstr hrr
            go_wp2_with (go_at_call 26; refine (HSTR.out _).mono ?_; rintro e w' ⟨rfl, rfl⟩)
            refine (Tryd.Builder_WriteString_k w.heap.size w.heap.size (Lib.byteCells acc) _ _ hI2 (by simp [ByteArray.size]; omega) ?_).mono ?_
            · have h1 := HSZ.out; omega
            rintro e W2 ⟨rfl, h1, b1, k1⟩
            go_wp2
            go_roundw
            case rel => exact again hit2 hbw2 (Below.refl _ _) hz1 (by omega) (by omega) (by omega) hal HX' rfl h1 rfl b1 k1
            case measure =>
              simp only [World.iterPos, iter_later hit2 (Below.refl _ _) hz1 k1, hit]
              omega
          · have hcv : ∀ W, (convert 21 9 (.int .i32 92)).run Tryd.prog W = .ok (.string ⟨#[92]⟩) W := fun _ => by kernel_rfl
            have hz : ((Utf8.decode s pos).1 : Int) = 92 := by omega
            rw [hm] at HX
            clear hm
            have HX' : Hid (([92, 92] : List UInt8).length ≤ 16 ∧ (acc ++ [92, 92]) ++ quoteB f (s.data.toList.drop (pos + (Utf8.decode s pos).2)) = tot) := HX
            clear HX
            obtain ⟨r, hrr⟩ : ∃ r : Int, r = ((Utf8.decode s pos).1 : Int) := ⟨_, rfl⟩
            have hnx' : ∀ ty, (Instr.next (.pointer (some ⟨W1.heap.size, 0, none⟩)) true ty).run Tryd.prog wr = .ok (.tuple #[.bool true, .int .i64 pos, .int .i32 92]) (wr.iterAt W1.heap.size s (pos + (Utf8.decode s pos).2)) := fun ty => by rw [← hz]; exact hnx ty
            have hstr : ∀ W, Calls Tryd.prog 26 #[.int .i32 92, .string (s.extract pos s.size)] W fun e w' => e = .returned (.bool false) ∧ W = w' := fun W => by rw [← hz]; exact stray_at s pos false HS.out W
            have HSTR := Lib.hid hstr
            clear hnx hz hstr hrr
            go_wp2_with (go_at_call 26; refine (HSTR.out _).mono ?_; rintro e w' ⟨rfl, rfl⟩)
            refine (Tryd.Builder_WriteString_k w.heap.size w.heap.size (Lib.byteCells acc) _ _ hI2 (by simp [ByteArray.size]; omega) ?_).mono ?_
            · have h1 := HSZ.out; omega
            rintro e W2 ⟨rfl, h1, b1, k1⟩
            go_wp2
            go_roundw
            case rel => exact again hit2 hbw2 (Below.refl _ _) hz1 (by omega) (by omega) (by omega) hal HX' rfl h1 rfl b1 k1
            case measure =>
              simp only [World.iterPos, iter_later hit2 (Below.refl _ _) hz1 k1, hit]
              omega
        · have hX2 := quoteOne_seen _ hst (by rw [decodeL_drop]; exact hm)
          have hX3 := quoteOne_hex _ hst (by rw [decodeL_drop]; exact hm)
          rw [decodeL_drop] at hX2 hX3
          have e1 : (((Utf8.decode s pos).1 : Int) == 34) = false := by simp; omega
          have e2 : (((Utf8.decode s pos).1 : Int) == 92) = false := by simp; omega
          clear hst hm
          by_cases hr : 32 ≤ (Utf8.decode s pos).1 ∧ (Utf8.decode s pos).1 ≤ 126
          · have HX := HR.out _ (hX2 hr)
            obtain ⟨r1, r2⟩ := hr
            clear hX2 hX3 HR
            go_wp2_with (first | (go_at_call 26; refine (stray_at s pos false HS.out _).mono ?_; rintro e w' ⟨rfl, rfl⟩) | (go_at_call 32; refine (Tryd.Builder_WriteRune_k w.heap.size w.heap.size (Lib.byteCells acc) _ (by omega) (by omega) _ hI2 (by omega) (by have h1 := HSZ.out; omega)).mono ?_))
            rintro e W2 ⟨rfl, h1, b1, k1⟩
            go_wp2
            go_roundw
            case rel => exact again hit2 hbw2 (Below.refl _ _) hz1 (by omega) (by omega) (by omega) hal HX (by rw [byteCells_encodeRune]) h1 rfl b1 k1
            case measure =>
              simp only [World.iterPos, iter_later hit2 (Below.refl _ _) hz1 k1, hit]
              omega
          · have HX := HR.out _ (hX3 hr)
            have hr' : (Utf8.decode s pos).1 < 32 ∨ 126 < (Utf8.decode s pos).1 := by omega
            have hx6 := (hexF_len 5 (Utf8.decode s pos).1).2
            clear hX2 hX3 HR hr
            rcases hr' with hr' | hr'
            all_goals
              go_wp2_with (first | (go_at_call 26; refine (stray_at s pos false HS.out _).mono ?_; rintro e w' ⟨rfl, rfl⟩) | (go_at_call 31; refine (format16 (Utf8.decode s pos).1 (by omega) _ hg2).mono ?_; rintro e w2 ⟨rfl, hb2⟩))
              refine (Tryd.Builder_WriteString_k w.heap.size w.heap.size (Lib.byteCells acc) _ _ (later hI2 hb2) (by rw [size_app3]; omega) ?_).mono ?_
              · have h1 := hb2.size; have h2 := HSZ.out; omega
              rintro e W2 ⟨rfl, h1, b1, k1⟩
              go_wp2
              go_roundw
              case rel => exact again hit2 hbw2 hb2 hz1 (by omega) (by omega) (by omega) hal HX (by rw [strCells_eq, app_list3]) h1 rfl b1 k1
              case measure =>
                simp only [World.iterPos, iter_later hit2 hb2 hz1 k1, hit]
                omega
    · have hnx : ∀ ty, (Instr.next (.pointer (some ⟨W1.heap.size, 0, none⟩)) true ty).run Tryd.prog wr = _ := fun ty => Lib.run_next_end_at wr W1.heap.size s pos ty hit hp
      have HN := hn.out
      rw [drop_all s pos hp, quoteB_nil, List.append_nil] at HN
      have HT : Hid (quoteL s.data.toList = acc ++ [34]) := by
        show quoteL s.data.toList = acc ++ [34]
        rw [HN, ht, quoteL, ← size_eq]
        rfl
      clear HN hn ht
      have hbal : (Lib.byteCells acc).length ≤ 1 + 16 * pos := by rw [Lib.byteCells_length]; exact hal
      go_wp2_with (go_at_call 30; refine (Tryd.Builder_WriteByte_k w.heap.size w.heap.size _ 34 _ hI (by omega) (by omega)).mono ?_; rintro e W2 ⟨rfl, h1, b1, k1⟩)
      have hI3 : IsBuilderF 46 5 w.heap.size w.heap.size (byteCells (acc ++ [34])) W2 := by rw [byteCells_append]; exact Or.inr h1
      have hz3 : w.heap.size ≤ W2.heap.size := by have := b1.size; omega
      clear h1
      go_wp2_with (go_at_call 29; refine (Tryd.Builder_String_any_k w.heap.size w.heap.size _ _ hI3 hz3).mono ?_; rintro e W3 ⟨rfl, h2, b2, k2⟩)
      go_ret
      rw [HT.out]
      exact ⟨rfl, (hbw.trans b1).trans b2⟩
end Go.Proofs.YtplgiagjgmlbcaaDoor.Nm
