/- A slice of deeds of the statements' trees as an argument; a slice of texts. -/
import Derived.Test.YtimjggkdpmgpjaaGreatDoorHFiEachOC
import Derived.BigQuiet
import Derived.Deep.QuietTactic
import Derived.Deep.Cut
import Derived.Deep.DeepCutAuto
import Derived.Handy
import Derived.Test.YtimjggkdpmgpjaaGreatDoorRows
import Derived.WalkKit
import Derived.ProofKit
import Derived.OpenShut
import Derived.Lib.SmallJoins
import Derived.SizedLaws
import Derived.Deep.Slices
import Derived.Test.YtimjggkdpmgpjaaGreatDoorHCaAll2
import Derived.Test.YtimjggkdpmgpjaaGreatDoorHPaShelf
import Derived.Test.YtimjggkdpmgpjaaGreatDoorHPaSplit
import Derived.Carry
import Derived.SliceStrings

namespace Go.Proofs.YtimjggkdpmgpjaaGreatDoor
open Go Go.RowKit Go.Nam
set_option linter.unusedSimpArgs false
set_option linter.unusedVariables false
attribute [local go_sem] st_nil st_fun
/-- how many are told -/
theorem each_count {len : Nat} {en m : Int} (hm : m = if 0 < en ∧ en < (len : Int) then en else (len : Int)) (P : Nat → Prop) (h : ((∀ t : Nat, t < len → (((t : Int) + 1) != en) = true) ∧ P len) ∨ ∃ q : Nat, q < len ∧ (∀ t : Nat, t < q → (((t : Int) + 1) != en) = true) ∧ (((q : Int) + 1) != en) = false ∧ P (q + 1)) : ∃ k : Nat, (k : Int) = m ∧ P k := by
  rcases h with ⟨h1, h2⟩ | ⟨q, h0, h1, h2, h3⟩
  · refine ⟨len, ?_, h2⟩
    rw [hm]
    by_cases c : 0 < en ∧ en < (len : Int)
    · have := h1 (en - 1).toNat (by omega)
      rw [show (((en - 1).toNat : Nat) : Int) + 1 = en by omega] at this
      simp at this
    · rw [if_neg c]
  · refine ⟨q + 1, ?_, h3⟩
    have e : (q : Int) + 1 = en := by simpa using h2
    rw [hm]
    by_cases c : 0 < en ∧ en < (len : Int)
    · rw [if_pos c]; omega
    · rw [if_neg c]; omega
set_option maxRecDepth 100000 in
set_option maxHeartbeats 32000000 in
theorem findEachLaw (a : Option Addr) (n c : Nat) (hn : n ≤ 9223372036854775807) (X : Nat → A19) (hX : ∀ i, i < n → (X i).ok) (en : Int) (w : World) (hI : IsA19 w a n X) :
    Calls Tryz.prog 4 #[.slice a n c, .int .i64 en] w fun e w' => e = .returned (.bool true) ∧ Below w.heap.size w w' := by
  have hb1 : Below w.heap.size w (w.alloc (.cells #[.int .i64 en] 3)) := below_new1 _ _
  have HBT := built19_any a n c hn X hX _ (hI.below hb1)
  have HAW : Hid (∀ V : World, Calls Tryz.prog 8 #[] V fun e w' => e = .returned (.bool true) ∧ Below V.heap.size V w') := awake19_any
  have ub : Blk (w.alloc (.cells #[.int .i64 en] 3)) w.heap.size 3 #[.int .i64 en] := Blk.new _ _ _
  have HU : Hid (Blk (w.alloc (.cells #[.int .i64 en] 3)) w.heap.size 3 #[.int .i64 en] ∧ Below w.heap.size w (w.alloc (.cells #[.int .i64 en] 3)) ∧ w.heap.size < (w.alloc (.cells #[.int .i64 en] 3)).heap.size) := ⟨ub, hb1, ub.lt⟩
  have hzf := n5_zero
  clear hX hI hb1 ub
  go_enter Tryz.func4, Tryz.ntmps4
  go_wp2_with fail
  generalize (w.alloc (.cells #[.int .i64 en] 3)) = w1 at *
  refine HBT.mono ?_
  rintro e w2 ⟨x, mf, ml, mc, cp, r, all, F, rfl, hT⟩
  have HT1 : Hid (BT19 w1 w2 x mf ml mc cp r all F) := hT
  clear HBT hT
  go_wp2_with fail
  refine (HAW.out _).mono ?_
  rintro e w3 ⟨rfl, hb3⟩
  have HT2 : Hid (BT19 w1 w3 x mf ml mc cp r all F) := HT1.out.below hb3
  have HR := HT2.out.allR2
  have hlen := HT2.out.allLen
  obtain ⟨L, hL⟩ : ∃ L, L = allP F all := ⟨_, rfl⟩
  have HL : Hid (L = allP F all) := hL
  rw [← hL] at HR hlen
  clear hb3 HT1 hL HAW
  go_wp2_with fail
  refine HR.mono ?_
  rintro e w4 ⟨a4, c4, rfl, hrd, hz4, hb4⟩
  have hlts := HT2.out.bi.im
  obtain ⟨H, D, hBJ⟩ := (HT2.out.below hb4).bi.fix
  have HK : Hid (∀ d, F.dr d = true → F.K d ≤ 16384 ∧ d ≤ all) := fun d hd => ⟨HT2.out.bi.kle hd, (hBJ.dm d hd).2⟩
  have HNM : Hid (∀ d, F.dr d = true → ∀ i, i < F.K d → isName (F.S d i).data.toList = true) := HT2.out.nm
  -- the boxes
  have hl4 := hBJ.im.lts
  have hbe : w.heap.size < w4.heap.size := Nat.lt_of_lt_of_le (Nat.lt_of_lt_of_le HU.out.2.2 HT2.out.bl.size) hb4.size
  have hxe := HT2.out.bi.lt
  have hwl := HU.out.2.2
  have hw3 := HT2.out.bl.size
  have hx3 := (show x < w3.heap.size ∧ mf < w3.heap.size ∧ ml < w3.heap.size ∧ mc < w3.heap.size from by
    obtain ⟨H', D', hB'⟩ := HT2.out.bi.fix
    exact hB'.im.lts)
  have HB : Hid (∀ y, (y = w4.heap.size + 3 ∨ y = x ∨ y = mf ∨ y = ml ∨ y = mc) → ¬ fte a4 (w4.heap.size + 1 + 1) (w4.heap.size + 1) w4.heap.size w.heap.size () y) := fun y hy q => by
    have hy2 : y = w4.heap.size + 3 ∨ (w1.heap.size ≤ y ∧ y < w3.heap.size) := by
      rcases hy with h | h | h | h | h <;> first | (left; exact h) | (right; subst h; omega)
    have h43 := hb4.size
    rcases q with q | q | q | q | ⟨o, q⟩
    · omega
    · omega
    · omega
    · omega
    · have := hz4 y o q
      omega
  have HZA : Hid (∀ z o, a4 = some ⟨z, o, none⟩ → w.heap.size ≤ z) := fun z o q => by have := (hz4 z o q).1; omega
  have HDD : Hid (w4.heap.size + 1 + 1 ≠ w4.heap.size + 1 ∧ w4.heap.size + 1 + 1 ≠ w4.heap.size ∧ w4.heap.size + 1 + 1 ≠ w.heap.size ∧ w4.heap.size + 1 ≠ w4.heap.size ∧ w4.heap.size + 1 ≠ w.heap.size ∧ ∀ z o, a4 = some ⟨z, o, none⟩ → z ≠ w4.heap.size + 1 + 1 ∧ z ≠ w4.heap.size + 1) := ⟨by omega, by omega, by omega, by omega, by omega, fun z o q => by have := hz4 z o q; omega⟩
  have HW4 : Hid (BJ w4 x mf ml mc cp all F H D ∧ IsRd w4 a4 L ∧ (∀ z o, a4 = some ⟨z, o, none⟩ → z < w4.heap.size) ∧ Blk w4 w.heap.size 3 #[.int .i64 en] ∧ Below w.heap.size w w4 ∧ L.length ≤ 1000000 ∧ w.heap.size < w4.heap.size) := by
    have h14 := HT2.out.bl.trans (hb4.mono HT2.out.bl.size)
    exact ⟨hBJ, hrd, fun z o q => (hz4 z o q).2, HU.out.1.below h14 HU.out.1.lt, HU.out.2.1.trans (h14.mono HU.out.2.1.size), hlen, hbe⟩
  clear hrd hz4 hb4 hlts hBJ hl4 hbe hxe hwl hw3 hx3 HR HU HT2
  have hb5 : Below w4.heap.size w4 (((w4.alloc (.cells #[.slice a4 L.length c4] 36)).alloc (.cells #[.int .i64 0] 3)).alloc (.cells #[.bool true] 4)) := below_new3 _ _ _ _
  have hsz5 : (((w4.alloc (.cells #[.slice a4 L.length c4] 36)).alloc (.cells #[.int .i64 0] 3)).alloc (.cells #[.bool true] 4)).heap.size = w4.heap.size + 3 := by simp
  have HQ0 : EQ L a4 c4 en (w4.heap.size + 1 + 1) (w4.heap.size + 1) w4.heap.size w.heap.size 0 (((w4.alloc (.cells #[.slice a4 L.length c4] 36)).alloc (.cells #[.int .i64 0] 3)).alloc (.cells #[.bool true] 4)) := by
    have k1 : Blk (((w4.alloc (.cells #[.slice a4 L.length c4] 36)).alloc (.cells #[.int .i64 0] 3)).alloc (.cells #[.bool true] 4)) (w4.heap.size + 1 + 1) 4 #[.bool true] := Blk.new2 _ _ _ _ _
    have k2 : Blk (((w4.alloc (.cells #[.slice a4 L.length c4] 36)).alloc (.cells #[.int .i64 0] 3)).alloc (.cells #[.bool true] 4)) (w4.heap.size + 1) 3 #[.int .i64 0] := (Blk.new1 _ _ _ _).alloc _
    have k3 : Blk (((w4.alloc (.cells #[.slice a4 L.length c4] 36)).alloc (.cells #[.int .i64 0] 3)).alloc (.cells #[.bool true] 4)) w4.heap.size 36 #[.slice a4 L.length c4] := ((Blk.new _ _ _).alloc _).alloc _
    exact ⟨k1, k2, k3, HW4.out.2.2.2.1.below hb5 HW4.out.2.2.2.1.lt, HW4.out.2.1.below hb5, fun z o q => Nat.lt_of_lt_of_le (HW4.out.2.2.1 z o q) hb5.size⟩
  have hoc := each_oc (L := L) (a := a4) (c := c4) (bs := w4.heap.size + 1 + 1) (bn := w4.heap.size + 1) (bw := w4.heap.size) (be := w.heap.size) (x := x) (mf := mf) (ml := ml) (mc := mc) (rm := (((w4.alloc (.cells #[.slice a4 L.length c4] 36)).alloc (.cells #[.int .i64 0] 3)).alloc (.cells #[.bool true] 4)).heap.size) (en := en) (H := H) HDD.out HW4.out.2.2.2.2.2.1 (fun y hy => HB.out y (by rw [← hsz5]; exact hy))
  have HEA := each_any (((w4.alloc (.cells #[.slice a4 L.length c4] 36)).alloc (.cells #[.int .i64 0] 3)).alloc (.cells #[.bool true] 4)) (fun args w => rfl) hoc HL.out HK.out HNM.out () (HW4.out.1.below hb5) HQ0
  have HW5 : Hid (Below w.heap.size w (((w4.alloc (.cells #[.slice a4 L.length c4] 36)).alloc (.cells #[.int .i64 0] 3)).alloc (.cells #[.bool true] 4)) ∧ w.heap.size ≤ w4.heap.size ∧ ∀ z o, a4 = some ⟨z, o, none⟩ → w.heap.size ≤ z) := ⟨HW4.out.2.2.2.2.1.trans (hb5.mono HW4.out.2.2.2.2.1.size), HW4.out.2.2.2.2.1.size, HZA.out⟩
  have hl1 : (L.length : Int) ≤ 1000000 := by have := HW4.out.2.2.2.2.2.1; omega
  have hl0 : (0 : Int) ≤ (L.length : Int) := by omega
  clear hb5 hsz5 HQ0 hoc HB HL HK HNM
  go_wp2_with fail
  refine HEA.mono ?_
  rintro e w6 ⟨rfl, s', hres, ht6, _⟩
  obtain ⟨m, hm⟩ : ∃ m : Int, m = if 0 < en ∧ en < (L.length : Int) then en else (L.length : Int) := ⟨_, rfl⟩
  obtain ⟨k, hk, hq6⟩ := each_count hm (fun j => EQ L a4 c4 en (w4.heap.size + 1 + 1) (w4.heap.size + 1) w4.heap.size w.heap.size j w6) hres
  have H6 : Hid (EQ L a4 c4 en (w4.heap.size + 1 + 1) (w4.heap.size + 1) w4.heap.size w.heap.size k w6 ∧ Below w.heap.size w w6) := ⟨hq6, HW5.out.1.trans (ht6.below HW5.out.1.size (fun z q => by
    rcases q with q | q | q | q | ⟨o, q⟩
    · have := HW5.out.2.1; omega
    · have := HW5.out.2.1; omega
    · have := HW5.out.2.1; omega
    · omega
    · exact HW5.out.2.2 z o q))⟩
  have w0 : w6.cell? ⟨w4.heap.size, 0, none⟩ = some (.slice a4 L.length c4) := (hq6.w.cell 0).trans rfl
  have e0 : w6.cell? ⟨w.heap.size, 0, none⟩ = some (.int .i64 en) := (hq6.e.cell 0).trans rfl
  have HM : Hid ((k : Int) = m) := hk
  have hmm : Hid (m = if 0 < en ∧ en < (L.length : Int) then en else (L.length : Int)) := hm
  clear hres ht6 hk hq6 hm HEA HW5 HW4 HDD
  generalize w4.heap.size = b4 at *
  have hcase : ¬ (0 < en) ∨ (0 < en ∧ en < (L.length : Int)) ∨ (0 < en ∧ ¬ en < (L.length : Int)) := by omega
  have HXF : Hid (∀ V : World, Calls Tryz.prog 13 #[.pointer (some ⟨x, 0, none⟩), .nilFunc] V fun e w' => e = .returned (.int .i64 1) ∧ w' = V) := fun V => each_nil _ _ (.inr ⟨rfl, x, rfl⟩) (.inl rfl) V
  have HKM : Hid ((¬ (0 < en) → (k : Int) = (L.length : Int)) ∧ ((0 < en ∧ en < (L.length : Int)) → (k : Int) = en) ∧ ((0 < en ∧ ¬ en < (L.length : Int)) → (k : Int) = (L.length : Int))) := by
    rw [HM.out, hmm.out]
    exact ⟨fun q => if_neg (fun q2 => q q2.1), fun q => if_pos q, fun q => if_neg (fun q2 => q.2 q2.2)⟩
  clear HM hmm
  rcases hcase with h1 | ⟨h1, h2⟩ | ⟨h1, h2⟩
  · have HK2 : Hid ((k : Int) = (L.length : Int)) := HKM.out.1 h1
    clear HKM
    go_wp2_with fail
    refine (all_nil _).mono ?_
    rintro e w7 ⟨rfl, hb7⟩
    have H7 : Hid (EQ L a4 c4 en (b4 + 1 + 1) (b4 + 1) b4 w.heap.size k w7 ∧ Below w.heap.size w w7) := ⟨H6.out.1.keep (T := fun _ => False) (Turns.of_below hb7) (fun b q => q.elim), H6.out.2.trans (hb7.mono H6.out.2.size)⟩
    clear hb7 H6 w0 e0
    go_wp2_with fail
    refine (brlookup_nil _ _).mono ?_
    rintro e w8 ⟨rfl, hb8⟩
    have H8 : Hid (EQ L a4 c4 en (b4 + 1 + 1) (b4 + 1) b4 w.heap.size k (w8.alloc (.cells #[.int .i64 0, .int .i64 0, .int .i64 0, .int .i64 0, .int .u64 0] 40)) ∧ Below w.heap.size w (w8.alloc (.cells #[.int .i64 0, .int .i64 0, .int .i64 0, .int .i64 0, .int .u64 0] 40))) := by
      have h1 : Below w7.heap.size w7 (w8.alloc (.cells #[.int .i64 0, .int .i64 0, .int .i64 0, .int .i64 0, .int .u64 0] 40)) := hb8.alloc hb8.size _
      exact ⟨H7.out.1.keep (T := fun _ => False) (Turns.of_below h1) (fun b q => q.elim), H7.out.2.trans (h1.mono H7.out.2.size)⟩
    clear hb8 H7
    go_wp2_with fail
    generalize (w8.alloc (.cells #[.int .i64 0, .int .i64 0, .int .i64 0, .int .i64 0, .int .u64 0] 40)) = w9 at *
    refine (walk_nil _).mono ?_
    rintro e w10 ⟨rfl, hb10⟩
    have H10 : Hid (EQ L a4 c4 en (b4 + 1 + 1) (b4 + 1) b4 w.heap.size k w10 ∧ Below w.heap.size w w10) := ⟨H8.out.1.keep (T := fun _ => False) (Turns.of_below hb10) (fun b q => q.elim), H8.out.2.trans (hb10.mono H8.out.2.size)⟩
    clear hb10 H8
    go_wp2_with fail
    refine (paths_nil _ _).mono ?_
    rintro e w11 ⟨rfl, hb11⟩
    have H11 : Hid (EQ L a4 c4 en (b4 + 1 + 1) (b4 + 1) b4 w.heap.size k w11 ∧ Below w.heap.size w w11) := ⟨H10.out.1.keep (T := fun _ => False) (Turns.of_below hb11) (fun b q => q.elim), H10.out.2.trans (hb11.mono H10.out.2.size)⟩
    clear hb11 H10
    have z0 : w11.cell? ⟨b4 + 1 + 1, 0, none⟩ = some (.bool true) := (H11.out.1.s.cell 0).trans rfl
    have z1 : w11.cell? ⟨b4 + 1, 0, none⟩ = some (.int .i64 (k : Int)) := (H11.out.1.n.cell 0).trans rfl
    have z2 : ((k : Int) == (k : Int)) = true := by simp
    rw [HK2.out] at z1 z2
    go_wp2_with fail
    refine (HXF.out _).mono ?_
    rintro e w12 ⟨rfl, rfl⟩
    go_wp2_with fail
    go_ret
    exact ⟨by first | rfl | simp, H11.out.2⟩
  · have HK2 : Hid ((k : Int) = en) := HKM.out.2.1 ⟨h1, h2⟩
    clear HKM
    go_wp2_with fail
    refine (all_nil _).mono ?_
    rintro e w7 ⟨rfl, hb7⟩
    have H7 : Hid (EQ L a4 c4 en (b4 + 1 + 1) (b4 + 1) b4 w.heap.size k w7 ∧ Below w.heap.size w w7) := ⟨H6.out.1.keep (T := fun _ => False) (Turns.of_below hb7) (fun b q => q.elim), H6.out.2.trans (hb7.mono H6.out.2.size)⟩
    clear hb7 H6 w0 e0
    go_wp2_with fail
    refine (brlookup_nil _ _).mono ?_
    rintro e w8 ⟨rfl, hb8⟩
    have H8 : Hid (EQ L a4 c4 en (b4 + 1 + 1) (b4 + 1) b4 w.heap.size k (w8.alloc (.cells #[.int .i64 0, .int .i64 0, .int .i64 0, .int .i64 0, .int .u64 0] 40)) ∧ Below w.heap.size w (w8.alloc (.cells #[.int .i64 0, .int .i64 0, .int .i64 0, .int .i64 0, .int .u64 0] 40))) := by
      have h1 : Below w7.heap.size w7 (w8.alloc (.cells #[.int .i64 0, .int .i64 0, .int .i64 0, .int .i64 0, .int .u64 0] 40)) := hb8.alloc hb8.size _
      exact ⟨H7.out.1.keep (T := fun _ => False) (Turns.of_below h1) (fun b q => q.elim), H7.out.2.trans (h1.mono H7.out.2.size)⟩
    clear hb8 H7
    go_wp2_with fail
    generalize (w8.alloc (.cells #[.int .i64 0, .int .i64 0, .int .i64 0, .int .i64 0, .int .u64 0] 40)) = w9 at *
    refine (walk_nil _).mono ?_
    rintro e w10 ⟨rfl, hb10⟩
    have H10 : Hid (EQ L a4 c4 en (b4 + 1 + 1) (b4 + 1) b4 w.heap.size k w10 ∧ Below w.heap.size w w10) := ⟨H8.out.1.keep (T := fun _ => False) (Turns.of_below hb10) (fun b q => q.elim), H8.out.2.trans (hb10.mono H8.out.2.size)⟩
    clear hb10 H8
    go_wp2_with fail
    refine (paths_nil _ _).mono ?_
    rintro e w11 ⟨rfl, hb11⟩
    have H11 : Hid (EQ L a4 c4 en (b4 + 1 + 1) (b4 + 1) b4 w.heap.size k w11 ∧ Below w.heap.size w w11) := ⟨H10.out.1.keep (T := fun _ => False) (Turns.of_below hb11) (fun b q => q.elim), H10.out.2.trans (hb11.mono H10.out.2.size)⟩
    clear hb11 H10
    have z0 : w11.cell? ⟨b4 + 1 + 1, 0, none⟩ = some (.bool true) := (H11.out.1.s.cell 0).trans rfl
    have z1 : w11.cell? ⟨b4 + 1, 0, none⟩ = some (.int .i64 (k : Int)) := (H11.out.1.n.cell 0).trans rfl
    have z2 : ((k : Int) == (k : Int)) = true := by simp
    rw [HK2.out] at z1 z2
    go_wp2_with fail
    refine (HXF.out _).mono ?_
    rintro e w12 ⟨rfl, rfl⟩
    go_wp2_with fail
    go_ret
    exact ⟨by first | rfl | simp, H11.out.2⟩
  · have HK2 : Hid ((k : Int) = (L.length : Int)) := HKM.out.2.2 ⟨h1, h2⟩
    clear HKM
    go_wp2_with fail
    refine (all_nil _).mono ?_
    rintro e w7 ⟨rfl, hb7⟩
    have H7 : Hid (EQ L a4 c4 en (b4 + 1 + 1) (b4 + 1) b4 w.heap.size k w7 ∧ Below w.heap.size w w7) := ⟨H6.out.1.keep (T := fun _ => False) (Turns.of_below hb7) (fun b q => q.elim), H6.out.2.trans (hb7.mono H6.out.2.size)⟩
    clear hb7 H6 w0 e0
    go_wp2_with fail
    refine (brlookup_nil _ _).mono ?_
    rintro e w8 ⟨rfl, hb8⟩
    have H8 : Hid (EQ L a4 c4 en (b4 + 1 + 1) (b4 + 1) b4 w.heap.size k (w8.alloc (.cells #[.int .i64 0, .int .i64 0, .int .i64 0, .int .i64 0, .int .u64 0] 40)) ∧ Below w.heap.size w (w8.alloc (.cells #[.int .i64 0, .int .i64 0, .int .i64 0, .int .i64 0, .int .u64 0] 40))) := by
      have h1 : Below w7.heap.size w7 (w8.alloc (.cells #[.int .i64 0, .int .i64 0, .int .i64 0, .int .i64 0, .int .u64 0] 40)) := hb8.alloc hb8.size _
      exact ⟨H7.out.1.keep (T := fun _ => False) (Turns.of_below h1) (fun b q => q.elim), H7.out.2.trans (h1.mono H7.out.2.size)⟩
    clear hb8 H7
    go_wp2_with fail
    generalize (w8.alloc (.cells #[.int .i64 0, .int .i64 0, .int .i64 0, .int .i64 0, .int .u64 0] 40)) = w9 at *
    refine (walk_nil _).mono ?_
    rintro e w10 ⟨rfl, hb10⟩
    have H10 : Hid (EQ L a4 c4 en (b4 + 1 + 1) (b4 + 1) b4 w.heap.size k w10 ∧ Below w.heap.size w w10) := ⟨H8.out.1.keep (T := fun _ => False) (Turns.of_below hb10) (fun b q => q.elim), H8.out.2.trans (hb10.mono H8.out.2.size)⟩
    clear hb10 H8
    go_wp2_with fail
    refine (paths_nil _ _).mono ?_
    rintro e w11 ⟨rfl, hb11⟩
    have H11 : Hid (EQ L a4 c4 en (b4 + 1 + 1) (b4 + 1) b4 w.heap.size k w11 ∧ Below w.heap.size w w11) := ⟨H10.out.1.keep (T := fun _ => False) (Turns.of_below hb11) (fun b q => q.elim), H10.out.2.trans (hb11.mono H10.out.2.size)⟩
    clear hb11 H10
    have z0 : w11.cell? ⟨b4 + 1 + 1, 0, none⟩ = some (.bool true) := (H11.out.1.s.cell 0).trans rfl
    have z1 : w11.cell? ⟨b4 + 1, 0, none⟩ = some (.int .i64 (k : Int)) := (H11.out.1.n.cell 0).trans rfl
    have z2 : ((k : Int) == (k : Int)) = true := by simp
    rw [HK2.out] at z1 z2
    go_wp2_with fail
    refine (HXF.out _).mono ?_
    rintro e w12 ⟨rfl, rfl⟩
    go_wp2_with fail
    go_ret
    exact ⟨by first | rfl | simp, H11.out.2⟩
end Go.Proofs.YtimjggkdpmgpjaaGreatDoor

namespace Go.Proofs.YtimjggkdpmgpjaaGreatDoor
open Go.ChangeShapes Go.WideShapes Go.ChangeAt Go.RowKit Go.Joins
set_option linter.unusedVariables false
set_option linter.unusedSimpArgs false
theorem a19cell_lt {W : World} {b o : Nat} {v : Value} (h : W.cell? ⟨b, o, none⟩ = some v) : b < W.heap.size := World.block_lt_of_cell? _ _ h
set_option maxRecDepth 100000 in
theorem open_acts19 {H : Type} {enc : TypeId × Value → H} {W : World} {a0 : Option Addr} {len cap fuel : Nat} {x : DataW H × List MemPlace}
    (hf : DataW.trod enc Tryz.prog W 0 (fun _ => true) true fuel 22 [.slice a0 len cap] = some x) (hsz : ∀ n ∈ x.1.weights Tryz.prog 22, n ≤ reachBytes) :
    ∃ (A : Nat → A19), len * 40 ≤ 140737488351232 ∧ (a0 = none → len = 0 ∧ cap = 0) ∧ (∀ i, i < len → (A i).ok) ∧ IsA19 W a0 len A := by
  rcases Deep.open_slice Tryz.underlying22 hf with ⟨hcs, hx⟩ | ⟨a, len', cap', m, n, D, Pl, hcs, _, hl, hm, hmm, hx, hel⟩
  · simp at hcs
    obtain ⟨rfl, rfl, rfl⟩ := hcs
    exact ⟨fun _ => ⟨false, false, 0, 0, ⟨#[]⟩⟩, by omega, fun _ => ⟨rfl, rfl⟩, fun i hi => absurd hi (by omega), fun i hi => absurd hi (by omega)⟩
  · simp at hcs
    obtain ⟨rfl, rfl, rfl⟩ := hcs
    subst hx
    simp only [if_true] at hmm
    subst hmm
    have hu := Tryz.underlying22
    have hby : Tryz.prog.bytesOf 56 = 40 := by kernel_rfl
    have hw0 := hsz ((((List.range len).map D).length + ((List.range (m - len)).map fun j => D (len + j)).length) * Tryz.prog.bytesOf 56) (by simp [DataW.weights, hu])
    rw [hby] at hw0
    simp only [List.length_map, List.length_range] at hw0
    have hlen4 : len * 40 ≤ 140737488351232 := by
      unfold reachBytes at hw0
      omega
    have hce : Tryz.prog.cellsOf 56 = 5 := by kernel_rfl
    have hci : Tryz.prog.cellsOf 3 = 1 := by kernel_rfl
    have hcu : Tryz.prog.cellsOf 9 = 1 := by kernel_rfl
    have hc8 : Tryz.prog.cellsOf 4 = 1 := by kernel_rfl
    have hcl2 : Tryz.prog.cellsOf 54 = 2 := by kernel_rfl
    have hsp : 0 < len → a.spot = none := fun h0 => by
      obtain ⟨cs', h1, _⟩ := hel 0 (by omega)
      rw [hce] at h1
      obtain ⟨_, hcl, hcell⟩ := World.cells?_some h1
      match cs', hcl with
      | [v0, v1, v2, v3, v4], _ => simpa [Addr.add] using World.cell?_spot (hcell 0 (by omega))
    have each : ∀ i, ∃ q : A19, i < len → q.ok ∧ ∃ b o, a = ⟨b, o, none⟩ ∧ b < W.heap.size ∧ W.rangeAt b (o + i * 5) q.cs := by
      intro i
      by_cases hi : i < len
      · obtain ⟨cs', h1, h2⟩ := hel i (by omega)
        rw [hce] at h1
        obtain ⟨_, hcl, hcell⟩ := World.cells?_some h1
        obtain ⟨xs, k, hk, hxy, _, hxl, hfs⟩ := DataW.trod_struct Tryz.underlying56 h2
        match xs, hxl, cs', hcl with
        | [y0, y1, y2, y3], _, [v0, v1, v2, v3, v4], _ =>
          have g0 := hfs 0 _ rfl
          have g1 := hfs 1 _ rfl
          have g4 := hfs 2 _ rfl
          have gl := hfs 3 _ rfl
          simp [hci, hcu, hc8, hcl2] at g0 g1 gl g4
          obtain ⟨zs, k', hk', hzy, _, hzl, hgs⟩ := DataW.trod_struct Tryz.underlying54 gl
          match zs, hzl with
          | [z0, z1], _ =>
          have g2 := hgs 0 _ rfl
          have g3 := hgs 1 _ rfl
          simp [hci, hcu] at g2 g3
          obtain ⟨p0, e0, w0⟩ := DataW.trod_bool Tryz.underlying4 g0
          obtain ⟨p1, e1, w1⟩ := DataW.trod_bool Tryz.underlying4 g1
          obtain ⟨p2, e4, _, w4⟩ := DataW.trod_int Tryz.underlying3 g4
          obtain ⟨q, e2, _, w2⟩ := DataW.trod_int Tryz.underlying3 g2
          obtain ⟨r, e3, _, w3⟩ := DataW.trod_string Tryz.underlying9 g3
          simp at e0 e1 e2 e3 e4
          subst e0 e1 e2 e3 e4
          refine ⟨⟨p0, p1, p2, q, r⟩, fun _ => ⟨⟨bounds_i64 w4, bounds_i64 w2, w3⟩, ?_⟩⟩
          have c0 := hcell 0 (by decide)
          have c1 := hcell 1 (by decide)
          have c2 := hcell 2 (by decide)
          have c3 := hcell 3 (by decide)
          have c4 := hcell 4 (by decide)
          obtain ⟨b, off, spot⟩ := a
          have hspot : spot = none := hsp (by omega)
          subst hspot
          simp only [Addr.add_mid, List.getElem?_cons_zero, List.getElem?_cons_succ] at c0 c1 c2 c3 c4
          refine ⟨b, off, rfl, a19cell_lt c0, fun j v hv => ?_⟩
          match j with
          | 0 => rw [← hv]; exact c0
          | 1 => rw [← hv]; exact c1
          | 2 => rw [← hv]; exact c2
          | 3 => rw [← hv]; exact c3
          | 4 => rw [← hv]; exact c4
          | j + 5 => simp [A19.cs] at hv
      · exact ⟨⟨false, false, 0, 0, ⟨#[]⟩⟩, fun h => absurd h hi⟩
    refine ⟨fun i => Classical.choose (each i), hlen4, fun h => by simp at h, fun i hi => (Classical.choose_spec (each i) hi).1, fun i hi => ?_⟩
    obtain ⟨b, o, rfl, h1, h2⟩ := (Classical.choose_spec (each i) hi).2
    exact ⟨b, o, rfl, h1, h2⟩
theorem open_acts19y {H : Type} {enc : TypeId × Value → H} {W : World} {a0 : Option Addr} {len cap fuel : Nat} {x : DataW H × List MemPlace}
    (hf : DataW.trod enc Tryz.prog W 0 (fun _ => true) true fuel 22 [.slice a0 len cap] = some x) (hsz : ∀ n ∈ x.1.weights Tryz.prog 22, n ≤ reachBytes) :
    ∃ (X : Nat → A19), len ≤ 9223372036854775807 ∧ ((∀ i, i < len → (X i).ok) ∧ IsA19 W a0 len X) := by
  obtain ⟨A, h1, _, h3, h4⟩ := open_acts19 hf hsz
  exact ⟨A, by omega, h3, h4⟩
end Go.Proofs.YtimjggkdpmgpjaaGreatDoor
