/- Inodes in the memory alone: Drop. -/
import Derived.Test.YtojnlmfahgeidaaGreatDoorHDiRRem
import Derived.Test.YtojnlmfahgeidaaGreatDoorHDiSort2
import Derived.Test.YtojnlmfahgeidaaGreatDoorHBytes
import Derived.Test.YtojnlmfahgeidaaGreatDoorHDiFillK
import Derived.Deep.Cut
import Derived.Handy
import Derived.Test.YtojnlmfahgeidaaGreatDoorHDiIndex
import Derived.Test.YtojnlmfahgeidaaGreatDoorHDiLay
import Derived.Test.YtojnlmfahgeidaaGreatDoorHDkWrite
import Derived.LoopTactic

namespace Go.Proofs.YtojnlmfahgeidaaGreatDoor
theorem sgLHInsDrop : (∀ (α : Type) (a : α) (l r : List α), (a :: l) ++ r = a :: (l ++ r)) ∧ (∀ (α : Type) (l : List α), [] ++ l = l) ∧ (∀ (α : Type) (l : List α), l ++ [] = l) ∧ (∀ (α β : Type) (f : α → Option β) (a : α) (l : List α), (a :: l).filterMap f = match f a with | none => l.filterMap f | some b => b :: l.filterMap f) ∧ (∀ (α β : Type) (f : α → Option β), [].filterMap f = []) ∧ (∀ (α : Type) (l : List α) (i : Nat), l.toArray[i]? = l[i]?) ∧ (∀ (α : Type) (a : α) (l : List α), (a :: l)[0]? = some a) ∧ (∀ (α : Type) (a : α) (l : List α) (i : Nat), (a :: l)[i + 1]? = l[i]?) :=
  ⟨fun _ _ _ _ => List.cons_append, fun _ _ => List.nil_append _, fun _ _ => List.append_nil _, fun _ _ _ _ _ => List.filterMap_cons, fun _ _ _ => List.filterMap_nil, fun _ _ _ => List.getElem?_toArray, fun _ _ _ => List.getElem?_cons_zero, fun _ _ _ _ => List.getElem?_cons_succ⟩
theorem sgPHInsDrop : (∀ (α : Type) (l : List α) (i : Nat) (a : α), l.toArray.setIfInBounds i a = (l.set i a).toArray) ∧ (∀ (α : Type) (a b : α) (l : List α), (a :: l).set 0 b = b :: l) ∧ (∀ (α : Type) (a b : α) (l : List α) (i : Nat), (a :: l).set (i + 1) b = a :: l.set i b) :=
  ⟨fun _ _ _ _ => List.setIfInBounds_toArray _ _ _, fun _ _ _ _ => List.set_cons_zero, fun _ _ _ _ _ => List.set_cons_succ⟩
end Go.Proofs.YtojnlmfahgeidaaGreatDoor
namespace Go.Proofs.YtojnlmfahgeidaaGreatDoor
open Go Go.RowKit Go.Nam
set_option linter.unusedSimpArgs false
set_option linter.unusedVariables false
set_option maxRecDepth 100000 in
set_option maxHeartbeats 8000000 in
theorem rswap17_no (a : Option Addr) (n c : Nat) (hn : n ≤ 16384) (N : Nat → Int) (S : Nat → ByteArray) (i : Int) (s : ByteArray) (p : Nat) (hp : FirstN S n p s) (r : Int) (hr : r = if encE i s ≠ 0 then encE i s else 171) (hb : encE i s ≠ 0 ∨ ¬ p < n) (w : World) (hI : IsLkC w a n N S) :
    Calls Tryz.prog 55 #[.slice a n c, lkV i s] w fun e w' => e = .returned (.tuple #[.slice a n c, .int .i64 0, .int .i64 r]) ∧ Below w.heap.size w w' := by
  have HE : Hid (∀ w : World, Calls Tryz.prog 112 #[lkV i s] w fun e w' => e = .returned (.tuple #[.string (encT i s), .int .i64 (encE i s)]) ∧ Below w.heap.size w w') := rencode_any i s
  have HF : Hid (¬ p < n → ∀ W, Below w.heap.size w W → Calls Tryz.prog 20 #[.slice a n c, .string s] W fun e w' => e = .returned (.tuple #[.int .i64 0, .int .i64 (-1)]) ∧ w' = W) := fun h W hW => by
    have := rfind17_any a n c p (by omega) N S s hp _ _ rfl rfl W (hI.below hW)
    rw [if_neg h, if_neg h] at this
    exact this
  have HR : Hid (r = if encE i s ≠ 0 then encE i s else 171) := hr
  clear hr hI hp
  generalize encT i s = ET at *
  generalize encE i s = EE at *
  unfold lkV at *
  have b0 : Blk (w.alloc (.cells #[.int .i64 i, .string s] 58)) w.heap.size 58 #[.int .i64 i, .string s] := Blk.new _ _ _
  have HB0 : Hid (Below w.heap.size w (w.alloc (.cells #[.int .i64 i, .string s] 58))) := below_new1 _ _
  have c0 : (w.alloc (.cells #[.int .i64 i, .string s] 58)).cell? ⟨w.heap.size, 0, none⟩ = some (.int .i64 i) := (b0.cell 0).trans rfl
  have c1 : (w.alloc (.cells #[.int .i64 i, .string s] 58)).cell? ⟨w.heap.size, 1, none⟩ = some (.string s) := (b0.cell 1).trans rfl
  go_enter Tryz.func55, Tryz.ntmps55
  go_wp2_with fail
  generalize (w.alloc (.cells #[.int .i64 i, .string s] 58)) = w0 at *
  refine (HE.out _).mono ?_
  rintro e w1 ⟨rfl, hb1⟩
  have HB1 : Hid (Below w.heap.size w w1) := HB0.out.trans (hb1.mono HB0.out.size)
  have b1 := b0.below hb1 b0.lt
  clear c0 c1 hb1 b0 HB0 HE
  have c1 : w1.cell? ⟨w.heap.size, 1, none⟩ = some (.string s) := (b1.cell 1).trans rfl
  by_cases h0 : EE = 0
  · subst h0
    have hpn : ¬ p < n := by
      rcases hb with h | h
      · exact absurd rfl h
      · exact h
    have HF1 := HF.out hpn w1 HB1.out
    have HR2 : Hid (r = 171) := by show _ = _; rw [HR.out, if_neg (by simp)]
    clear HF HR hb b1
    go_wp2_with fail
    refine HF1.mono ?_
    rintro e w2 ⟨rfl, hw⟩
    subst w2
    go_wp2_with fail
    go_ret3
    exact ⟨by rw [HR2.out] <;> rfl, HB1.out⟩
  · have HR2 : Hid (r = EE) := by show _ = _; rw [HR.out, if_pos h0]
    clear HF HR hb b1
    go_wp2_with fail
    go_ret3
    exact ⟨by rw [HR2.out] <;> rfl, HB1.out⟩
theorem lb_put0 {w : World} {g t cap : Nat} {N : Nat → Int} {S : Nat → ByteArray} {tl : Array Value} (h : Blk w g t (lbC tl cap N S)) (j : Nat) (hj : j < cap) (i : Int) : Blk (w.setCell ⟨g, j * 2, none⟩ (.int .i64 i)) g t (lbC tl cap (upN N j i) S) := by
  have h1 := h.put (j * 2) (.int .i64 i)
  have e : (lbC tl cap N S).setIfInBounds (j * 2) (.int .i64 i) = lbC tl cap (upN N j i) S := by
    unfold lbC
    rw [Array.setIfInBounds_append_left (by rw [va_size]; omega), va_set]
    congr 1
    refine va_congr fun q hq => ?_
    unfold upd lbF upN
    by_cases hq2 : q = j * 2
    · rw [if_pos hq2, if_pos (by omega), if_pos (by omega)]
    · rw [if_neg hq2]
      by_cases hm : q % 2 = 0
      · rw [if_pos hm, if_pos hm, if_neg (by omega)]
      · rw [if_neg hm, if_neg hm]
  rw [e] at h1
  exact h1
set_option maxRecDepth 100000 in
set_option maxHeartbeats 8000000 in
theorem rswap17_ok (a : Option Addr) (n c : Nat) (hn : n ≤ 16384) (hN : a = none → n = 0 ∧ c = 0) (N : Nat → Int) (S : Nat → ByteArray) (i : Int) (s : ByteArray) (p : Nat) (hp : FirstN S n p s) (hpn : p < n) (hi : encE i s = 0) (w : World) (hI : IsLkC w a n N S) :
    Calls Tryz.prog 55 #[.slice a n c, lkV i s] w fun e w' => ∃ g5 c5 : Nat, e = .returned (.tuple #[.slice (some ⟨g5, 0, none⟩) n c5, .int .i64 (N p), .int .i64 0]) ∧ IsLkC w' (some ⟨g5, 0, none⟩) n (upN N p i) S ∧ w.heap.size ≤ g5 ∧ Below w.heap.size w w' := by
  obtain ⟨i0, hi0, hz0, hz1, hz2⟩ := info_parts infoRLk
  have HE : Hid (∀ w : World, Calls Tryz.prog 112 #[lkV i s] w fun e w' => e = .returned (.tuple #[.string (encT i s), .int .i64 0]) ∧ Below w.heap.size w w') := fun w => by
    have := rencode_any i s w
    rw [hi] at this
    exact this
  have HF : Hid (∀ W, Below w.heap.size w W → Calls Tryz.prog 20 #[.slice a n c, .string s] W fun e w' => e = .returned (.tuple #[.int .i64 (N p), .int .i64 (p : Int)]) ∧ w' = W) := fun W hW => by
    have := rfind17_any a n c p (by omega) N S s hp _ _ rfl rfl W (hI.below hW)
    rw [if_pos hpn, if_pos hpn] at this
    exact this
  have HII : Hid (IsLkC w a n N S) := hI
  have HNN : Hid (a = none → n = 0 ∧ c = 0) := hN
  have hp0 : (0 : Int) ≤ (p : Int) := by omega
  have hpz : (p : Int) < (n : Int) := by omega
  clear hI hN hp hi
  generalize encT i s = ET at *
  generalize hNP : N p = NP at *
  unfold lkV at *
  have b0 : Blk (w.alloc (.cells #[.int .i64 i, .string s] 58)) w.heap.size 58 #[.int .i64 i, .string s] := Blk.new _ _ _
  have HB0 : Hid (Below w.heap.size w (w.alloc (.cells #[.int .i64 i, .string s] 58))) := below_new1 _ _
  have c0 : (w.alloc (.cells #[.int .i64 i, .string s] 58)).cell? ⟨w.heap.size, 0, none⟩ = some (.int .i64 i) := (b0.cell 0).trans rfl
  have c1 : (w.alloc (.cells #[.int .i64 i, .string s] 58)).cell? ⟨w.heap.size, 1, none⟩ = some (.string s) := (b0.cell 1).trans rfl
  go_enter Tryz.func55, Tryz.ntmps55
  go_wp2_with fail
  generalize (w.alloc (.cells #[.int .i64 i, .string s] 58)) = w0 at *
  refine (HE.out _).mono ?_
  rintro e W0 ⟨rfl, hb1⟩
  have HB1 : Hid (Below w.heap.size w W0) := HB0.out.trans (hb1.mono HB0.out.size)
  have b1 := b0.below hb1 b0.lt
  have HBX : Hid (Blk W0 w.heap.size 58 #[.int .i64 i, .string s]) := b1
  clear c0 c1 hb1 b0 HB0 HE
  have c1 : W0.cell? ⟨w.heap.size, 1, none⟩ = some (.string s) := (b1.cell 1).trans rfl
  have HF1 := HF.out W0 HB1.out
  clear HF b1
  go_wp2_with fail
  refine HF1.mono ?_
  rintro e w2 ⟨rfl, hw⟩
  subst w2
  clear HF1 c1
  have HE0 : Hid ((W0.alloc (.cells #[] 58)).ownsRow W0.heap.size 58 2 (.slice (some ⟨W0.heap.size, 0, none⟩) 0 0) 0 []) := kown_empty (Blk.new W0 58 #[]) (Nat.le_refl _)
  have HSA : Hid (Below W0.heap.size W0 (W0.alloc (.cells #[] 58))) := (Below.refl _ W0).alloc (Nat.le_refl _) _
  have HSZ : Hid (W0.heap.size ≤ (W0.alloc (.cells #[] 58)).heap.size) := HSA.out.size
  have HIA : Hid (IsLkC (W0.alloc (.cells #[] 58)) a n N S) := (HII.out.below HB1.out).below HSA.out
  go_upto_region 8 with (first | (refine wpList_append_links2 (by rfl) _ _ 28 (by rfl) W0.heap.size 58 i0 (.agg #[.int .i64 0, .string ⟨#[]⟩]) Tryz.underlying28 hi0 hz0 hz1 hz2 rfl (.slice (some ⟨W0.heap.size, 0, none⟩) 0 0) (by rfl) (by exact HE0.out) a n c N S (by rfl) (by exact HIA.out) HNN.out (by omega) (by exact HSZ.out) (fun v2 U2 ho2 hb2 hg2 => ?_); simp only [Act.put, sgPHInsDrop]) | fail)
  obtain ⟨g2, c2, rfl, _⟩ := kown_form ho2 (by omega)
  obtain ⟨tl, hB, htl, hnc, hcm, hBg⟩ := own_lbR ho2
  have HGE : Hid (w.heap.size ≤ g2) := Nat.le_trans HB1.out.size hBg
  have d0 := lb_c0 hB p (by omega)
  have f0 : U2.frozen? ⟨g2, p * 2, none⟩ = false := hB.frozen _
  have c0 : U2.cell? ⟨w.heap.size, 0, none⟩ = some (.int .i64 i) := ((HBX.out.below (HSA.out.trans hb2) HBX.out.lt).cell 0).trans rfl
  have HK : Hid (Blk (U2.setCell ⟨g2, p * 2, none⟩ (.int .i64 i)) g2 58 (lbC tl n (upN N p i) S)) := lb_put0 hB p hpn i
  have HBE : Hid (Below w.heap.size w (U2.setCell ⟨g2, p * 2, none⟩ (.int .i64 i))) := (HB1.out.trans ((HSA.out.trans hb2).mono HB1.out.size)).setCell (p := ⟨g2, p * 2, none⟩) (Nat.le_trans HB1.out.size hBg) _
  clear hB htl hnc hcm hBg ho2 hb2 hg2 HE0 HSA HIA HSZ HNN HII HBX
  go_wp2_with fail
  go_ret3
  exact ⟨g2, c2, rfl, lb_lkC HK.out (Nat.le_refl _), HGE.out, HBE.out⟩
end Go.Proofs.YtojnlmfahgeidaaGreatDoor

namespace Go.Proofs.YtojnlmfahgeidaaGreatDoor
open Go Go.RowKit
set_option linter.unusedSimpArgs false
set_option linter.unusedVariables false
section
variable {w : World} {xp : Value} {a : Int}
set_option maxRecDepth 100000 in
theorem find_err (s : ByteArray) (er : Int) (her : er ≠ 0) (HD : ∀ V, Below w.heap.size w V → Calls Tryz.prog 57 #[xp, .int .i64 a] V fun e w' => e = .returned (.tuple #[.agg nf0, .int .i64 er]) ∧ Below V.heap.size V w') : Calls Tryz.prog 14 #[xp, .int .i64 a, .string s] w fun e w' => e = .returned (.tuple #[.int .i64 0, .int .i64 0, .int .i64 er]) ∧ Below w.heap.size w w' := by
  have hzi : ∀ w, (zeroValue 86).run Tryz.prog w = .ok (.agg nf0) w := zero_nf
  have b0 : (er != 0) = true := bne_iff_ne.2 her
  have hb1 : Below w.heap.size w w := Below.refl _ _
  have H1 := HD _ hb1
  clear HD her
  go_enter Tryz.func14, Tryz.ntmps14
  go_wp2_with fail
  refine H1.mono ?_
  rintro e w2 ⟨rfl, hb2⟩
  have u1 : Blk (w2.alloc (.cells nf0 86)) w2.heap.size 86 nf0 := Blk.new _ _ _
  have u2 := u1.set nf0
  have hb12 := hb1.trans (hb2.mono hb1.size)
  have HB : Hid (Below w.heap.size w ((w2.alloc (.cells nf0 86)).setRow w2.heap.size nf0)) := below_setRow (hb12.alloc hb12.size _) hb12.size _
  clear hb1 hb2 hb12 H1
  go_wp2_with (first
    | (refine wpList_store_row (by rfl) 86 _ _ (by rfl) (w2.heap.size) (nf0) (by rfl) (by rfl) 86 (nf0) (by exact u1) (size_nf.trans (by rfl)) (by rfl) (nf_all _ _ _ _ _) ?_; simp only [Act.put, sgPHInsDrop])
    | fail)
  go_ret3
  exact ⟨rfl, HB.out⟩
set_option maxRecDepth 100000 in
theorem add_err (i t : Int) (s : ByteArray) (er : Int) (her : er ≠ 0) (HD : ∀ V, Below w.heap.size w V → Calls Tryz.prog 57 #[xp, .int .i64 a] V fun e w' => e = .returned (.tuple #[.agg nf0, .int .i64 er]) ∧ Below V.heap.size V w') : Calls Tryz.prog 50 #[xp, .int .i64 a, .agg #[.int .i64 i, .string s], .int .u64 t] w fun e w' => e = .returned (.int .i64 er) ∧ Below w.heap.size w w' := by
  have hzi : ∀ w, (zeroValue 86).run Tryz.prog w = .ok (.agg nf0) w := zero_nf
  have b0 : (er != 0) = true := bne_iff_ne.2 her
  have hb1 : Below w.heap.size w (w.alloc (.cells #[.int .i64 i, .string s] 36)) := below_new1 _ _
  have H1 := HD _ hb1
  clear HD her
  go_enter Tryz.func50, Tryz.ntmps50
  go_wp2_with fail
  generalize (w.alloc (.cells #[.int .i64 i, .string s] 36)) = w1 at *
  refine H1.mono ?_
  rintro e w2 ⟨rfl, hb2⟩
  have u1 : Blk (w2.alloc (.cells nf0 86)) w2.heap.size 86 nf0 := Blk.new _ _ _
  have u2 := u1.set nf0
  have hb12 := hb1.trans (hb2.mono hb1.size)
  have HB : Hid (Below w.heap.size w ((w2.alloc (.cells nf0 86)).setRow w2.heap.size nf0)) := below_setRow (hb12.alloc hb12.size _) hb12.size _
  clear hb1 hb2 hb12 H1
  go_wp2_with (first
    | (refine wpList_store_row (by rfl) 86 _ _ (by rfl) (w2.heap.size) (nf0) (by rfl) (by rfl) 86 (nf0) (by exact u1) (size_nf.trans (by rfl)) (by rfl) (nf_all _ _ _ _ _) ?_; simp only [Act.put, sgPHInsDrop])
    | fail)
  go_ret
  exact ⟨rfl, HB.out⟩
set_option maxRecDepth 100000 in
theorem remove_err (s : ByteArray) (t : Int) (er : Int) (her : er ≠ 0) (HD : ∀ V, Below w.heap.size w V → Calls Tryz.prog 57 #[xp, .int .i64 a] V fun e w' => e = .returned (.tuple #[.agg nf0, .int .i64 er]) ∧ Below V.heap.size V w') : Calls Tryz.prog 52 #[xp, .int .i64 a, .string s, .int .u64 t] w fun e w' => e = .returned (.tuple #[.int .i64 0, .int .i64 er]) ∧ Below w.heap.size w w' := by
  have hzi : ∀ w, (zeroValue 86).run Tryz.prog w = .ok (.agg nf0) w := zero_nf
  have b0 : (er != 0) = true := bne_iff_ne.2 her
  have hb1 : Below w.heap.size w w := Below.refl _ _
  have H1 := HD _ hb1
  clear HD her
  go_enter Tryz.func52, Tryz.ntmps52
  go_wp2_with fail
  refine H1.mono ?_
  rintro e w2 ⟨rfl, hb2⟩
  have u1 : Blk (w2.alloc (.cells nf0 86)) w2.heap.size 86 nf0 := Blk.new _ _ _
  have u2 := u1.set nf0
  have hb12 := hb1.trans (hb2.mono hb1.size)
  have HB : Hid (Below w.heap.size w ((w2.alloc (.cells nf0 86)).setRow w2.heap.size nf0)) := below_setRow (hb12.alloc hb12.size _) hb12.size _
  clear hb1 hb2 hb12 H1
  go_wp2_with (first
    | (refine wpList_store_row (by rfl) 86 _ _ (by rfl) (w2.heap.size) (nf0) (by rfl) (by rfl) 86 (nf0) (by exact u1) (size_nf.trans (by rfl)) (by rfl) (nf_all _ _ _ _ _) ?_; simp only [Act.put, sgPHInsDrop])
    | fail)
  go_ret2
  exact ⟨rfl, HB.out⟩
set_option maxRecDepth 100000 in
theorem swap_err (i t : Int) (s : ByteArray) (er : Int) (her : er ≠ 0) (HD : ∀ V, Below w.heap.size w V → Calls Tryz.prog 57 #[xp, .int .i64 a] V fun e w' => e = .returned (.tuple #[.agg nf0, .int .i64 er]) ∧ Below V.heap.size V w') : Calls Tryz.prog 54 #[xp, .int .i64 a, .agg #[.int .i64 i, .string s], .int .u64 t] w fun e w' => e = .returned (.tuple #[.int .i64 0, .int .i64 er]) ∧ Below w.heap.size w w' := by
  have hzi : ∀ w, (zeroValue 86).run Tryz.prog w = .ok (.agg nf0) w := zero_nf
  have b0 : (er != 0) = true := bne_iff_ne.2 her
  have hb1 : Below w.heap.size w (w.alloc (.cells #[.int .i64 i, .string s] 36)) := below_new1 _ _
  have H1 := HD _ hb1
  clear HD her
  go_enter Tryz.func54, Tryz.ntmps54
  go_wp2_with fail
  generalize (w.alloc (.cells #[.int .i64 i, .string s] 36)) = w1 at *
  refine H1.mono ?_
  rintro e w2 ⟨rfl, hb2⟩
  have u1 : Blk (w2.alloc (.cells nf0 86)) w2.heap.size 86 nf0 := Blk.new _ _ _
  have u2 := u1.set nf0
  have hb12 := hb1.trans (hb2.mono hb1.size)
  have HB : Hid (Below w.heap.size w ((w2.alloc (.cells nf0 86)).setRow w2.heap.size nf0)) := below_setRow (hb12.alloc hb12.size _) hb12.size _
  clear hb1 hb2 hb12 H1
  go_wp2_with (first
    | (refine wpList_store_row (by rfl) 86 _ _ (by rfl) (w2.heap.size) (nf0) (by rfl) (by rfl) 86 (nf0) (by exact u1) (size_nf.trans (by rfl)) (by rfl) (nf_all _ _ _ _ _) ?_; simp only [Act.put, sgPHInsDrop])
    | fail)
  go_ret2
  exact ⟨rfl, HB.out⟩
set_option maxRecDepth 100000 in
theorem begins_err (s : ByteArray) (er : Int) (her : er ≠ 0) (HD : ∀ V, Below w.heap.size w V → Calls Tryz.prog 57 #[xp, .int .i64 a] V fun e w' => e = .returned (.tuple #[.agg nf0, .int .i64 er]) ∧ Below V.heap.size V w') : Calls Tryz.prog 25 #[xp, .int .i64 a, .string s] w fun e w' => e = .returned (.tuple #[.slice none 0 0, .int .i64 er]) ∧ Below w.heap.size w w' := by
  have hzi : ∀ w, (zeroValue 86).run Tryz.prog w = .ok (.agg nf0) w := zero_nf
  have b0 : (er != 0) = true := bne_iff_ne.2 her
  have hb1 : Below w.heap.size w (w.alloc (.cells #[.string s] 9)) := below_new1 _ _
  have H1 := HD _ hb1
  clear HD her
  go_enter Tryz.func25, Tryz.ntmps25
  go_wp2_with fail
  generalize (w.alloc (.cells #[.string s] 9)) = w1 at *
  refine H1.mono ?_
  rintro e w2 ⟨rfl, hb2⟩
  have u1 : Blk (w2.alloc (.cells nf0 86)) w2.heap.size 86 nf0 := Blk.new _ _ _
  have u2 := u1.set nf0
  have hb12 := hb1.trans (hb2.mono hb1.size)
  have HB : Hid (Below w.heap.size w ((w2.alloc (.cells nf0 86)).setRow w2.heap.size nf0)) := below_setRow (hb12.alloc hb12.size _) hb12.size _
  clear hb1 hb2 hb12 H1
  go_wp2_with (first
    | (refine wpList_store_row (by rfl) 86 _ _ (by rfl) (w2.heap.size) (nf0) (by rfl) (by rfl) 86 (nf0) (by exact u1) (size_nf.trans (by rfl)) (by rfl) (nf_all _ _ _ _ _) ?_; simp only [Act.put, sgPHInsDrop])
    | fail)
  go_ret2
  exact ⟨rfl, HB.out⟩
set_option maxRecDepth 100000 in
theorem names_err (i : Int) (er : Int) (her : er ≠ 0) (HD : ∀ V, Below w.heap.size w V → Calls Tryz.prog 57 #[xp, .int .i64 a] V fun e w' => e = .returned (.tuple #[.agg nf0, .int .i64 er]) ∧ Below V.heap.size V w') : Calls Tryz.prog 16 #[xp, .int .i64 a, .int .i64 i] w fun e w' => e = .returned (.tuple #[.slice none 0 0, .int .i64 er]) ∧ Below w.heap.size w w' := by
  have hzi : ∀ w, (zeroValue 86).run Tryz.prog w = .ok (.agg nf0) w := zero_nf
  have b0 : (er != 0) = true := bne_iff_ne.2 her
  have hb1 : Below w.heap.size w (w.alloc (.cells #[.int .i64 i] 3)) := below_new1 _ _
  have H1 := HD _ hb1
  clear HD her
  go_enter Tryz.func16, Tryz.ntmps16
  go_wp2_with fail
  generalize (w.alloc (.cells #[.int .i64 i] 3)) = w1 at *
  refine H1.mono ?_
  rintro e w2 ⟨rfl, hb2⟩
  have u1 : Blk (w2.alloc (.cells nf0 86)) w2.heap.size 86 nf0 := Blk.new _ _ _
  have u2 := u1.set nf0
  have hb12 := hb1.trans (hb2.mono hb1.size)
  have HB : Hid (Below w.heap.size w ((w2.alloc (.cells nf0 86)).setRow w2.heap.size nf0)) := below_setRow (hb12.alloc hb12.size _) hb12.size _
  clear hb1 hb2 hb12 H1
  go_wp2_with (first
    | (refine wpList_store_row (by rfl) 86 _ _ (by rfl) (w2.heap.size) (nf0) (by rfl) (by rfl) 86 (nf0) (by exact u1) (size_nf.trans (by rfl)) (by rfl) (nf_all _ _ _ _ _) ?_; simp only [Act.put, sgPHInsDrop])
    | fail)
  go_ret2
  exact ⟨rfl, HB.out⟩
set_option maxRecDepth 100000 in
theorem count_err (er : Int) (her : er ≠ 0) (HD : ∀ V, Below w.heap.size w V → Calls Tryz.prog 57 #[xp, .int .i64 a] V fun e w' => e = .returned (.tuple #[.agg nf0, .int .i64 er]) ∧ Below V.heap.size V w') : Calls Tryz.prog 18 #[xp, .int .i64 a] w fun e w' => e = .returned (.tuple #[.int .i64 0, .int .i64 er]) ∧ Below w.heap.size w w' := by
  have hzi : ∀ w, (zeroValue 86).run Tryz.prog w = .ok (.agg nf0) w := zero_nf
  have b0 : (er != 0) = true := bne_iff_ne.2 her
  have hb1 : Below w.heap.size w w := Below.refl _ _
  have H1 := HD _ hb1
  clear HD her
  go_enter Tryz.func18, Tryz.ntmps18
  go_wp2_with fail
  refine H1.mono ?_
  rintro e w2 ⟨rfl, hb2⟩
  have u1 : Blk (w2.alloc (.cells nf0 86)) w2.heap.size 86 nf0 := Blk.new _ _ _
  have u2 := u1.set nf0
  have hb12 := hb1.trans (hb2.mono hb1.size)
  have HB : Hid (Below w.heap.size w ((w2.alloc (.cells nf0 86)).setRow w2.heap.size nf0)) := below_setRow (hb12.alloc hb12.size _) hb12.size _
  have HCT : Hid (∀ V : World, Calls Tryz.prog 60 #[.agg nf0] V fun e w' => e = .returned (.int .i64 0) ∧ Below V.heap.size V w') := count_any 0 0 0 0 0 (by decide)
  clear hb1 hb2 hb12 H1
  go_wp2_with (first
    | (refine wpList_store_row (by rfl) 86 _ _ (by rfl) (w2.heap.size) (nf0) (by rfl) (by rfl) 86 (nf0) (by exact u1) (size_nf.trans (by rfl)) (by rfl) (nf_all _ _ _ _ _) ?_; simp only [Act.put, sgPHInsDrop])
    | (refine wpList_load_row (by rfl) 86 _ (by rfl) (w2.heap.size) (by rfl) 86 (nf0) (0, 0) _ (by exact u2) Tryz.underlying86 (by rfl) (size_nf.trans (by rfl)) ?_; simp only [Act.put, sgPHInsDrop])
    | fail)
  refine (HCT.out _).mono ?_
  rintro e w3 ⟨rfl, hb3⟩
  have HB3 : Hid (Below w.heap.size w w3) := HB.out.trans (hb3.mono HB.out.size)
  clear hb3 HB u1 u2
  go_wp2_with fail
  go_ret2
  exact ⟨rfl, HB3.out⟩
set_option maxRecDepth 100000 in
theorem list_err (er : Int) (her : er ≠ 0) (HD : ∀ V, Below w.heap.size w V → Calls Tryz.prog 57 #[xp, .int .i64 a] V fun e w' => e = .returned (.tuple #[.agg nf0, .int .i64 er]) ∧ Below V.heap.size V w') : Calls Tryz.prog 17 #[xp, .int .i64 a] w fun e w' => e = .returned (.tuple #[.slice none 0 0, .int .i64 er]) ∧ Below w.heap.size w w' := by
  have H1 := begins_err (w := w) (xp := xp) (a := a) ⟨#[]⟩ er her HD
  clear HD her
  go_enter Tryz.func17, Tryz.ntmps17
  go_wp2_with fail
  refine H1.mono ?_
  rintro e w2 ⟨rfl, hb2⟩
  have HB : Hid (Below w.heap.size w w2) := hb2
  clear hb2 H1
  go_wp2_with fail
  go_ret2
  exact ⟨rfl, HB.out⟩
set_option maxRecDepth 100000 in
theorem entry_err (i : Int) (er : Int) (her : er ≠ 0) (HD : ∀ V, Below w.heap.size w V → Calls Tryz.prog 57 #[xp, .int .i64 a] V fun e w' => e = .returned (.tuple #[.agg nf0, .int .i64 er]) ∧ Below V.heap.size V w') : Calls Tryz.prog 15 #[xp, .int .i64 a, .int .i64 i] w fun e w' => e = .returned (.tuple #[.agg #[.int .i64 0, .string ⟨#[]⟩], .int .i64 er]) ∧ Below w.heap.size w w' := by
  have hzi : ∀ w, (zeroValue 86).run Tryz.prog w = .ok (.agg nf0) w := zero_nf
  have b0 : (er != 0) = true := bne_iff_ne.2 her
  have hb1 : Below w.heap.size w (w.alloc (.cells #[.int .i64 0, .string ⟨#[]⟩] 36)) := below_new1 _ _
  have H1 := HD _ hb1
  have p1 : Blk (w.alloc (.cells #[.int .i64 0, .string ⟨#[]⟩] 36)) w.heap.size 36 #[.int .i64 0, .string ⟨#[]⟩] := Blk.new _ _ _
  clear HD her
  go_enter Tryz.func15, Tryz.ntmps15
  go_wp2_with fail
  generalize (w.alloc (.cells #[.int .i64 0, .string ⟨#[]⟩] 36)) = w1 at *
  refine H1.mono ?_
  rintro e w2 ⟨rfl, hb2⟩
  have u1 : Blk (w2.alloc (.cells nf0 86)) w2.heap.size 86 nf0 := Blk.new _ _ _
  have u2 := u1.set nf0
  have hb12 := hb1.trans (hb2.mono hb1.size)
  have HB : Hid (Below w.heap.size w ((w2.alloc (.cells nf0 86)).setRow w2.heap.size nf0)) := below_setRow (hb12.alloc hb12.size _) hb12.size _
  have p2 := p1.below hb2 p1.lt
  have p3 : Blk ((w2.alloc (.cells nf0 86)).setRow w2.heap.size nf0) w.heap.size 36 #[.int .i64 0, .string ⟨#[]⟩] := (p2.alloc _).other _ (by have := p2.lt; omega)
  have c0 : ((w2.alloc (.cells nf0 86)).setRow w2.heap.size nf0).cell? ⟨w.heap.size, 0, none⟩ = some (.int .i64 0) := (p3.cell 0).trans rfl
  have c1 : ((w2.alloc (.cells nf0 86)).setRow w2.heap.size nf0).cell? ⟨w.heap.size, 1, none⟩ = some (.string ⟨#[]⟩) := (p3.cell 1).trans rfl
  have f0 : ((w2.alloc (.cells nf0 86)).setRow w2.heap.size nf0).frozen? ⟨w.heap.size, 0, none⟩ = false := p3.frozen 0
  have f1 : ((w2.alloc (.cells nf0 86)).setRow w2.heap.size nf0).frozen? ⟨w.heap.size, 1, none⟩ = false := p3.frozen 1
  have HE : Hid (Below w.heap.size w ((((w2.alloc (.cells nf0 86)).setRow w2.heap.size nf0).setCell ⟨w.heap.size, 0, none⟩ (.int .i64 0)).setCell ⟨w.heap.size, 1, none⟩ (.string ⟨#[]⟩)) ∧ Blk ((((w2.alloc (.cells nf0 86)).setRow w2.heap.size nf0).setCell ⟨w.heap.size, 0, none⟩ (.int .i64 0)).setCell ⟨w.heap.size, 1, none⟩ (.string ⟨#[]⟩)) w.heap.size 36 #[.int .i64 0, .string ⟨#[]⟩]) := ⟨(HB.out.setCell (p := ⟨w.heap.size, 0, none⟩) (Nat.le_refl _) _).setCell (p := ⟨w.heap.size, 1, none⟩) (Nat.le_refl _) _, (p3.put 0 _).put 1 _⟩
  clear hb1 hb2 hb12 H1 p1 p2 p3 HB
  go_wp2_with (first
    | (refine wpList_store_row (by rfl) 86 _ _ (by rfl) (w2.heap.size) (nf0) (by rfl) (by rfl) 86 (nf0) (by exact u1) (size_nf.trans (by rfl)) (by rfl) (nf_all _ _ _ _ _) ?_; simp only [Act.put, sgPHInsDrop])
    | fail)
  try simp only [Exit.inBlock, Exit.then]
  refine bodyPost_ret (results_row2 Tryz.results15 _ _ (w.heap.size) 36 #[.int .i64 0, .string ⟨#[]⟩] (0, 0) _ rfl HE.out.2 Tryz.underlying36 rfl (sizeLk.trans (by rfl))) rfl ?_
  exact ⟨rfl, HE.out.1⟩
end
end Go.Proofs.YtojnlmfahgeidaaGreatDoor

namespace Go.Proofs.YtojnlmfahgeidaaGreatDoor
open Go Go.RowKit
set_option linter.unusedSimpArgs false
set_option linter.unusedVariables false
/-- what is wrong with a directory's number -/
def refD (n : Int) : Int := if n < 1 ∨ 4096 < n then 141 else if n = 3 then 170 else if 3 < n then 151 else 0
set_option maxRecDepth 100000 in
theorem refused_any (n : Int) (w : World) : Calls Tryz.prog 19 #[.int .i64 n] w fun e w' => e = .returned (.int .i64 (refD n)) ∧ w' = w := by
  have HR : Hid (refD n = if n < 1 ∨ 4096 < n then 141 else if n = 3 then 170 else if 3 < n then 151 else 0) := rfl
  generalize refD n = R at *
  by_cases h1 : n < 1
  · have e : Hid (R = 141) := by show R = 141; rw [HR.out, if_pos (.inl h1)]
    clear HR
    go_enter Tryz.func19, Tryz.ntmps19
    go_wp2_with fail
    go_ret
    exact ⟨by rw [e.out]; rfl, rfl⟩
  · by_cases h2 : 4096 < n
    · have e : Hid (R = 141) := by show R = 141; rw [HR.out, if_pos (.inr h2)]
      clear HR
      go_enter Tryz.func19, Tryz.ntmps19
      go_wp2_with fail
      go_ret
      exact ⟨by rw [e.out]; rfl, rfl⟩
    · by_cases h3 : n = 3
      · subst h3
        have e : Hid (R = 170) := by show R = 170; rw [HR.out, if_neg (by decide), if_pos rfl]
        clear HR
        go_enter Tryz.func19, Tryz.ntmps19
        go_wp2_with fail
        go_ret
        exact ⟨by rw [e.out]; rfl, rfl⟩
      · by_cases h4 : 3 < n
        · have e : Hid (R = 151) := by show R = 151; rw [HR.out, if_neg (by omega), if_neg h3, if_pos h4]
          clear HR
          go_enter Tryz.func19, Tryz.ntmps19
          go_wp2_with fail
          go_ret
          exact ⟨by rw [e.out]; rfl, rfl⟩
        · have e : Hid (R = 0) := by show R = 0; rw [HR.out, if_neg (by omega), if_neg h3, if_neg h4]
          clear HR
          go_enter Tryz.func19, Tryz.ntmps19
          go_wp2_with fail
          go_ret
          exact ⟨by rw [e.out]; rfl, rfl⟩
end Go.Proofs.YtojnlmfahgeidaaGreatDoor

namespace Go.Proofs.YtojnlmfahgeidaaGreatDoor
open Go Go.RowKit
set_option linter.unusedSimpArgs false
set_option linter.unusedVariables false
section
variable {w w' : World} {x mf ml mc : Nat} {cp : Option Addr} {top : Int} {H : Nat → Hd} {D : Nat → Nat → Nat → Nat}
set_option maxRecDepth 100000 in
set_option maxHeartbeats 8000000 in
theorem IM.free (h : IM w x mf ml mc cp top H D) (n : Nat) (h1 : 1 ≤ n) (h2 : n ≤ 4096) (hk : (H n).k = 0) (hm : ∀ m, 1 ≤ m → m < n → (H m).k ≠ 0) : Calls Tryz.prog 107 #[.pointer (some ⟨x, 0, none⟩)] w fun e w' => e = .returned (.tuple #[.int .i64 (n : Int), .agg (hdC (H n)), .int .i64 0]) ∧ Below w.heap.size w w' := by
  have hz := zero_ft
  have hz2 := zero_hd
  have HFF : Hid (∀ i : Nat, i < 1024 → ∀ V, Below w.heap.size w V → Calls Tryz.prog 153 #[.pointer (some ⟨x, 0, none⟩), .int .i64 (i : Int)] V fun e w' => e = .returned (.tuple #[.agg (ftC (foH H i)), .int .i64 0]) ∧ Below V.heap.size V w') := fun i hi V hV => (h.below hV).four i hi
  have HLT : Hid (∀ w : World, Calls Tryz.prog 152 #[.int .i64 4096] w fun e w2 => e = .returned (.int .i64 1024) ∧ w2 = w) := leavesTo_any 4096 (by decide) (by decide)
  have HNU : Hid (∀ i j : Nat, i < 1024 → j < 4 → ∀ w : World, Calls Tryz.prog 155 #[.int .i64 (i : Int), .int .i64 (j : Int)] w fun e w2 => e = .returned (.int .i64 ((i : Int) * 4 + (j : Int) + 1)) ∧ w2 = w) := fun i j h1 h2 => numberAt_any (i : Int) (j : Int) (by omega) (by omega) (by omega) (by omega)
  have HN : Hid (1 ≤ n ∧ n ≤ 4096 ∧ (H n).k = 0 ∧ ∀ m, 1 ≤ m → m < n → (H m).k ≠ 0) := ⟨h1, h2, hk, hm⟩
  have HB1 : Hid (Blk (w.alloc (.cells (hdC hd00) 222)) w.heap.size 222 (hdC hd00) ∧ Below w.heap.size w (w.alloc (.cells (hdC hd00) 222))) := ⟨Blk.new _ _ _, below_new1 _ _⟩
  clear h h1 h2 hk hm
  go_enter Tryz.func107, Tryz.ntmps107
  go_wp2_with fail
  generalize (w.alloc (.cells (hdC hd00) 222)) = w1 at *
  refine (HLT.out _).mono ?_
  rintro e w9 ⟨rfl, hw9⟩
  subst w9
  clear HLT
  go_wp2_with fail
  go_loopw [11] (fun t wr => Hid (∃ i : Nat, 4 * i < n ∧ t = .int .i64 (i : Int) ∧ Blk wr w.heap.size 222 (hdC hd00) ∧ Below w.heap.size w wr)) (fun t _ => 1024 - (intOf t).toNat)
  case atStart => exact ⟨0, by have := HN.out.1; omega, rfl, HB1.out.1, HB1.out.2⟩
  case round =>
    obtain ⟨i, hi, rfl, r1, hb1⟩ := Hid.out hrel
    clear hrel HB1
    have i1 : (i : Int) < 1024 := by have := HN.out.2.1; omega
    have HF1 := HFF.out i (by omega) _ hb1
    have HI : Hid (4 * i < n ∧ i < 1024) := ⟨hi, by omega⟩
    have HR : Hid (Blk wr w.heap.size 222 (hdC hd00) ∧ Below w.heap.size w wr) := ⟨r1, hb1⟩
    clear hi r1 hb1
    go_wp2_with fail
    refine HF1.mono ?_
    rintro e w2 ⟨rfl, hb2⟩
    have f3 : Blk (w2.alloc (.cells (ftC ft00) 270)) w2.heap.size 270 (ftC ft00) := Blk.new _ _ _
    have f3' := f3.set (ftC (foH H i))
    have HR3 : Hid (Blk ((w2.alloc (.cells (ftC ft00) 270)).setRow w2.heap.size (ftC (foH H i))) w.heap.size 222 (hdC hd00) ∧ Below w.heap.size w ((w2.alloc (.cells (ftC ft00) 270)).setRow w2.heap.size (ftC (foH H i)))) := by
      have hb23 : Below w2.heap.size w2 ((w2.alloc (.cells (ftC ft00) 270)).setRow w2.heap.size (ftC (foH H i))) := below_setRow (below_new1 _ _) (Nat.le_refl _) _
      have r2 := HR.out.1.below hb2 HR.out.1.lt
      have hb12 := HR.out.2.trans (hb2.mono HR.out.2.size)
      exact ⟨r2.below hb23 r2.lt, hb12.trans (hb23.mono hb12.size)⟩
    clear hb2 HR HF1
    go_wp2_with (first
      | (refine wpList_store_row (by rfl) 270 _ _ (by rfl) (w2.heap.size) (ftC (foH H i)) (by rfl) (by rfl) 270 (ftC ft00) (by exact f3) (sizeFt.trans (by rw [ftC_size])) (by simp only [ftC_size]) (ftC_all _) ?_; simp only [Act.put, sgPHInsDrop])
      | (refine wpList_load_rowg (by rfl) 270 _ (by rfl) (w2.heap.size) (by rfl) 270 (ftC (foH H i)) (0, 0) _ (by exact f3') Tryz.underlying270 (by rfl) (sizeFt.trans (by rw [ftC_size])) ?_; simp only [Act.put, sgPHInsDrop])
      | fail)
    clear f3 f3'
    generalize ((w2.alloc (.cells (ftC ft00) 270)).setRow w2.heap.size (ftC (foH H i))) = w3 at *
    go_loopw [25] (fun t wr => Hid (∃ j : Nat, j ≤ 4 ∧ 4 * i + j < n ∧ t = .int .i64 (j : Int) ∧ Blk wr w.heap.size 222 (hdC hd00) ∧ Below w.heap.size w wr)) (fun t _ => 4 - (intOf t).toNat)
    case atStart => exact ⟨0, by omega, HI.out.1, rfl, HR3.out.1, HR3.out.2⟩
    case round =>
      obtain ⟨j, hj, hjn, rfl, r1, hb1⟩ := Hid.out hrel
      clear hrel HR3
      by_cases hj4 : j < 4
      · have j1 : (j : Int) < 4 := by omega
        have hix : ∀ w, (Instr.index 270 (.agg (ftC (foH H i))) (.int .i64 (j : Int))).run Tryz.prog w = .ok (.agg (hdC (foH H i j))) w := fun w => run_index_ft (foH H i) j hj4 w
        have HJ : Hid (j < 4 ∧ 4 * i + j < n) := ⟨hj4, hjn⟩
        have q4 : Blk (wr.alloc (.cells (hdC hd00) 222)) wr.heap.size 222 (hdC hd00) := Blk.new _ _ _
        have q4' := q4.set (hdC (foH H i j))
        have HR4 : Hid (Blk ((wr.alloc (.cells (hdC hd00) 222)).setRow wr.heap.size (hdC (foH H i j))) w.heap.size 222 (hdC hd00) ∧ Below w.heap.size w ((wr.alloc (.cells (hdC hd00) 222)).setRow wr.heap.size (hdC (foH H i j))) ∧ w.heap.size < wr.heap.size) := by
          have hb34 : Below wr.heap.size wr ((wr.alloc (.cells (hdC hd00) 222)).setRow wr.heap.size (hdC (foH H i j))) := below_setRow (below_new1 _ _) (Nat.le_refl _) _
          exact ⟨r1.below hb34 r1.lt, hb1.trans (hb34.mono hb1.size), r1.lt⟩
        have HIU : Hid (∀ w : World, Calls Tryz.prog 154 #[.agg (hdC (foH H i j))] w fun e w' => e = .returned (.bool ((foH H i j).k != 0)) ∧ Below w.heap.size w w') := inUse_any (foH H i j)
        clear r1 hb1 hj hjn hj4
        go_wp2_with (first
          | (refine wpList_store_row (by rfl) 222 _ _ (by rfl) (wr.heap.size) (hdC (foH H i j)) (by rfl) (by rfl) 222 (hdC hd00) (by exact q4) (sizeHd.trans (by rw [hdC_size])) (by simp only [hdC_size]) (hdC_all _) ?_; simp only [Act.put, sgPHInsDrop])
          | (refine wpList_load_rowg (by rfl) 222 _ (by rfl) (wr.heap.size) (by rfl) 222 (hdC (foH H i j)) (0, 0) _ (by exact q4') Tryz.underlying222 (by rfl) (sizeHd.trans (by rw [hdC_size])) ?_; simp only [Act.put, sgPHInsDrop])
          | fail)
        clear q4 hix
        generalize ((wr.alloc (.cells (hdC hd00) 222)).setRow wr.heap.size (hdC (foH H i j))) = w4 at *
        refine (HIU.out w4).mono ?_
        rintro e w5 ⟨rfl, hb5⟩
        have q5 := q4'.below hb5 q4'.lt
        have HR5 : Hid (Blk w5 w.heap.size 222 (hdC hd00) ∧ Below w.heap.size w w5 ∧ w.heap.size < wr.heap.size) := ⟨HR4.out.1.below hb5 HR4.out.1.lt, HR4.out.2.1.trans (hb5.mono HR4.out.2.1.size), HR4.out.2.2⟩
        clear hb5 HR4 HIU q4'
        by_cases hk : (foH H i j).k = 0
        · have hkb : ((foH H i j).k != 0) = false := by rw [hk]; rfl
          have HNJ : Hid ((n : Int) = (i : Int) * 4 + (j : Int) + 1 ∧ foH H i j = H n) := by
            have e1 : n = 4 * i + j + 1 := by
              have := HN.out.2.2.2 (4 * i + j + 1) (by omega)
              have := HJ.out.2
              by_cases e : 4 * i + j + 1 < n
              · exact absurd hk (HN.out.2.2.2 (4 * i + j + 1) (by omega) e)
              · omega
            exact ⟨by omega, by rw [e1]; rfl⟩
          rw [hkb]
          clear hk hkb
          go_wp2_with fail
          have q5d : Blk w5.drew wr.heap.size 222 (hdC (foH H i j)) := q5
          have r5d : Blk w5.drew w.heap.size 222 (hdC hd00) := HR5.out.1
          have HB5d : Hid (Below w.heap.size w w5.drew ∧ w.heap.size < wr.heap.size) := ⟨HR5.out.2.1.drew, HR5.out.2.2⟩
          have HNU1 := HNU.out i j HI.out.2 HJ.out.1
          clear q5 HR5 HFF HNU
          refine wp_region_partsS (fun W => Blk W wr.heap.size 222 (hdC (foH H i j))) [([0, 1], 3, true), ([], 2, false), ([], 4, false), ([], 5, false)] [6] [] (by kernel_rfl) (by kernel_rfl) q5d (partsI_yield ?_)
          generalize w5.drew = w6 at *
          simp only [sgLHInsDrop]
          go_wp2_with fail
          refine ⟨rfl, _, .agg (hdC (foH H i j)), rfl, kyields_load (by rfl) 222 _ (by rfl) wr.heap.size 45 (hdF (foH H i j)) (by rfl) _ 222 (fun W hW => hW) Tryz.underlying222 rfl sizeHd, partsI_force ?_⟩
          simp only [Act.put, sgPHInsDrop]
          simp only [sgLHInsDrop]
          go_wp2_with fail
          refine (HNU1 _).mono ?_
          rintro e w9 ⟨rfl, hw9⟩
          subst w9
          go_wp2_with fail
          refine ⟨rfl, q5d, partsI_force ?_⟩
          simp only [sgLHInsDrop]
          go_wp2_with fail
          refine ⟨rfl, q5d, partsI_force ?_⟩
          simp only [sgLHInsDrop]
          (refine wpList_store_row (by rfl) 222 _ _ (by rfl) (w.heap.size) (hdC (foH H i j)) (by rfl) (by rfl) 222 (hdC hd00) (by exact r5d) (sizeHd.trans (by rw [hdC_size])) (by simp only [hdC_size]) (hdC_all _) ?_; simp only [Act.put, sgPHInsDrop])
          go_wp2_with fail
          refine ⟨rfl, (q5d.other _ (by have := HB5d.out.2; omega)), partsI_last ?_⟩
          simp only [sgLHInsDrop]
          go_wp2_with fail
          refine ⟨rfl, ?_⟩
          go_wp2_with fail
          try simp only [Exit.inBlock, Exit.then]
          refine bodyPost_ret (res_tct Tryz.results107 _ _ (w.heap.size) 222 (hdC (foH H i j)) (0, 0) _ rfl (r5d.set _) Tryz.underlying222 rfl (sizeHd.trans (by rw [hdC_size]))) rfl ?_
          exact ⟨by rw [HNJ.out.1, ← HNJ.out.2]; rfl, below_setRow HB5d.out.1 (Nat.le_refl _) _⟩
        · have hkb : ((foH H i j).k != 0) = true := by simp [hk]
          have HNX : Hid (4 * i + (j + 1) < n) := by
            have := HJ.out.2
            by_cases e : n = 4 * i + j + 1
            · exact absurd (by rw [show foH H i j = H n by rw [e]; rfl]; exact HN.out.2.2.1) hk
            · show 4 * i + (j + 1) < n
              omega
          rw [hkb]
          clear hk hkb q5
          go_wp2_with fail
          go_roundw
          case rel => exact ⟨j + 1, by have := HJ.out.1; omega, HNX.out, by first | rfl | go_num | simp, HR5.out.1, HR5.out.2.1⟩
          case measure => simp [intOf]; have := HJ.out; omega
      · obtain rfl : j = 4 := by omega
        have HR6 : Hid (Blk wr w.heap.size 222 (hdC hd00) ∧ Below w.heap.size w wr ∧ 4 * (i + 1) < n) := ⟨r1, hb1, by omega⟩
        clear r1 hb1 hj hjn hj4
        go_wp2_with fail
        go_roundw
        case rel => exact ⟨i + 1, HR6.out.2.2, by first | rfl | go_num | simp, HR6.out.1, HR6.out.2.1⟩
        case measure => simp [intOf]; have := HI.out; omega
end
end Go.Proofs.YtojnlmfahgeidaaGreatDoor

namespace Go.Proofs.YtojnlmfahgeidaaGreatDoor
open Go Go.RowKit
set_option linter.unusedSimpArgs false
set_option linter.unusedVariables false
/-- An inode that is out of use. -/
def hdD (y : Hd) : Hd := hdN y 0 0 0 0 0
theorem Turns.cells {S : Nat → Prop} (b : Nat) (hS : S b) (vs : List Value) (k : Nat) (w w' : World) (h : Turns S w w') : Turns S w (w'.setCells b k vs) := by
  induction vs generalizing k w' with
  | nil => exact h
  | cons v vs ih => exact ih (k + 1) _ (h.tr (Turns.cell w' b k v hS))
section
variable {w w' : World} {x mf ml mc : Nat} {cp : Option Addr} {top : Int} {H : Nat → Hd} {D : Nat → Nat → Nat → Nat}
theorem IM.others (h : IM w x mf ml mc cp top H D) (b : Nat) (hb : b ≠ x ∧ b ≠ mf ∧ b ≠ ml ∧ b ≠ mc) (vs : List Value) (k : Nat) : IM (w.setCells b k vs) x mf ml mc cp top H D := by
  induction vs generalizing k w with
  | nil => exact h
  | cons v vs ih => exact ih (h.other b k v hb) (k + 1)
set_option maxRecDepth 100000 in
set_option maxHeartbeats 8000000 in
theorem IM.drop1 (h : IM w x mf ml mc cp top H D) (n b xb : Nat) (y : Hd) (o : Nat) (hy : y.n = (n : Int)) (hl : y.left = 0) (ho : y.s = (o : Int)) (hob : o ≤ 1048576) (hZ : ∀ q i, i < 256 → o ≤ 256 * q + i → D n q i = 0) (hB : Blk w b 222 (hdC y)) (hX : Blk w xb 23 #[.pointer (some ⟨x, 0, none⟩)]) (hb : b ≠ x ∧ b ≠ mf ∧ b ≠ ml ∧ b ≠ mc) : Calls Tryz.prog 200 #[.pointer (some ⟨b, 0, none⟩), .pointer (some ⟨xb, 0, none⟩)] w fun e w' => e = .returned (.int .i64 0) ∧ IM w' x mf ml mc cp top H (rsD D n 0) ∧ Blk w' b 222 (hdC (hdD y)) ∧ Turns (fun z => z = ml ∨ z = b) w w' := by
  have x0 : w.cell? ⟨xb, 0, none⟩ = some (.pointer (some ⟨x, 0, none⟩)) := (hX.cell 0).trans rfl
  have HRS : Calls Tryz.prog 164 #[.pointer (some ⟨x, 0, none⟩), .pointer (some ⟨b, 0, none⟩), .int .i64 0] w fun e w' => e = .returned (.int .i64 0) ∧ IM w' x mf ml mc cp top H (rsD D n 0) ∧ Blk w' b 222 (hdC (hdZ y 0)) ∧ Turns (fun z => z = ml ∨ z = b) w w' := by
    have := h.resize n b y o 0 hy hl ho hob (by decide) hZ hB hb
    rw [if_neg (by omega)] at this
    exact this
  have HNB : Hid (b ≠ x ∧ b ≠ mf ∧ b ≠ ml ∧ b ≠ mc) := hb
  clear h hy hl ho hob hZ hB hX hb
  go_enter Tryz.func200, Tryz.ntmps200
  go_wp2_with fail
  refine HRS.mono ?_
  rintro e w2 ⟨rfl, hI2, hB2, ht2⟩
  have HE : Hid (IM (((((w2.setCell ⟨b, 38, none⟩ (.int .i64 0)).setCell ⟨b, 39, none⟩ (.int .i64 0)).setCell ⟨b, 40, none⟩ (.int .i64 0)).setCell ⟨b, 41, none⟩ (.int .i64 0)).setCell ⟨b, 42, none⟩ (.int .u64 0)) x mf ml mc cp top H (rsD D n 0) ∧ Blk (((((w2.setCell ⟨b, 38, none⟩ (.int .i64 0)).setCell ⟨b, 39, none⟩ (.int .i64 0)).setCell ⟨b, 40, none⟩ (.int .i64 0)).setCell ⟨b, 41, none⟩ (.int .i64 0)).setCell ⟨b, 42, none⟩ (.int .u64 0)) b 222 (hdC (hdD y)) ∧ Turns (fun z => z = ml ∨ z = b) w (((((w2.setCell ⟨b, 38, none⟩ (.int .i64 0)).setCell ⟨b, 39, none⟩ (.int .i64 0)).setCell ⟨b, 40, none⟩ (.int .i64 0)).setCell ⟨b, 41, none⟩ (.int .i64 0)).setCell ⟨b, 42, none⟩ (.int .u64 0))) := ⟨hI2.others b HNB.out [.int .i64 0, .int .i64 0, .int .i64 0, .int .i64 0, .int .u64 0] 38, hd_putNow hB2 0 0 0 0 0, Turns.cells b (.inr rfl) [.int .i64 0, .int .i64 0, .int .i64 0, .int .i64 0, .int .u64 0] 38 w w2 ht2⟩
  have c38 := hd_c38 hB2
  have f38 : w2.frozen? ⟨b, 38, none⟩ = false := hB2.frozen 38
  have c39 := hd_c39 hB2
  have f39 : w2.frozen? ⟨b, 39, none⟩ = false := hB2.frozen 39
  have c40 := hd_c40 hB2
  have f40 : w2.frozen? ⟨b, 40, none⟩ = false := hB2.frozen 40
  have c41 := hd_c41 hB2
  have f41 : w2.frozen? ⟨b, 41, none⟩ = false := hB2.frozen 41
  have c42 := hd_c42 hB2
  have f42 : w2.frozen? ⟨b, 42, none⟩ = false := hB2.frozen 42
  clear hI2 hB2 ht2 HRS
  go_wp2_with fail
  go_ret
  exact ⟨rfl, HE.out.1, HE.out.2.1, HE.out.2.2⟩
theorem IM.drop (h : IM w x mf ml mc cp top H D) (n : Nat) (h1 : 1 ≤ n) (h2 : n ≤ 4096) (hk : (H n).k ≠ 0) (o : Nat) (hn : (H n).n = (n : Int)) (hl : (H n).left = 0) (ho : (H n).s = (o : Int)) (hob : o ≤ 1048576) (hZ : ∀ q i, i < 256 → o ≤ 256 * q + i → D n q i = 0) : Calls Tryz.prog 146 #[.pointer (some ⟨x, 0, none⟩), .int .i64 (n : Int)] w fun e w' => e = .returned (.int .i64 0) ∧ IM w' x mf ml mc cp top (hU H n (hdD (H n))) (rsD D n 0) ∧ Turns (fun z => z = ml ∨ z = mf) w w' := by
  have hb1 : Below w.heap.size w (w.alloc (.cells #[.pointer (some ⟨x, 0, none⟩)] 23)) := below_new1 _ _
  have k1 : Blk (w.alloc (.cells #[.pointer (some ⟨x, 0, none⟩)] 23)) w.heap.size 23 #[.pointer (some ⟨x, 0, none⟩)] := Blk.new _ _ _
  have x0 : (w.alloc (.cells #[.pointer (some ⟨x, 0, none⟩)] 23)).cell? ⟨w.heap.size, 0, none⟩ = some (.pointer (some ⟨x, 0, none⟩)) := (k1.cell 0).trans rfl
  have hI1 := h.below hb1
  have HC := hI1.changeDrop n h1 h2 hk (.pointer (some ⟨w.heap.size, 0, none⟩)) (hdD (H n)) (rsD D n 0) fun V b hV hI hB hge => hI.drop1 n b w.heap.size (H n) o hn hl ho hob hZ hB (k1.below hV k1.lt) (hI1.apart b hge)
  have HB1 : Hid (Below w.heap.size w (w.alloc (.cells #[.pointer (some ⟨x, 0, none⟩)] 23))) := hb1
  clear h hb1 k1 hI1 hk h1 h2 hn hl ho hob hZ
  go_enter Tryz.func146, Tryz.ntmps146
  go_wp2_with fail
  refine HC.mono ?_
  rintro e w2 ⟨rfl, hI2, ht2⟩
  have HE : Hid (IM w2 x mf ml mc cp top (hU H n (hdD (H n))) (rsD D n 0) ∧ Turns (fun z => z = ml ∨ z = mf) w w2) := ⟨hI2, (Turns.bel HB1.out).tr ht2⟩
  clear hI2 ht2 HC HB1
  go_wp2_with fail
  go_ret
  exact ⟨rfl, HE.out.1, HE.out.2⟩
end
end Go.Proofs.YtojnlmfahgeidaaGreatDoor
