/- Either, Less, Cross of two maps of bits: the contracts. -/
import Derived.Test.YtgcnmopgpdmocaaDoorHBiRef
import Derived.Handy

namespace Go.Proofs.YtgcnmopgpdmocaaDoor
open Go Go.RowKit
set_option linter.unusedVariables false
set_option linter.unusedSimpArgs false
theorem drew_two (w : World) (a b : Nat) : ∃ m, (w.drewN a).drewN b = w.drewN m := ⟨a + b, World.drewN_drewN ..⟩
def Drew0 (w w' : World) : Prop := ∃ m, w' = w.drewN m
/-- the first words are the same -/
def sameW (V W : Nat → Nat) (m : Nat) : Bool := decide (∀ i, i < m → V i = W i)
theorem sameW_yes {V W : Nat → Nat} {m : Nat} (h : ∀ i, i < m → V i = W i) : sameW V W m = true := by unfold sameW; simpa using h
theorem sameW_no {V W : Nat → Nat} {m j : Nat} (hj : j < m) (h : V j ≠ W j) : sameW V W m = false := by
  unfold sameW
  rw [decide_eq_false_iff_not]
  intro k
  exact h (k j hj)
section
variable {B B' g g' n n' b b' c c' : Nat} {V W : Nat → Nat}
set_option maxHeartbeats 1000000 in
theorem eqWords_any (m d d' : Nat) (hm : m ≤ 128) (w : World) (h : ∀ i, i < m → w.cell? ⟨b, i, none⟩ = some (.int .u64 ((V i : Nat) : Int))) (h' : ∀ i, i < m → w.cell? ⟨b', i, none⟩ = some (.int .u64 ((W i : Nat) : Int))) : Calls Tryd.prog 31 #[.slice (some ⟨b, 0, none⟩) m d, .slice (some ⟨b', 0, none⟩) m d'] w fun e w' => e = .returned (.bool (sameW V W m)) ∧ ∃ k, w' = w.drewN k := by
  have HV : Hid (∀ i, i < m → w.cell? ⟨b, i, none⟩ = some (.int .u64 ((V i : Nat) : Int))) := h
  have HW : Hid (∀ i, i < m → w.cell? ⟨b', i, none⟩ = some (.int .u64 ((W i : Nat) : Int))) := h'
  clear h h'
  go_enter Tryd.func31, Tryd.ntmps31
  go_wp2_with fail
  go_loopw [13] (fun t wr => ∃ j : Nat, j ≤ m ∧ t = .int .i64 (j : Int) ∧ (∀ i, i < j → V i = W i) ∧ Drew0 w wr) (fun t _ => m - (intOf t).toNat)
  case atStart => exact ⟨0, by omega, rfl, fun i hi => by omega, ⟨0, rfl⟩⟩
  case round =>
    obtain ⟨j, hj, rfl, hs, md, rfl⟩ := hrel
    by_cases hlt : j < m
    · have cV := HV.out j hlt
      have cW := HW.out j hlt
      have j0 : (0 : Int) ≤ (j : Int) := by omega
      have j1 : (j : Int) < (m : Int) := by omega
      by_cases he : V j = W j
      · have HS : Hid (∀ i, i < j + 1 → V i = W i) := fun i hi => by
          by_cases e : i = j
          · rw [e]; exact he
          · exact hs i (by omega)
        have HJ : Hid (j < m) := hlt
        rw [he] at cV
        generalize W j = x at *
        clear hs he
        go_wp2_with fail
        go_quiet (fail)
        go_wp2_with fail
        go_roundw
        case rel => exact ⟨j + 1, HJ.out, by first | rfl | go_num | simp, HS.out, ⟨_, rfl⟩⟩
        case measure => simp [intOf]; have := HJ.out; omega
      · have HN : Hid (sameW V W m = false) := sameW_no hlt he
        have he2 : ¬ (((V j : Nat) : Int) = ((W j : Nat) : Int)) := by omega
        generalize V j = x at *
        generalize W j = y at *
        go_wp2_with fail
        go_quiet (fail)
        go_wp2_with fail
        go_ret
        exact ⟨by rw [HN.out]; rfl, drew_two _ _ _⟩
    · obtain rfl : j = m := by omega
      have j1 : ¬ ((j : Int) < (j : Int)) := by omega
      have HY : Hid (sameW V W j = true) := sameW_yes hs
      go_wp2_with fail
      go_ret
      exact ⟨by rw [HY.out]; rfl, md, rfl⟩
/-- Same: the sizes and the bits -/
theorem same_bits (h : ∀ i, V i < 18446744073709551616) (h' : ∀ i, W i < 18446744073709551616) (hn : ∀ p, n ≤ p → bitF V p = false) (hn' : ∀ p, n ≤ p → bitF W p = false) : sameW V W (16 * lvN n) = decide (∀ p, p < n → bitF V p = bitF W p) := by
  unfold sameW
  apply decide_eq_decide.2
  have hge := lvN_ge (n := n)
  constructor
  · intro hs p hp
    unfold bitF
    rw [hs (p / 64) (by omega)]
  · intro hs i _
    refine words_ext h h' (fun p => ?_) i
    by_cases hp : p < n
    · exact hs p hp
    · rw [hn p (by omega), hn' p (by omega)]
set_option maxHeartbeats 2000000 in
theorem same_like (w : World) (h : BM w B g n b c V) (h' : BM w B' g' n b' c' W) : Calls Tryd.prog 11 #[.pointer (some ⟨g, 0, none⟩), .pointer (some ⟨g', 0, none⟩)] w fun e w' => e = .returned (.bool (decide (∀ p, p < n → bitF V p = bitF W p))) ∧ ∃ m, w' = w.drewN m := by
  have c0 := h.c0
  have c1 := h.c1
  have d0 := h'.c0
  have d1 := h'.c1
  have hl := lvN_le h.n2
  have HE : Hid (∀ m, Calls Tryd.prog 31 #[.slice (some ⟨b, 0, none⟩) (16 * lvN n) c, .slice (some ⟨b', 0, none⟩) (16 * lvN n) c'] (w.drewN m) fun e w' => e = .returned (.bool (decide (∀ p, p < n → bitF V p = bitF W p))) ∧ ∃ k, w' = (w.drewN m).drewN k) := fun m => by
    have := eqWords_any (16 * lvN n) c c' (by omega) (w.drewN m) (fun i hi => (h.dN m).word hi) (fun i hi => (h'.dN m).word hi)
    rw [same_bits h.lt h'.lt h.tail h'.tail] at this
    exact this
  clear h h' hl
  generalize decide (∀ p, p < n → bitF V p = bitF W p) = bb at *
  generalize 16 * lvN n = k at *
  go_enter Tryd.func11, Tryd.ntmps11
  go_wp2_with fail
  go_quiet ((go_at_call 31; exact Calls.quiet_of (HE.out _)))
  go_wp2_with fail
  go_ret
  exact ⟨rfl, _, rfl⟩
theorem same_unlike (w : World) (h : BM w B g n b c V) (h' : BM w B' g' n' b' c' W) (hne : n ≠ n') : Calls Tryd.prog 11 #[.pointer (some ⟨g, 0, none⟩), .pointer (some ⟨g', 0, none⟩)] w fun e w' => e = .returned (.bool false) ∧ ∃ m, w' = w.drewN m := by
  have c0 := h.c0
  have d0 := h'.c0
  have hne2 : decide ((n : Int) = (n' : Int)) = false := by simp; omega
  have hne3 : ((n : Int) == (n' : Int)) = false := by simp; omega
  have hne4 : ¬ ((n : Int) = (n' : Int)) := by omega
  clear h h' hne
  go_enter Tryd.func11, Tryd.ntmps11
  go_wp2_with fail
  go_quiet (fail)
  go_wp2_with fail
  go_ret
  exact ⟨rfl, _, rfl⟩
/-- what two words come to -/
structure Both (f : Nat) (op : Nat → Nat → Nat) (bop : Bool → Bool → Bool) : Prop where
  call : ∀ (x y : Nat) (w : World), x < 18446744073709551616 → y < 18446744073709551616 → Calls Tryd.prog f #[.int .u64 (x : Int), .int .u64 (y : Int)] w fun e w' => e = .returned (.int .u64 ((op x y : Nat) : Int)) ∧ w' = w
  lt : ∀ x y, x < 18446744073709551616 → y < 18446744073709551616 → op x y < 18446744073709551616
  bit : ∀ x y j, x < 18446744073709551616 → y < 18446744073709551616 → j < 64 → (op x y).testBit j = bop (x.testBit j) (y.testBit j)
  none : bop false false = false
theorem both_either : Both 28 (fun x y => x ||| y) (fun x y => x || y) := ⟨fun x y w hx hy => by
    have H : Hid (bits .or .u64 (x : Int) (y : Int) = ((x ||| y : Nat) : Int)) := u64_or_nat _ _ hx hy
    go_enter Tryd.func28, Tryd.ntmps28
    go_wp2_with fail
    go_ret
    exact ⟨by rw [← H.out]; rfl, rfl⟩, fun x y => or_lt64 x y, fun x y j _ _ _ => Nat.testBit_or x y j, rfl⟩
theorem both_less : Both 29 (fun x y => x &&& notN y) (fun x y => x && !y) := ⟨fun x y w hx hy => by
    have H : Hid (bits .andNot .u64 (x : Int) (y : Int) = ((x &&& notN y : Nat) : Int)) := u64_andNot_nat _ _ hx hy
    go_enter Tryd.func29, Tryd.ntmps29
    go_wp2_with fail
    go_ret
    exact ⟨by rw [← H.out]; rfl, rfl⟩, fun x y hx _ => and_lt64 x _ hx, fun x y j _ hy hj => by rw [Nat.testBit_and, notN_bit y j hy hj], rfl⟩
theorem both_cross : Both 30 (fun x y => x &&& y) (fun x y => x && y) := ⟨fun x y w hx hy => by
    have H : Hid (bits .and .u64 (x : Int) (y : Int) = ((x &&& y : Nat) : Int)) := u64_and_nat _ _ hx hy
    go_enter Tryd.func30, Tryd.ntmps30
    go_wp2_with fail
    go_ret
    exact ⟨by rw [← H.out]; rfl, rfl⟩, fun x y hx _ => and_lt64 x _ hx, fun x y j _ _ _ => Nat.testBit_and x y j, rfl⟩
def mixW (op : Nat → Nat → Nat) (V W : Nat → Nat) (j : Nat) : Nat → Nat := fun i => if i < j then op (V i) (W i) else V i
theorem mixW_step (op : Nat → Nat → Nat) (V W : Nat → Nat) (j : Nat) : updN (mixW op V W j) j (op (V j) (W j)) = mixW op V W (j + 1) := by
  funext i
  unfold updN mixW
  by_cases h : i = j
  · subst h; simp
  · rw [if_neg h]
    by_cases h2 : i < j
    · rw [if_pos h2, if_pos (by omega)]
    · rw [if_neg h2, if_neg (by omega)]
theorem mixW_bit {f : Nat} {op : Nat → Nat → Nat} {bop : Bool → Bool → Bool} (hf : Both f op bop) (hV : ∀ i, V i < 18446744073709551616) (hW : ∀ i, W i < 18446744073709551616) (j p : Nat) : bitF (mixW op V W j) p = if p / 64 < j then bop (bitF V p) (bitF W p) else bitF V p := by
  unfold bitF mixW
  by_cases h : p / 64 < j
  · rw [if_pos h, if_pos h, hf.bit _ _ _ (hV _) (hW _) (by omega)]
  · rw [if_neg h, if_neg h]
set_option maxHeartbeats 4000000 in
theorem with_either {op : Nat → Nat → Nat} {bop : Bool → Bool → Bool} (hf : Both 28 op bop) (w : World) (h : BM w B g n b c V) (h' : BM w B' g' n b' c' W) : Calls Tryd.prog 27 #[.pointer (some ⟨g, 0, none⟩), .pointer (some ⟨g', 0, none⟩), .func (.func 28) #[] #[]] w fun e w' => ∃ g2, e = .returned (.tuple #[.pointer (some ⟨g2, 0, none⟩), .int .i64 0]) ∧ (∃ b2 c2 U, BM w' w.heap.size g2 n b2 c2 U ∧ ∀ p, bitF U p = bop (bitF V p) (bitF W p)) ∧ Below w.heap.size w w' := by
  have c0 := h.c0
  have d0 := h'.c0
  have hl := lvN_le h.n2
  have hge := lvN_ge (n := n)
  have HCL : Hid (∀ m, Calls Tryd.prog 12 #[.pointer (some ⟨g, 0, none⟩)] (w.drewN m) fun e w' => ∃ g2 b2 c2, e = .returned (.pointer (some ⟨g2, 0, none⟩)) ∧ BM w' w.heap.size g2 n b2 c2 V ∧ Below w.heap.size w w') := fun m => by
    refine (bclone_any _ (h.dN m)).mono ?_
    rintro e w1 ⟨g2, b2, c2, rfl, h1, h2⟩
    exact ⟨g2, b2, c2, rfl, h1, ⟨h2.os, h2.tape, h2.output, h2.size, h2.block⟩⟩
  have HO : Hid (∀ U : World, Below w.heap.size w U → BM U B' g' n b' c' W) := fun U hU => h'.below hU
  have HV := h.lt
  have HW := h'.lt
  have HVT := h.tail
  have HWT := h'.tail
  clear h h'
  go_enter Tryd.func27, Tryd.ntmps27
  go_wp2_with fail
  go_quiet (fail)
  go_wp2_with fail
  refine (HCL.out _).mono ?_
  rintro e w1 ⟨g2, b2, c2, rfl, hM1, hb1⟩
  have o1 := (HO.out w1 hb1).c1
  have HK : Hid (16 * lvN n ≤ 128 ∧ n ≤ 64 * (16 * lvN n)) := ⟨by omega, by omega⟩
  go_wp2_with fail
  have HF : Hid (Both 28 op bop) := hf
  have HM1 : Hid (BM w1 w.heap.size g2 n b2 c2 (mixW op V W 0)) := hM1.congr (fun i => by unfold mixW; rw [if_neg (by omega)]; exact HV i) fun p => by rw [mixW_bit hf HV HW, if_neg (by omega)]
  have HB1 : Hid (Below w.heap.size w w1) := hb1
  have HVL : Hid (∀ i, V i < 18446744073709551616) := HV
  have HWL : Hid (∀ i, W i < 18446744073709551616) := HW
  have HT0 : Hid (∀ j p, n ≤ p → bitF (mixW op V W j) p = false) := fun j p hp => by
    rw [mixW_bit hf HV HW, HVT p hp, HWT p hp, hf.none]
    split <;> rfl
  clear hM1 hb1 HV HW HVT HWT HCL hf o1 c0 d0 hl hge
  generalize hk0 : 16 * lvN n = k at *
  go_loopw [41] (fun t wr => ∃ j : Nat, j ≤ k ∧ t = .int .i64 (j : Int) ∧ BM wr w.heap.size g2 n b2 c2 (mixW op V W j) ∧ Below w.heap.size w wr) (fun t _ => k - (intOf t).toNat)
  case atStart => exact ⟨0, by omega, rfl, HM1.out, HB1.out⟩
  case round =>
    clear HM1 HB1
    have hk128 := HK.out.1
    obtain ⟨j, hj, rfl, hM, hb⟩ := hrel
    by_cases hlt : j < k
    · have j0 : (0 : Int) ≤ (j : Int) := by omega
      have j1 : (j : Int) < (k : Int) := by omega
      have hO := HO.out wr hb
      have co := hO.word (i := j) (by omega)
      have hx : mixW op V W j j = V j := by unfold mixW; rw [if_neg (by omega)]
      have cx := hM.word (i := j) (by omega)
      rw [hx] at cx
      have cf := hM.frozen j
      have c1 := hM.c1
      rw [hk0] at c1
      have HBOTH : Hid (∀ U : World, Calls Tryd.prog 28 #[.int .u64 ((V j : Nat) : Int), .int .u64 ((W j : Nat) : Int)] U fun e w' => e = .returned (.int .u64 ((op (V j) (W j) : Nat) : Int)) ∧ w' = U) := fun U => HF.out.call _ _ U (HVL.out j) (HWL.out j)
      have HPUT : Hid (∀ U : World, BM U w.heap.size g2 n b2 c2 (mixW op V W j) → BM (U.setCell ⟨b2, j, none⟩ (.int .u64 ((op (V j) (W j) : Nat) : Int))) w.heap.size g2 n b2 c2 (mixW op V W (j + 1))) := fun U hU => by
        have := hU.put (i := j) (x := op (V j) (W j)) (by omega) (HF.out.lt _ _ (HVL.out j) (HWL.out j)) (by rw [mixW_step]; exact HT0.out (j + 1))
        rw [mixW_step] at this
        exact this
      have HJ : Hid (j < k) := hlt
      have HBL : w.heap.size ≤ b2 := hM.blt.1
      have S0 : wr.drew.cell? ⟨g2, 1, none⟩ = some (.slice (some ⟨b2, 0, none⟩) k c2) ∧ wr.drew.cell? ⟨b2, j, none⟩ = some (.int .u64 ((V j : Nat) : Int)) ∧ wr.drew.frozen? ⟨b2, j, none⟩ = false ∧ BM wr.drew w.heap.size g2 n b2 c2 (mixW op V W j) ∧ Below w.heap.size w wr.drew := ⟨c1, cx, cf, hM.keep rfl rfl, hb.drew⟩
      clear hO hx cx cf c1 hM hb
      generalize op (V j) (W j) = z at *
      generalize V j = x at *
      generalize W j = y at *
      go_wp2_with fail
      refine wp_region_partsS (fun U => U.cell? ⟨g2, 1, none⟩ = some (.slice (some ⟨b2, 0, none⟩) k c2) ∧ U.cell? ⟨b2, j, none⟩ = some (.int .u64 (x : Int)) ∧ U.frozen? ⟨b2, j, none⟩ = false ∧ BM U w.heap.size g2 n b2 c2 (mixW op V W j) ∧ Below w.heap.size w U) [([0, 4, 5, 6, 10, 13], 1, true), ([], 2, true), ([], 3, true), ([], 7, false), ([], 8, false), ([], 9, false), ([11], 12, false), ([], 14, false)] [15] [16] (by kernel_rfl) (by kernel_rfl) S0 (partsI_yield ?_)
      simp only [List.cons_append, List.nil_append, List.append_nil, List.filterMap_cons, List.filterMap_nil, List.getElem?_toArray, List.getElem?_cons_zero, List.getElem?_cons_succ]
      go_wp2_with fail
      refine ⟨rfl, _, .pointer (some ⟨g2, 0, none⟩), rfl, Or.inl ⟨by rfl, fun W hW => by go_simp⟩, partsI_yield ?_⟩
      simp only [Act.put, List.setIfInBounds_toArray, List.set_cons_zero, List.set_cons_succ]
      simp only [List.cons_append, List.nil_append, List.append_nil, List.filterMap_cons, List.filterMap_nil, List.getElem?_toArray, List.getElem?_cons_zero, List.getElem?_cons_succ]
      go_wp2_with fail
      refine ⟨rfl, _, .pointer (some ⟨g2, 1, none⟩), rfl, Or.inl ⟨by rfl, fun W hW => by go_simp⟩, partsI_yield ?_⟩
      simp only [Act.put, List.setIfInBounds_toArray, List.set_cons_zero, List.set_cons_succ]
      simp only [List.cons_append, List.nil_append, List.append_nil, List.filterMap_cons, List.filterMap_nil, List.getElem?_toArray, List.getElem?_cons_zero, List.getElem?_cons_succ]
      go_wp2_with fail
      refine ⟨rfl, _, .slice (some ⟨b2, 0, none⟩) k c2, rfl, Or.inl ⟨by rfl, fun W hW => by have c1 := hW.1; go_simp⟩, partsI_force ?_⟩
      simp only [Act.put, List.setIfInBounds_toArray, List.set_cons_zero, List.set_cons_succ]
      simp only [List.cons_append, List.nil_append, List.append_nil, List.filterMap_cons, List.filterMap_nil, List.getElem?_toArray, List.getElem?_cons_zero, List.getElem?_cons_succ]
      go_wp2_with fail
      refine ⟨rfl, S0, partsI_force ?_⟩
      simp only [List.cons_append, List.nil_append, List.append_nil, List.filterMap_cons, List.filterMap_nil, List.getElem?_toArray, List.getElem?_cons_zero, List.getElem?_cons_succ]
      go_wp2_with fail
      refine ⟨rfl, S0, partsI_force ?_⟩
      simp only [List.cons_append, List.nil_append, List.append_nil, List.filterMap_cons, List.filterMap_nil, List.getElem?_toArray, List.getElem?_cons_zero, List.getElem?_cons_succ]
      have q1 := S0.1
      go_wp2_with fail
      refine ⟨rfl, S0, partsI_force ?_⟩
      simp only [List.cons_append, List.nil_append, List.append_nil, List.filterMap_cons, List.filterMap_nil, List.getElem?_toArray, List.getElem?_cons_zero, List.getElem?_cons_succ]
      have q2 := S0.2.1
      go_wp2_with fail
      refine ⟨rfl, S0, partsI_force ?_⟩
      simp only [List.cons_append, List.nil_append, List.append_nil, List.filterMap_cons, List.filterMap_nil, List.getElem?_toArray, List.getElem?_cons_zero, List.getElem?_cons_succ]
      go_wp2_with fail
      refine (HBOTH.out _).mono ?_
      rintro e2 w5 ⟨rfl, rfl⟩
      go_wp2_with fail
      refine ⟨rfl, S0, partsI_last ?_⟩
      simp only [List.cons_append, List.nil_append, List.append_nil, List.filterMap_cons, List.filterMap_nil, List.getElem?_toArray, List.getElem?_cons_zero, List.getElem?_cons_succ]
      obtain ⟨q1, q2, q3, hM5, hb5⟩ := S0
      have HM6 : Hid (BM (wr.drew.setCell ⟨b2, j, none⟩ (.int .u64 (z : Int))) w.heap.size g2 n b2 c2 (mixW op V W (j + 1))) := HPUT.out _ hM5
      have HB6 : Hid (Below w.heap.size w (wr.drew.setCell ⟨b2, j, none⟩ (.int .u64 (z : Int)))) := hb5.setCell (p := ⟨b2, j, none⟩) HBL _
      clear HPUT HBOTH hM5 hb5
      go_wp2_with fail
      refine ⟨rfl, ?_⟩
      go_wp2_with fail
      go_roundw
      case rel => exact ⟨j + 1, HJ.out, by first | rfl | go_num | simp, HM6.out, HB6.out⟩
      case measure => simp [intOf]; have := HJ.out; omega
    · obtain rfl : j = k := by omega
      have j1 : ¬ ((j : Int) < (j : Int)) := by omega
      have HR : Hid (∃ b2 c2 U, BM wr w.heap.size g2 n b2 c2 U ∧ ∀ p, bitF U p = bop (bitF V p) (bitF W p)) := ⟨b2, c2, _, hM, fun p => by
        rw [mixW_bit HF.out HVL.out HWL.out]
        by_cases hp : p / 64 < j
        · rw [if_pos hp]
        · rw [if_neg hp]
          have h1 := HT0.out 0 p (by have := HK.out; omega)
          rw [mixW_bit HF.out HVL.out HWL.out, if_neg (by omega)] at h1
          have hw := (HO.out wr hb).tail p (by have := HK.out; omega)
          rw [h1, hw, HF.out.none]⟩
      clear hM
      go_wp2_with fail
      go_ret2
      exact ⟨g2, rfl, HR.out, hb⟩
set_option maxHeartbeats 4000000 in
theorem with_less {op : Nat → Nat → Nat} {bop : Bool → Bool → Bool} (hf : Both 29 op bop) (w : World) (h : BM w B g n b c V) (h' : BM w B' g' n b' c' W) : Calls Tryd.prog 27 #[.pointer (some ⟨g, 0, none⟩), .pointer (some ⟨g', 0, none⟩), .func (.func 29) #[] #[]] w fun e w' => ∃ g2, e = .returned (.tuple #[.pointer (some ⟨g2, 0, none⟩), .int .i64 0]) ∧ (∃ b2 c2 U, BM w' w.heap.size g2 n b2 c2 U ∧ ∀ p, bitF U p = bop (bitF V p) (bitF W p)) ∧ Below w.heap.size w w' := by
  have c0 := h.c0
  have d0 := h'.c0
  have hl := lvN_le h.n2
  have hge := lvN_ge (n := n)
  have HCL : Hid (∀ m, Calls Tryd.prog 12 #[.pointer (some ⟨g, 0, none⟩)] (w.drewN m) fun e w' => ∃ g2 b2 c2, e = .returned (.pointer (some ⟨g2, 0, none⟩)) ∧ BM w' w.heap.size g2 n b2 c2 V ∧ Below w.heap.size w w') := fun m => by
    refine (bclone_any _ (h.dN m)).mono ?_
    rintro e w1 ⟨g2, b2, c2, rfl, h1, h2⟩
    exact ⟨g2, b2, c2, rfl, h1, ⟨h2.os, h2.tape, h2.output, h2.size, h2.block⟩⟩
  have HO : Hid (∀ U : World, Below w.heap.size w U → BM U B' g' n b' c' W) := fun U hU => h'.below hU
  have HV := h.lt
  have HW := h'.lt
  have HVT := h.tail
  have HWT := h'.tail
  clear h h'
  go_enter Tryd.func27, Tryd.ntmps27
  go_wp2_with fail
  go_quiet (fail)
  go_wp2_with fail
  refine (HCL.out _).mono ?_
  rintro e w1 ⟨g2, b2, c2, rfl, hM1, hb1⟩
  have o1 := (HO.out w1 hb1).c1
  have HK : Hid (16 * lvN n ≤ 128 ∧ n ≤ 64 * (16 * lvN n)) := ⟨by omega, by omega⟩
  go_wp2_with fail
  have HF : Hid (Both 29 op bop) := hf
  have HM1 : Hid (BM w1 w.heap.size g2 n b2 c2 (mixW op V W 0)) := hM1.congr (fun i => by unfold mixW; rw [if_neg (by omega)]; exact HV i) fun p => by rw [mixW_bit hf HV HW, if_neg (by omega)]
  have HB1 : Hid (Below w.heap.size w w1) := hb1
  have HVL : Hid (∀ i, V i < 18446744073709551616) := HV
  have HWL : Hid (∀ i, W i < 18446744073709551616) := HW
  have HT0 : Hid (∀ j p, n ≤ p → bitF (mixW op V W j) p = false) := fun j p hp => by
    rw [mixW_bit hf HV HW, HVT p hp, HWT p hp, hf.none]
    split <;> rfl
  clear hM1 hb1 HV HW HVT HWT HCL hf o1 c0 d0 hl hge
  generalize hk0 : 16 * lvN n = k at *
  go_loopw [41] (fun t wr => ∃ j : Nat, j ≤ k ∧ t = .int .i64 (j : Int) ∧ BM wr w.heap.size g2 n b2 c2 (mixW op V W j) ∧ Below w.heap.size w wr) (fun t _ => k - (intOf t).toNat)
  case atStart => exact ⟨0, by omega, rfl, HM1.out, HB1.out⟩
  case round =>
    clear HM1 HB1
    have hk128 := HK.out.1
    obtain ⟨j, hj, rfl, hM, hb⟩ := hrel
    by_cases hlt : j < k
    · have j0 : (0 : Int) ≤ (j : Int) := by omega
      have j1 : (j : Int) < (k : Int) := by omega
      have hO := HO.out wr hb
      have co := hO.word (i := j) (by omega)
      have hx : mixW op V W j j = V j := by unfold mixW; rw [if_neg (by omega)]
      have cx := hM.word (i := j) (by omega)
      rw [hx] at cx
      have cf := hM.frozen j
      have c1 := hM.c1
      rw [hk0] at c1
      have HBOTH : Hid (∀ U : World, Calls Tryd.prog 29 #[.int .u64 ((V j : Nat) : Int), .int .u64 ((W j : Nat) : Int)] U fun e w' => e = .returned (.int .u64 ((op (V j) (W j) : Nat) : Int)) ∧ w' = U) := fun U => HF.out.call _ _ U (HVL.out j) (HWL.out j)
      have HPUT : Hid (∀ U : World, BM U w.heap.size g2 n b2 c2 (mixW op V W j) → BM (U.setCell ⟨b2, j, none⟩ (.int .u64 ((op (V j) (W j) : Nat) : Int))) w.heap.size g2 n b2 c2 (mixW op V W (j + 1))) := fun U hU => by
        have := hU.put (i := j) (x := op (V j) (W j)) (by omega) (HF.out.lt _ _ (HVL.out j) (HWL.out j)) (by rw [mixW_step]; exact HT0.out (j + 1))
        rw [mixW_step] at this
        exact this
      have HJ : Hid (j < k) := hlt
      have HBL : w.heap.size ≤ b2 := hM.blt.1
      have S0 : wr.drew.cell? ⟨g2, 1, none⟩ = some (.slice (some ⟨b2, 0, none⟩) k c2) ∧ wr.drew.cell? ⟨b2, j, none⟩ = some (.int .u64 ((V j : Nat) : Int)) ∧ wr.drew.frozen? ⟨b2, j, none⟩ = false ∧ BM wr.drew w.heap.size g2 n b2 c2 (mixW op V W j) ∧ Below w.heap.size w wr.drew := ⟨c1, cx, cf, hM.keep rfl rfl, hb.drew⟩
      clear hO hx cx cf c1 hM hb
      generalize op (V j) (W j) = z at *
      generalize V j = x at *
      generalize W j = y at *
      go_wp2_with fail
      refine wp_region_partsS (fun U => U.cell? ⟨g2, 1, none⟩ = some (.slice (some ⟨b2, 0, none⟩) k c2) ∧ U.cell? ⟨b2, j, none⟩ = some (.int .u64 (x : Int)) ∧ U.frozen? ⟨b2, j, none⟩ = false ∧ BM U w.heap.size g2 n b2 c2 (mixW op V W j) ∧ Below w.heap.size w U) [([0, 4, 5, 6, 10, 13], 1, true), ([], 2, true), ([], 3, true), ([], 7, false), ([], 8, false), ([], 9, false), ([11], 12, false), ([], 14, false)] [15] [16] (by kernel_rfl) (by kernel_rfl) S0 (partsI_yield ?_)
      simp only [List.cons_append, List.nil_append, List.append_nil, List.filterMap_cons, List.filterMap_nil, List.getElem?_toArray, List.getElem?_cons_zero, List.getElem?_cons_succ]
      go_wp2_with fail
      refine ⟨rfl, _, .pointer (some ⟨g2, 0, none⟩), rfl, Or.inl ⟨by rfl, fun W hW => by go_simp⟩, partsI_yield ?_⟩
      simp only [Act.put, List.setIfInBounds_toArray, List.set_cons_zero, List.set_cons_succ]
      simp only [List.cons_append, List.nil_append, List.append_nil, List.filterMap_cons, List.filterMap_nil, List.getElem?_toArray, List.getElem?_cons_zero, List.getElem?_cons_succ]
      go_wp2_with fail
      refine ⟨rfl, _, .pointer (some ⟨g2, 1, none⟩), rfl, Or.inl ⟨by rfl, fun W hW => by go_simp⟩, partsI_yield ?_⟩
      simp only [Act.put, List.setIfInBounds_toArray, List.set_cons_zero, List.set_cons_succ]
      simp only [List.cons_append, List.nil_append, List.append_nil, List.filterMap_cons, List.filterMap_nil, List.getElem?_toArray, List.getElem?_cons_zero, List.getElem?_cons_succ]
      go_wp2_with fail
      refine ⟨rfl, _, .slice (some ⟨b2, 0, none⟩) k c2, rfl, Or.inl ⟨by rfl, fun W hW => by have c1 := hW.1; go_simp⟩, partsI_force ?_⟩
      simp only [Act.put, List.setIfInBounds_toArray, List.set_cons_zero, List.set_cons_succ]
      simp only [List.cons_append, List.nil_append, List.append_nil, List.filterMap_cons, List.filterMap_nil, List.getElem?_toArray, List.getElem?_cons_zero, List.getElem?_cons_succ]
      go_wp2_with fail
      refine ⟨rfl, S0, partsI_force ?_⟩
      simp only [List.cons_append, List.nil_append, List.append_nil, List.filterMap_cons, List.filterMap_nil, List.getElem?_toArray, List.getElem?_cons_zero, List.getElem?_cons_succ]
      go_wp2_with fail
      refine ⟨rfl, S0, partsI_force ?_⟩
      simp only [List.cons_append, List.nil_append, List.append_nil, List.filterMap_cons, List.filterMap_nil, List.getElem?_toArray, List.getElem?_cons_zero, List.getElem?_cons_succ]
      have q1 := S0.1
      go_wp2_with fail
      refine ⟨rfl, S0, partsI_force ?_⟩
      simp only [List.cons_append, List.nil_append, List.append_nil, List.filterMap_cons, List.filterMap_nil, List.getElem?_toArray, List.getElem?_cons_zero, List.getElem?_cons_succ]
      have q2 := S0.2.1
      go_wp2_with fail
      refine ⟨rfl, S0, partsI_force ?_⟩
      simp only [List.cons_append, List.nil_append, List.append_nil, List.filterMap_cons, List.filterMap_nil, List.getElem?_toArray, List.getElem?_cons_zero, List.getElem?_cons_succ]
      go_wp2_with fail
      refine (HBOTH.out _).mono ?_
      rintro e2 w5 ⟨rfl, rfl⟩
      go_wp2_with fail
      refine ⟨rfl, S0, partsI_last ?_⟩
      simp only [List.cons_append, List.nil_append, List.append_nil, List.filterMap_cons, List.filterMap_nil, List.getElem?_toArray, List.getElem?_cons_zero, List.getElem?_cons_succ]
      obtain ⟨q1, q2, q3, hM5, hb5⟩ := S0
      have HM6 : Hid (BM (wr.drew.setCell ⟨b2, j, none⟩ (.int .u64 (z : Int))) w.heap.size g2 n b2 c2 (mixW op V W (j + 1))) := HPUT.out _ hM5
      have HB6 : Hid (Below w.heap.size w (wr.drew.setCell ⟨b2, j, none⟩ (.int .u64 (z : Int)))) := hb5.setCell (p := ⟨b2, j, none⟩) HBL _
      clear HPUT HBOTH hM5 hb5
      go_wp2_with fail
      refine ⟨rfl, ?_⟩
      go_wp2_with fail
      go_roundw
      case rel => exact ⟨j + 1, HJ.out, by first | rfl | go_num | simp, HM6.out, HB6.out⟩
      case measure => simp [intOf]; have := HJ.out; omega
    · obtain rfl : j = k := by omega
      have j1 : ¬ ((j : Int) < (j : Int)) := by omega
      have HR : Hid (∃ b2 c2 U, BM wr w.heap.size g2 n b2 c2 U ∧ ∀ p, bitF U p = bop (bitF V p) (bitF W p)) := ⟨b2, c2, _, hM, fun p => by
        rw [mixW_bit HF.out HVL.out HWL.out]
        by_cases hp : p / 64 < j
        · rw [if_pos hp]
        · rw [if_neg hp]
          have h1 := HT0.out 0 p (by have := HK.out; omega)
          rw [mixW_bit HF.out HVL.out HWL.out, if_neg (by omega)] at h1
          have hw := (HO.out wr hb).tail p (by have := HK.out; omega)
          rw [h1, hw, HF.out.none]⟩
      clear hM
      go_wp2_with fail
      go_ret2
      exact ⟨g2, rfl, HR.out, hb⟩
set_option maxHeartbeats 4000000 in
theorem with_cross {op : Nat → Nat → Nat} {bop : Bool → Bool → Bool} (hf : Both 30 op bop) (w : World) (h : BM w B g n b c V) (h' : BM w B' g' n b' c' W) : Calls Tryd.prog 27 #[.pointer (some ⟨g, 0, none⟩), .pointer (some ⟨g', 0, none⟩), .func (.func 30) #[] #[]] w fun e w' => ∃ g2, e = .returned (.tuple #[.pointer (some ⟨g2, 0, none⟩), .int .i64 0]) ∧ (∃ b2 c2 U, BM w' w.heap.size g2 n b2 c2 U ∧ ∀ p, bitF U p = bop (bitF V p) (bitF W p)) ∧ Below w.heap.size w w' := by
  have c0 := h.c0
  have d0 := h'.c0
  have hl := lvN_le h.n2
  have hge := lvN_ge (n := n)
  have HCL : Hid (∀ m, Calls Tryd.prog 12 #[.pointer (some ⟨g, 0, none⟩)] (w.drewN m) fun e w' => ∃ g2 b2 c2, e = .returned (.pointer (some ⟨g2, 0, none⟩)) ∧ BM w' w.heap.size g2 n b2 c2 V ∧ Below w.heap.size w w') := fun m => by
    refine (bclone_any _ (h.dN m)).mono ?_
    rintro e w1 ⟨g2, b2, c2, rfl, h1, h2⟩
    exact ⟨g2, b2, c2, rfl, h1, ⟨h2.os, h2.tape, h2.output, h2.size, h2.block⟩⟩
  have HO : Hid (∀ U : World, Below w.heap.size w U → BM U B' g' n b' c' W) := fun U hU => h'.below hU
  have HV := h.lt
  have HW := h'.lt
  have HVT := h.tail
  have HWT := h'.tail
  clear h h'
  go_enter Tryd.func27, Tryd.ntmps27
  go_wp2_with fail
  go_quiet (fail)
  go_wp2_with fail
  refine (HCL.out _).mono ?_
  rintro e w1 ⟨g2, b2, c2, rfl, hM1, hb1⟩
  have o1 := (HO.out w1 hb1).c1
  have HK : Hid (16 * lvN n ≤ 128 ∧ n ≤ 64 * (16 * lvN n)) := ⟨by omega, by omega⟩
  go_wp2_with fail
  have HF : Hid (Both 30 op bop) := hf
  have HM1 : Hid (BM w1 w.heap.size g2 n b2 c2 (mixW op V W 0)) := hM1.congr (fun i => by unfold mixW; rw [if_neg (by omega)]; exact HV i) fun p => by rw [mixW_bit hf HV HW, if_neg (by omega)]
  have HB1 : Hid (Below w.heap.size w w1) := hb1
  have HVL : Hid (∀ i, V i < 18446744073709551616) := HV
  have HWL : Hid (∀ i, W i < 18446744073709551616) := HW
  have HT0 : Hid (∀ j p, n ≤ p → bitF (mixW op V W j) p = false) := fun j p hp => by
    rw [mixW_bit hf HV HW, HVT p hp, HWT p hp, hf.none]
    split <;> rfl
  clear hM1 hb1 HV HW HVT HWT HCL hf o1 c0 d0 hl hge
  generalize hk0 : 16 * lvN n = k at *
  go_loopw [41] (fun t wr => ∃ j : Nat, j ≤ k ∧ t = .int .i64 (j : Int) ∧ BM wr w.heap.size g2 n b2 c2 (mixW op V W j) ∧ Below w.heap.size w wr) (fun t _ => k - (intOf t).toNat)
  case atStart => exact ⟨0, by omega, rfl, HM1.out, HB1.out⟩
  case round =>
    clear HM1 HB1
    have hk128 := HK.out.1
    obtain ⟨j, hj, rfl, hM, hb⟩ := hrel
    by_cases hlt : j < k
    · have j0 : (0 : Int) ≤ (j : Int) := by omega
      have j1 : (j : Int) < (k : Int) := by omega
      have hO := HO.out wr hb
      have co := hO.word (i := j) (by omega)
      have hx : mixW op V W j j = V j := by unfold mixW; rw [if_neg (by omega)]
      have cx := hM.word (i := j) (by omega)
      rw [hx] at cx
      have cf := hM.frozen j
      have c1 := hM.c1
      rw [hk0] at c1
      have HBOTH : Hid (∀ U : World, Calls Tryd.prog 30 #[.int .u64 ((V j : Nat) : Int), .int .u64 ((W j : Nat) : Int)] U fun e w' => e = .returned (.int .u64 ((op (V j) (W j) : Nat) : Int)) ∧ w' = U) := fun U => HF.out.call _ _ U (HVL.out j) (HWL.out j)
      have HPUT : Hid (∀ U : World, BM U w.heap.size g2 n b2 c2 (mixW op V W j) → BM (U.setCell ⟨b2, j, none⟩ (.int .u64 ((op (V j) (W j) : Nat) : Int))) w.heap.size g2 n b2 c2 (mixW op V W (j + 1))) := fun U hU => by
        have := hU.put (i := j) (x := op (V j) (W j)) (by omega) (HF.out.lt _ _ (HVL.out j) (HWL.out j)) (by rw [mixW_step]; exact HT0.out (j + 1))
        rw [mixW_step] at this
        exact this
      have HJ : Hid (j < k) := hlt
      have HBL : w.heap.size ≤ b2 := hM.blt.1
      have S0 : wr.drew.cell? ⟨g2, 1, none⟩ = some (.slice (some ⟨b2, 0, none⟩) k c2) ∧ wr.drew.cell? ⟨b2, j, none⟩ = some (.int .u64 ((V j : Nat) : Int)) ∧ wr.drew.frozen? ⟨b2, j, none⟩ = false ∧ BM wr.drew w.heap.size g2 n b2 c2 (mixW op V W j) ∧ Below w.heap.size w wr.drew := ⟨c1, cx, cf, hM.keep rfl rfl, hb.drew⟩
      clear hO hx cx cf c1 hM hb
      generalize op (V j) (W j) = z at *
      generalize V j = x at *
      generalize W j = y at *
      go_wp2_with fail
      refine wp_region_partsS (fun U => U.cell? ⟨g2, 1, none⟩ = some (.slice (some ⟨b2, 0, none⟩) k c2) ∧ U.cell? ⟨b2, j, none⟩ = some (.int .u64 (x : Int)) ∧ U.frozen? ⟨b2, j, none⟩ = false ∧ BM U w.heap.size g2 n b2 c2 (mixW op V W j) ∧ Below w.heap.size w U) [([0, 4, 5, 6, 10, 13], 1, true), ([], 2, true), ([], 3, true), ([], 7, false), ([], 8, false), ([], 9, false), ([11], 12, false), ([], 14, false)] [15] [16] (by kernel_rfl) (by kernel_rfl) S0 (partsI_yield ?_)
      simp only [List.cons_append, List.nil_append, List.append_nil, List.filterMap_cons, List.filterMap_nil, List.getElem?_toArray, List.getElem?_cons_zero, List.getElem?_cons_succ]
      go_wp2_with fail
      refine ⟨rfl, _, .pointer (some ⟨g2, 0, none⟩), rfl, Or.inl ⟨by rfl, fun W hW => by go_simp⟩, partsI_yield ?_⟩
      simp only [Act.put, List.setIfInBounds_toArray, List.set_cons_zero, List.set_cons_succ]
      simp only [List.cons_append, List.nil_append, List.append_nil, List.filterMap_cons, List.filterMap_nil, List.getElem?_toArray, List.getElem?_cons_zero, List.getElem?_cons_succ]
      go_wp2_with fail
      refine ⟨rfl, _, .pointer (some ⟨g2, 1, none⟩), rfl, Or.inl ⟨by rfl, fun W hW => by go_simp⟩, partsI_yield ?_⟩
      simp only [Act.put, List.setIfInBounds_toArray, List.set_cons_zero, List.set_cons_succ]
      simp only [List.cons_append, List.nil_append, List.append_nil, List.filterMap_cons, List.filterMap_nil, List.getElem?_toArray, List.getElem?_cons_zero, List.getElem?_cons_succ]
      go_wp2_with fail
      refine ⟨rfl, _, .slice (some ⟨b2, 0, none⟩) k c2, rfl, Or.inl ⟨by rfl, fun W hW => by have c1 := hW.1; go_simp⟩, partsI_force ?_⟩
      simp only [Act.put, List.setIfInBounds_toArray, List.set_cons_zero, List.set_cons_succ]
      simp only [List.cons_append, List.nil_append, List.append_nil, List.filterMap_cons, List.filterMap_nil, List.getElem?_toArray, List.getElem?_cons_zero, List.getElem?_cons_succ]
      go_wp2_with fail
      refine ⟨rfl, S0, partsI_force ?_⟩
      simp only [List.cons_append, List.nil_append, List.append_nil, List.filterMap_cons, List.filterMap_nil, List.getElem?_toArray, List.getElem?_cons_zero, List.getElem?_cons_succ]
      go_wp2_with fail
      refine ⟨rfl, S0, partsI_force ?_⟩
      simp only [List.cons_append, List.nil_append, List.append_nil, List.filterMap_cons, List.filterMap_nil, List.getElem?_toArray, List.getElem?_cons_zero, List.getElem?_cons_succ]
      have q1 := S0.1
      go_wp2_with fail
      refine ⟨rfl, S0, partsI_force ?_⟩
      simp only [List.cons_append, List.nil_append, List.append_nil, List.filterMap_cons, List.filterMap_nil, List.getElem?_toArray, List.getElem?_cons_zero, List.getElem?_cons_succ]
      have q2 := S0.2.1
      go_wp2_with fail
      refine ⟨rfl, S0, partsI_force ?_⟩
      simp only [List.cons_append, List.nil_append, List.append_nil, List.filterMap_cons, List.filterMap_nil, List.getElem?_toArray, List.getElem?_cons_zero, List.getElem?_cons_succ]
      go_wp2_with fail
      refine (HBOTH.out _).mono ?_
      rintro e2 w5 ⟨rfl, rfl⟩
      go_wp2_with fail
      refine ⟨rfl, S0, partsI_last ?_⟩
      simp only [List.cons_append, List.nil_append, List.append_nil, List.filterMap_cons, List.filterMap_nil, List.getElem?_toArray, List.getElem?_cons_zero, List.getElem?_cons_succ]
      obtain ⟨q1, q2, q3, hM5, hb5⟩ := S0
      have HM6 : Hid (BM (wr.drew.setCell ⟨b2, j, none⟩ (.int .u64 (z : Int))) w.heap.size g2 n b2 c2 (mixW op V W (j + 1))) := HPUT.out _ hM5
      have HB6 : Hid (Below w.heap.size w (wr.drew.setCell ⟨b2, j, none⟩ (.int .u64 (z : Int)))) := hb5.setCell (p := ⟨b2, j, none⟩) HBL _
      clear HPUT HBOTH hM5 hb5
      go_wp2_with fail
      refine ⟨rfl, ?_⟩
      go_wp2_with fail
      go_roundw
      case rel => exact ⟨j + 1, HJ.out, by first | rfl | go_num | simp, HM6.out, HB6.out⟩
      case measure => simp [intOf]; have := HJ.out; omega
    · obtain rfl : j = k := by omega
      have j1 : ¬ ((j : Int) < (j : Int)) := by omega
      have HR : Hid (∃ b2 c2 U, BM wr w.heap.size g2 n b2 c2 U ∧ ∀ p, bitF U p = bop (bitF V p) (bitF W p)) := ⟨b2, c2, _, hM, fun p => by
        rw [mixW_bit HF.out HVL.out HWL.out]
        by_cases hp : p / 64 < j
        · rw [if_pos hp]
        · rw [if_neg hp]
          have h1 := HT0.out 0 p (by have := HK.out; omega)
          rw [mixW_bit HF.out HVL.out HWL.out, if_neg (by omega)] at h1
          have hw := (HO.out wr hb).tail p (by have := HK.out; omega)
          rw [h1, hw, HF.out.none]⟩
      clear hM
      go_wp2_with fail
      go_ret2
      exact ⟨g2, rfl, HR.out, hb⟩
end
end Go.Proofs.YtgcnmopgpdmocaaDoor

namespace Go.Proofs.YtgcnmopgpdmocaaDoor
open Go Go.RowKit
set_option linter.unusedVariables false
set_option linter.unusedSimpArgs false
section
variable {B B' g g' n n' b b' c c' : Nat} {V W : Nat → Nat}
theorem with_unlike (v : Value) (w : World) (h : BM w B g n b c V) (h' : BM w B' g' n' b' c' W) (hne : n ≠ n') : Calls Tryd.prog 27 #[.pointer (some ⟨g, 0, none⟩), .pointer (some ⟨g', 0, none⟩), v] w fun e w' => e = .returned (.tuple #[.pointer none, .int .i64 110]) ∧ ∃ m, w' = w.drewN m := by
  have c0 := h.c0
  have d0 := h'.c0
  have hne4 : ¬ ((n : Int) = (n' : Int)) := by omega
  clear h h' hne
  go_enter Tryd.func27, Tryd.ntmps27
  go_wp2_with fail
  go_quiet (fail)
  go_wp2_with fail
  go_ret2
  exact ⟨rfl, _, rfl⟩
/-- a map put together of two -/
def Made (w w' : World) (g2 n : Nat) (F : Nat → Bool) : Prop := (∃ b2 c2 U, BM w' w.heap.size g2 n b2 c2 U ∧ ∀ p, bitF U p = F p) ∧ Below w.heap.size w w'
theorem either_like (w : World) (h : BM w B g n b c V) (h' : BM w B' g' n b' c' W) : Calls Tryd.prog 8 #[.pointer (some ⟨g, 0, none⟩), .pointer (some ⟨g', 0, none⟩)] w fun e w' => ∃ g2, e = .returned (.tuple #[.pointer (some ⟨g2, 0, none⟩), .int .i64 0]) ∧ Made w w' g2 n fun p => bitF V p || bitF W p := by
  have HW := with_either both_either w h h'
  clear h h'
  go_enter Tryd.func8, Tryd.ntmps8
  go_wp2_with fail
  refine HW.mono ?_
  rintro e w1 ⟨g2, rfl, h1, h2⟩
  have HM : Hid (Made w w1 g2 n fun p => bitF V p || bitF W p) := ⟨h1, h2⟩
  clear h1 h2
  go_wp2_with fail
  go_ret2
  exact ⟨_, rfl, HM.out⟩
theorem less_like (w : World) (h : BM w B g n b c V) (h' : BM w B' g' n b' c' W) : Calls Tryd.prog 9 #[.pointer (some ⟨g, 0, none⟩), .pointer (some ⟨g', 0, none⟩)] w fun e w' => ∃ g2, e = .returned (.tuple #[.pointer (some ⟨g2, 0, none⟩), .int .i64 0]) ∧ Made w w' g2 n fun p => bitF V p && !bitF W p := by
  have HW := with_less both_less w h h'
  clear h h'
  go_enter Tryd.func9, Tryd.ntmps9
  go_wp2_with fail
  refine HW.mono ?_
  rintro e w1 ⟨g2, rfl, h1, h2⟩
  have HM : Hid (Made w w1 g2 n fun p => bitF V p && !bitF W p) := ⟨h1, h2⟩
  clear h1 h2
  go_wp2_with fail
  go_ret2
  exact ⟨_, rfl, HM.out⟩
theorem cross_like (w : World) (h : BM w B g n b c V) (h' : BM w B' g' n b' c' W) : Calls Tryd.prog 10 #[.pointer (some ⟨g, 0, none⟩), .pointer (some ⟨g', 0, none⟩)] w fun e w' => ∃ g2, e = .returned (.tuple #[.pointer (some ⟨g2, 0, none⟩), .int .i64 0]) ∧ Made w w' g2 n fun p => bitF V p && bitF W p := by
  have HW := with_cross both_cross w h h'
  clear h h'
  go_enter Tryd.func10, Tryd.ntmps10
  go_wp2_with fail
  refine HW.mono ?_
  rintro e w1 ⟨g2, rfl, h1, h2⟩
  have HM : Hid (Made w w1 g2 n fun p => bitF V p && bitF W p) := ⟨h1, h2⟩
  clear h1 h2
  go_wp2_with fail
  go_ret2
  exact ⟨_, rfl, HM.out⟩
end
end Go.Proofs.YtgcnmopgpdmocaaDoor
