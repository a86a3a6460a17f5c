/- A room in the memory: two maps of bits; what keeps it; New, maps, Blocks, Take, Let, State: the contracts. -/
import Derived.Test.YtjlngldmdfbbaaaDoorHBiSeek
import Derived.Handy

namespace Go.Proofs.YtjlngldmdfbbaaaDoor
open Go Go.RowKit
set_option linter.unusedVariables false
set_option linter.unusedSimpArgs false
section
variable {B B' g g' n n' b b' c c' : Nat} {V W : Nat → Nat}
/-- what two words come to -/
structure Both (f : Nat) (op : Nat → Nat → Nat) (bop : Bool → Bool → Bool) : Prop where
  call : ∀ (x y : Nat) (w : World), x < 18446744073709551616 → y < 18446744073709551616 → Calls Tryd.prog f #[.int .u64 (x : Int), .int .u64 (y : Int)] w fun e w' => e = .returned (.int .u64 ((op x y : Nat) : Int)) ∧ w' = w
  lt : ∀ x y, x < 18446744073709551616 → y < 18446744073709551616 → op x y < 18446744073709551616
  bit : ∀ x y j, x < 18446744073709551616 → y < 18446744073709551616 → j < 64 → (op x y).testBit j = bop (x.testBit j) (y.testBit j)
  none : bop false false = false
theorem both_either : Both 55 (fun x y => x ||| y) (fun x y => x || y) := ⟨fun x y w hx hy => by
    have H : Hid (bits .or .u64 (x : Int) (y : Int) = ((x ||| y : Nat) : Int)) := u64_or_nat _ _ hx hy
    go_enter Tryd.func55, Tryd.ntmps55
    go_wp2_with fail
    go_ret
    exact ⟨by rw [← H.out]; rfl, rfl⟩, fun x y => or_lt64 x y, fun x y j _ _ _ => Nat.testBit_or x y j, rfl⟩
theorem both_less : Both 60 (fun x y => x &&& notN y) (fun x y => x && !y) := ⟨fun x y w hx hy => by
    have H : Hid (bits .andNot .u64 (x : Int) (y : Int) = ((x &&& notN y : Nat) : Int)) := u64_andNot_nat _ _ hx hy
    go_enter Tryd.func60, Tryd.ntmps60
    go_wp2_with fail
    go_ret
    exact ⟨by rw [← H.out]; rfl, rfl⟩, fun x y hx _ => and_lt64 x _ hx, fun x y j _ hy hj => by rw [Nat.testBit_and, notN_bit y j hy hj], rfl⟩
theorem both_cross : Both 61 (fun x y => x &&& y) (fun x y => x && y) := ⟨fun x y w hx hy => by
    have H : Hid (bits .and .u64 (x : Int) (y : Int) = ((x &&& y : Nat) : Int)) := u64_and_nat _ _ hx hy
    go_enter Tryd.func61, Tryd.ntmps61
    go_wp2_with fail
    go_ret
    exact ⟨by rw [← H.out]; rfl, rfl⟩, fun x y hx _ => and_lt64 x _ hx, fun x y j _ _ _ => Nat.testBit_and x y j, rfl⟩
def mixW (op : Nat → Nat → Nat) (V W : Nat → Nat) (j : Nat) : Nat → Nat := fun i => if i < j then op (V i) (W i) else V i
theorem mixW_step (op : Nat → Nat → Nat) (V W : Nat → Nat) (j : Nat) : updN (mixW op V W j) j (op (V j) (W j)) = mixW op V W (j + 1) := by
  funext i
  unfold updN mixW
  by_cases h : i = j
  · subst h; simp
  · rw [if_neg h]
    by_cases h2 : i < j
    · rw [if_pos h2, if_pos (by omega)]
    · rw [if_neg h2, if_neg (by omega)]
theorem mixW_bit {f : Nat} {op : Nat → Nat → Nat} {bop : Bool → Bool → Bool} (hf : Both f op bop) (hV : ∀ i, V i < 18446744073709551616) (hW : ∀ i, W i < 18446744073709551616) (j p : Nat) : bitF (mixW op V W j) p = if p / 64 < j then bop (bitF V p) (bitF W p) else bitF V p := by
  unfold bitF mixW
  by_cases h : p / 64 < j
  · rw [if_pos h, if_pos h, hf.bit _ _ _ (hV _) (hW _) (by omega)]
  · rw [if_neg h, if_neg h]
set_option maxHeartbeats 4000000 in
theorem with_either {op : Nat → Nat → Nat} {bop : Bool → Bool → Bool} (hf : Both 55 op bop) (w : World) (h : BM w B g n b c V) (h' : BM w B' g' n b' c' W) : Calls Tryd.prog 54 #[.pointer (some ⟨g, 0, none⟩), .pointer (some ⟨g', 0, none⟩), .func (.func 55) #[] #[]] w fun e w' => ∃ g2, e = .returned (.tuple #[.pointer (some ⟨g2, 0, none⟩), .int .i64 0]) ∧ (∃ b2 c2 U, BM w' w.heap.size g2 n b2 c2 U ∧ ∀ p, bitF U p = bop (bitF V p) (bitF W p)) ∧ Below w.heap.size w w' := by
  have c0 := h.c0
  have d0 := h'.c0
  have hl := lvN_le h.n2
  have hge := lvN_ge (n := n)
  have HCL : Hid (∀ m, Calls Tryd.prog 38 #[.pointer (some ⟨g, 0, none⟩)] (w.drewN m) fun e w' => ∃ g2 b2 c2, e = .returned (.pointer (some ⟨g2, 0, none⟩)) ∧ BM w' w.heap.size g2 n b2 c2 V ∧ Below w.heap.size w w') := fun m => by
    refine (bclone_any _ (h.dN m)).mono ?_
    rintro e w1 ⟨g2, b2, c2, rfl, h1, h2⟩
    exact ⟨g2, b2, c2, rfl, h1, ⟨h2.os, h2.tape, h2.output, h2.size, h2.block⟩⟩
  have HO : Hid (∀ U : World, Below w.heap.size w U → BM U B' g' n b' c' W) := fun U hU => h'.below hU
  have HV := h.lt
  have HW := h'.lt
  have HVT := h.tail
  have HWT := h'.tail
  clear h h'
  go_enter Tryd.func54, Tryd.ntmps54
  go_wp2_with fail
  go_quiet (fail)
  go_wp2_with fail
  refine (HCL.out _).mono ?_
  rintro e w1 ⟨g2, b2, c2, rfl, hM1, hb1⟩
  have o1 := (HO.out w1 hb1).c1
  have HK : Hid (16 * lvN n ≤ 128 ∧ n ≤ 64 * (16 * lvN n)) := ⟨by omega, by omega⟩
  go_wp2_with fail
  have HF : Hid (Both 55 op bop) := hf
  have HM1 : Hid (BM w1 w.heap.size g2 n b2 c2 (mixW op V W 0)) := hM1.congr (fun i => by unfold mixW; rw [if_neg (by omega)]; exact HV i) fun p => by rw [mixW_bit hf HV HW, if_neg (by omega)]
  have HB1 : Hid (Below w.heap.size w w1) := hb1
  have HVL : Hid (∀ i, V i < 18446744073709551616) := HV
  have HWL : Hid (∀ i, W i < 18446744073709551616) := HW
  have HT0 : Hid (∀ j p, n ≤ p → bitF (mixW op V W j) p = false) := fun j p hp => by
    rw [mixW_bit hf HV HW, HVT p hp, HWT p hp, hf.none]
    split <;> rfl
  clear hM1 hb1 HV HW HVT HWT HCL hf o1 c0 d0 hl hge
  generalize hk0 : 16 * lvN n = k at *
  go_loopw [41] (fun t wr => ∃ j : Nat, j ≤ k ∧ t = .int .i64 (j : Int) ∧ BM wr w.heap.size g2 n b2 c2 (mixW op V W j) ∧ Below w.heap.size w wr) (fun t _ => k - (intOf t).toNat)
  case atStart => exact ⟨0, by omega, rfl, HM1.out, HB1.out⟩
  case round =>
    clear HM1 HB1
    have hk128 := HK.out.1
    obtain ⟨j, hj, rfl, hM, hb⟩ := hrel
    by_cases hlt : j < k
    · have j0 : (0 : Int) ≤ (j : Int) := by omega
      have j1 : (j : Int) < (k : Int) := by omega
      have hO := HO.out wr hb
      have co := hO.word (i := j) (by omega)
      have hx : mixW op V W j j = V j := by unfold mixW; rw [if_neg (by omega)]
      have cx := hM.word (i := j) (by omega)
      rw [hx] at cx
      have cf := hM.frozen j
      have c1 := hM.c1
      rw [hk0] at c1
      have HBOTH : Hid (∀ U : World, Calls Tryd.prog 55 #[.int .u64 ((V j : Nat) : Int), .int .u64 ((W j : Nat) : Int)] U fun e w' => e = .returned (.int .u64 ((op (V j) (W j) : Nat) : Int)) ∧ w' = U) := fun U => HF.out.call _ _ U (HVL.out j) (HWL.out j)
      have HPUT : Hid (∀ U : World, BM U w.heap.size g2 n b2 c2 (mixW op V W j) → BM (U.setCell ⟨b2, j, none⟩ (.int .u64 ((op (V j) (W j) : Nat) : Int))) w.heap.size g2 n b2 c2 (mixW op V W (j + 1))) := fun U hU => by
        have := hU.put (i := j) (x := op (V j) (W j)) (by omega) (HF.out.lt _ _ (HVL.out j) (HWL.out j)) (by rw [mixW_step]; exact HT0.out (j + 1))
        rw [mixW_step] at this
        exact this
      have HJ : Hid (j < k) := hlt
      have HBL : w.heap.size ≤ b2 := hM.blt.1
      have S0 : wr.drew.cell? ⟨g2, 1, none⟩ = some (.slice (some ⟨b2, 0, none⟩) k c2) ∧ wr.drew.cell? ⟨b2, j, none⟩ = some (.int .u64 ((V j : Nat) : Int)) ∧ wr.drew.frozen? ⟨b2, j, none⟩ = false ∧ BM wr.drew w.heap.size g2 n b2 c2 (mixW op V W j) ∧ Below w.heap.size w wr.drew := ⟨c1, cx, cf, hM.keep rfl rfl, hb.drew⟩
      clear hO hx cx cf c1 hM hb
      generalize op (V j) (W j) = z at *
      generalize V j = x at *
      generalize W j = y at *
      go_wp2_with fail
      refine wp_region_partsS (fun U => U.cell? ⟨g2, 1, none⟩ = some (.slice (some ⟨b2, 0, none⟩) k c2) ∧ U.cell? ⟨b2, j, none⟩ = some (.int .u64 (x : Int)) ∧ U.frozen? ⟨b2, j, none⟩ = false ∧ BM U w.heap.size g2 n b2 c2 (mixW op V W j) ∧ Below w.heap.size w U) [([0, 4, 5, 6, 10, 13], 1, true), ([], 2, true), ([], 3, true), ([], 7, false), ([], 8, false), ([], 9, false), ([11], 12, false), ([], 14, false)] [15] [16] (by kernel_rfl) (by kernel_rfl) S0 (partsI_yield ?_)
      simp only [List.cons_append, List.nil_append, List.append_nil, List.filterMap_cons, List.filterMap_nil, List.getElem?_toArray, List.getElem?_cons_zero, List.getElem?_cons_succ]
      go_wp2_with fail
      refine ⟨rfl, _, .pointer (some ⟨g2, 0, none⟩), rfl, Or.inl ⟨by rfl, fun W hW => by go_simp⟩, partsI_yield ?_⟩
      simp only [Act.put, List.setIfInBounds_toArray, List.set_cons_zero, List.set_cons_succ]
      simp only [List.cons_append, List.nil_append, List.append_nil, List.filterMap_cons, List.filterMap_nil, List.getElem?_toArray, List.getElem?_cons_zero, List.getElem?_cons_succ]
      go_wp2_with fail
      refine ⟨rfl, _, .pointer (some ⟨g2, 1, none⟩), rfl, Or.inl ⟨by rfl, fun W hW => by go_simp⟩, partsI_yield ?_⟩
      simp only [Act.put, List.setIfInBounds_toArray, List.set_cons_zero, List.set_cons_succ]
      simp only [List.cons_append, List.nil_append, List.append_nil, List.filterMap_cons, List.filterMap_nil, List.getElem?_toArray, List.getElem?_cons_zero, List.getElem?_cons_succ]
      go_wp2_with fail
      refine ⟨rfl, _, .slice (some ⟨b2, 0, none⟩) k c2, rfl, Or.inl ⟨by rfl, fun W hW => by have c1 := hW.1; go_simp⟩, partsI_force ?_⟩
      simp only [Act.put, List.setIfInBounds_toArray, List.set_cons_zero, List.set_cons_succ]
      simp only [List.cons_append, List.nil_append, List.append_nil, List.filterMap_cons, List.filterMap_nil, List.getElem?_toArray, List.getElem?_cons_zero, List.getElem?_cons_succ]
      go_wp2_with fail
      refine ⟨rfl, S0, partsI_force ?_⟩
      simp only [List.cons_append, List.nil_append, List.append_nil, List.filterMap_cons, List.filterMap_nil, List.getElem?_toArray, List.getElem?_cons_zero, List.getElem?_cons_succ]
      go_wp2_with fail
      refine ⟨rfl, S0, partsI_force ?_⟩
      simp only [List.cons_append, List.nil_append, List.append_nil, List.filterMap_cons, List.filterMap_nil, List.getElem?_toArray, List.getElem?_cons_zero, List.getElem?_cons_succ]
      have q1 := S0.1
      go_wp2_with fail
      refine ⟨rfl, S0, partsI_force ?_⟩
      simp only [List.cons_append, List.nil_append, List.append_nil, List.filterMap_cons, List.filterMap_nil, List.getElem?_toArray, List.getElem?_cons_zero, List.getElem?_cons_succ]
      have q2 := S0.2.1
      go_wp2_with fail
      refine ⟨rfl, S0, partsI_force ?_⟩
      simp only [List.cons_append, List.nil_append, List.append_nil, List.filterMap_cons, List.filterMap_nil, List.getElem?_toArray, List.getElem?_cons_zero, List.getElem?_cons_succ]
      go_wp2_with fail
      refine (HBOTH.out _).mono ?_
      rintro e2 w5 ⟨rfl, rfl⟩
      go_wp2_with fail
      refine ⟨rfl, S0, partsI_last ?_⟩
      simp only [List.cons_append, List.nil_append, List.append_nil, List.filterMap_cons, List.filterMap_nil, List.getElem?_toArray, List.getElem?_cons_zero, List.getElem?_cons_succ]
      obtain ⟨q1, q2, q3, hM5, hb5⟩ := S0
      have HM6 : Hid (BM (wr.drew.setCell ⟨b2, j, none⟩ (.int .u64 (z : Int))) w.heap.size g2 n b2 c2 (mixW op V W (j + 1))) := HPUT.out _ hM5
      have HB6 : Hid (Below w.heap.size w (wr.drew.setCell ⟨b2, j, none⟩ (.int .u64 (z : Int)))) := hb5.setCell (p := ⟨b2, j, none⟩) HBL _
      clear HPUT HBOTH hM5 hb5
      go_wp2_with fail
      refine ⟨rfl, ?_⟩
      go_wp2_with fail
      go_roundw
      case rel => exact ⟨j + 1, HJ.out, by first | rfl | go_num | simp, HM6.out, HB6.out⟩
      case measure => simp [intOf]; have := HJ.out; omega
    · obtain rfl : j = k := by omega
      have j1 : ¬ ((j : Int) < (j : Int)) := by omega
      have HR : Hid (∃ b2 c2 U, BM wr w.heap.size g2 n b2 c2 U ∧ ∀ p, bitF U p = bop (bitF V p) (bitF W p)) := ⟨b2, c2, _, hM, fun p => by
        rw [mixW_bit HF.out HVL.out HWL.out]
        by_cases hp : p / 64 < j
        · rw [if_pos hp]
        · rw [if_neg hp]
          have h1 := HT0.out 0 p (by have := HK.out; omega)
          rw [mixW_bit HF.out HVL.out HWL.out, if_neg (by omega)] at h1
          have hw := (HO.out wr hb).tail p (by have := HK.out; omega)
          rw [h1, hw, HF.out.none]⟩
      clear hM
      go_wp2_with fail
      go_ret2
      exact ⟨g2, rfl, HR.out, hb⟩
set_option maxHeartbeats 4000000 in
theorem with_less {op : Nat → Nat → Nat} {bop : Bool → Bool → Bool} (hf : Both 60 op bop) (w : World) (h : BM w B g n b c V) (h' : BM w B' g' n b' c' W) : Calls Tryd.prog 54 #[.pointer (some ⟨g, 0, none⟩), .pointer (some ⟨g', 0, none⟩), .func (.func 60) #[] #[]] w fun e w' => ∃ g2, e = .returned (.tuple #[.pointer (some ⟨g2, 0, none⟩), .int .i64 0]) ∧ (∃ b2 c2 U, BM w' w.heap.size g2 n b2 c2 U ∧ ∀ p, bitF U p = bop (bitF V p) (bitF W p)) ∧ Below w.heap.size w w' := by
  have c0 := h.c0
  have d0 := h'.c0
  have hl := lvN_le h.n2
  have hge := lvN_ge (n := n)
  have HCL : Hid (∀ m, Calls Tryd.prog 38 #[.pointer (some ⟨g, 0, none⟩)] (w.drewN m) fun e w' => ∃ g2 b2 c2, e = .returned (.pointer (some ⟨g2, 0, none⟩)) ∧ BM w' w.heap.size g2 n b2 c2 V ∧ Below w.heap.size w w') := fun m => by
    refine (bclone_any _ (h.dN m)).mono ?_
    rintro e w1 ⟨g2, b2, c2, rfl, h1, h2⟩
    exact ⟨g2, b2, c2, rfl, h1, ⟨h2.os, h2.tape, h2.output, h2.size, h2.block⟩⟩
  have HO : Hid (∀ U : World, Below w.heap.size w U → BM U B' g' n b' c' W) := fun U hU => h'.below hU
  have HV := h.lt
  have HW := h'.lt
  have HVT := h.tail
  have HWT := h'.tail
  clear h h'
  go_enter Tryd.func54, Tryd.ntmps54
  go_wp2_with fail
  go_quiet (fail)
  go_wp2_with fail
  refine (HCL.out _).mono ?_
  rintro e w1 ⟨g2, b2, c2, rfl, hM1, hb1⟩
  have o1 := (HO.out w1 hb1).c1
  have HK : Hid (16 * lvN n ≤ 128 ∧ n ≤ 64 * (16 * lvN n)) := ⟨by omega, by omega⟩
  go_wp2_with fail
  have HF : Hid (Both 60 op bop) := hf
  have HM1 : Hid (BM w1 w.heap.size g2 n b2 c2 (mixW op V W 0)) := hM1.congr (fun i => by unfold mixW; rw [if_neg (by omega)]; exact HV i) fun p => by rw [mixW_bit hf HV HW, if_neg (by omega)]
  have HB1 : Hid (Below w.heap.size w w1) := hb1
  have HVL : Hid (∀ i, V i < 18446744073709551616) := HV
  have HWL : Hid (∀ i, W i < 18446744073709551616) := HW
  have HT0 : Hid (∀ j p, n ≤ p → bitF (mixW op V W j) p = false) := fun j p hp => by
    rw [mixW_bit hf HV HW, HVT p hp, HWT p hp, hf.none]
    split <;> rfl
  clear hM1 hb1 HV HW HVT HWT HCL hf o1 c0 d0 hl hge
  generalize hk0 : 16 * lvN n = k at *
  go_loopw [41] (fun t wr => ∃ j : Nat, j ≤ k ∧ t = .int .i64 (j : Int) ∧ BM wr w.heap.size g2 n b2 c2 (mixW op V W j) ∧ Below w.heap.size w wr) (fun t _ => k - (intOf t).toNat)
  case atStart => exact ⟨0, by omega, rfl, HM1.out, HB1.out⟩
  case round =>
    clear HM1 HB1
    have hk128 := HK.out.1
    obtain ⟨j, hj, rfl, hM, hb⟩ := hrel
    by_cases hlt : j < k
    · have j0 : (0 : Int) ≤ (j : Int) := by omega
      have j1 : (j : Int) < (k : Int) := by omega
      have hO := HO.out wr hb
      have co := hO.word (i := j) (by omega)
      have hx : mixW op V W j j = V j := by unfold mixW; rw [if_neg (by omega)]
      have cx := hM.word (i := j) (by omega)
      rw [hx] at cx
      have cf := hM.frozen j
      have c1 := hM.c1
      rw [hk0] at c1
      have HBOTH : Hid (∀ U : World, Calls Tryd.prog 60 #[.int .u64 ((V j : Nat) : Int), .int .u64 ((W j : Nat) : Int)] U fun e w' => e = .returned (.int .u64 ((op (V j) (W j) : Nat) : Int)) ∧ w' = U) := fun U => HF.out.call _ _ U (HVL.out j) (HWL.out j)
      have HPUT : Hid (∀ U : World, BM U w.heap.size g2 n b2 c2 (mixW op V W j) → BM (U.setCell ⟨b2, j, none⟩ (.int .u64 ((op (V j) (W j) : Nat) : Int))) w.heap.size g2 n b2 c2 (mixW op V W (j + 1))) := fun U hU => by
        have := hU.put (i := j) (x := op (V j) (W j)) (by omega) (HF.out.lt _ _ (HVL.out j) (HWL.out j)) (by rw [mixW_step]; exact HT0.out (j + 1))
        rw [mixW_step] at this
        exact this
      have HJ : Hid (j < k) := hlt
      have HBL : w.heap.size ≤ b2 := hM.blt.1
      have S0 : wr.drew.cell? ⟨g2, 1, none⟩ = some (.slice (some ⟨b2, 0, none⟩) k c2) ∧ wr.drew.cell? ⟨b2, j, none⟩ = some (.int .u64 ((V j : Nat) : Int)) ∧ wr.drew.frozen? ⟨b2, j, none⟩ = false ∧ BM wr.drew w.heap.size g2 n b2 c2 (mixW op V W j) ∧ Below w.heap.size w wr.drew := ⟨c1, cx, cf, hM.keep rfl rfl, hb.drew⟩
      clear hO hx cx cf c1 hM hb
      generalize op (V j) (W j) = z at *
      generalize V j = x at *
      generalize W j = y at *
      go_wp2_with fail
      refine wp_region_partsS (fun U => U.cell? ⟨g2, 1, none⟩ = some (.slice (some ⟨b2, 0, none⟩) k c2) ∧ U.cell? ⟨b2, j, none⟩ = some (.int .u64 (x : Int)) ∧ U.frozen? ⟨b2, j, none⟩ = false ∧ BM U w.heap.size g2 n b2 c2 (mixW op V W j) ∧ Below w.heap.size w U) [([0, 4, 5, 6, 10, 13], 1, true), ([], 2, true), ([], 3, true), ([], 7, false), ([], 8, false), ([], 9, false), ([11], 12, false), ([], 14, false)] [15] [16] (by kernel_rfl) (by kernel_rfl) S0 (partsI_yield ?_)
      simp only [List.cons_append, List.nil_append, List.append_nil, List.filterMap_cons, List.filterMap_nil, List.getElem?_toArray, List.getElem?_cons_zero, List.getElem?_cons_succ]
      go_wp2_with fail
      refine ⟨rfl, _, .pointer (some ⟨g2, 0, none⟩), rfl, Or.inl ⟨by rfl, fun W hW => by go_simp⟩, partsI_yield ?_⟩
      simp only [Act.put, List.setIfInBounds_toArray, List.set_cons_zero, List.set_cons_succ]
      simp only [List.cons_append, List.nil_append, List.append_nil, List.filterMap_cons, List.filterMap_nil, List.getElem?_toArray, List.getElem?_cons_zero, List.getElem?_cons_succ]
      go_wp2_with fail
      refine ⟨rfl, _, .pointer (some ⟨g2, 1, none⟩), rfl, Or.inl ⟨by rfl, fun W hW => by go_simp⟩, partsI_yield ?_⟩
      simp only [Act.put, List.setIfInBounds_toArray, List.set_cons_zero, List.set_cons_succ]
      simp only [List.cons_append, List.nil_append, List.append_nil, List.filterMap_cons, List.filterMap_nil, List.getElem?_toArray, List.getElem?_cons_zero, List.getElem?_cons_succ]
      go_wp2_with fail
      refine ⟨rfl, _, .slice (some ⟨b2, 0, none⟩) k c2, rfl, Or.inl ⟨by rfl, fun W hW => by have c1 := hW.1; go_simp⟩, partsI_force ?_⟩
      simp only [Act.put, List.setIfInBounds_toArray, List.set_cons_zero, List.set_cons_succ]
      simp only [List.cons_append, List.nil_append, List.append_nil, List.filterMap_cons, List.filterMap_nil, List.getElem?_toArray, List.getElem?_cons_zero, List.getElem?_cons_succ]
      go_wp2_with fail
      refine ⟨rfl, S0, partsI_force ?_⟩
      simp only [List.cons_append, List.nil_append, List.append_nil, List.filterMap_cons, List.filterMap_nil, List.getElem?_toArray, List.getElem?_cons_zero, List.getElem?_cons_succ]
      go_wp2_with fail
      refine ⟨rfl, S0, partsI_force ?_⟩
      simp only [List.cons_append, List.nil_append, List.append_nil, List.filterMap_cons, List.filterMap_nil, List.getElem?_toArray, List.getElem?_cons_zero, List.getElem?_cons_succ]
      have q1 := S0.1
      go_wp2_with fail
      refine ⟨rfl, S0, partsI_force ?_⟩
      simp only [List.cons_append, List.nil_append, List.append_nil, List.filterMap_cons, List.filterMap_nil, List.getElem?_toArray, List.getElem?_cons_zero, List.getElem?_cons_succ]
      have q2 := S0.2.1
      go_wp2_with fail
      refine ⟨rfl, S0, partsI_force ?_⟩
      simp only [List.cons_append, List.nil_append, List.append_nil, List.filterMap_cons, List.filterMap_nil, List.getElem?_toArray, List.getElem?_cons_zero, List.getElem?_cons_succ]
      go_wp2_with fail
      refine (HBOTH.out _).mono ?_
      rintro e2 w5 ⟨rfl, rfl⟩
      go_wp2_with fail
      refine ⟨rfl, S0, partsI_last ?_⟩
      simp only [List.cons_append, List.nil_append, List.append_nil, List.filterMap_cons, List.filterMap_nil, List.getElem?_toArray, List.getElem?_cons_zero, List.getElem?_cons_succ]
      obtain ⟨q1, q2, q3, hM5, hb5⟩ := S0
      have HM6 : Hid (BM (wr.drew.setCell ⟨b2, j, none⟩ (.int .u64 (z : Int))) w.heap.size g2 n b2 c2 (mixW op V W (j + 1))) := HPUT.out _ hM5
      have HB6 : Hid (Below w.heap.size w (wr.drew.setCell ⟨b2, j, none⟩ (.int .u64 (z : Int)))) := hb5.setCell (p := ⟨b2, j, none⟩) HBL _
      clear HPUT HBOTH hM5 hb5
      go_wp2_with fail
      refine ⟨rfl, ?_⟩
      go_wp2_with fail
      go_roundw
      case rel => exact ⟨j + 1, HJ.out, by first | rfl | go_num | simp, HM6.out, HB6.out⟩
      case measure => simp [intOf]; have := HJ.out; omega
    · obtain rfl : j = k := by omega
      have j1 : ¬ ((j : Int) < (j : Int)) := by omega
      have HR : Hid (∃ b2 c2 U, BM wr w.heap.size g2 n b2 c2 U ∧ ∀ p, bitF U p = bop (bitF V p) (bitF W p)) := ⟨b2, c2, _, hM, fun p => by
        rw [mixW_bit HF.out HVL.out HWL.out]
        by_cases hp : p / 64 < j
        · rw [if_pos hp]
        · rw [if_neg hp]
          have h1 := HT0.out 0 p (by have := HK.out; omega)
          rw [mixW_bit HF.out HVL.out HWL.out, if_neg (by omega)] at h1
          have hw := (HO.out wr hb).tail p (by have := HK.out; omega)
          rw [h1, hw, HF.out.none]⟩
      clear hM
      go_wp2_with fail
      go_ret2
      exact ⟨g2, rfl, HR.out, hb⟩
set_option maxHeartbeats 4000000 in
theorem with_cross {op : Nat → Nat → Nat} {bop : Bool → Bool → Bool} (hf : Both 61 op bop) (w : World) (h : BM w B g n b c V) (h' : BM w B' g' n b' c' W) : Calls Tryd.prog 54 #[.pointer (some ⟨g, 0, none⟩), .pointer (some ⟨g', 0, none⟩), .func (.func 61) #[] #[]] w fun e w' => ∃ g2, e = .returned (.tuple #[.pointer (some ⟨g2, 0, none⟩), .int .i64 0]) ∧ (∃ b2 c2 U, BM w' w.heap.size g2 n b2 c2 U ∧ ∀ p, bitF U p = bop (bitF V p) (bitF W p)) ∧ Below w.heap.size w w' := by
  have c0 := h.c0
  have d0 := h'.c0
  have hl := lvN_le h.n2
  have hge := lvN_ge (n := n)
  have HCL : Hid (∀ m, Calls Tryd.prog 38 #[.pointer (some ⟨g, 0, none⟩)] (w.drewN m) fun e w' => ∃ g2 b2 c2, e = .returned (.pointer (some ⟨g2, 0, none⟩)) ∧ BM w' w.heap.size g2 n b2 c2 V ∧ Below w.heap.size w w') := fun m => by
    refine (bclone_any _ (h.dN m)).mono ?_
    rintro e w1 ⟨g2, b2, c2, rfl, h1, h2⟩
    exact ⟨g2, b2, c2, rfl, h1, ⟨h2.os, h2.tape, h2.output, h2.size, h2.block⟩⟩
  have HO : Hid (∀ U : World, Below w.heap.size w U → BM U B' g' n b' c' W) := fun U hU => h'.below hU
  have HV := h.lt
  have HW := h'.lt
  have HVT := h.tail
  have HWT := h'.tail
  clear h h'
  go_enter Tryd.func54, Tryd.ntmps54
  go_wp2_with fail
  go_quiet (fail)
  go_wp2_with fail
  refine (HCL.out _).mono ?_
  rintro e w1 ⟨g2, b2, c2, rfl, hM1, hb1⟩
  have o1 := (HO.out w1 hb1).c1
  have HK : Hid (16 * lvN n ≤ 128 ∧ n ≤ 64 * (16 * lvN n)) := ⟨by omega, by omega⟩
  go_wp2_with fail
  have HF : Hid (Both 61 op bop) := hf
  have HM1 : Hid (BM w1 w.heap.size g2 n b2 c2 (mixW op V W 0)) := hM1.congr (fun i => by unfold mixW; rw [if_neg (by omega)]; exact HV i) fun p => by rw [mixW_bit hf HV HW, if_neg (by omega)]
  have HB1 : Hid (Below w.heap.size w w1) := hb1
  have HVL : Hid (∀ i, V i < 18446744073709551616) := HV
  have HWL : Hid (∀ i, W i < 18446744073709551616) := HW
  have HT0 : Hid (∀ j p, n ≤ p → bitF (mixW op V W j) p = false) := fun j p hp => by
    rw [mixW_bit hf HV HW, HVT p hp, HWT p hp, hf.none]
    split <;> rfl
  clear hM1 hb1 HV HW HVT HWT HCL hf o1 c0 d0 hl hge
  generalize hk0 : 16 * lvN n = k at *
  go_loopw [41] (fun t wr => ∃ j : Nat, j ≤ k ∧ t = .int .i64 (j : Int) ∧ BM wr w.heap.size g2 n b2 c2 (mixW op V W j) ∧ Below w.heap.size w wr) (fun t _ => k - (intOf t).toNat)
  case atStart => exact ⟨0, by omega, rfl, HM1.out, HB1.out⟩
  case round =>
    clear HM1 HB1
    have hk128 := HK.out.1
    obtain ⟨j, hj, rfl, hM, hb⟩ := hrel
    by_cases hlt : j < k
    · have j0 : (0 : Int) ≤ (j : Int) := by omega
      have j1 : (j : Int) < (k : Int) := by omega
      have hO := HO.out wr hb
      have co := hO.word (i := j) (by omega)
      have hx : mixW op V W j j = V j := by unfold mixW; rw [if_neg (by omega)]
      have cx := hM.word (i := j) (by omega)
      rw [hx] at cx
      have cf := hM.frozen j
      have c1 := hM.c1
      rw [hk0] at c1
      have HBOTH : Hid (∀ U : World, Calls Tryd.prog 61 #[.int .u64 ((V j : Nat) : Int), .int .u64 ((W j : Nat) : Int)] U fun e w' => e = .returned (.int .u64 ((op (V j) (W j) : Nat) : Int)) ∧ w' = U) := fun U => HF.out.call _ _ U (HVL.out j) (HWL.out j)
      have HPUT : Hid (∀ U : World, BM U w.heap.size g2 n b2 c2 (mixW op V W j) → BM (U.setCell ⟨b2, j, none⟩ (.int .u64 ((op (V j) (W j) : Nat) : Int))) w.heap.size g2 n b2 c2 (mixW op V W (j + 1))) := fun U hU => by
        have := hU.put (i := j) (x := op (V j) (W j)) (by omega) (HF.out.lt _ _ (HVL.out j) (HWL.out j)) (by rw [mixW_step]; exact HT0.out (j + 1))
        rw [mixW_step] at this
        exact this
      have HJ : Hid (j < k) := hlt
      have HBL : w.heap.size ≤ b2 := hM.blt.1
      have S0 : wr.drew.cell? ⟨g2, 1, none⟩ = some (.slice (some ⟨b2, 0, none⟩) k c2) ∧ wr.drew.cell? ⟨b2, j, none⟩ = some (.int .u64 ((V j : Nat) : Int)) ∧ wr.drew.frozen? ⟨b2, j, none⟩ = false ∧ BM wr.drew w.heap.size g2 n b2 c2 (mixW op V W j) ∧ Below w.heap.size w wr.drew := ⟨c1, cx, cf, hM.keep rfl rfl, hb.drew⟩
      clear hO hx cx cf c1 hM hb
      generalize op (V j) (W j) = z at *
      generalize V j = x at *
      generalize W j = y at *
      go_wp2_with fail
      refine wp_region_partsS (fun U => U.cell? ⟨g2, 1, none⟩ = some (.slice (some ⟨b2, 0, none⟩) k c2) ∧ U.cell? ⟨b2, j, none⟩ = some (.int .u64 (x : Int)) ∧ U.frozen? ⟨b2, j, none⟩ = false ∧ BM U w.heap.size g2 n b2 c2 (mixW op V W j) ∧ Below w.heap.size w U) [([0, 4, 5, 6, 10, 13], 1, true), ([], 2, true), ([], 3, true), ([], 7, false), ([], 8, false), ([], 9, false), ([11], 12, false), ([], 14, false)] [15] [16] (by kernel_rfl) (by kernel_rfl) S0 (partsI_yield ?_)
      simp only [List.cons_append, List.nil_append, List.append_nil, List.filterMap_cons, List.filterMap_nil, List.getElem?_toArray, List.getElem?_cons_zero, List.getElem?_cons_succ]
      go_wp2_with fail
      refine ⟨rfl, _, .pointer (some ⟨g2, 0, none⟩), rfl, Or.inl ⟨by rfl, fun W hW => by go_simp⟩, partsI_yield ?_⟩
      simp only [Act.put, List.setIfInBounds_toArray, List.set_cons_zero, List.set_cons_succ]
      simp only [List.cons_append, List.nil_append, List.append_nil, List.filterMap_cons, List.filterMap_nil, List.getElem?_toArray, List.getElem?_cons_zero, List.getElem?_cons_succ]
      go_wp2_with fail
      refine ⟨rfl, _, .pointer (some ⟨g2, 1, none⟩), rfl, Or.inl ⟨by rfl, fun W hW => by go_simp⟩, partsI_yield ?_⟩
      simp only [Act.put, List.setIfInBounds_toArray, List.set_cons_zero, List.set_cons_succ]
      simp only [List.cons_append, List.nil_append, List.append_nil, List.filterMap_cons, List.filterMap_nil, List.getElem?_toArray, List.getElem?_cons_zero, List.getElem?_cons_succ]
      go_wp2_with fail
      refine ⟨rfl, _, .slice (some ⟨b2, 0, none⟩) k c2, rfl, Or.inl ⟨by rfl, fun W hW => by have c1 := hW.1; go_simp⟩, partsI_force ?_⟩
      simp only [Act.put, List.setIfInBounds_toArray, List.set_cons_zero, List.set_cons_succ]
      simp only [List.cons_append, List.nil_append, List.append_nil, List.filterMap_cons, List.filterMap_nil, List.getElem?_toArray, List.getElem?_cons_zero, List.getElem?_cons_succ]
      go_wp2_with fail
      refine ⟨rfl, S0, partsI_force ?_⟩
      simp only [List.cons_append, List.nil_append, List.append_nil, List.filterMap_cons, List.filterMap_nil, List.getElem?_toArray, List.getElem?_cons_zero, List.getElem?_cons_succ]
      go_wp2_with fail
      refine ⟨rfl, S0, partsI_force ?_⟩
      simp only [List.cons_append, List.nil_append, List.append_nil, List.filterMap_cons, List.filterMap_nil, List.getElem?_toArray, List.getElem?_cons_zero, List.getElem?_cons_succ]
      have q1 := S0.1
      go_wp2_with fail
      refine ⟨rfl, S0, partsI_force ?_⟩
      simp only [List.cons_append, List.nil_append, List.append_nil, List.filterMap_cons, List.filterMap_nil, List.getElem?_toArray, List.getElem?_cons_zero, List.getElem?_cons_succ]
      have q2 := S0.2.1
      go_wp2_with fail
      refine ⟨rfl, S0, partsI_force ?_⟩
      simp only [List.cons_append, List.nil_append, List.append_nil, List.filterMap_cons, List.filterMap_nil, List.getElem?_toArray, List.getElem?_cons_zero, List.getElem?_cons_succ]
      go_wp2_with fail
      refine (HBOTH.out _).mono ?_
      rintro e2 w5 ⟨rfl, rfl⟩
      go_wp2_with fail
      refine ⟨rfl, S0, partsI_last ?_⟩
      simp only [List.cons_append, List.nil_append, List.append_nil, List.filterMap_cons, List.filterMap_nil, List.getElem?_toArray, List.getElem?_cons_zero, List.getElem?_cons_succ]
      obtain ⟨q1, q2, q3, hM5, hb5⟩ := S0
      have HM6 : Hid (BM (wr.drew.setCell ⟨b2, j, none⟩ (.int .u64 (z : Int))) w.heap.size g2 n b2 c2 (mixW op V W (j + 1))) := HPUT.out _ hM5
      have HB6 : Hid (Below w.heap.size w (wr.drew.setCell ⟨b2, j, none⟩ (.int .u64 (z : Int)))) := hb5.setCell (p := ⟨b2, j, none⟩) HBL _
      clear HPUT HBOTH hM5 hb5
      go_wp2_with fail
      refine ⟨rfl, ?_⟩
      go_wp2_with fail
      go_roundw
      case rel => exact ⟨j + 1, HJ.out, by first | rfl | go_num | simp, HM6.out, HB6.out⟩
      case measure => simp [intOf]; have := HJ.out; omega
    · obtain rfl : j = k := by omega
      have j1 : ¬ ((j : Int) < (j : Int)) := by omega
      have HR : Hid (∃ b2 c2 U, BM wr w.heap.size g2 n b2 c2 U ∧ ∀ p, bitF U p = bop (bitF V p) (bitF W p)) := ⟨b2, c2, _, hM, fun p => by
        rw [mixW_bit HF.out HVL.out HWL.out]
        by_cases hp : p / 64 < j
        · rw [if_pos hp]
        · rw [if_neg hp]
          have h1 := HT0.out 0 p (by have := HK.out; omega)
          rw [mixW_bit HF.out HVL.out HWL.out, if_neg (by omega)] at h1
          have hw := (HO.out wr hb).tail p (by have := HK.out; omega)
          rw [h1, hw, HF.out.none]⟩
      clear hM
      go_wp2_with fail
      go_ret2
      exact ⟨g2, rfl, HR.out, hb⟩
end
end Go.Proofs.YtjlngldmdfbbaaaDoor

namespace Go.Proofs.YtjlngldmdfbbaaaDoor
open Go Go.RowKit
set_option linter.unusedVariables false
set_option linter.unusedSimpArgs false
section
variable {B B' g g' n n' b b' c c' : Nat} {V W : Nat → Nat}
/-- a map put together of two -/
def Made (w w' : World) (g2 n : Nat) (F : Nat → Bool) : Prop := (∃ b2 c2 U, BM w' w.heap.size g2 n b2 c2 U ∧ ∀ p, bitF U p = F p) ∧ Below w.heap.size w w'
theorem either_like (w : World) (h : BM w B g n b c V) (h' : BM w B' g' n b' c' W) : Calls Tryd.prog 40 #[.pointer (some ⟨g, 0, none⟩), .pointer (some ⟨g', 0, none⟩)] w fun e w' => ∃ g2, e = .returned (.tuple #[.pointer (some ⟨g2, 0, none⟩), .int .i64 0]) ∧ Made w w' g2 n fun p => bitF V p || bitF W p := by
  have HW := with_either both_either w h h'
  clear h h'
  go_enter Tryd.func40, Tryd.ntmps40
  go_wp2_with fail
  refine HW.mono ?_
  rintro e w1 ⟨g2, rfl, h1, h2⟩
  have HM : Hid (Made w w1 g2 n fun p => bitF V p || bitF W p) := ⟨h1, h2⟩
  clear h1 h2
  go_wp2_with fail
  go_ret2
  exact ⟨_, rfl, HM.out⟩
theorem less_like (w : World) (h : BM w B g n b c V) (h' : BM w B' g' n b' c' W) : Calls Tryd.prog 46 #[.pointer (some ⟨g, 0, none⟩), .pointer (some ⟨g', 0, none⟩)] w fun e w' => ∃ g2, e = .returned (.tuple #[.pointer (some ⟨g2, 0, none⟩), .int .i64 0]) ∧ Made w w' g2 n fun p => bitF V p && !bitF W p := by
  have HW := with_less both_less w h h'
  clear h h'
  go_enter Tryd.func46, Tryd.ntmps46
  go_wp2_with fail
  refine HW.mono ?_
  rintro e w1 ⟨g2, rfl, h1, h2⟩
  have HM : Hid (Made w w1 g2 n fun p => bitF V p && !bitF W p) := ⟨h1, h2⟩
  clear h1 h2
  go_wp2_with fail
  go_ret2
  exact ⟨_, rfl, HM.out⟩
theorem cross_like (w : World) (h : BM w B g n b c V) (h' : BM w B' g' n b' c' W) : Calls Tryd.prog 47 #[.pointer (some ⟨g, 0, none⟩), .pointer (some ⟨g', 0, none⟩)] w fun e w' => ∃ g2, e = .returned (.tuple #[.pointer (some ⟨g2, 0, none⟩), .int .i64 0]) ∧ Made w w' g2 n fun p => bitF V p && bitF W p := by
  have HW := with_cross both_cross w h h'
  clear h h'
  go_enter Tryd.func47, Tryd.ntmps47
  go_wp2_with fail
  refine HW.mono ?_
  rintro e w1 ⟨g2, rfl, h1, h2⟩
  have HM : Hid (Made w w1 g2 n fun p => bitF V p && bitF W p) := ⟨h1, h2⟩
  clear h1 h2
  go_wp2_with fail
  go_ret2
  exact ⟨_, rfl, HM.out⟩
end
end Go.Proofs.YtjlngldmdfbbaaaDoor

namespace Go.Proofs.YtjlngldmdfbbaaaDoor
open Go Go.RowKit
set_option linter.unusedVariables false
set_option linter.unusedSimpArgs false
theorem nsize  (w : World) : Calls Tryd.prog 49 #[.pointer none] w fun e w' => e = .returned (.int .i64 0) ∧ w' = w := by
  go_enter Tryd.func49, Tryd.ntmps49
  go_wp2_with fail
  go_ret
  exact ⟨rfl, rfl⟩
theorem ninside (p : Int) (w : World) : Calls Tryd.prog 35 #[.pointer none, .int .i64 p] w fun e w' => e = .returned (.bool false) ∧ w' = w := by
  by_cases h : 0 ≤ p
  · have h1 : ¬ (p < 0) := by omega
    go_enter Tryd.func35, Tryd.ntmps35
    go_wp2_with fail
    refine (nsize _).mono ?_
    rintro e w' ⟨rfl, rfl⟩
    go_wp2_with fail
    go_ret
    exact ⟨by simp; try omega, rfl⟩
  · have h1 : ¬ (0 ≤ p) := by omega
    go_enter Tryd.func35, Tryd.ntmps35
    go_wp2_with fail
    go_ret
    exact ⟨rfl, rfl⟩
theorem ncount  (w : World) : Calls Tryd.prog 42 #[.pointer none] w fun e w' => e = .returned (.int .i64 0) ∧ w' = w := by
  go_enter Tryd.func42, Tryd.ntmps42
  go_wp2_with fail
  go_ret
  exact ⟨rfl, rfl⟩
theorem nseek (p : Int) (tn : Int) (w : World) : Calls Tryd.prog 56 #[.pointer none, .int .i64 p, .int .u64 tn] w fun e w' => e = .returned (.int .i64 (-1)) ∧ w' = w := by
  by_cases h : p < 0
  · go_enter Tryd.func56, Tryd.ntmps56
    go_wp2_with fail
    refine (ninside 0 _).mono ?_
    rintro e w' ⟨rfl, rfl⟩
    go_wp2_with fail
    go_ret
    exact ⟨rfl, rfl⟩
  · have h1 : 0 ≤ p := by omega
    go_enter Tryd.func56, Tryd.ntmps56
    go_wp2_with fail
    refine (ninside p _).mono ?_
    rintro e w' ⟨rfl, rfl⟩
    go_wp2_with fail
    go_ret
    exact ⟨rfl, rfl⟩
theorem nnext (p : Int) (w : World) : Calls Tryd.prog 48 #[.pointer none, .int .i64 p] w fun e w' => e = .returned (.int .i64 (-1)) ∧ w' = w := by
  go_enter Tryd.func48, Tryd.ntmps48
  go_wp2_with fail
  refine (nseek p _ _).mono ?_
  rintro e w' ⟨rfl, rfl⟩
  go_wp2_with fail
  go_ret
  exact ⟨rfl, rfl⟩
set_option maxHeartbeats 1000000 in
theorem nruns (w : World) : Calls Tryd.prog 26 #[.pointer none] w fun e w' => e = .returned (.slice none 0 0) ∧ w' = w := by
  go_enter Tryd.func26, Tryd.ntmps26
  go_wp2_with fail
  refine (nnext 0 _).mono ?_
  rintro e w' ⟨rfl, rfl⟩
  go_wp2_with fail
  go_loop [3, 4] (fun l f => l = .slice none 0 0 ∧ f = .int .i64 (-1)) (fun _ _ => 0)
  case atStart => exact ⟨rfl, rfl⟩
  case round =>
    obtain ⟨rfl, rfl⟩ := hrel
    go_wp2_with fail
    go_ret
    exact ⟨rfl, rfl⟩
end Go.Proofs.YtjlngldmdfbbaaaDoor

namespace Go.Proofs.YtjlngldmdfbbaaaDoor
open Go Go.RowKit
set_option linter.unusedVariables false
set_option linter.unusedSimpArgs false
theorem put_if' (W : Nat → Nat) (p q : Nat) : bitF (putW W p) q = if q = p then true else bitF W q := by
  rw [bitF_put]; by_cases h : q = p <;> simp [h]
theorem clr_if' (W : Nat → Nat) (p q : Nat) : bitF (clrW W p) q = if q = p then false else bitF W q := by
  rw [bitF_clr]; by_cases h : q = p <;> simp [h]
/-- only blocks of one's own turn -/
structure Touch (P : Nat → Prop) (w w' : World) : Prop where
  os : w'.os = w.os
  tape : w'.tape = w.tape
  output : w'.output = w.output
  size : w.heap.size ≤ w'.heap.size
  block : ∀ k, k < w.heap.size → ¬ P k → w'.heap[k]? = w.heap[k]?
theorem Touch.trans {P : Nat → Prop} {w v u : World} (h : Touch P w v) (k : Touch P v u) : Touch P w u := ⟨k.os.trans h.os, k.tape.trans h.tape, k.output.trans h.output, Nat.le_trans h.size k.size, fun j hj hn => (k.block j (Nat.lt_of_lt_of_le hj h.size) hn).trans (h.block j hj hn)⟩
theorem Touch.of_below {P : Nat → Prop} {w w' : World} (h : Below w.heap.size w w') : Touch P w w' := ⟨h.os, h.tape, h.output, h.size, fun k hk _ => h.block k hk⟩
theorem Touch.of_only {P : Nat → Prop} {b : Nat} {w w' : World} (h : Only b w w') (hb : P b) : Touch P w w' := ⟨h.os, h.tape, h.output, h.size, fun k hk hn => h.block k hk fun e => hn (e ▸ hb)⟩
theorem Touch.below {P : Nat → Prop} {B : Nat} {w w' : World} (h : Touch P w w') (hB : B ≤ w.heap.size) (hP : ∀ k, k < B → ¬ P k) : Below B w w' := ⟨h.os, h.tape, h.output, h.size, fun k hk => h.block k (by omega) (hP k hk)⟩
theorem Touch.dN {P : Nat → Prop} {w v : World} (h : Touch P w v) (m : Nat) : Touch P w (v.drewN m) := ⟨h.1, h.2, h.3, h.4, h.5⟩
theorem Touch.refl (P : Nat → Prop) (w : World) : Touch P w w := ⟨rfl, rfl, rfl, Nat.le_refl _, fun _ _ _ => rfl⟩
structure RM (w : World) (P : Nat → Prop) (r n gu bu cu gn bn cn : Nat) (U X : Nat → Nat) : Prop where
  cells : Blk w r 80 #[.pointer (some ⟨gu, 0, none⟩), .pointer (some ⟨gn, 0, none⟩)]
  u : BM w 0 gu n bu cu U
  x : BM w 0 gn n bn cn X
  own : P r ∧ P gu ∧ P bu ∧ P gn ∧ P bn
  ne : bn ≠ gu ∧ bn ≠ bu ∧ bn ≠ r ∧ bu ≠ gn ∧ bu ≠ r ∧ gu ≠ gn ∧ r ≠ gu ∧ r ≠ gn
  z : bitF U 0 = false ∧ bitF X 0 = false
  n16 : 16 ≤ n
/-- a room: which blocks the committed tree has, which the next one -/
def RoomIs (w : World) (P : Nat → Prop) (r n : Nat) (F G : Nat → Bool) : Prop := ∃ gu bu cu gn bn cn U X, RM w P r n gu bu cu gn bn cn U X ∧ (∀ p, bitF U p = F p) ∧ (∀ p, bitF X p = G p)
section
variable {w w' : World} {P : Nat → Prop} {r n gu bu cu gn bn cn : Nat} {U X : Nat → Nat} {F G : Nat → Bool}
theorem RM.keep (h : RM w P r n gu bu cu gn bn cn U X) (hr : w'.heap[r]? = w.heap[r]?) (h1 : w'.heap[gu]? = w.heap[gu]?) (h2 : w'.heap[bu]? = w.heap[bu]?) (h3 : w'.heap[gn]? = w.heap[gn]?) (h4 : w'.heap[bn]? = w.heap[bn]?) : RM w' P r n gu bu cu gn bn cn U X :=
  ⟨hr.trans h.cells, h.u.keep h1 h2, h.x.keep h3 h4, h.own, h.ne, h.z, h.n16⟩
theorem RM.below (h : RM w P r n gu bu cu gn bn cn U X) (hb : Below w.heap.size w w') : RM w' P r n gu bu cu gn bn cn U X :=
  h.keep (hb.block _ h.cells.lt) (hb.block _ h.u.glt) (hb.block _ h.u.blt.2) (hb.block _ h.x.glt) (hb.block _ h.x.blt.2)
theorem RoomIs.below (h : RoomIs w P r n F G) (hb : Below w.heap.size w w') : RoomIs w' P r n F G := by
  obtain ⟨gu, bu, cu, gn, bn, cn, U, X, hR, h1, h2⟩ := h
  exact ⟨gu, bu, cu, gn, bn, cn, U, X, hR.below hb, h1, h2⟩
theorem RM.dN (h : RM w P r n gu bu cu gn bn cn U X) (m : Nat) : RM (w.drewN m) P r n gu bu cu gn bn cn U X := h.keep rfl rfl rfl rfl rfl
theorem RoomIs.dN (h : RoomIs w P r n F G) (m : Nat) : RoomIs (w.drewN m) P r n F G := by
  obtain ⟨gu, bu, cu, gn, bn, cn, U, X, hR, h1, h2⟩ := h
  exact ⟨gu, bu, cu, gn, bn, cn, U, X, hR.dN m, h1, h2⟩
theorem RM.c0 (h : RM w P r n gu bu cu gn bn cn U X) : w.cell? ⟨r, 0, none⟩ = some (.pointer (some ⟨gu, 0, none⟩)) := by rw [h.cells.cell]; rfl
theorem RM.c1 (h : RM w P r n gu bu cu gn bn cn U X) : w.cell? ⟨r, 1, none⟩ = some (.pointer (some ⟨gn, 0, none⟩)) := by rw [h.cells.cell]; rfl
/-- the next tree's map has turned -/
theorem RM.next {V : Nat → Nat} (h : RM w P r n gu bu cu gn bn cn U X) (hx : BM w' 0 gn n bn cn V) (ho : Only bn w w') (hz : bitF V 0 = false) : RM w' P r n gu bu cu gn bn cn U V :=
  ⟨(ho.block _ h.cells.lt (Ne.symm h.ne.2.2.1)).trans h.cells, h.u.only ho h.ne.1 h.ne.2.1, hx, h.own, h.ne, ⟨h.z.1, hz⟩, h.n16⟩
theorem rmaps_any (h : RM w P r n gu bu cu gn bn cn U X) : Calls Tryd.prog 39 #[.pointer (some ⟨r, 0, none⟩)] w fun e w' => e = .returned (.tuple #[.pointer (some ⟨gu, 0, none⟩), .pointer (some ⟨gn, 0, none⟩)]) ∧ ∃ m, w' = w.drewN m := by
  have c0 := h.c0
  have c1 := h.c1
  clear h
  go_enter Tryd.func39, Tryd.ntmps39
  go_wp2_with fail
  go_quiet (fail)
  go_wp2_with fail
  go_ret2
  exact ⟨rfl, _, rfl⟩
theorem rblocks_any (h : RM w P r n gu bu cu gn bn cn U X) : Calls Tryd.prog 27 #[.pointer (some ⟨r, 0, none⟩)] w fun e w' => e = .returned (.int .i64 (n : Int)) ∧ ∃ m, w' = w.drewN m := by
  have HM := rmaps_any h
  have HS : Hid (∀ m, Calls Tryd.prog 49 #[.pointer (some ⟨gn, 0, none⟩)] (w.drewN m) fun e w' => e = .returned (.int .i64 (n : Int)) ∧ w' = w.drewN m) := fun m => bsize_any _ (h.x.dN m)
  clear h
  go_enter Tryd.func27, Tryd.ntmps27
  go_wp2_with fail
  refine HM.mono ?_
  rintro e w1 ⟨rfl, m, rfl⟩
  go_wp2_with fail
  refine (HS.out m).mono ?_
  rintro e w2 ⟨rfl, rfl⟩
  go_wp2_with fail
  go_ret
  exact ⟨rfl, m, rfl⟩
/-- the least block that is free, or -1 -/
def freeF (F G : Nat → Bool) (n : Nat) : Int := nxt (fun p => F p || G p) false n 1
theorem rtake_any (hT : TabAt w) (h0 : 0 < w.heap.size) (h : RoomIs w P r n F G) : Calls Tryd.prog 20 #[.pointer (some ⟨r, 0, none⟩)] w fun e w' =>
    (freeF F G n = -1 ∧ e = .returned (.tuple #[.int .u32 0, .int .i64 3]) ∧ RoomIs w' P r n F G ∧ Touch P w w') ∨
    (∃ p : Nat, freeF F G n = (p : Int) ∧ 1 ≤ p ∧ p < n ∧ F p = false ∧ G p = false ∧ e = .returned (.tuple #[.int .u32 (p : Int), .int .i64 0]) ∧ RoomIs w' P r n F (fun q => if q = p then true else G q) ∧ Touch P w w') := by
  obtain ⟨gu, bu, cu, gn, bn, cn, U, X, hR, hF, hG⟩ := h
  have HM := rmaps_any hR
  have HE : Hid (∀ m, Calls Tryd.prog 40 #[.pointer (some ⟨gu, 0, none⟩), .pointer (some ⟨gn, 0, none⟩)] (w.drewN m) fun e w' => ∃ g2, e = .returned (.tuple #[.pointer (some ⟨g2, 0, none⟩), .int .i64 0]) ∧ Made (w.drewN m) w' g2 n fun p => bitF U p || bitF X p) := fun m => either_like _ (hR.u.dN m) (hR.x.dN m)
  have HR : Hid (RM w P r n gu bu cu gn bn cn U X) := hR
  have HT : Hid (TabAt w) := hT
  clear hR hT
  go_enter Tryd.func20, Tryd.ntmps20
  go_wp2_with fail
  refine HM.mono ?_
  rintro e w1 ⟨rfl, m, rfl⟩
  go_wp2_with fail
  refine (HE.out m).mono ?_
  rintro e w2 ⟨g2, rfl, ⟨b2, c2, V, hV, hVb⟩, hb2'⟩
  have hb2 : Below w.heap.size w w2 := ⟨hb2'.1, hb2'.2, hb2'.3, hb2'.4, hb2'.5⟩
  have HFR := free_any w2 (HT.out.below h0 hb2) hV 1
  have hnx : nxt (bitF V) false n (fromN 1) = freeF F G n := by
    unfold freeF
    rw [show fromN 1 = 1 from rfl]
    exact nxt_congr (fun p _ => (hVb p).trans (by show (bitF U p || bitF X p) = _; rw [hF, hG])) false 1
  rw [hnx] at HFR
  have hR2 := HR.out.below hb2
  have hnis := nxt_is (fun p => F p || G p) false n 1
  have HD : Hid (NextIs (fun p => F p || G p) false n 1 (freeF F G n)) := hnis
  clear hV hVb hb2' hnx hnis HE HM
  go_wp2_with fail
  refine HFR.mono ?_
  rintro e w3 ⟨rfl, rfl⟩
  by_cases hf : freeF F G n = -1
  · rw [hf]
    have HRR : Hid (RoomIs w3 P r n F G) := ⟨gu, bu, cu, gn, bn, cn, U, X, hR2, hF, hG⟩
    clear hR2 HFR
    go_wp2_with fail
    go_ret2
    exact .inl ⟨hf, rfl, HRR.out, Touch.of_below hb2⟩
  · obtain ⟨p, e, h1, h2, h3, h4⟩ := HD.out.some hf
    have hp2 : p < 8192 := Nat.lt_of_lt_of_le h2 hR2.x.n2
    have hfg : F p = false ∧ G p = false := by simpa using h3
    have hx : bitF X p = false := by rw [hG]; exact hfg.2
    have HS := set_new w3 hR2.x p h2 hx
    have HRR : Hid (∀ w4, BM w4 0 gn n bn cn (putW X p) → Only bn w3 w4 → RoomIs w4 P r n F (fun q => if q = p then true else G q) ∧ Touch P w w4) := fun w4 hM hO => ⟨⟨gu, bu, cu, gn, bn, cn, U, _, hR2.next hM hO (by rw [put_if', if_neg (by omega)]; exact hR2.z.2), hF, fun q => by rw [put_if', hG]⟩, (Touch.of_below hb2).trans (Touch.of_only hO hR2.own.2.2.2.2)⟩
    have hpi : ¬ ((p : Int) < 0) := by omega
    have hcv : ((p : Int) % 4294967296) = (p : Int) := by omega
    have HX : Hid (freeF F G n = (p : Int) ∧ 1 ≤ p ∧ p < n ∧ F p = false ∧ G p = false) := ⟨e, h1, h2, hfg⟩
    rw [e]
    clear hR2 HFR e h1 h3 h4 hfg hx hb2 hf HD
    go_wp2_with fail
    refine HS.mono ?_
    rintro e w4 ⟨rfl, hM4, hO4⟩
    have hh := HRR.out w4 hM4 hO4
    clear HRR hM4 hO4
    go_wp2_with fail
    go_ret2
    obtain ⟨x1, x2, x3, x4, x5⟩ := HX.out
    exact .inr ⟨p, x1, x2, x3, x4, x5, rfl, hh.1, hh.2⟩
/-- a block's state -/
def stN (F G : Nat → Bool) (p : Nat) : Nat := if F p then (if G p then 2 else 4) else (if G p then 3 else 1)
def stAt (F G : Nat → Bool) (n p : Nat) : Nat := if p = 0 ∨ n ≤ p then 0 else stN F G p
set_option maxHeartbeats 2000000 in
theorem rstate_any (h : RoomIs w P r n F G) (p : Nat) (hp : p < 4294967296) : Calls Tryd.prog 21 #[.pointer (some ⟨r, 0, none⟩), .int .u32 (p : Int)] w fun e w' => e = .returned (.int .i64 (stAt F G n p : Int)) ∧ ∃ m, w' = w.drewN m := by
  obtain ⟨gu, bu, cu, gn, bn, cn, U, X, hR, hF, hG⟩ := h
  have HM := rmaps_any hR
  have HB : Hid (∀ m, Calls Tryd.prog 27 #[.pointer (some ⟨r, 0, none⟩)] (w.drewN m) fun e w' => e = .returned (.int .i64 (n : Int)) ∧ ∃ m', w' = w.drewN m') := fun m => by
    refine (rblocks_any (hR.dN m)).mono ?_
    rintro e w' ⟨rfl, m', rfl⟩
    exact ⟨rfl, _, World.drewN_drewN ..⟩
  have hn2 := hR.x.n2
  by_cases h0 : p = 0
  · subst h0
    have hst : stAt F G n 0 = 0 := by unfold stAt; rw [if_pos (.inl rfl)]
    rw [hst]
    clear hR
    go_enter Tryd.func21, Tryd.ntmps21
    go_wp2_with fail
    refine HM.mono ?_
    rintro e w1 ⟨rfl, m, rfl⟩
    go_wp2_with fail
    go_ret
    exact ⟨rfl, m, rfl⟩
  · have hcv : ((n : Int) % 4294967296) = (n : Int) := by omega
    have hpz : ¬ ((p : Int) = 0) := by omega
    by_cases hle : n ≤ p
    · have hst : stAt F G n p = 0 := by unfold stAt; rw [if_pos (.inr hle)]
      rw [hst]
      have hlei : (n : Int) ≤ (p : Int) := by omega
      clear hR hst
      go_enter Tryd.func21, Tryd.ntmps21
      go_wp2_with fail
      refine HM.mono ?_
      rintro e w1 ⟨rfl, m, rfl⟩
      go_wp2_with fail
      refine (HB.out m).mono ?_
      rintro e w2 ⟨rfl, m2, rfl⟩
      go_wp2_with fail
      go_ret
      exact ⟨rfl, m2, rfl⟩
    · have hst : stAt F G n p = stN F G p := by unfold stAt; rw [if_neg (by omega)]
      rw [hst]
      have hlei : ¬ ((n : Int) ≤ (p : Int)) := by omega
      have H1 : Hid (∀ m, Calls Tryd.prog 36 #[.pointer (some ⟨gu, 0, none⟩), .int .i64 (p : Int)] (w.drewN m) fun e w' => e = .returned (.bool (F p)) ∧ ∃ m', w' = w.drewN m') := fun m => by
        refine (has_yes _ (hR.u.dN m) p (by omega)).mono ?_
        rintro e w' ⟨rfl, m', rfl⟩
        exact ⟨by rw [hF], _, World.drewN_drewN ..⟩
      have H2 : Hid (∀ m, Calls Tryd.prog 36 #[.pointer (some ⟨gn, 0, none⟩), .int .i64 (p : Int)] (w.drewN m) fun e w' => e = .returned (.bool (G p)) ∧ ∃ m', w' = w.drewN m') := fun m => by
        refine (has_yes _ (hR.x.dN m) p (by omega)).mono ?_
        rintro e w' ⟨rfl, m', rfl⟩
        exact ⟨by rw [hG], _, World.drewN_drewN ..⟩
      have hsN : stN F G p = if F p then (if G p then 2 else 4) else (if G p then 3 else 1) := rfl
      rw [hsN]
      clear hR hst hF hG hsN
      generalize F p = x at *
      generalize G p = y at *
      go_enter Tryd.func21, Tryd.ntmps21
      go_wp2_with fail
      refine HM.mono ?_
      rintro e w1 ⟨rfl, m, rfl⟩
      go_wp2_with fail
      refine (HB.out m).mono ?_
      rintro e w2 ⟨rfl, m2, rfl⟩
      go_wp2_with fail
      refine (H1.out m2).mono ?_
      rintro e w3 ⟨rfl, m3, rfl⟩
      go_wp2_with fail
      refine (H2.out m3).mono ?_
      rintro e w4 ⟨rfl, m4, rfl⟩
      cases x <;> cases y
      all_goals
        go_wp2_with fail
        go_ret
        exact ⟨rfl, m4, rfl⟩
set_option maxHeartbeats 2000000 in
theorem rlet_any (h : RoomIs w P r n F G) (p : Nat) (hp : p < 4294967296) : Calls Tryd.prog 43 #[.pointer (some ⟨r, 0, none⟩), .int .u32 (p : Int)] w fun e w' =>
    (G p = false ∧ e = .returned (.int .i64 121) ∧ ∃ m, w' = w.drewN m) ∨ (G p = true ∧ p < n ∧ e = .returned (.int .i64 0) ∧ RoomIs w' P r n F (fun q => if q = p then false else G q) ∧ Touch P w w') := by
  obtain ⟨gu, bu, cu, gn, bn, cn, U, X, hR, hF, hG⟩ := h
  have HM := rmaps_any hR
  cases hg : G p with
  | false =>
    have HC : Hid (∀ m, Calls Tryd.prog 58 #[.pointer (some ⟨gn, 0, none⟩), .int .i64 (p : Int)] (w.drewN m) fun e w' => e = .returned (.bool false) ∧ ∃ m', w' = w.drewN m') := fun m => by
      refine (clear_not _ (hR.x.dN m) (p : Int) (by
        by_cases hpn : p < n
        · exact .inr (.inr ⟨by omega, by omega, by rw [Int.toNat_natCast, hG, hg]⟩)
        · exact .inr (.inl (by omega)))).mono ?_
      rintro e w' ⟨rfl, m', rfl⟩
      exact ⟨rfl, _, World.drewN_drewN ..⟩
    clear hR
    go_enter Tryd.func43, Tryd.ntmps43
    go_wp2_with fail
    refine HM.mono ?_
    rintro e w1 ⟨rfl, m, rfl⟩
    go_wp2_with fail
    refine (HC.out m).mono ?_
    rintro e w2 ⟨rfl, m2, rfl⟩
    go_wp2_with fail
    go_ret
    exact .inl ⟨by trivial, rfl, m2, rfl⟩
  | true =>
    have hpn : p < n := by
      apply Nat.lt_of_not_le
      intro hle
      have := hR.x.tail p hle
      rw [hG, hg] at this
      cases this
    have HC : Hid (∀ m, Calls Tryd.prog 58 #[.pointer (some ⟨gn, 0, none⟩), .int .i64 (p : Int)] (w.drewN m) fun e w' => e = .returned (.bool true) ∧ RoomIs w' P r n F (fun q => if q = p then false else G q) ∧ Touch P w w') := fun m => by
      refine (clear_one _ (hR.x.dN m) p hpn (by rw [hG, hg])).mono ?_
      rintro e w' ⟨rfl, hM, hO⟩
      have hR' := hR.dN m
      refine ⟨rfl, ⟨gu, bu, cu, gn, bn, cn, U, _, hR'.next hM hO (by rw [clr_if', hR'.z.2]; split <;> rfl), hF, fun q => by rw [clr_if', hG]⟩, ?_⟩
      have ht := (Touch.of_only (P := P) hO hR.own.2.2.2.2)
      exact ⟨ht.1, ht.2, ht.3, ht.4, ht.5⟩
    clear hR
    go_enter Tryd.func43, Tryd.ntmps43
    go_wp2_with fail
    refine HM.mono ?_
    rintro e w1 ⟨rfl, m, rfl⟩
    go_wp2_with fail
    refine (HC.out m).mono ?_
    rintro e w2 ⟨rfl, h1, h2⟩
    go_wp2_with fail
    go_ret
    exact .inr ⟨by trivial, hpn, rfl, h1, h2⟩
end
end Go.Proofs.YtjlngldmdfbbaaaDoor
