/- A room in the memory: two maps of bits; what keeps it; New, maps, Blocks, Take, Let, State: the contracts. -/
import Derived.Test.YtppagdmlfgialaaGreatDoorHGrBlk
import Derived.Test.YtppagdmlfgialaaGreatDoorHIoRSize
import Derived.Handy

namespace Go.Proofs.YtppagdmlfgialaaGreatDoor
theorem sgLHRmKit : (∀ (α : Type) (a : α) (l r : List α), (a :: l) ++ r = a :: (l ++ r)) ∧ (∀ (α : Type) (l : List α), [] ++ l = l) ∧ (∀ (α : Type) (l : List α), l ++ [] = l) ∧ (∀ (α β : Type) (f : α → Option β) (a : α) (l : List α), (a :: l).filterMap f = match f a with | none => l.filterMap f | some b => b :: l.filterMap f) ∧ (∀ (α β : Type) (f : α → Option β), [].filterMap f = []) ∧ (∀ (α : Type) (l : List α) (i : Nat), l.toArray[i]? = l[i]?) ∧ (∀ (α : Type) (a : α) (l : List α), (a :: l)[0]? = some a) ∧ (∀ (α : Type) (a : α) (l : List α) (i : Nat), (a :: l)[i + 1]? = l[i]?) :=
  ⟨fun _ _ _ _ => List.cons_append, fun _ _ => List.nil_append _, fun _ _ => List.append_nil _, fun _ _ _ _ _ => List.filterMap_cons, fun _ _ _ => List.filterMap_nil, fun _ _ _ => List.getElem?_toArray, fun _ _ _ => List.getElem?_cons_zero, fun _ _ _ _ => List.getElem?_cons_succ⟩
theorem sgPHRmKit : (∀ (α : Type) (l : List α) (i : Nat) (a : α), l.toArray.setIfInBounds i a = (l.set i a).toArray) ∧ (∀ (α : Type) (a b : α) (l : List α), (a :: l).set 0 b = b :: l) ∧ (∀ (α : Type) (a b : α) (l : List α) (i : Nat), (a :: l).set (i + 1) b = a :: l.set i b) :=
  ⟨fun _ _ _ _ => List.setIfInBounds_toArray _ _ _, fun _ _ _ _ => List.set_cons_zero, fun _ _ _ _ _ => List.set_cons_succ⟩
end Go.Proofs.YtppagdmlfgialaaGreatDoor
namespace Go.Proofs.YtppagdmlfgialaaGreatDoor
open Go Go.RowKit
set_option linter.unusedSimpArgs false
set_option linter.unusedVariables false

set_option maxRecDepth 100000 in
set_option maxHeartbeats 8000000 in
theorem fit0_leaf (cp : Option Addr) (R : Rf) (e0 : Int) (he : 0 ≤ e0 ∧ e0 < 9223372036854775808) (m k g : Nat) (w : World) (hg : Blk w g 222 (grC cp 0 R 0 (some m) e0)) (hm : w.heap[m]? = some (.map #[] k)) : Calls Tryz.prog 111 #[.pointer (some ⟨g, 0, none⟩), .int .i64 0] w fun e w' => e = .returned (.int .i64 0) ∧ Blk w' g 222 (grC cp 0 R 0 (some m) 0) ∧ w'.heap[m]? = some (.map #[] k) ∧ Turns (fun z => z = g) w w' := by
  have HH : Hid (∀ w, Calls Tryz.prog 163 #[.int .i64 0] w fun e w' => e = .returned (.tuple #[.int .i64 0, .int .i64 0]) ∧ w = w') := fun w => height_ok 0 0 (by decide) (by rfl) w
  have hgm : m ≠ g := fun e => by
    subst e
    have h1 := hm.symm.trans (show w.heap[m]? = _ from hg)
    cases h1
  have hg2 : Blk (w.setCell ⟨g, 35, none⟩ (.int .i64 0)) g 222 (grC cp 0 R 0 (some m) e0) := gr_putHeight hg 0
  have t2 : Turns (fun z => z = g) w (w.setCell ⟨g, 35, none⟩ (.int .i64 0)) := gs_cell w g 35 _ rfl
  have HM2 : Hid (JM (fun x : Nat => Value.int .u8 ((x : Nat) : Int)) (w.setCell ⟨g, 35, none⟩ (.int .i64 0)) m []) := JM.new ((t2.block m (Array.getElem?_eq_some_iff.1 hm).1 hgm).trans hm)
  have HM : Hid (w.heap[m]? = some (.map #[] k) ∧ m ≠ g ∧ Blk w g 222 (grC cp 0 R 0 (some m) e0) ∧ Turns (fun z => z = g) w (w.setCell ⟨g, 35, none⟩ (.int .i64 0))) := ⟨hm, hgm, hg, t2⟩
  have HG2 : Hid (Blk (w.setCell ⟨g, 35, none⟩ (.int .i64 0)) g 222 (grC cp 0 R 0 (some m) e0)) := hg2
  have c35 := gr_c35 hg
  have f35 := hg.frozen 35
  have c36 := gr_c36 hg2
  have c37 := gr_c37 hg2
  have f37 := hg2.frozen 37
  have hmin : min e0 0 = 0 := by omega
  clear hg hm t2 hg2 hgm
  go_enter Tryz.func111, Tryz.ntmps111
  go_wp2_with fail
  refine (HH.out w).mono ?_
  rintro e _ ⟨rfl, rfl⟩
  go_upto_region 7 with fail
  generalize (w.setCell ⟨g, 35, none⟩ (.int .i64 0)) = w2 at *
  clear c35 f35
  go_wp2_with (first | (at_range; refine wpList_range_J (by rfl) _ 220 (by rfl) 3 _ Tryz.underlying220 m [] (by rfl) (by exact HM2.out) ?_; intro V1 hit hbw hsz; simp only [Act.put, sgPHRmKit]) | fail)
  have hg3 : Blk V1 g 222 (grC cp 0 R 0 (some m) e0) := HG2.out.below hbw HG2.out.lt
  have HIT : Hid (ItJ (fun x : Nat => Value.int .u8 ((x : Nat) : Int)) V1 w2.heap.size m [] []) := hit
  have HB3 : Hid (Below w2.heap.size w2 V1) := hbw
  have HG3 : Hid (Blk V1 g 222 (grC cp 0 R 0 (some m) e0)) := hg3
  have HNE : Hid (w2.heap.size ≠ m) := fun e => by
    have := hit.lt
    have := HM2.out.lt
    omega
  clear hit hbw hsz hg3 c36 c37 f37
  go_loopw [] (fun wr => wr = V1) (fun _ => 0)
  case atStart => rfl
  case round =>
    obtain rfl := hrel
    go_upto_region 8 with fail
    refine wp_region_list ?_
    refine wpList_next_J (by rfl) _ (by rfl) w2.heap.size m [] [] (by rfl) (by exact HIT.out) HNE.out (fun hall => ?_) (fun x xv W2 hxl hxd hit2 hk2 hen => ?_)
    · have c37 := gr_c37 HG3.out
      have f37 := HG3.out.frozen 37
      go_wp2_with fail
      go_ret
      have h4 := gr_putEnd HG3.out 0
      have t4 : Turns (fun z => z = g) wr (wr.setCell ⟨g, 37, none⟩ (.int .i64 0)) := gs_cell wr g 37 _ rfl
      have t3 : Turns (fun z => z = g) w2 wr := .of_below HB3.out
      have t5 := HM.out.2.2.2.trans (t3.trans t4 fun b q => .inl q) fun b q => .inl q
      exact ⟨rfl, h4, (t5.block m (Array.getElem?_eq_some_iff.1 HM.out.1).1 HM.out.2.1).trans HM.out.1, t5⟩
    · simp at hxl
theorem sizeTrB : (Tryz.prog.info? 46).map (·.size) = some 34 := by kernel_rfl
set_option maxRecDepth 100000 in
set_option maxHeartbeats 8000000 in
theorem blocksOf_leaf (R : Rf) (hR0 : R ≠ rf0) (hR : R.1 < 4294967296) (hD : okD R.2) (hok : trOk 0 R) (cp : Option Addr) (w : World) : Calls Tryz.prog 69 #[.pointer cp, .agg (trC 0 R)] w fun e w' => ∃ q c, e = .returned (.tuple #[.slice q 1 c, .int .i64 0]) ∧ Below w.heap.size w w' := by
  have t1 : Blk (w.alloc (.cells (trC 0 R) 46)) w.heap.size 46 (trC 0 R) := Blk.new _ _ _
  have HB1 : Hid (Below w.heap.size w (w.alloc (.cells (trC 0 R) 46))) := below_new1 _ _
  have HR : Hid (R ≠ rf0 ∧ R.1 < 4294967296 ∧ okD R.2 ∧ trOk 0 R) := ⟨hR0, hR, hD, hok⟩
  clear hR0 hR hD hok
  go_enter Tryz.func69, Tryz.ntmps69
  go_wp2_with (first
    | (refine wpList_load_rowg (by rfl) 46 _ (by rfl) (w.heap.size) (by rfl) 46 (trC 0 R) (0, 0) _ (by exact t1) Tryz.underlying46 (by rfl) (sizeTrB.trans (by rw [trC_size])) ?_; simp only [Act.put, sgPHRmKit])
    | fail)
  generalize (w.alloc (.cells (trC 0 R) 46)) = w1 at *
  clear t1
  refine (new_ok 0 1 (by decide) 0 rfl R HR.out.2.1 HR.out.2.2.1 HR.out.2.2.2 cp w1).mono ?_
  rintro e w2 ⟨g, m, rfl, hg1, hgm, ⟨k, hk⟩, hg, hb2⟩
  have HK : Hid (Blk w2 g 222 (grC cp 0 R 0 (some m) (1 : Nat)) ∧ w2.heap[m]? = some (.map #[] k) ∧ w1.heap.size ≤ g ∧ Below w1.heap.size w1 w2) := ⟨hg, hk, hg1, hb2⟩
  clear hg1 hgm hk hg hb2
  go_wp2_with fail
  refine (fit0_leaf cp R _ (by decide) m k g w2 HK.out.1 HK.out.2.1).mono ?_
  rintro e w3 ⟨rfl, hg3, hm3, ht3⟩
  have HB3 : Hid (Below w1.heap.size w1 w3) := HK.out.2.2.2.trans (ht3.below (B := w1.heap.size) HK.out.2.2.2.size fun z hz => by rw [hz]; exact HK.out.2.2.1)
  have HG3 : Hid (Blk w3 g 222 (grC cp 0 R 0 (some m) 0) ∧ w3.heap[m]? = some (.map #[] k)) := ⟨hg3, hm3⟩
  clear hg3 hm3 ht3
  go_wp2_with fail
  refine (gone0_first R HR.out.1 HR.out.2.1 HR.out.2.2.1 HR.out.2.2.2 cp m k g w3 HG3.out.1 HG3.out.2).mono ?_
  rintro e w4 ⟨q, c, rfl, hb4⟩
  have HB4 : Hid (Below w.heap.size w w4) := HB1.out.trans ((HB3.out.trans (hb4.mono HB3.out.size)).mono HB1.out.size)
  clear hb4
  go_wp2_with fail
  go_ret2
  exact ⟨q, c, rfl, HB4.out⟩
end Go.Proofs.YtppagdmlfgialaaGreatDoor

namespace Go.Proofs.YtppagdmlfgialaaGreatDoor
open Go Go.RowKit
set_option linter.unusedVariables false
set_option linter.unusedSimpArgs false
section
variable {B B' g g' n n' b b' c c' : Nat} {V W : Nat → Nat}
/-- what two words come to -/
structure Both (f : Nat) (op : Nat → Nat → Nat) (bop : Bool → Bool → Bool) : Prop where
  call : ∀ (x y : Nat) (w : World), x < 18446744073709551616 → y < 18446744073709551616 → Calls Tryz.prog f #[.int .u64 (x : Int), .int .u64 (y : Int)] w fun e w' => e = .returned (.int .u64 ((op x y : Nat) : Int)) ∧ w' = w
  lt : ∀ x y, x < 18446744073709551616 → y < 18446744073709551616 → op x y < 18446744073709551616
  bit : ∀ x y j, x < 18446744073709551616 → y < 18446744073709551616 → j < 64 → (op x y).testBit j = bop (x.testBit j) (y.testBit j)
  none : bop false false = false
theorem both_either : Both 233 (fun x y => x ||| y) (fun x y => x || y) := ⟨fun x y w hx hy => by
    have H : Hid (bits .or .u64 (x : Int) (y : Int) = ((x ||| y : Nat) : Int)) := u64_or_nat _ _ hx hy
    go_enter Tryz.func233, Tryz.ntmps233
    go_wp2_with fail
    go_ret
    exact ⟨by rw [← H.out]; rfl, rfl⟩, fun x y => or_lt64 x y, fun x y j _ _ _ => Nat.testBit_or x y j, rfl⟩
theorem both_less : Both 273 (fun x y => x &&& notN y) (fun x y => x && !y) := ⟨fun x y w hx hy => by
    have H : Hid (bits .andNot .u64 (x : Int) (y : Int) = ((x &&& notN y : Nat) : Int)) := u64_andNot_nat _ _ hx hy
    go_enter Tryz.func273, Tryz.ntmps273
    go_wp2_with fail
    go_ret
    exact ⟨by rw [← H.out]; rfl, rfl⟩, fun x y hx _ => and_lt64 x _ hx, fun x y j _ hy hj => by rw [Nat.testBit_and, notN_bit y j hy hj], rfl⟩
theorem both_cross : Both 274 (fun x y => x &&& y) (fun x y => x && y) := ⟨fun x y w hx hy => by
    have H : Hid (bits .and .u64 (x : Int) (y : Int) = ((x &&& y : Nat) : Int)) := u64_and_nat _ _ hx hy
    go_enter Tryz.func274, Tryz.ntmps274
    go_wp2_with fail
    go_ret
    exact ⟨by rw [← H.out]; rfl, rfl⟩, fun x y hx _ => and_lt64 x _ hx, fun x y j _ _ _ => Nat.testBit_and x y j, rfl⟩
def mixW (op : Nat → Nat → Nat) (V W : Nat → Nat) (j : Nat) : Nat → Nat := fun i => if i < j then op (V i) (W i) else V i
theorem mixW_step (op : Nat → Nat → Nat) (V W : Nat → Nat) (j : Nat) : updN (mixW op V W j) j (op (V j) (W j)) = mixW op V W (j + 1) := by
  funext i
  unfold updN mixW
  by_cases h : i = j
  · subst h; simp
  · rw [if_neg h]
    by_cases h2 : i < j
    · rw [if_pos h2, if_pos (by omega)]
    · rw [if_neg h2, if_neg (by omega)]
theorem mixW_bit {f : Nat} {op : Nat → Nat → Nat} {bop : Bool → Bool → Bool} (hf : Both f op bop) (hV : ∀ i, V i < 18446744073709551616) (hW : ∀ i, W i < 18446744073709551616) (j p : Nat) : bitF (mixW op V W j) p = if p / 64 < j then bop (bitF V p) (bitF W p) else bitF V p := by
  unfold bitF mixW
  by_cases h : p / 64 < j
  · rw [if_pos h, if_pos h, hf.bit _ _ _ (hV _) (hW _) (by omega)]
  · rw [if_neg h, if_neg h]
set_option maxHeartbeats 4000000 in
theorem with_either {op : Nat → Nat → Nat} {bop : Bool → Bool → Bool} (hf : Both 233 op bop) (w : World) (h : BM w B g n b c V) (h' : BM w B' g' n b' c' W) : Calls Tryz.prog 232 #[.pointer (some ⟨g, 0, none⟩), .pointer (some ⟨g', 0, none⟩), .func (.func 233) #[] #[]] w fun e w' => ∃ g2, e = .returned (.tuple #[.pointer (some ⟨g2, 0, none⟩), .int .i64 0]) ∧ (∃ b2 c2 U, BM w' w.heap.size g2 n b2 c2 U ∧ ∀ p, bitF U p = bop (bitF V p) (bitF W p)) ∧ Below w.heap.size w w' := by
  have c0 := h.c0
  have d0 := h'.c0
  have hl := lvN_le h.n2
  have hge := lvN_ge (n := n)
  have HCL : Hid (∀ m, Calls Tryz.prog 71 #[.pointer (some ⟨g, 0, none⟩)] (w.drewN m) fun e w' => ∃ g2 b2 c2, e = .returned (.pointer (some ⟨g2, 0, none⟩)) ∧ BM w' w.heap.size g2 n b2 c2 V ∧ Below w.heap.size w w') := fun m => by
    refine (bclone_any _ (h.dN m)).mono ?_
    rintro e w1 ⟨g2, b2, c2, rfl, h1, h2⟩
    exact ⟨g2, b2, c2, rfl, h1, ⟨h2.os, h2.tape, h2.output, h2.size, h2.block⟩⟩
  have HO : Hid (∀ U : World, Below w.heap.size w U → BM U B' g' n b' c' W) := fun U hU => h'.below hU
  have HV := h.lt
  have HW := h'.lt
  have HVT := h.tail
  have HWT := h'.tail
  clear h h'
  go_enter Tryz.func232, Tryz.ntmps232
  go_wp2_with fail
  go_quiet (fail)
  go_wp2_with fail
  refine (HCL.out _).mono ?_
  rintro e w1 ⟨g2, b2, c2, rfl, hM1, hb1⟩
  have o1 := (HO.out w1 hb1).c1
  have HK : Hid (16 * lvN n ≤ 128 ∧ n ≤ 64 * (16 * lvN n)) := ⟨by omega, by omega⟩
  go_wp2_with fail
  have HF : Hid (Both 233 op bop) := hf
  have HM1 : Hid (BM w1 w.heap.size g2 n b2 c2 (mixW op V W 0)) := hM1.congr (fun i => by unfold mixW; rw [if_neg (by omega)]; exact HV i) fun p => by rw [mixW_bit hf HV HW, if_neg (by omega)]
  have HB1 : Hid (Below w.heap.size w w1) := hb1
  have HVL : Hid (∀ i, V i < 18446744073709551616) := HV
  have HWL : Hid (∀ i, W i < 18446744073709551616) := HW
  have HT0 : Hid (∀ j p, n ≤ p → bitF (mixW op V W j) p = false) := fun j p hp => by
    rw [mixW_bit hf HV HW, HVT p hp, HWT p hp, hf.none]
    split <;> rfl
  clear hM1 hb1 HV HW HVT HWT HCL hf o1 c0 d0 hl hge
  generalize hk0 : 16 * lvN n = k at *
  go_loopw [41] (fun t wr => ∃ j : Nat, j ≤ k ∧ t = .int .i64 (j : Int) ∧ BM wr w.heap.size g2 n b2 c2 (mixW op V W j) ∧ Below w.heap.size w wr) (fun t _ => k - (intOf t).toNat)
  case atStart => exact ⟨0, by omega, rfl, HM1.out, HB1.out⟩
  case round =>
    clear HM1 HB1
    have hk128 := HK.out.1
    obtain ⟨j, hj, rfl, hM, hb⟩ := hrel
    by_cases hlt : j < k
    · have j0 : (0 : Int) ≤ (j : Int) := by omega
      have j1 : (j : Int) < (k : Int) := by omega
      have hO := HO.out wr hb
      have co := hO.word (i := j) (by omega)
      have hx : mixW op V W j j = V j := by unfold mixW; rw [if_neg (by omega)]
      have cx := hM.word (i := j) (by omega)
      rw [hx] at cx
      have cf := hM.frozen j
      have c1 := hM.c1
      rw [hk0] at c1
      have HBOTH : Hid (∀ U : World, Calls Tryz.prog 233 #[.int .u64 ((V j : Nat) : Int), .int .u64 ((W j : Nat) : Int)] U fun e w' => e = .returned (.int .u64 ((op (V j) (W j) : Nat) : Int)) ∧ w' = U) := fun U => HF.out.call _ _ U (HVL.out j) (HWL.out j)
      have HPUT : Hid (∀ U : World, BM U w.heap.size g2 n b2 c2 (mixW op V W j) → BM (U.setCell ⟨b2, j, none⟩ (.int .u64 ((op (V j) (W j) : Nat) : Int))) w.heap.size g2 n b2 c2 (mixW op V W (j + 1))) := fun U hU => by
        have := hU.put (i := j) (x := op (V j) (W j)) (by omega) (HF.out.lt _ _ (HVL.out j) (HWL.out j)) (by rw [mixW_step]; exact HT0.out (j + 1))
        rw [mixW_step] at this
        exact this
      have HJ : Hid (j < k) := hlt
      have HBL : w.heap.size ≤ b2 := hM.blt.1
      have S0 : wr.drew.cell? ⟨g2, 1, none⟩ = some (.slice (some ⟨b2, 0, none⟩) k c2) ∧ wr.drew.cell? ⟨b2, j, none⟩ = some (.int .u64 ((V j : Nat) : Int)) ∧ wr.drew.frozen? ⟨b2, j, none⟩ = false ∧ BM wr.drew w.heap.size g2 n b2 c2 (mixW op V W j) ∧ Below w.heap.size w wr.drew := ⟨c1, cx, cf, hM.keep rfl rfl, hb.drew⟩
      clear hO hx cx cf c1 hM hb
      generalize op (V j) (W j) = z at *
      generalize V j = x at *
      generalize W j = y at *
      go_wp2_with fail
      refine wp_region_partsS (fun U => U.cell? ⟨g2, 1, none⟩ = some (.slice (some ⟨b2, 0, none⟩) k c2) ∧ U.cell? ⟨b2, j, none⟩ = some (.int .u64 (x : Int)) ∧ U.frozen? ⟨b2, j, none⟩ = false ∧ BM U w.heap.size g2 n b2 c2 (mixW op V W j) ∧ Below w.heap.size w U) [([0, 4, 5, 6, 10, 13], 1, true), ([], 2, true), ([], 3, true), ([], 7, false), ([], 8, false), ([], 9, false), ([11], 12, false), ([], 14, false)] [15] [16] (by kernel_rfl) (by kernel_rfl) S0 (partsI_yield ?_)
      simp only [sgLHRmKit]
      go_wp2_with fail
      refine ⟨rfl, _, .pointer (some ⟨g2, 0, none⟩), rfl, Or.inl ⟨by rfl, fun W hW => by go_simp⟩, partsI_yield ?_⟩
      simp only [Act.put, sgPHRmKit]
      simp only [sgLHRmKit]
      go_wp2_with fail
      refine ⟨rfl, _, .pointer (some ⟨g2, 1, none⟩), rfl, Or.inl ⟨by rfl, fun W hW => by go_simp⟩, partsI_yield ?_⟩
      simp only [Act.put, sgPHRmKit]
      simp only [sgLHRmKit]
      go_wp2_with fail
      refine ⟨rfl, _, .slice (some ⟨b2, 0, none⟩) k c2, rfl, Or.inl ⟨by rfl, fun W hW => by have c1 := hW.1; go_simp⟩, partsI_force ?_⟩
      simp only [Act.put, sgPHRmKit]
      simp only [sgLHRmKit]
      go_wp2_with fail
      refine ⟨rfl, S0, partsI_force ?_⟩
      simp only [sgLHRmKit]
      go_wp2_with fail
      refine ⟨rfl, S0, partsI_force ?_⟩
      simp only [sgLHRmKit]
      have q1 := S0.1
      go_wp2_with fail
      refine ⟨rfl, S0, partsI_force ?_⟩
      simp only [sgLHRmKit]
      have q2 := S0.2.1
      go_wp2_with fail
      refine ⟨rfl, S0, partsI_force ?_⟩
      simp only [sgLHRmKit]
      go_wp2_with fail
      refine (HBOTH.out _).mono ?_
      rintro e2 w5 ⟨rfl, rfl⟩
      go_wp2_with fail
      refine ⟨rfl, S0, partsI_last ?_⟩
      simp only [sgLHRmKit]
      obtain ⟨q1, q2, q3, hM5, hb5⟩ := S0
      have HM6 : Hid (BM (wr.drew.setCell ⟨b2, j, none⟩ (.int .u64 (z : Int))) w.heap.size g2 n b2 c2 (mixW op V W (j + 1))) := HPUT.out _ hM5
      have HB6 : Hid (Below w.heap.size w (wr.drew.setCell ⟨b2, j, none⟩ (.int .u64 (z : Int)))) := hb5.setCell (p := ⟨b2, j, none⟩) HBL _
      clear HPUT HBOTH hM5 hb5
      go_wp2_with fail
      refine ⟨rfl, ?_⟩
      go_wp2_with fail
      go_roundw
      case rel => exact ⟨j + 1, HJ.out, by first | rfl | go_num | simp, HM6.out, HB6.out⟩
      case measure => simp [intOf]; have := HJ.out; omega
    · obtain rfl : j = k := by omega
      have j1 : ¬ ((j : Int) < (j : Int)) := by omega
      have HR : Hid (∃ b2 c2 U, BM wr w.heap.size g2 n b2 c2 U ∧ ∀ p, bitF U p = bop (bitF V p) (bitF W p)) := ⟨b2, c2, _, hM, fun p => by
        rw [mixW_bit HF.out HVL.out HWL.out]
        by_cases hp : p / 64 < j
        · rw [if_pos hp]
        · rw [if_neg hp]
          have h1 := HT0.out 0 p (by have := HK.out; omega)
          rw [mixW_bit HF.out HVL.out HWL.out, if_neg (by omega)] at h1
          have hw := (HO.out wr hb).tail p (by have := HK.out; omega)
          rw [h1, hw, HF.out.none]⟩
      clear hM
      go_wp2_with fail
      go_ret2
      exact ⟨g2, rfl, HR.out, hb⟩
set_option maxHeartbeats 4000000 in
theorem with_less {op : Nat → Nat → Nat} {bop : Bool → Bool → Bool} (hf : Both 273 op bop) (w : World) (h : BM w B g n b c V) (h' : BM w B' g' n b' c' W) : Calls Tryz.prog 232 #[.pointer (some ⟨g, 0, none⟩), .pointer (some ⟨g', 0, none⟩), .func (.func 273) #[] #[]] w fun e w' => ∃ g2, e = .returned (.tuple #[.pointer (some ⟨g2, 0, none⟩), .int .i64 0]) ∧ (∃ b2 c2 U, BM w' w.heap.size g2 n b2 c2 U ∧ ∀ p, bitF U p = bop (bitF V p) (bitF W p)) ∧ Below w.heap.size w w' := by
  have c0 := h.c0
  have d0 := h'.c0
  have hl := lvN_le h.n2
  have hge := lvN_ge (n := n)
  have HCL : Hid (∀ m, Calls Tryz.prog 71 #[.pointer (some ⟨g, 0, none⟩)] (w.drewN m) fun e w' => ∃ g2 b2 c2, e = .returned (.pointer (some ⟨g2, 0, none⟩)) ∧ BM w' w.heap.size g2 n b2 c2 V ∧ Below w.heap.size w w') := fun m => by
    refine (bclone_any _ (h.dN m)).mono ?_
    rintro e w1 ⟨g2, b2, c2, rfl, h1, h2⟩
    exact ⟨g2, b2, c2, rfl, h1, ⟨h2.os, h2.tape, h2.output, h2.size, h2.block⟩⟩
  have HO : Hid (∀ U : World, Below w.heap.size w U → BM U B' g' n b' c' W) := fun U hU => h'.below hU
  have HV := h.lt
  have HW := h'.lt
  have HVT := h.tail
  have HWT := h'.tail
  clear h h'
  go_enter Tryz.func232, Tryz.ntmps232
  go_wp2_with fail
  go_quiet (fail)
  go_wp2_with fail
  refine (HCL.out _).mono ?_
  rintro e w1 ⟨g2, b2, c2, rfl, hM1, hb1⟩
  have o1 := (HO.out w1 hb1).c1
  have HK : Hid (16 * lvN n ≤ 128 ∧ n ≤ 64 * (16 * lvN n)) := ⟨by omega, by omega⟩
  go_wp2_with fail
  have HF : Hid (Both 273 op bop) := hf
  have HM1 : Hid (BM w1 w.heap.size g2 n b2 c2 (mixW op V W 0)) := hM1.congr (fun i => by unfold mixW; rw [if_neg (by omega)]; exact HV i) fun p => by rw [mixW_bit hf HV HW, if_neg (by omega)]
  have HB1 : Hid (Below w.heap.size w w1) := hb1
  have HVL : Hid (∀ i, V i < 18446744073709551616) := HV
  have HWL : Hid (∀ i, W i < 18446744073709551616) := HW
  have HT0 : Hid (∀ j p, n ≤ p → bitF (mixW op V W j) p = false) := fun j p hp => by
    rw [mixW_bit hf HV HW, HVT p hp, HWT p hp, hf.none]
    split <;> rfl
  clear hM1 hb1 HV HW HVT HWT HCL hf o1 c0 d0 hl hge
  generalize hk0 : 16 * lvN n = k at *
  go_loopw [41] (fun t wr => ∃ j : Nat, j ≤ k ∧ t = .int .i64 (j : Int) ∧ BM wr w.heap.size g2 n b2 c2 (mixW op V W j) ∧ Below w.heap.size w wr) (fun t _ => k - (intOf t).toNat)
  case atStart => exact ⟨0, by omega, rfl, HM1.out, HB1.out⟩
  case round =>
    clear HM1 HB1
    have hk128 := HK.out.1
    obtain ⟨j, hj, rfl, hM, hb⟩ := hrel
    by_cases hlt : j < k
    · have j0 : (0 : Int) ≤ (j : Int) := by omega
      have j1 : (j : Int) < (k : Int) := by omega
      have hO := HO.out wr hb
      have co := hO.word (i := j) (by omega)
      have hx : mixW op V W j j = V j := by unfold mixW; rw [if_neg (by omega)]
      have cx := hM.word (i := j) (by omega)
      rw [hx] at cx
      have cf := hM.frozen j
      have c1 := hM.c1
      rw [hk0] at c1
      have HBOTH : Hid (∀ U : World, Calls Tryz.prog 273 #[.int .u64 ((V j : Nat) : Int), .int .u64 ((W j : Nat) : Int)] U fun e w' => e = .returned (.int .u64 ((op (V j) (W j) : Nat) : Int)) ∧ w' = U) := fun U => HF.out.call _ _ U (HVL.out j) (HWL.out j)
      have HPUT : Hid (∀ U : World, BM U w.heap.size g2 n b2 c2 (mixW op V W j) → BM (U.setCell ⟨b2, j, none⟩ (.int .u64 ((op (V j) (W j) : Nat) : Int))) w.heap.size g2 n b2 c2 (mixW op V W (j + 1))) := fun U hU => by
        have := hU.put (i := j) (x := op (V j) (W j)) (by omega) (HF.out.lt _ _ (HVL.out j) (HWL.out j)) (by rw [mixW_step]; exact HT0.out (j + 1))
        rw [mixW_step] at this
        exact this
      have HJ : Hid (j < k) := hlt
      have HBL : w.heap.size ≤ b2 := hM.blt.1
      have S0 : wr.drew.cell? ⟨g2, 1, none⟩ = some (.slice (some ⟨b2, 0, none⟩) k c2) ∧ wr.drew.cell? ⟨b2, j, none⟩ = some (.int .u64 ((V j : Nat) : Int)) ∧ wr.drew.frozen? ⟨b2, j, none⟩ = false ∧ BM wr.drew w.heap.size g2 n b2 c2 (mixW op V W j) ∧ Below w.heap.size w wr.drew := ⟨c1, cx, cf, hM.keep rfl rfl, hb.drew⟩
      clear hO hx cx cf c1 hM hb
      generalize op (V j) (W j) = z at *
      generalize V j = x at *
      generalize W j = y at *
      go_wp2_with fail
      refine wp_region_partsS (fun U => U.cell? ⟨g2, 1, none⟩ = some (.slice (some ⟨b2, 0, none⟩) k c2) ∧ U.cell? ⟨b2, j, none⟩ = some (.int .u64 (x : Int)) ∧ U.frozen? ⟨b2, j, none⟩ = false ∧ BM U w.heap.size g2 n b2 c2 (mixW op V W j) ∧ Below w.heap.size w U) [([0, 4, 5, 6, 10, 13], 1, true), ([], 2, true), ([], 3, true), ([], 7, false), ([], 8, false), ([], 9, false), ([11], 12, false), ([], 14, false)] [15] [16] (by kernel_rfl) (by kernel_rfl) S0 (partsI_yield ?_)
      simp only [sgLHRmKit]
      go_wp2_with fail
      refine ⟨rfl, _, .pointer (some ⟨g2, 0, none⟩), rfl, Or.inl ⟨by rfl, fun W hW => by go_simp⟩, partsI_yield ?_⟩
      simp only [Act.put, sgPHRmKit]
      simp only [sgLHRmKit]
      go_wp2_with fail
      refine ⟨rfl, _, .pointer (some ⟨g2, 1, none⟩), rfl, Or.inl ⟨by rfl, fun W hW => by go_simp⟩, partsI_yield ?_⟩
      simp only [Act.put, sgPHRmKit]
      simp only [sgLHRmKit]
      go_wp2_with fail
      refine ⟨rfl, _, .slice (some ⟨b2, 0, none⟩) k c2, rfl, Or.inl ⟨by rfl, fun W hW => by have c1 := hW.1; go_simp⟩, partsI_force ?_⟩
      simp only [Act.put, sgPHRmKit]
      simp only [sgLHRmKit]
      go_wp2_with fail
      refine ⟨rfl, S0, partsI_force ?_⟩
      simp only [sgLHRmKit]
      go_wp2_with fail
      refine ⟨rfl, S0, partsI_force ?_⟩
      simp only [sgLHRmKit]
      have q1 := S0.1
      go_wp2_with fail
      refine ⟨rfl, S0, partsI_force ?_⟩
      simp only [sgLHRmKit]
      have q2 := S0.2.1
      go_wp2_with fail
      refine ⟨rfl, S0, partsI_force ?_⟩
      simp only [sgLHRmKit]
      go_wp2_with fail
      refine (HBOTH.out _).mono ?_
      rintro e2 w5 ⟨rfl, rfl⟩
      go_wp2_with fail
      refine ⟨rfl, S0, partsI_last ?_⟩
      simp only [sgLHRmKit]
      obtain ⟨q1, q2, q3, hM5, hb5⟩ := S0
      have HM6 : Hid (BM (wr.drew.setCell ⟨b2, j, none⟩ (.int .u64 (z : Int))) w.heap.size g2 n b2 c2 (mixW op V W (j + 1))) := HPUT.out _ hM5
      have HB6 : Hid (Below w.heap.size w (wr.drew.setCell ⟨b2, j, none⟩ (.int .u64 (z : Int)))) := hb5.setCell (p := ⟨b2, j, none⟩) HBL _
      clear HPUT HBOTH hM5 hb5
      go_wp2_with fail
      refine ⟨rfl, ?_⟩
      go_wp2_with fail
      go_roundw
      case rel => exact ⟨j + 1, HJ.out, by first | rfl | go_num | simp, HM6.out, HB6.out⟩
      case measure => simp [intOf]; have := HJ.out; omega
    · obtain rfl : j = k := by omega
      have j1 : ¬ ((j : Int) < (j : Int)) := by omega
      have HR : Hid (∃ b2 c2 U, BM wr w.heap.size g2 n b2 c2 U ∧ ∀ p, bitF U p = bop (bitF V p) (bitF W p)) := ⟨b2, c2, _, hM, fun p => by
        rw [mixW_bit HF.out HVL.out HWL.out]
        by_cases hp : p / 64 < j
        · rw [if_pos hp]
        · rw [if_neg hp]
          have h1 := HT0.out 0 p (by have := HK.out; omega)
          rw [mixW_bit HF.out HVL.out HWL.out, if_neg (by omega)] at h1
          have hw := (HO.out wr hb).tail p (by have := HK.out; omega)
          rw [h1, hw, HF.out.none]⟩
      clear hM
      go_wp2_with fail
      go_ret2
      exact ⟨g2, rfl, HR.out, hb⟩
set_option maxHeartbeats 4000000 in
theorem with_cross {op : Nat → Nat → Nat} {bop : Bool → Bool → Bool} (hf : Both 274 op bop) (w : World) (h : BM w B g n b c V) (h' : BM w B' g' n b' c' W) : Calls Tryz.prog 232 #[.pointer (some ⟨g, 0, none⟩), .pointer (some ⟨g', 0, none⟩), .func (.func 274) #[] #[]] w fun e w' => ∃ g2, e = .returned (.tuple #[.pointer (some ⟨g2, 0, none⟩), .int .i64 0]) ∧ (∃ b2 c2 U, BM w' w.heap.size g2 n b2 c2 U ∧ ∀ p, bitF U p = bop (bitF V p) (bitF W p)) ∧ Below w.heap.size w w' := by
  have c0 := h.c0
  have d0 := h'.c0
  have hl := lvN_le h.n2
  have hge := lvN_ge (n := n)
  have HCL : Hid (∀ m, Calls Tryz.prog 71 #[.pointer (some ⟨g, 0, none⟩)] (w.drewN m) fun e w' => ∃ g2 b2 c2, e = .returned (.pointer (some ⟨g2, 0, none⟩)) ∧ BM w' w.heap.size g2 n b2 c2 V ∧ Below w.heap.size w w') := fun m => by
    refine (bclone_any _ (h.dN m)).mono ?_
    rintro e w1 ⟨g2, b2, c2, rfl, h1, h2⟩
    exact ⟨g2, b2, c2, rfl, h1, ⟨h2.os, h2.tape, h2.output, h2.size, h2.block⟩⟩
  have HO : Hid (∀ U : World, Below w.heap.size w U → BM U B' g' n b' c' W) := fun U hU => h'.below hU
  have HV := h.lt
  have HW := h'.lt
  have HVT := h.tail
  have HWT := h'.tail
  clear h h'
  go_enter Tryz.func232, Tryz.ntmps232
  go_wp2_with fail
  go_quiet (fail)
  go_wp2_with fail
  refine (HCL.out _).mono ?_
  rintro e w1 ⟨g2, b2, c2, rfl, hM1, hb1⟩
  have o1 := (HO.out w1 hb1).c1
  have HK : Hid (16 * lvN n ≤ 128 ∧ n ≤ 64 * (16 * lvN n)) := ⟨by omega, by omega⟩
  go_wp2_with fail
  have HF : Hid (Both 274 op bop) := hf
  have HM1 : Hid (BM w1 w.heap.size g2 n b2 c2 (mixW op V W 0)) := hM1.congr (fun i => by unfold mixW; rw [if_neg (by omega)]; exact HV i) fun p => by rw [mixW_bit hf HV HW, if_neg (by omega)]
  have HB1 : Hid (Below w.heap.size w w1) := hb1
  have HVL : Hid (∀ i, V i < 18446744073709551616) := HV
  have HWL : Hid (∀ i, W i < 18446744073709551616) := HW
  have HT0 : Hid (∀ j p, n ≤ p → bitF (mixW op V W j) p = false) := fun j p hp => by
    rw [mixW_bit hf HV HW, HVT p hp, HWT p hp, hf.none]
    split <;> rfl
  clear hM1 hb1 HV HW HVT HWT HCL hf o1 c0 d0 hl hge
  generalize hk0 : 16 * lvN n = k at *
  go_loopw [41] (fun t wr => ∃ j : Nat, j ≤ k ∧ t = .int .i64 (j : Int) ∧ BM wr w.heap.size g2 n b2 c2 (mixW op V W j) ∧ Below w.heap.size w wr) (fun t _ => k - (intOf t).toNat)
  case atStart => exact ⟨0, by omega, rfl, HM1.out, HB1.out⟩
  case round =>
    clear HM1 HB1
    have hk128 := HK.out.1
    obtain ⟨j, hj, rfl, hM, hb⟩ := hrel
    by_cases hlt : j < k
    · have j0 : (0 : Int) ≤ (j : Int) := by omega
      have j1 : (j : Int) < (k : Int) := by omega
      have hO := HO.out wr hb
      have co := hO.word (i := j) (by omega)
      have hx : mixW op V W j j = V j := by unfold mixW; rw [if_neg (by omega)]
      have cx := hM.word (i := j) (by omega)
      rw [hx] at cx
      have cf := hM.frozen j
      have c1 := hM.c1
      rw [hk0] at c1
      have HBOTH : Hid (∀ U : World, Calls Tryz.prog 274 #[.int .u64 ((V j : Nat) : Int), .int .u64 ((W j : Nat) : Int)] U fun e w' => e = .returned (.int .u64 ((op (V j) (W j) : Nat) : Int)) ∧ w' = U) := fun U => HF.out.call _ _ U (HVL.out j) (HWL.out j)
      have HPUT : Hid (∀ U : World, BM U w.heap.size g2 n b2 c2 (mixW op V W j) → BM (U.setCell ⟨b2, j, none⟩ (.int .u64 ((op (V j) (W j) : Nat) : Int))) w.heap.size g2 n b2 c2 (mixW op V W (j + 1))) := fun U hU => by
        have := hU.put (i := j) (x := op (V j) (W j)) (by omega) (HF.out.lt _ _ (HVL.out j) (HWL.out j)) (by rw [mixW_step]; exact HT0.out (j + 1))
        rw [mixW_step] at this
        exact this
      have HJ : Hid (j < k) := hlt
      have HBL : w.heap.size ≤ b2 := hM.blt.1
      have S0 : wr.drew.cell? ⟨g2, 1, none⟩ = some (.slice (some ⟨b2, 0, none⟩) k c2) ∧ wr.drew.cell? ⟨b2, j, none⟩ = some (.int .u64 ((V j : Nat) : Int)) ∧ wr.drew.frozen? ⟨b2, j, none⟩ = false ∧ BM wr.drew w.heap.size g2 n b2 c2 (mixW op V W j) ∧ Below w.heap.size w wr.drew := ⟨c1, cx, cf, hM.keep rfl rfl, hb.drew⟩
      clear hO hx cx cf c1 hM hb
      generalize op (V j) (W j) = z at *
      generalize V j = x at *
      generalize W j = y at *
      go_wp2_with fail
      refine wp_region_partsS (fun U => U.cell? ⟨g2, 1, none⟩ = some (.slice (some ⟨b2, 0, none⟩) k c2) ∧ U.cell? ⟨b2, j, none⟩ = some (.int .u64 (x : Int)) ∧ U.frozen? ⟨b2, j, none⟩ = false ∧ BM U w.heap.size g2 n b2 c2 (mixW op V W j) ∧ Below w.heap.size w U) [([0, 4, 5, 6, 10, 13], 1, true), ([], 2, true), ([], 3, true), ([], 7, false), ([], 8, false), ([], 9, false), ([11], 12, false), ([], 14, false)] [15] [16] (by kernel_rfl) (by kernel_rfl) S0 (partsI_yield ?_)
      simp only [sgLHRmKit]
      go_wp2_with fail
      refine ⟨rfl, _, .pointer (some ⟨g2, 0, none⟩), rfl, Or.inl ⟨by rfl, fun W hW => by go_simp⟩, partsI_yield ?_⟩
      simp only [Act.put, sgPHRmKit]
      simp only [sgLHRmKit]
      go_wp2_with fail
      refine ⟨rfl, _, .pointer (some ⟨g2, 1, none⟩), rfl, Or.inl ⟨by rfl, fun W hW => by go_simp⟩, partsI_yield ?_⟩
      simp only [Act.put, sgPHRmKit]
      simp only [sgLHRmKit]
      go_wp2_with fail
      refine ⟨rfl, _, .slice (some ⟨b2, 0, none⟩) k c2, rfl, Or.inl ⟨by rfl, fun W hW => by have c1 := hW.1; go_simp⟩, partsI_force ?_⟩
      simp only [Act.put, sgPHRmKit]
      simp only [sgLHRmKit]
      go_wp2_with fail
      refine ⟨rfl, S0, partsI_force ?_⟩
      simp only [sgLHRmKit]
      go_wp2_with fail
      refine ⟨rfl, S0, partsI_force ?_⟩
      simp only [sgLHRmKit]
      have q1 := S0.1
      go_wp2_with fail
      refine ⟨rfl, S0, partsI_force ?_⟩
      simp only [sgLHRmKit]
      have q2 := S0.2.1
      go_wp2_with fail
      refine ⟨rfl, S0, partsI_force ?_⟩
      simp only [sgLHRmKit]
      go_wp2_with fail
      refine (HBOTH.out _).mono ?_
      rintro e2 w5 ⟨rfl, rfl⟩
      go_wp2_with fail
      refine ⟨rfl, S0, partsI_last ?_⟩
      simp only [sgLHRmKit]
      obtain ⟨q1, q2, q3, hM5, hb5⟩ := S0
      have HM6 : Hid (BM (wr.drew.setCell ⟨b2, j, none⟩ (.int .u64 (z : Int))) w.heap.size g2 n b2 c2 (mixW op V W (j + 1))) := HPUT.out _ hM5
      have HB6 : Hid (Below w.heap.size w (wr.drew.setCell ⟨b2, j, none⟩ (.int .u64 (z : Int)))) := hb5.setCell (p := ⟨b2, j, none⟩) HBL _
      clear HPUT HBOTH hM5 hb5
      go_wp2_with fail
      refine ⟨rfl, ?_⟩
      go_wp2_with fail
      go_roundw
      case rel => exact ⟨j + 1, HJ.out, by first | rfl | go_num | simp, HM6.out, HB6.out⟩
      case measure => simp [intOf]; have := HJ.out; omega
    · obtain rfl : j = k := by omega
      have j1 : ¬ ((j : Int) < (j : Int)) := by omega
      have HR : Hid (∃ b2 c2 U, BM wr w.heap.size g2 n b2 c2 U ∧ ∀ p, bitF U p = bop (bitF V p) (bitF W p)) := ⟨b2, c2, _, hM, fun p => by
        rw [mixW_bit HF.out HVL.out HWL.out]
        by_cases hp : p / 64 < j
        · rw [if_pos hp]
        · rw [if_neg hp]
          have h1 := HT0.out 0 p (by have := HK.out; omega)
          rw [mixW_bit HF.out HVL.out HWL.out, if_neg (by omega)] at h1
          have hw := (HO.out wr hb).tail p (by have := HK.out; omega)
          rw [h1, hw, HF.out.none]⟩
      clear hM
      go_wp2_with fail
      go_ret2
      exact ⟨g2, rfl, HR.out, hb⟩
end
end Go.Proofs.YtppagdmlfgialaaGreatDoor

namespace Go.Proofs.YtppagdmlfgialaaGreatDoor
open Go Go.RowKit
set_option linter.unusedVariables false
set_option linter.unusedSimpArgs false
section
variable {B B' g g' n n' b b' c c' : Nat} {V W : Nat → Nat}
/-- a map put together of two -/
def Made (w w' : World) (g2 n : Nat) (F : Nat → Bool) : Prop := (∃ b2 c2 U, BM w' w.heap.size g2 n b2 c2 U ∧ ∀ p, bitF U p = F p) ∧ Below w.heap.size w w'
theorem either_like (w : World) (h : BM w B g n b c V) (h' : BM w B' g' n b' c' W) : Calls Tryz.prog 174 #[.pointer (some ⟨g, 0, none⟩), .pointer (some ⟨g', 0, none⟩)] w fun e w' => ∃ g2, e = .returned (.tuple #[.pointer (some ⟨g2, 0, none⟩), .int .i64 0]) ∧ Made w w' g2 n fun p => bitF V p || bitF W p := by
  have HW := with_either both_either w h h'
  clear h h'
  go_enter Tryz.func174, Tryz.ntmps174
  go_wp2_with fail
  refine HW.mono ?_
  rintro e w1 ⟨g2, rfl, h1, h2⟩
  have HM : Hid (Made w w1 g2 n fun p => bitF V p || bitF W p) := ⟨h1, h2⟩
  clear h1 h2
  go_wp2_with fail
  go_ret2
  exact ⟨_, rfl, HM.out⟩
theorem less_like (w : World) (h : BM w B g n b c V) (h' : BM w B' g' n b' c' W) : Calls Tryz.prog 221 #[.pointer (some ⟨g, 0, none⟩), .pointer (some ⟨g', 0, none⟩)] w fun e w' => ∃ g2, e = .returned (.tuple #[.pointer (some ⟨g2, 0, none⟩), .int .i64 0]) ∧ Made w w' g2 n fun p => bitF V p && !bitF W p := by
  have HW := with_less both_less w h h'
  clear h h'
  go_enter Tryz.func221, Tryz.ntmps221
  go_wp2_with fail
  refine HW.mono ?_
  rintro e w1 ⟨g2, rfl, h1, h2⟩
  have HM : Hid (Made w w1 g2 n fun p => bitF V p && !bitF W p) := ⟨h1, h2⟩
  clear h1 h2
  go_wp2_with fail
  go_ret2
  exact ⟨_, rfl, HM.out⟩
theorem cross_like (w : World) (h : BM w B g n b c V) (h' : BM w B' g' n b' c' W) : Calls Tryz.prog 222 #[.pointer (some ⟨g, 0, none⟩), .pointer (some ⟨g', 0, none⟩)] w fun e w' => ∃ g2, e = .returned (.tuple #[.pointer (some ⟨g2, 0, none⟩), .int .i64 0]) ∧ Made w w' g2 n fun p => bitF V p && bitF W p := by
  have HW := with_cross both_cross w h h'
  clear h h'
  go_enter Tryz.func222, Tryz.ntmps222
  go_wp2_with fail
  refine HW.mono ?_
  rintro e w1 ⟨g2, rfl, h1, h2⟩
  have HM : Hid (Made w w1 g2 n fun p => bitF V p && bitF W p) := ⟨h1, h2⟩
  clear h1 h2
  go_wp2_with fail
  go_ret2
  exact ⟨_, rfl, HM.out⟩
end
end Go.Proofs.YtppagdmlfgialaaGreatDoor

namespace Go.Proofs.YtppagdmlfgialaaGreatDoor
open Go Go.RowKit
set_option linter.unusedVariables false
set_option linter.unusedSimpArgs false
theorem ncount  (w : World) : Calls Tryz.prog 162 #[.pointer none] w fun e w' => e = .returned (.int .i64 0) ∧ w' = w := by
  go_enter Tryz.func162, Tryz.ntmps162
  go_wp2_with fail
  go_ret
  exact ⟨rfl, rfl⟩
end Go.Proofs.YtppagdmlfgialaaGreatDoor

namespace Go.Proofs.YtppagdmlfgialaaGreatDoor
open Go Go.RowKit
set_option linter.unusedVariables false
set_option linter.unusedSimpArgs false
theorem put_if' (W : Nat → Nat) (p q : Nat) : bitF (putW W p) q = if q = p then true else bitF W q := by
  rw [bitF_put]; by_cases h : q = p <;> simp [h]
/-- only blocks of one's own turn -/
structure Touch (P : Nat → Prop) (w w' : World) : Prop where
  os : w'.os = w.os
  tape : w'.tape = w.tape
  output : w'.output = w.output
  size : w.heap.size ≤ w'.heap.size
  block : ∀ k, k < w.heap.size → ¬ P k → w'.heap[k]? = w.heap[k]?
theorem Touch.trans {P : Nat → Prop} {w v u : World} (h : Touch P w v) (k : Touch P v u) : Touch P w u := ⟨k.os.trans h.os, k.tape.trans h.tape, k.output.trans h.output, Nat.le_trans h.size k.size, fun j hj hn => (k.block j (Nat.lt_of_lt_of_le hj h.size) hn).trans (h.block j hj hn)⟩
theorem Touch.of_below {P : Nat → Prop} {w w' : World} (h : Below w.heap.size w w') : Touch P w w' := ⟨h.os, h.tape, h.output, h.size, fun k hk _ => h.block k hk⟩
theorem Touch.below {P : Nat → Prop} {B : Nat} {w w' : World} (h : Touch P w w') (hB : B ≤ w.heap.size) (hP : ∀ k, k < B → ¬ P k) : Below B w w' := ⟨h.os, h.tape, h.output, h.size, fun k hk => h.block k (by omega) (hP k hk)⟩
theorem Touch.dN {P : Nat → Prop} {w v : World} (h : Touch P w v) (m : Nat) : Touch P w (v.drewN m) := ⟨h.1, h.2, h.3, h.4, h.5⟩
theorem Touch.refl (P : Nat → Prop) (w : World) : Touch P w w := ⟨rfl, rfl, rfl, Nat.le_refl _, fun _ _ _ => rfl⟩
structure RM (w : World) (P : Nat → Prop) (r n gu bu cu gn bn cn : Nat) (U X : Nat → Nat) : Prop where
  cells : Blk w r 178 #[.pointer (some ⟨gu, 0, none⟩), .pointer (some ⟨gn, 0, none⟩)]
  u : BM w 0 gu n bu cu U
  x : BM w 0 gn n bn cn X
  own : P r ∧ P gu ∧ P bu ∧ P gn ∧ P bn
  ne : bn ≠ gu ∧ bn ≠ bu ∧ bn ≠ r ∧ bu ≠ gn ∧ bu ≠ r ∧ gu ≠ gn ∧ r ≠ gu ∧ r ≠ gn
  z : bitF U 0 = false ∧ bitF X 0 = false
  n16 : 16 ≤ n
/-- a room: which blocks the committed tree has, which the next one -/
def RoomIs (w : World) (P : Nat → Prop) (r n : Nat) (F G : Nat → Bool) : Prop := ∃ gu bu cu gn bn cn U X, RM w P r n gu bu cu gn bn cn U X ∧ (∀ p, bitF U p = F p) ∧ (∀ p, bitF X p = G p)
section
variable {w w' : World} {P : Nat → Prop} {r n gu bu cu gn bn cn : Nat} {U X : Nat → Nat} {F G : Nat → Bool}
theorem RM.keep (h : RM w P r n gu bu cu gn bn cn U X) (hr : w'.heap[r]? = w.heap[r]?) (h1 : w'.heap[gu]? = w.heap[gu]?) (h2 : w'.heap[bu]? = w.heap[bu]?) (h3 : w'.heap[gn]? = w.heap[gn]?) (h4 : w'.heap[bn]? = w.heap[bn]?) : RM w' P r n gu bu cu gn bn cn U X :=
  ⟨hr.trans h.cells, h.u.keep h1 h2, h.x.keep h3 h4, h.own, h.ne, h.z, h.n16⟩
theorem RM.below (h : RM w P r n gu bu cu gn bn cn U X) (hb : Below w.heap.size w w') : RM w' P r n gu bu cu gn bn cn U X :=
  h.keep (hb.block _ h.cells.lt) (hb.block _ h.u.glt) (hb.block _ h.u.blt.2) (hb.block _ h.x.glt) (hb.block _ h.x.blt.2)
theorem RoomIs.below (h : RoomIs w P r n F G) (hb : Below w.heap.size w w') : RoomIs w' P r n F G := by
  obtain ⟨gu, bu, cu, gn, bn, cn, U, X, hR, h1, h2⟩ := h
  exact ⟨gu, bu, cu, gn, bn, cn, U, X, hR.below hb, h1, h2⟩
theorem RM.dN (h : RM w P r n gu bu cu gn bn cn U X) (m : Nat) : RM (w.drewN m) P r n gu bu cu gn bn cn U X := h.keep rfl rfl rfl rfl rfl
theorem RoomIs.dN (h : RoomIs w P r n F G) (m : Nat) : RoomIs (w.drewN m) P r n F G := by
  obtain ⟨gu, bu, cu, gn, bn, cn, U, X, hR, h1, h2⟩ := h
  exact ⟨gu, bu, cu, gn, bn, cn, U, X, hR.dN m, h1, h2⟩
theorem RM.c0 (h : RM w P r n gu bu cu gn bn cn U X) : w.cell? ⟨r, 0, none⟩ = some (.pointer (some ⟨gu, 0, none⟩)) := by rw [h.cells.cell]; rfl
theorem RM.c1 (h : RM w P r n gu bu cu gn bn cn U X) : w.cell? ⟨r, 1, none⟩ = some (.pointer (some ⟨gn, 0, none⟩)) := by rw [h.cells.cell]; rfl
/-- the next tree's map has turned -/
theorem RM.next {V : Nat → Nat} (h : RM w P r n gu bu cu gn bn cn U X) (hx : BM w' 0 gn n bn cn V) (ho : Only bn w w') (hz : bitF V 0 = false) : RM w' P r n gu bu cu gn bn cn U V :=
  ⟨(ho.block _ h.cells.lt (Ne.symm h.ne.2.2.1)).trans h.cells, h.u.only ho h.ne.1 h.ne.2.1, hx, h.own, h.ne, ⟨h.z.1, hz⟩, h.n16⟩
theorem rmaps_any (h : RM w P r n gu bu cu gn bn cn U X) : Calls Tryz.prog 160 #[.pointer (some ⟨r, 0, none⟩)] w fun e w' => e = .returned (.tuple #[.pointer (some ⟨gu, 0, none⟩), .pointer (some ⟨gn, 0, none⟩)]) ∧ ∃ m, w' = w.drewN m := by
  have c0 := h.c0
  have c1 := h.c1
  clear h
  go_enter Tryz.func160, Tryz.ntmps160
  go_wp2_with fail
  go_quiet (fail)
  go_wp2_with fail
  go_ret2
  exact ⟨rfl, _, rfl⟩
theorem rblocks_any (h : RM w P r n gu bu cu gn bn cn U X) : Calls Tryz.prog 109 #[.pointer (some ⟨r, 0, none⟩)] w fun e w' => e = .returned (.int .i64 (n : Int)) ∧ ∃ m, w' = w.drewN m := by
  have HM := rmaps_any h
  have HS : Hid (∀ m, Calls Tryz.prog 153 #[.pointer (some ⟨gn, 0, none⟩)] (w.drewN m) fun e w' => e = .returned (.int .i64 (n : Int)) ∧ w' = w.drewN m) := fun m => bsize_any _ (h.x.dN m)
  clear h
  go_enter Tryz.func109, Tryz.ntmps109
  go_wp2_with fail
  refine HM.mono ?_
  rintro e w1 ⟨rfl, m, rfl⟩
  go_wp2_with fail
  refine (HS.out m).mono ?_
  rintro e w2 ⟨rfl, rfl⟩
  go_wp2_with fail
  go_ret
  exact ⟨rfl, m, rfl⟩
/-- a block's state -/
def stN (F G : Nat → Bool) (p : Nat) : Nat := if F p then (if G p then 2 else 4) else (if G p then 3 else 1)
def stAt (F G : Nat → Bool) (n p : Nat) : Nat := if p = 0 ∨ n ≤ p then 0 else stN F G p
end
end Go.Proofs.YtppagdmlfgialaaGreatDoor
