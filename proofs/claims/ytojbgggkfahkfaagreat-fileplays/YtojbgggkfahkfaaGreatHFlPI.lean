/- Two files as a script plays with them. -/
import Derived.Test.YtojbgggkfahkfaaGreatHInsCloneK
import Derived.Test.YtojbgggkfahkfaaGreatHInsSetC
import Derived.Handy
import Derived.Test.YtojbgggkfahkfaaGreatHFlDone

namespace Go.Proofs.YtojbgggkfahkfaaGreat
open Go Go.RowKit
set_option linter.unusedSimpArgs false
set_option linter.unusedVariables false
def ixZ : Array Value := va 40 fun i => if i = 0 then .pointer none else if i < 35 then tiF 0 rf0 (i - 1) else if i = 35 then .int .i64 0 else if i = 36 then .int .i64 0 else .map none
theorem zero_ix (w : World) : (zeroValue 87).run Tryz.prog w = .ok (.agg ixZ) w := zero_of (by kernel_rfl) w
theorem ixZ_size : ixZ.size = 40 := va_size _ _
theorem ixC_size' (cp : Option Addr) (h : Int) (R : Rf) (high top : Int) (mf ml mc : Nat) : (ixC cp h R high top mf ml mc).size = 40 := va_size _ _
theorem ix_maps {w : World} {g : Nat} {cp : Option Addr} {h : Int} {R : Rf} {high top : Int} {mf ml mc : Nat} (H : Blk w g 87 (ixC cp h R high top mf ml mc)) (a b c : Nat) : Blk (w.setCells g 37 [.map (some a), .map (some b), .map (some c)]) g 87 (ixC cp h R high top a b c) := by
  have := Blk.cells_put (n := 40) [.map (some a), .map (some b), .map (some c)] 37 w _ H
  rw [show va 40 (over (ixF cp h R high top mf ml mc) 37 [.map (some a), .map (some b), .map (some c)]) = ixC cp h R high top a b c from va_congr fun i hi => ?_] at this
  · exact this
  · unfold over
    by_cases hj : 37 ≤ i ∧ i < 37 + [Value.map (some a), .map (some b), .map (some c)].length
    · rw [if_pos hj]
      have hj2 : i < 40 := hj.2
      obtain ⟨d, rfl⟩ : ∃ d, i = 37 + d := ⟨i - 37, by omega⟩
      rw [show 37 + d - 37 = d by omega]
      match d, (show d < 3 by omega) with
      | 0, _ => rfl
      | 1, _ => rfl
      | 2, _ => rfl
    · rw [if_neg hj]
      have hj2 : i < 37 := by
        have : ¬ (37 ≤ i ∧ i < 40) := hj
        omega
      unfold ixF
      by_cases a0 : i = 0
      · rw [if_pos a0, if_pos a0]
      · rw [if_neg a0, if_neg a0]
        by_cases a1 : i < 35
        · rw [if_pos a1, if_pos a1]
        · rw [if_neg a1, if_neg a1]
          by_cases a2 : i = 35
          · rw [if_pos a2, if_pos a2]
          · rw [if_neg a2, if_neg a2, if_pos (by omega), if_pos (by omega)]
section
variable {w w' : World} {x mf ml mc : Nat} {cp : Option Addr} {top : Int} {H : Nat → Hd} {D : Nat → Nat → Nat → Nat}
set_option maxRecDepth 100000 in
set_option maxHeartbeats 8000000 in
theorem IM.clone (h : IM w x mf ml mc cp top H D) : Calls Tryz.prog 12 #[.pointer (some ⟨x, 0, none⟩)] w fun e w' => ∃ g a b c, e = .returned (.pointer (some ⟨g, 0, none⟩)) ∧ (w.heap.size ≤ g ∧ w.heap.size ≤ a ∧ w.heap.size ≤ b ∧ w.heap.size ≤ c) ∧ IM w' g a b c cp top H D ∧ Below w.heap.size w w' := by
  have hz := zero_ix
  have HI : Hid (IM w x mf ml mc cp top H D) := h
  have hx := h.ix
  have q2 : Blk (w.alloc (.cells ixZ 87)) w.heap.size 87 ixZ := Blk.new _ _ _
  have q2' := q2.set (ixC cp 0 rf0 0 top mf ml mc)
  have hb2 : Below w.heap.size w ((w.alloc (.cells ixZ 87)).setRow w.heap.size (ixC cp 0 rf0 0 top mf ml mc)) := below_setRow (below_new1 _ _) (Nat.le_refl _) _
  have HB2 : Hid (Below w.heap.size w ((w.alloc (.cells ixZ 87)).setRow w.heap.size (ixC cp 0 rf0 0 top mf ml mc)).drew) := hb2.drew
  have hx2 := hx.below hb2 hx.lt
  clear h hb2
  go_enter Tryz.func12, Tryz.ntmps12
  go_wp2_with (first
    | (refine wpList_load_rowg (by rfl) 87 _ (by rfl) x (by rfl) 87 (ixC cp 0 rf0 0 top mf ml mc) (0, 0) _ (by exact hx) Tryz.underlying87 (by rfl) (sizeIx.trans (by rw [ixC_size'])) ?_; simp only [Act.put, List.setIfInBounds_toArray, List.set_cons_zero, List.set_cons_succ])
    | (refine wpList_store_row (by rfl) 87 _ _ (by rfl) (w.heap.size) (ixC cp 0 rf0 0 top mf ml mc) (by rfl) (by rfl) 87 ixZ (by exact q2) (sizeIx.trans (by rw [ixC_size'])) (by rw [ixC_size', ixZ_size]) (ixC_all _ _ _ _ _ _ _ _) ?_; simp only [Act.put, List.setIfInBounds_toArray, List.set_cons_zero, List.set_cons_succ])
    | fail)
  have hSd : Blk ((w.alloc (.cells ixZ 87)).setRow w.heap.size (ixC cp 0 rf0 0 top mf ml mc)).drew x 87 (ixC cp 0 rf0 0 top mf ml mc) := hx2
  have HG : Hid (Blk ((w.alloc (.cells ixZ 87)).setRow w.heap.size (ixC cp 0 rf0 0 top mf ml mc)).drew w.heap.size 87 (ixC cp 0 rf0 0 top mf ml mc) ∧ x < w.heap.size) := ⟨q2', hx.lt⟩
  clear q2 q2' hx2 hx
  refine wp_region_partsS (fun W => Blk W x 87 (ixC cp 0 rf0 0 top mf ml mc)) [([0], 1, true), ([], 2, true), ([], 3, true), ([5], 6, true), ([], 7, true), ([], 8, true), ([10], 11, true), ([], 12, true), ([], 13, true), ([], 4, false), ([], 9, false), ([], 14, false), ([], 15, false), ([], 16, false), ([], 17, false), ([], 18, false), ([], 19, false), ([], 20, false)] [] [] (by kernel_rfl) (by kernel_rfl) hSd (partsI_yield ?_)
  have HI1 : Hid (IM ((w.alloc (.cells ixZ 87)).setRow w.heap.size (ixC cp 0 rf0 0 top mf ml mc)).drew x mf ml mc cp top H D) := HI.out.below HB2.out
  generalize ((w.alloc (.cells ixZ 87)).setRow w.heap.size (ixC cp 0 rf0 0 top mf ml mc)).drew = w1 at *
  obtain ⟨M, ⟨l1, ⟨e1, c1, k1, k1'⟩, k1n, k1f⟩, m2⟩ := HI1.out.fm
  obtain ⟨M', ⟨l2, ⟨e2, c2, k2, k2'⟩, k2n, k2f⟩, n2⟩ := HI1.out.lm
  obtain ⟨c3, k3⟩ := HI1.out.cm
  have hlt := HI1.out.lts
  have hgl := HG.out.1.lt
  have hbA : Below w1.heap.size w1 (w1.alloc (.map e1 c1)) := below_new1 _ _
  have hbB : Below w1.heap.size w1 ((w1.alloc (.map e1 c1)).alloc (.map e2 c2)) := hbA.alloc (by simp) _
  have hbC : Below w1.heap.size w1 (((w1.alloc (.map e1 c1)).alloc (.map e2 c2)).alloc (.map #[] c3)) := hbB.alloc (by simp; omega) _
  have KA := cloneFours mf e1 c1 w1 k1
  have KB := cloneLeaves ml e2 c2 (w1.alloc (.map e1 c1)) ((hbA.block ml hlt.2.2.1).trans k2)
  have KC := cloneCounts mc #[] c3 ((w1.alloc (.map e1 c1)).alloc (.map e2 c2)) ((hbB.block mc hlt.2.2.2).trans k3)
  rw [show (w1.alloc (.map e1 c1)).heap.size = w1.heap.size + 1 by simp] at KB
  rw [show ((w1.alloc (.map e1 c1)).alloc (.map e2 c2)).heap.size = w1.heap.size + 1 + 1 by simp] at KC
  have SA := hSd.below hbA hlt.1
  have SB := hSd.below hbB hlt.1
  have SC := hSd.below hbC hlt.1
  have gC := HG.out.1.below hbC hgl
  have hne : x ≠ w.heap.size := by have := HG.out.2; omega
  have SD : Blk ((((w1.alloc (.map e1 c1)).alloc (.map e2 c2)).alloc (.map #[] c3)).setCell ⟨w.heap.size, 37, none⟩ (.map (some w1.heap.size))) x 87 (ixC cp 0 rf0 0 top mf ml mc) := SC.put_other 37 _ hne
  have SE : Blk (((((w1.alloc (.map e1 c1)).alloc (.map e2 c2)).alloc (.map #[] c3)).setCell ⟨w.heap.size, 37, none⟩ (.map (some w1.heap.size))).setCell ⟨w.heap.size, 38, none⟩ (.map (some (w1.heap.size + 1)))) x 87 (ixC cp 0 rf0 0 top mf ml mc) := SD.put_other 38 _ hne
  have SF : Blk ((((((w1.alloc (.map e1 c1)).alloc (.map e2 c2)).alloc (.map #[] c3)).setCell ⟨w.heap.size, 37, none⟩ (.map (some w1.heap.size))).setCell ⟨w.heap.size, 38, none⟩ (.map (some (w1.heap.size + 1)))).setCell ⟨w.heap.size, 39, none⟩ (.map (some (w1.heap.size + 1 + 1)))) x 87 (ixC cp 0 rf0 0 top mf ml mc) := SE.put_other 39 _ hne
  have c37 := ix_c37 gC
  have f37 : (((w1.alloc (.map e1 c1)).alloc (.map e2 c2)).alloc (.map #[] c3)).frozen? ⟨w.heap.size, 37, none⟩ = false := gC.frozen 37
  have c38 := ix_c38 gC
  have f38 : (((w1.alloc (.map e1 c1)).alloc (.map e2 c2)).alloc (.map #[] c3)).frozen? ⟨w.heap.size, 38, none⟩ = false := gC.frozen 38
  have c39 := ix_c39 gC
  have f39 : (((w1.alloc (.map e1 c1)).alloc (.map e2 c2)).alloc (.map #[] c3)).frozen? ⟨w.heap.size, 39, none⟩ = false := gC.frozen 39
  have HE : Hid (IM ((((((w1.alloc (.map e1 c1)).alloc (.map e2 c2)).alloc (.map #[] c3)).setCell ⟨w.heap.size, 37, none⟩ (.map (some w1.heap.size))).setCell ⟨w.heap.size, 38, none⟩ (.map (some (w1.heap.size + 1)))).setCell ⟨w.heap.size, 39, none⟩ (.map (some (w1.heap.size + 1 + 1)))) w.heap.size w1.heap.size (w1.heap.size + 1) (w1.heap.size + 1 + 1) cp top H D ∧ Below w.heap.size w ((((((w1.alloc (.map e1 c1)).alloc (.map e2 c2)).alloc (.map #[] c3)).setCell ⟨w.heap.size, 37, none⟩ (.map (some w1.heap.size))).setCell ⟨w.heap.size, 38, none⟩ (.map (some (w1.heap.size + 1)))).setCell ⟨w.heap.size, 39, none⟩ (.map (some (w1.heap.size + 1 + 1))))) := by
    have hs : ∀ k, k ≠ w.heap.size → ((((((w1.alloc (.map e1 c1)).alloc (.map e2 c2)).alloc (.map #[] c3)).setCell ⟨w.heap.size, 37, none⟩ (.map (some w1.heap.size))).setCell ⟨w.heap.size, 38, none⟩ (.map (some (w1.heap.size + 1)))).setCell ⟨w.heap.size, 39, none⟩ (.map (some (w1.heap.size + 1 + 1)))).heap[k]? = (((w1.alloc (.map e1 c1)).alloc (.map e2 c2)).alloc (.map #[] c3)).heap[k]? := fun k hk => by
      rw [Below.heap_setCell _ _ _ _ hk, Below.heap_setCell _ _ _ _ hk, Below.heap_setCell _ _ _ _ hk]
    have hAC : Below (w1.heap.size + 1) (w1.alloc (.map e1 c1)) (((w1.alloc (.map e1 c1)).alloc (.map e2 c2)).alloc (.map #[] c3)) := ((Below.refl _ _).alloc (by simp) _).alloc (by simp) _
    have hBC : Below (w1.heap.size + 1 + 1) ((w1.alloc (.map e1 c1)).alloc (.map e2 c2)) (((w1.alloc (.map e1 c1)).alloc (.map e2 c2)).alloc (.map #[] c3)) := (Below.refl _ _).alloc (by simp) _
    have hA : (((w1.alloc (.map e1 c1)).alloc (.map e2 c2)).alloc (.map #[] c3)).heap[w1.heap.size]? = some (.map e1 c1) := (hAC.block _ (by omega)).trans (heap_alloc_new _ _)
    have hB : (((w1.alloc (.map e1 c1)).alloc (.map e2 c2)).alloc (.map #[] c3)).heap[w1.heap.size + 1]? = some (.map e2 c2) := (hBC.block _ (by omega)).trans (by
      have := heap_alloc_new (w1.alloc (.map e1 c1)) (.map e2 c2)
      rw [show (w1.alloc (.map e1 c1)).heap.size = w1.heap.size + 1 by simp] at this
      exact this)
    have hC : (((w1.alloc (.map e1 c1)).alloc (.map e2 c2)).alloc (.map #[] c3)).heap[w1.heap.size + 1 + 1]? = some (.map #[] c3) := by
      have := heap_alloc_new ((w1.alloc (.map e1 c1)).alloc (.map e2 c2)) (.map #[] c3)
      rw [show ((w1.alloc (.map e1 c1)).alloc (.map e2 c2)).heap.size = w1.heap.size + 1 + 1 by simp] at this
      exact this
    have hbw : Below w.heap.size w (((w1.alloc (.map e1 c1)).alloc (.map e2 c2)).alloc (.map #[] c3)) := HB2.out.trans (hbC.mono HB2.out.size)
    refine ⟨⟨ix_maps gC w1.heap.size (w1.heap.size + 1) (w1.heap.size + 1 + 1), ⟨M, ⟨l1, ⟨e1, c1, (hs _ (by omega)).trans hA, k1'⟩, k1n, k1f⟩, m2⟩, ⟨M', ⟨l2, ⟨e2, c2, (hs _ (by omega)).trans hB, k2'⟩, k2n, k2f⟩, n2⟩, ⟨c3, (hs _ (by omega)).trans hC⟩, by omega⟩, ((hbw.setCell (p := ⟨w.heap.size, 37, none⟩) (Nat.le_refl _) _).setCell (p := ⟨w.heap.size, 38, none⟩) (Nat.le_refl _) _).setCell (p := ⟨w.heap.size, 39, none⟩) (Nat.le_refl _) _⟩
  have HSZ : Hid (w.heap.size ≤ w1.heap.size) := by exact Nat.le_of_lt hgl
  clear m2 n2 k1' k2' k1n k2n k1f k2f k1 k2 k3 hbA hbB hbC gC HI1 HG hlt hgl HI
  simp only [List.cons_append, List.nil_append, List.append_nil, List.filterMap_cons, List.filterMap_nil, List.getElem?_toArray, List.getElem?_cons_zero, List.getElem?_cons_succ]
  go_wp2_with fail
  refine ⟨rfl, _, .pointer (some ⟨x, 0, none⟩), rfl, Or.inl ⟨by rfl, fun W hW => by go_simp⟩, partsI_yield ?_⟩
  simp only [Act.put, List.setIfInBounds_toArray, List.set_cons_zero, List.set_cons_succ]
  simp only [List.cons_append, List.nil_append, List.append_nil, List.filterMap_cons, List.filterMap_nil, List.getElem?_toArray, List.getElem?_cons_zero, List.getElem?_cons_succ]
  go_wp2_with fail
  refine ⟨rfl, _, .pointer (some ⟨x, 37, none⟩), rfl, Or.inl ⟨by rfl, fun W hW => by go_simp⟩, partsI_yield ?_⟩
  simp only [Act.put, List.setIfInBounds_toArray, List.set_cons_zero, List.set_cons_succ]
  simp only [List.cons_append, List.nil_append, List.append_nil, List.filterMap_cons, List.filterMap_nil, List.getElem?_toArray, List.getElem?_cons_zero, List.getElem?_cons_succ]
  go_wp2_with fail
  refine ⟨rfl, _, .map (some mf), rfl, Or.inl ⟨by rfl, fun W hW => by have hW1 := ix_c37 hW; go_simp⟩, partsI_yield ?_⟩
  simp only [Act.put, List.setIfInBounds_toArray, List.set_cons_zero, List.set_cons_succ]
  simp only [List.cons_append, List.nil_append, List.append_nil, List.filterMap_cons, List.filterMap_nil, List.getElem?_toArray, List.getElem?_cons_zero, List.getElem?_cons_succ]
  go_wp2_with fail
  refine ⟨rfl, _, .pointer (some ⟨x, 0, none⟩), rfl, Or.inl ⟨by rfl, fun W hW => by go_simp⟩, partsI_yield ?_⟩
  simp only [Act.put, List.setIfInBounds_toArray, List.set_cons_zero, List.set_cons_succ]
  simp only [List.cons_append, List.nil_append, List.append_nil, List.filterMap_cons, List.filterMap_nil, List.getElem?_toArray, List.getElem?_cons_zero, List.getElem?_cons_succ]
  go_wp2_with fail
  refine ⟨rfl, _, .pointer (some ⟨x, 38, none⟩), rfl, Or.inl ⟨by rfl, fun W hW => by go_simp⟩, partsI_yield ?_⟩
  simp only [Act.put, List.setIfInBounds_toArray, List.set_cons_zero, List.set_cons_succ]
  simp only [List.cons_append, List.nil_append, List.append_nil, List.filterMap_cons, List.filterMap_nil, List.getElem?_toArray, List.getElem?_cons_zero, List.getElem?_cons_succ]
  go_wp2_with fail
  refine ⟨rfl, _, .map (some ml), rfl, Or.inl ⟨by rfl, fun W hW => by have hW1 := ix_c38 hW; go_simp⟩, partsI_yield ?_⟩
  simp only [Act.put, List.setIfInBounds_toArray, List.set_cons_zero, List.set_cons_succ]
  simp only [List.cons_append, List.nil_append, List.append_nil, List.filterMap_cons, List.filterMap_nil, List.getElem?_toArray, List.getElem?_cons_zero, List.getElem?_cons_succ]
  go_wp2_with fail
  refine ⟨rfl, _, .pointer (some ⟨x, 0, none⟩), rfl, Or.inl ⟨by rfl, fun W hW => by go_simp⟩, partsI_yield ?_⟩
  simp only [Act.put, List.setIfInBounds_toArray, List.set_cons_zero, List.set_cons_succ]
  simp only [List.cons_append, List.nil_append, List.append_nil, List.filterMap_cons, List.filterMap_nil, List.getElem?_toArray, List.getElem?_cons_zero, List.getElem?_cons_succ]
  go_wp2_with fail
  refine ⟨rfl, _, .pointer (some ⟨x, 39, none⟩), rfl, Or.inl ⟨by rfl, fun W hW => by go_simp⟩, partsI_yield ?_⟩
  simp only [Act.put, List.setIfInBounds_toArray, List.set_cons_zero, List.set_cons_succ]
  simp only [List.cons_append, List.nil_append, List.append_nil, List.filterMap_cons, List.filterMap_nil, List.getElem?_toArray, List.getElem?_cons_zero, List.getElem?_cons_succ]
  go_wp2_with fail
  refine ⟨rfl, _, .map (some mc), rfl, Or.inl ⟨by rfl, fun W hW => by have hW1 := ix_c39 hW; go_simp⟩, partsI_force ?_⟩
  simp only [Act.put, List.setIfInBounds_toArray, List.set_cons_zero, List.set_cons_succ]
  simp only [List.cons_append, List.nil_append, List.append_nil, List.filterMap_cons, List.filterMap_nil, List.getElem?_toArray, List.getElem?_cons_zero, List.getElem?_cons_succ]
  go_wp2_with fail
  refine KA.mono ?_
  rintro e w9 ⟨rfl, hw9⟩
  subst w9
  go_wp2_with fail
  refine ⟨rfl, SA, partsI_force ?_⟩
  simp only [List.cons_append, List.nil_append, List.append_nil, List.filterMap_cons, List.filterMap_nil, List.getElem?_toArray, List.getElem?_cons_zero, List.getElem?_cons_succ]
  go_wp2_with fail
  refine KB.mono ?_
  rintro e w9 ⟨rfl, hw9⟩
  subst w9
  go_wp2_with fail
  refine ⟨rfl, SB, partsI_force ?_⟩
  simp only [List.cons_append, List.nil_append, List.append_nil, List.filterMap_cons, List.filterMap_nil, List.getElem?_toArray, List.getElem?_cons_zero, List.getElem?_cons_succ]
  go_wp2_with fail
  refine KC.mono ?_
  rintro e w9 ⟨rfl, hw9⟩
  subst w9
  go_wp2_with fail
  refine ⟨rfl, SC, partsI_force ?_⟩
  simp only [List.cons_append, List.nil_append, List.append_nil, List.filterMap_cons, List.filterMap_nil, List.getElem?_toArray, List.getElem?_cons_zero, List.getElem?_cons_succ]
  go_wp2_with fail
  refine ⟨rfl, SC, partsI_force ?_⟩
  simp only [List.cons_append, List.nil_append, List.append_nil, List.filterMap_cons, List.filterMap_nil, List.getElem?_toArray, List.getElem?_cons_zero, List.getElem?_cons_succ]
  go_wp2_with fail
  refine ⟨rfl, SD, partsI_force ?_⟩
  simp only [List.cons_append, List.nil_append, List.append_nil, List.filterMap_cons, List.filterMap_nil, List.getElem?_toArray, List.getElem?_cons_zero, List.getElem?_cons_succ]
  go_wp2_with fail
  refine ⟨rfl, SD, partsI_force ?_⟩
  simp only [List.cons_append, List.nil_append, List.append_nil, List.filterMap_cons, List.filterMap_nil, List.getElem?_toArray, List.getElem?_cons_zero, List.getElem?_cons_succ]
  go_wp2_with fail
  refine ⟨rfl, SE, partsI_force ?_⟩
  simp only [List.cons_append, List.nil_append, List.append_nil, List.filterMap_cons, List.filterMap_nil, List.getElem?_toArray, List.getElem?_cons_zero, List.getElem?_cons_succ]
  go_wp2_with fail
  refine ⟨rfl, SE, partsI_force ?_⟩
  simp only [List.cons_append, List.nil_append, List.append_nil, List.filterMap_cons, List.filterMap_nil, List.getElem?_toArray, List.getElem?_cons_zero, List.getElem?_cons_succ]
  go_wp2_with fail
  refine ⟨rfl, SF, partsI_last ?_⟩
  simp only [List.cons_append, List.nil_append, List.append_nil, List.filterMap_cons, List.filterMap_nil, List.getElem?_toArray, List.getElem?_cons_zero, List.getElem?_cons_succ]
  refine ⟨rfl, ?_⟩
  go_wp2_with fail
  go_ret
  exact ⟨_, _, _, _, rfl, ⟨Nat.le_refl _, HSZ.out, by have := HSZ.out; omega, by have := HSZ.out; omega⟩, HE.out.1, HE.out.2⟩
end
end Go.Proofs.YtojbgggkfahkfaaGreat

namespace Go.Proofs.YtojbgggkfahkfaaGreat
open Go Go.RowKit
set_option linter.unusedSimpArgs false
set_option linter.unusedVariables false
/-- the files 2 and 3 with their texts and stamps -/
structure PI (w V : World) (x mf ml mc : Nat) (cp : Option Addr) (sm : ByteArray) (tm : Nat) (sk : ByteArray) (tk : Nat) : Prop where
  im : ∃ H D, IM V x mf ml mc cp 3 H D ∧ Fi H D 2 sm.size tm (tbyte sm) ∧ Fi H D 3 sk.size tk (tbyte sk)
  bel : Below w.heap.size w V
  gl : w.heap.size ≤ ml
  gf : w.heap.size ≤ mf
theorem fl_blk {S : Nat → Prop} {V w' : World} {g T : Nat} {cs : Array Value} (hT : Turns S V w') (h : Blk V g T cs) (hn : ¬ S g) : Blk w' g T cs := (hT.block g h.lt hn).trans h
section
variable {w V V' : World} {x mf ml mc : Nat} {cp : Option Addr} {sm sk : ByteArray} {tm tk : Nat}
theorem PI.lts (h : PI w V x mf ml mc cp sm tm sk tk) : x < V.heap.size ∧ mf < V.heap.size ∧ ml < V.heap.size ∧ mc < V.heap.size := by
  obtain ⟨H, D, hI, _⟩ := h.im
  exact hI.lts
theorem PI.small (h : PI w V x mf ml mc cp sm tm sk tk) : sm.size ≤ 1048576 ∧ sk.size ≤ 1048576 := by
  obtain ⟨H, D, hI, h2, h3⟩ := h.im
  exact ⟨h2.le, h3.le⟩
theorem PI.below (h : PI w V x mf ml mc cp sm tm sk tk) (hb : Below V.heap.size V V') : PI w V' x mf ml mc cp sm tm sk tk := by
  obtain ⟨H, D, hI, h2, h3⟩ := h.im
  exact ⟨⟨H, D, hI.below hb, h2, h3⟩, h.bel.trans (hb.mono h.bel.size), h.gl, h.gf⟩
theorem PI.keep (h : PI w V x mf ml mc cp sm tm sk tk) (h1 : V'.heap[x]? = V.heap[x]?) (h2 : V'.heap[mf]? = V.heap[mf]?) (h3 : V'.heap[ml]? = V.heap[ml]?) (h4 : V'.heap[mc]? = V.heap[mc]?) (hb : Below w.heap.size w V') : PI w V' x mf ml mc cp sm tm sk tk := by
  obtain ⟨H, D, hI, f2, f3⟩ := h.im
  exact ⟨⟨H, D, hI.keep h1 h2 h3 h4, f2, f3⟩, hb, h.gl, h.gf⟩
theorem PI.row (h : PI w V x mf ml mc cp sm tm sk tk) (g : Nat) (cs : Array Value) (hg : w.heap.size ≤ g) (hn : g ≠ x ∧ g ≠ mf ∧ g ≠ ml ∧ g ≠ mc) : PI w (V.setRow g cs) x mf ml mc cp sm tm sk tk :=
  h.keep (setRow_other _ _ _ _ (Ne.symm hn.1)) (setRow_other _ _ _ _ (Ne.symm hn.2.1)) (setRow_other _ _ _ _ (Ne.symm hn.2.2.1)) (setRow_other _ _ _ _ (Ne.symm hn.2.2.2)) (below_setRow h.bel hg _)
theorem PI.didM (h : PI w V x mf ml mc cp sm tm sk tk) (kd a m : Int) (t : ByteArray) (t' : Nat) (ha : -9223372036854775808 ≤ a ∧ a ≤ 9223372036854775807) (hm : -9223372036854775808 ≤ m ∧ m ≤ 9223372036854775807) (ht : t.size ≤ 140737488355328) (R : Dn) (hR : dnF sm tm (kdN kd) a m t t' = R) : Calls Tryz.prog 10 #[.pointer (some ⟨x, 0, none⟩), .int .i64 2, .agg (acC kd a m t t')] V fun e w' => e = .returned (.tuple #[.int .i64 R.ans, .int .i64 R.err]) ∧ PI w w' x mf ml mc cp R.s R.st sk tk ∧ Turns (fun z => z = ml ∨ z = mf) V w' := by
  obtain ⟨H, D, hI, h2, h3⟩ := h.im
  have hB : BS w V x mf ml mc cp 3 H D 2 sm.size tm (tbyte sm) := ⟨⟨H, D, hI, h2, fun _ _ => ⟨rfl, rfl⟩⟩, h.bel, h.gl, h.gf, fun p _ => tbyte_lt _ _⟩
  refine (BS.did sm hB kd a m t t' ha hm ht R hR).mono ?_
  rintro e w' ⟨rfl, hB', hT⟩
  obtain ⟨H', D', i1, i2, i3⟩ := hB'.now
  exact ⟨rfl, ⟨⟨H', D', i1, i2, h3.same (i3 3 (by decide)).1 (i3 3 (by decide)).2⟩, hB'.bel, h.gl, h.gf⟩, hT⟩
theorem PI.didK (h : PI w V x mf ml mc cp sm tm sk tk) (kd a m : Int) (t : ByteArray) (t' : Nat) (ha : -9223372036854775808 ≤ a ∧ a ≤ 9223372036854775807) (hm : -9223372036854775808 ≤ m ∧ m ≤ 9223372036854775807) (ht : t.size ≤ 140737488355328) (R : Dn) (hR : dnF sk tk (kdN kd) a m t t' = R) : Calls Tryz.prog 10 #[.pointer (some ⟨x, 0, none⟩), .int .i64 3, .agg (acC kd a m t t')] V fun e w' => e = .returned (.tuple #[.int .i64 R.ans, .int .i64 R.err]) ∧ PI w w' x mf ml mc cp sm tm R.s R.st ∧ Turns (fun z => z = ml ∨ z = mf) V w' := by
  obtain ⟨H, D, hI, h2, h3⟩ := h.im
  have hB : BS w V x mf ml mc cp 3 H D 3 sk.size tk (tbyte sk) := ⟨⟨H, D, hI, h3, fun _ _ => ⟨rfl, rfl⟩⟩, h.bel, h.gl, h.gf, fun p _ => tbyte_lt _ _⟩
  refine (BS.did sk hB kd a m t t' ha hm ht R hR).mono ?_
  rintro e w' ⟨rfl, hB', hT⟩
  obtain ⟨H', D', i1, i2, i3⟩ := hB'.now
  exact ⟨rfl, ⟨⟨H', D', i1, h2.same (i3 2 (by decide)).1 (i3 2 (by decide)).2, i2⟩, hB'.bel, h.gl, h.gf⟩, hT⟩
theorem PI.same (h : PI w V x mf ml mc cp sm tm sk tk) : Calls Tryz.prog 14 #[.pointer (some ⟨x, 0, none⟩), .int .i64 2, .int .i64 3] V fun e w' => e = .returned (.tuple #[.bool (decide (sm = sk)), .int .i64 0]) ∧ Below V.heap.size V w' := by
  obtain ⟨H, D, hI, h2, h3⟩ := h.im
  refine (hI.sameF h2 h3).mono ?_
  rintro e w' ⟨⟨b, rfl, hb⟩, hw⟩
  have : b = decide (sm = sk) := by
    by_cases c : sm = sk
    · rw [decide_eq_true c]
      exact hb.2 (by subst c; exact ⟨rfl, fun _ _ => rfl⟩)
    · rw [decide_eq_false c]
      cases b with
      | false => rfl
      | true => exact absurd (text_ext (hb.1 rfl).1 (hb.1 rfl).2) c
  rw [this]
  exact ⟨rfl, hw⟩
theorem PI.standsM (h : PI w V x mf ml mc cp sm tm sk tk) (a m : Int) (ha : -9223372036854775808 ≤ a ∧ a ≤ 9223372036854775807) (hm : -9223372036854775808 ≤ m ∧ m ≤ 9223372036854775807) : Calls Tryz.prog 13 #[.pointer (some ⟨x, 0, none⟩), .int .i64 2, .agg (mdC sm tm), .int .i64 a, .int .i64 m] V fun e w' => e = .returned (.bool true) ∧ Below V.heap.size V w' := by
  obtain ⟨H, D, hI, h2, h3⟩ := h.im
  exact hI.standsF sm h2 a m ha hm
theorem PI.standsK (h : PI w V x mf ml mc cp sm tm sk tk) (a m : Int) (ha : -9223372036854775808 ≤ a ∧ a ≤ 9223372036854775807) (hm : -9223372036854775808 ≤ m ∧ m ≤ 9223372036854775807) : Calls Tryz.prog 13 #[.pointer (some ⟨x, 0, none⟩), .int .i64 3, .agg (mdC sk tk), .int .i64 a, .int .i64 m] V fun e w' => e = .returned (.bool true) ∧ Below V.heap.size V w' := by
  obtain ⟨H, D, hI, h2, h3⟩ := h.im
  exact hI.standsF sk h3 a m ha hm
theorem PI.clone (h : PI w V x mf ml mc cp sm tm sk tk) : Calls Tryz.prog 12 #[.pointer (some ⟨x, 0, none⟩)] V fun e w' => ∃ g a b c, e = .returned (.pointer (some ⟨g, 0, none⟩)) ∧ (V.heap.size ≤ g ∧ V.heap.size ≤ a ∧ V.heap.size ≤ b ∧ V.heap.size ≤ c) ∧ PI w w' g a b c cp sm tm sk tk ∧ Below V.heap.size V w' := by
  obtain ⟨H, D, hI, h2, h3⟩ := h.im
  refine hI.clone.mono ?_
  rintro e w' ⟨g, a, b, c, rfl, hg, hI', hb⟩
  have := h.bel.size
  exact ⟨g, a, b, c, rfl, hg, ⟨⟨H, D, hI', h2, h3⟩, h.bel.trans (hb.mono h.bel.size), by omega, by omega⟩, hb⟩
end
end Go.Proofs.YtojbgggkfahkfaaGreat
