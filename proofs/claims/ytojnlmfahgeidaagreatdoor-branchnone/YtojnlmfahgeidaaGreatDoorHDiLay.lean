/- Directories: entries laid into a leaf (lay). -/
import Derived.Test.YtojnlmfahgeidaaGreatDoorHInsCloneK
import Derived.Test.YtojnlmfahgeidaaGreatDoorHInsSetC
import Derived.Handy
import Derived.Test.YtojnlmfahgeidaaGreatDoorHNdTake
import Derived.Test.YtojnlmfahgeidaaGreatDoorHPaShelf

namespace Go.Proofs.YtojnlmfahgeidaaGreatDoor
theorem sgLHDiLay : (∀ (α : Type) (a : α) (l r : List α), (a :: l) ++ r = a :: (l ++ r)) ∧ (∀ (α : Type) (l : List α), [] ++ l = l) ∧ (∀ (α : Type) (l : List α), l ++ [] = l) ∧ (∀ (α β : Type) (f : α → Option β) (a : α) (l : List α), (a :: l).filterMap f = match f a with | none => l.filterMap f | some b => b :: l.filterMap f) ∧ (∀ (α β : Type) (f : α → Option β), [].filterMap f = []) ∧ (∀ (α : Type) (l : List α) (i : Nat), l.toArray[i]? = l[i]?) ∧ (∀ (α : Type) (a : α) (l : List α), (a :: l)[0]? = some a) ∧ (∀ (α : Type) (a : α) (l : List α) (i : Nat), (a :: l)[i + 1]? = l[i]?) :=
  ⟨fun _ _ _ _ => List.cons_append, fun _ _ => List.nil_append _, fun _ _ => List.append_nil _, fun _ _ _ _ _ => List.filterMap_cons, fun _ _ _ => List.filterMap_nil, fun _ _ _ => List.getElem?_toArray, fun _ _ _ => List.getElem?_cons_zero, fun _ _ _ _ => List.getElem?_cons_succ⟩
theorem sgPHDiLay : (∀ (α : Type) (l : List α) (i : Nat) (a : α), l.toArray.setIfInBounds i a = (l.set i a).toArray) ∧ (∀ (α : Type) (a b : α) (l : List α), (a :: l).set 0 b = b :: l) ∧ (∀ (α : Type) (a b : α) (l : List α) (i : Nat), (a :: l).set (i + 1) b = a :: l.set i b) :=
  ⟨fun _ _ _ _ => List.setIfInBounds_toArray _ _ _, fun _ _ _ _ => List.set_cons_zero, fun _ _ _ _ _ => List.set_cons_succ⟩
end Go.Proofs.YtojnlmfahgeidaaGreatDoor
namespace Go.Proofs.YtojnlmfahgeidaaGreatDoor
open Go Go.RowKit
set_option linter.unusedSimpArgs false
set_option linter.unusedVariables false
def ixZ : Array Value := va 40 fun i => if i = 0 then .pointer none else if i < 35 then tiF 0 rf0 (i - 1) else if i = 35 then .int .i64 0 else if i = 36 then .int .i64 0 else .map none
theorem zero_ix (w : World) : (zeroValue 218).run Tryz.prog w = .ok (.agg ixZ) w := zero_of (by kernel_rfl) w
theorem ixZ_size : ixZ.size = 40 := va_size _ _
theorem ixC_size' (cp : Option Addr) (h : Int) (R : Rf) (high top : Int) (mf ml mc : Nat) : (ixC cp h R high top mf ml mc).size = 40 := va_size _ _
theorem ix_maps {w : World} {g : Nat} {cp : Option Addr} {h : Int} {R : Rf} {high top : Int} {mf ml mc : Nat} (H : Blk w g 218 (ixC cp h R high top mf ml mc)) (a b c : Nat) : Blk (w.setCells g 37 [.map (some a), .map (some b), .map (some c)]) g 218 (ixC cp h R high top a b c) := by
  have := Blk.cells_put (n := 40) [.map (some a), .map (some b), .map (some c)] 37 w _ H
  rw [show va 40 (over (ixF cp h R high top mf ml mc) 37 [.map (some a), .map (some b), .map (some c)]) = ixC cp h R high top a b c from va_congr fun i hi => ?_] at this
  · exact this
  · unfold over
    by_cases hj : 37 ≤ i ∧ i < 37 + [Value.map (some a), .map (some b), .map (some c)].length
    · rw [if_pos hj]
      have hj2 : i < 40 := hj.2
      obtain ⟨d, rfl⟩ : ∃ d, i = 37 + d := ⟨i - 37, by omega⟩
      rw [show 37 + d - 37 = d by omega]
      match d, (show d < 3 by omega) with
      | 0, _ => rfl
      | 1, _ => rfl
      | 2, _ => rfl
    · rw [if_neg hj]
      have hj2 : i < 37 := by
        have : ¬ (37 ≤ i ∧ i < 40) := hj
        omega
      unfold ixF
      by_cases a0 : i = 0
      · rw [if_pos a0, if_pos a0]
      · rw [if_neg a0, if_neg a0]
        by_cases a1 : i < 35
        · rw [if_pos a1, if_pos a1]
        · rw [if_neg a1, if_neg a1]
          by_cases a2 : i = 35
          · rw [if_pos a2, if_pos a2]
          · rw [if_neg a2, if_neg a2, if_pos (by omega), if_pos (by omega)]
section
variable {w w' : World} {x mf ml mc : Nat} {cp : Option Addr} {top : Int} {H : Nat → Hd} {D : Nat → Nat → Nat → Nat}
set_option maxRecDepth 100000 in
set_option maxHeartbeats 8000000 in
theorem IM.clone (h : IM w x mf ml mc cp top H D) : Calls Tryz.prog 143 #[.pointer (some ⟨x, 0, none⟩)] w fun e w' => ∃ g a b c, e = .returned (.pointer (some ⟨g, 0, none⟩)) ∧ (w.heap.size ≤ g ∧ w.heap.size ≤ a ∧ w.heap.size ≤ b ∧ w.heap.size ≤ c) ∧ IM w' g a b c cp top H D ∧ Below w.heap.size w w' := by
  have hz := zero_ix
  have HI : Hid (IM w x mf ml mc cp top H D) := h
  have hx := h.ix
  have q2 : Blk (w.alloc (.cells ixZ 218)) w.heap.size 218 ixZ := Blk.new _ _ _
  have q2' := q2.set (ixC cp 0 rf0 0 top mf ml mc)
  have hb2 : Below w.heap.size w ((w.alloc (.cells ixZ 218)).setRow w.heap.size (ixC cp 0 rf0 0 top mf ml mc)) := below_setRow (below_new1 _ _) (Nat.le_refl _) _
  have HB2 : Hid (Below w.heap.size w ((w.alloc (.cells ixZ 218)).setRow w.heap.size (ixC cp 0 rf0 0 top mf ml mc)).drew) := hb2.drew
  have hx2 := hx.below hb2 hx.lt
  clear h hb2
  go_enter Tryz.func143, Tryz.ntmps143
  go_wp2_with (first
    | (refine wpList_load_rowg (by rfl) 218 _ (by rfl) x (by rfl) 218 (ixC cp 0 rf0 0 top mf ml mc) (0, 0) _ (by exact hx) Tryz.underlying218 (by rfl) (sizeIx.trans (by rw [ixC_size'])) ?_; simp only [Act.put, sgPHDiLay])
    | (refine wpList_store_row (by rfl) 218 _ _ (by rfl) (w.heap.size) (ixC cp 0 rf0 0 top mf ml mc) (by rfl) (by rfl) 218 ixZ (by exact q2) (sizeIx.trans (by rw [ixC_size'])) (by rw [ixC_size', ixZ_size]) (ixC_all _ _ _ _ _ _ _ _) ?_; simp only [Act.put, sgPHDiLay])
    | fail)
  have hSd : Blk ((w.alloc (.cells ixZ 218)).setRow w.heap.size (ixC cp 0 rf0 0 top mf ml mc)).drew x 218 (ixC cp 0 rf0 0 top mf ml mc) := hx2
  have HG : Hid (Blk ((w.alloc (.cells ixZ 218)).setRow w.heap.size (ixC cp 0 rf0 0 top mf ml mc)).drew w.heap.size 218 (ixC cp 0 rf0 0 top mf ml mc) ∧ x < w.heap.size) := ⟨q2', hx.lt⟩
  clear q2 q2' hx2 hx
  refine wp_region_partsS (fun W => Blk W x 218 (ixC cp 0 rf0 0 top mf ml mc)) [([0], 1, true), ([], 2, true), ([], 3, true), ([5], 6, true), ([], 7, true), ([], 8, true), ([10], 11, true), ([], 12, true), ([], 13, true), ([], 4, false), ([], 9, false), ([], 14, false), ([], 15, false), ([], 16, false), ([], 17, false), ([], 18, false), ([], 19, false), ([], 20, false)] [] [] (by kernel_rfl) (by kernel_rfl) hSd (partsI_yield ?_)
  have HI1 : Hid (IM ((w.alloc (.cells ixZ 218)).setRow w.heap.size (ixC cp 0 rf0 0 top mf ml mc)).drew x mf ml mc cp top H D) := HI.out.below HB2.out
  generalize ((w.alloc (.cells ixZ 218)).setRow w.heap.size (ixC cp 0 rf0 0 top mf ml mc)).drew = w1 at *
  obtain ⟨M, ⟨l1, ⟨e1, c1, k1, k1'⟩, k1n, k1f⟩, m2⟩ := HI1.out.fm
  obtain ⟨M', ⟨l2, ⟨e2, c2, k2, k2'⟩, k2n, k2f⟩, n2⟩ := HI1.out.lm
  obtain ⟨c3, k3⟩ := HI1.out.cm
  have hlt := HI1.out.lts
  have hgl := HG.out.1.lt
  have hbA : Below w1.heap.size w1 (w1.alloc (.map e1 c1)) := below_new1 _ _
  have hbB : Below w1.heap.size w1 ((w1.alloc (.map e1 c1)).alloc (.map e2 c2)) := hbA.alloc (by simp) _
  have hbC : Below w1.heap.size w1 (((w1.alloc (.map e1 c1)).alloc (.map e2 c2)).alloc (.map #[] c3)) := hbB.alloc (by simp; omega) _
  have KA := cloneFours mf e1 c1 w1 k1
  have KB := cloneLeaves ml e2 c2 (w1.alloc (.map e1 c1)) ((hbA.block ml hlt.2.2.1).trans k2)
  have KC := cloneCounts mc #[] c3 ((w1.alloc (.map e1 c1)).alloc (.map e2 c2)) ((hbB.block mc hlt.2.2.2).trans k3)
  rw [show (w1.alloc (.map e1 c1)).heap.size = w1.heap.size + 1 by simp] at KB
  rw [show ((w1.alloc (.map e1 c1)).alloc (.map e2 c2)).heap.size = w1.heap.size + 1 + 1 by simp] at KC
  have SA := hSd.below hbA hlt.1
  have SB := hSd.below hbB hlt.1
  have SC := hSd.below hbC hlt.1
  have gC := HG.out.1.below hbC hgl
  have hne : x ≠ w.heap.size := by have := HG.out.2; omega
  have SD : Blk ((((w1.alloc (.map e1 c1)).alloc (.map e2 c2)).alloc (.map #[] c3)).setCell ⟨w.heap.size, 37, none⟩ (.map (some w1.heap.size))) x 218 (ixC cp 0 rf0 0 top mf ml mc) := SC.put_other 37 _ hne
  have SE : Blk (((((w1.alloc (.map e1 c1)).alloc (.map e2 c2)).alloc (.map #[] c3)).setCell ⟨w.heap.size, 37, none⟩ (.map (some w1.heap.size))).setCell ⟨w.heap.size, 38, none⟩ (.map (some (w1.heap.size + 1)))) x 218 (ixC cp 0 rf0 0 top mf ml mc) := SD.put_other 38 _ hne
  have SF : Blk ((((((w1.alloc (.map e1 c1)).alloc (.map e2 c2)).alloc (.map #[] c3)).setCell ⟨w.heap.size, 37, none⟩ (.map (some w1.heap.size))).setCell ⟨w.heap.size, 38, none⟩ (.map (some (w1.heap.size + 1)))).setCell ⟨w.heap.size, 39, none⟩ (.map (some (w1.heap.size + 1 + 1)))) x 218 (ixC cp 0 rf0 0 top mf ml mc) := SE.put_other 39 _ hne
  have c37 := ix_c37 gC
  have f37 : (((w1.alloc (.map e1 c1)).alloc (.map e2 c2)).alloc (.map #[] c3)).frozen? ⟨w.heap.size, 37, none⟩ = false := gC.frozen 37
  have c38 := ix_c38 gC
  have f38 : (((w1.alloc (.map e1 c1)).alloc (.map e2 c2)).alloc (.map #[] c3)).frozen? ⟨w.heap.size, 38, none⟩ = false := gC.frozen 38
  have c39 := ix_c39 gC
  have f39 : (((w1.alloc (.map e1 c1)).alloc (.map e2 c2)).alloc (.map #[] c3)).frozen? ⟨w.heap.size, 39, none⟩ = false := gC.frozen 39
  have HE : Hid (IM ((((((w1.alloc (.map e1 c1)).alloc (.map e2 c2)).alloc (.map #[] c3)).setCell ⟨w.heap.size, 37, none⟩ (.map (some w1.heap.size))).setCell ⟨w.heap.size, 38, none⟩ (.map (some (w1.heap.size + 1)))).setCell ⟨w.heap.size, 39, none⟩ (.map (some (w1.heap.size + 1 + 1)))) w.heap.size w1.heap.size (w1.heap.size + 1) (w1.heap.size + 1 + 1) cp top H D ∧ Below w.heap.size w ((((((w1.alloc (.map e1 c1)).alloc (.map e2 c2)).alloc (.map #[] c3)).setCell ⟨w.heap.size, 37, none⟩ (.map (some w1.heap.size))).setCell ⟨w.heap.size, 38, none⟩ (.map (some (w1.heap.size + 1)))).setCell ⟨w.heap.size, 39, none⟩ (.map (some (w1.heap.size + 1 + 1))))) := by
    have hs : ∀ k, k ≠ w.heap.size → ((((((w1.alloc (.map e1 c1)).alloc (.map e2 c2)).alloc (.map #[] c3)).setCell ⟨w.heap.size, 37, none⟩ (.map (some w1.heap.size))).setCell ⟨w.heap.size, 38, none⟩ (.map (some (w1.heap.size + 1)))).setCell ⟨w.heap.size, 39, none⟩ (.map (some (w1.heap.size + 1 + 1)))).heap[k]? = (((w1.alloc (.map e1 c1)).alloc (.map e2 c2)).alloc (.map #[] c3)).heap[k]? := fun k hk => by
      rw [Below.heap_setCell _ _ _ _ hk, Below.heap_setCell _ _ _ _ hk, Below.heap_setCell _ _ _ _ hk]
    have hAC : Below (w1.heap.size + 1) (w1.alloc (.map e1 c1)) (((w1.alloc (.map e1 c1)).alloc (.map e2 c2)).alloc (.map #[] c3)) := ((Below.refl _ _).alloc (by simp) _).alloc (by simp) _
    have hBC : Below (w1.heap.size + 1 + 1) ((w1.alloc (.map e1 c1)).alloc (.map e2 c2)) (((w1.alloc (.map e1 c1)).alloc (.map e2 c2)).alloc (.map #[] c3)) := (Below.refl _ _).alloc (by simp) _
    have hA : (((w1.alloc (.map e1 c1)).alloc (.map e2 c2)).alloc (.map #[] c3)).heap[w1.heap.size]? = some (.map e1 c1) := (hAC.block _ (by omega)).trans (heap_alloc_new _ _)
    have hB : (((w1.alloc (.map e1 c1)).alloc (.map e2 c2)).alloc (.map #[] c3)).heap[w1.heap.size + 1]? = some (.map e2 c2) := (hBC.block _ (by omega)).trans (by
      have := heap_alloc_new (w1.alloc (.map e1 c1)) (.map e2 c2)
      rw [show (w1.alloc (.map e1 c1)).heap.size = w1.heap.size + 1 by simp] at this
      exact this)
    have hC : (((w1.alloc (.map e1 c1)).alloc (.map e2 c2)).alloc (.map #[] c3)).heap[w1.heap.size + 1 + 1]? = some (.map #[] c3) := by
      have := heap_alloc_new ((w1.alloc (.map e1 c1)).alloc (.map e2 c2)) (.map #[] c3)
      rw [show ((w1.alloc (.map e1 c1)).alloc (.map e2 c2)).heap.size = w1.heap.size + 1 + 1 by simp] at this
      exact this
    have hbw : Below w.heap.size w (((w1.alloc (.map e1 c1)).alloc (.map e2 c2)).alloc (.map #[] c3)) := HB2.out.trans (hbC.mono HB2.out.size)
    refine ⟨⟨ix_maps gC w1.heap.size (w1.heap.size + 1) (w1.heap.size + 1 + 1), ⟨M, ⟨l1, ⟨e1, c1, (hs _ (by omega)).trans hA, k1'⟩, k1n, k1f⟩, m2⟩, ⟨M', ⟨l2, ⟨e2, c2, (hs _ (by omega)).trans hB, k2'⟩, k2n, k2f⟩, n2⟩, ⟨c3, (hs _ (by omega)).trans hC⟩, by omega⟩, ((hbw.setCell (p := ⟨w.heap.size, 37, none⟩) (Nat.le_refl _) _).setCell (p := ⟨w.heap.size, 38, none⟩) (Nat.le_refl _) _).setCell (p := ⟨w.heap.size, 39, none⟩) (Nat.le_refl _) _⟩
  have HSZ : Hid (w.heap.size ≤ w1.heap.size) := by exact Nat.le_of_lt hgl
  clear m2 n2 k1' k2' k1n k2n k1f k2f k1 k2 k3 hbA hbB hbC gC HI1 HG hlt hgl HI
  simp only [sgLHDiLay]
  go_wp2_with fail
  refine ⟨rfl, _, .pointer (some ⟨x, 0, none⟩), rfl, Or.inl ⟨by rfl, fun W hW => by go_simp⟩, partsI_yield ?_⟩
  simp only [Act.put, sgPHDiLay]
  simp only [sgLHDiLay]
  go_wp2_with fail
  refine ⟨rfl, _, .pointer (some ⟨x, 37, none⟩), rfl, Or.inl ⟨by rfl, fun W hW => by go_simp⟩, partsI_yield ?_⟩
  simp only [Act.put, sgPHDiLay]
  simp only [sgLHDiLay]
  go_wp2_with fail
  refine ⟨rfl, _, .map (some mf), rfl, Or.inl ⟨by rfl, fun W hW => by have hW1 := ix_c37 hW; go_simp⟩, partsI_yield ?_⟩
  simp only [Act.put, sgPHDiLay]
  simp only [sgLHDiLay]
  go_wp2_with fail
  refine ⟨rfl, _, .pointer (some ⟨x, 0, none⟩), rfl, Or.inl ⟨by rfl, fun W hW => by go_simp⟩, partsI_yield ?_⟩
  simp only [Act.put, sgPHDiLay]
  simp only [sgLHDiLay]
  go_wp2_with fail
  refine ⟨rfl, _, .pointer (some ⟨x, 38, none⟩), rfl, Or.inl ⟨by rfl, fun W hW => by go_simp⟩, partsI_yield ?_⟩
  simp only [Act.put, sgPHDiLay]
  simp only [sgLHDiLay]
  go_wp2_with fail
  refine ⟨rfl, _, .map (some ml), rfl, Or.inl ⟨by rfl, fun W hW => by have hW1 := ix_c38 hW; go_simp⟩, partsI_yield ?_⟩
  simp only [Act.put, sgPHDiLay]
  simp only [sgLHDiLay]
  go_wp2_with fail
  refine ⟨rfl, _, .pointer (some ⟨x, 0, none⟩), rfl, Or.inl ⟨by rfl, fun W hW => by go_simp⟩, partsI_yield ?_⟩
  simp only [Act.put, sgPHDiLay]
  simp only [sgLHDiLay]
  go_wp2_with fail
  refine ⟨rfl, _, .pointer (some ⟨x, 39, none⟩), rfl, Or.inl ⟨by rfl, fun W hW => by go_simp⟩, partsI_yield ?_⟩
  simp only [Act.put, sgPHDiLay]
  simp only [sgLHDiLay]
  go_wp2_with fail
  refine ⟨rfl, _, .map (some mc), rfl, Or.inl ⟨by rfl, fun W hW => by have hW1 := ix_c39 hW; go_simp⟩, partsI_force ?_⟩
  simp only [Act.put, sgPHDiLay]
  simp only [sgLHDiLay]
  go_wp2_with fail
  refine KA.mono ?_
  rintro e w9 ⟨rfl, hw9⟩
  subst w9
  go_wp2_with fail
  refine ⟨rfl, SA, partsI_force ?_⟩
  simp only [sgLHDiLay]
  go_wp2_with fail
  refine KB.mono ?_
  rintro e w9 ⟨rfl, hw9⟩
  subst w9
  go_wp2_with fail
  refine ⟨rfl, SB, partsI_force ?_⟩
  simp only [sgLHDiLay]
  go_wp2_with fail
  refine KC.mono ?_
  rintro e w9 ⟨rfl, hw9⟩
  subst w9
  go_wp2_with fail
  refine ⟨rfl, SC, partsI_force ?_⟩
  simp only [sgLHDiLay]
  go_wp2_with fail
  refine ⟨rfl, SC, partsI_force ?_⟩
  simp only [sgLHDiLay]
  go_wp2_with fail
  refine ⟨rfl, SD, partsI_force ?_⟩
  simp only [sgLHDiLay]
  go_wp2_with fail
  refine ⟨rfl, SD, partsI_force ?_⟩
  simp only [sgLHDiLay]
  go_wp2_with fail
  refine ⟨rfl, SE, partsI_force ?_⟩
  simp only [sgLHDiLay]
  go_wp2_with fail
  refine ⟨rfl, SE, partsI_force ?_⟩
  simp only [sgLHDiLay]
  go_wp2_with fail
  refine ⟨rfl, SF, partsI_last ?_⟩
  simp only [sgLHDiLay]
  refine ⟨rfl, ?_⟩
  go_wp2_with fail
  go_ret
  exact ⟨_, _, _, _, rfl, ⟨Nat.le_refl _, HSZ.out, by have := HSZ.out; omega, by have := HSZ.out; omega⟩, HE.out.1, HE.out.2⟩
end
end Go.Proofs.YtojnlmfahgeidaaGreatDoor

namespace Go.Proofs.YtojnlmfahgeidaaGreatDoor
open Go Go.RowKit
set_option linter.unusedSimpArgs false
set_option linter.unusedVariables false
attribute [local go_sem] st_nil st_fun
theorem oc_turns {w v u : World} {T : Nat → Prop} {x : Nat} {cs : Array Value} (hb : Below w.heap.size w v) (hT : Turns T v u) (hTx : ∀ b, T b → w.heap.size ≤ b) : Turns (fun z => z = x) w (u.drew.setRow x cs) := by
  have h1 : Turns (fun z => z = x) w u := (Turns.of_below hb).trans hT fun b hb => .inr (hTx b hb)
  exact ⟨h1.os, h1.tape, h1.output, by have := h1.size; simpa using this, fun k hk hn => (setRow_other _ _ _ _ hn).trans (h1.block k hk hn)⟩
theorem IM.moved {w : World} {x g a b c : Nat} {cp : Option Addr} {top : Int} {H : Nat → Hd} {D : Nat → Nat → Nat → Nat} {old : Array Value} (h : IM w g a b c cp top H D) (hx : Blk w x 218 old) (hne : x ≠ a ∧ x ≠ b ∧ x ≠ c) : IM (w.setRow x (ixC cp 0 rf0 0 top a b c)) x a b c cp top H D := by
  have e := setRow_other w x
  obtain ⟨M, m1, m2⟩ := h.fm
  obtain ⟨M', l1, l2⟩ := h.lm
  obtain ⟨q, hq⟩ := h.cm
  exact ⟨hx.set _, ⟨M, m1.keep (e _ _ (Ne.symm hne.1)), m2⟩, ⟨M', l1.keep (e _ _ (Ne.symm hne.2.1)), l2⟩, ⟨q, (e _ _ (Ne.symm hne.2.2)).trans hq⟩, ⟨hne.1, hne.2.1, hne.2.2, h.ne.2.2.2.1, h.ne.2.2.2.2.1, h.ne.2.2.2.2.2⟩⟩
set_option maxRecDepth 100000 in
set_option maxHeartbeats 8000000 in
theorem IM.onCopyMake {w : World} {x mf ml mc : Nat} {cp : Option Addr} {top top2 : Int} {H : Nat → Hd} {D : Nat → Nat → Nat → Nat} (h : IM w x mf ml mc cp top H D) (R : (Nat → Hd) → (Nat → Nat → Nat → Nat) → Prop) (st n gs gk : Nat) (fv : Value) (hf : fv = .nilFunc ∨ ∃ f b c, fv = .func f b c)
    (HD0 : ∀ V g a b c, IM V g a b c cp top H D → Below w.heap.size w V → (w.heap.size < g ∧ w.heap.size < a ∧ w.heap.size < b ∧ w.heap.size < c) → Calls Tryz.prog 191 #[.agg #[.pointer (some ⟨g, 0, none⟩), .int .u64 ((st : Nat) : Int), fv], .pointer (some ⟨gs, 0, none⟩), .pointer (some ⟨gk, 0, none⟩)] V fun e w' => e = .returned (.tuple #[.int .i64 (n : Int), .int .i64 0]) ∧ (∃ H2 D2, IM w' g a b c cp top2 H2 D2 ∧ R H2 D2) ∧ Turns (fun z => z = g ∨ z = a ∨ z = b) V w') :
    Calls Tryz.prog 90 #[.agg #[.pointer (some ⟨x, 0, none⟩), .int .u64 ((st : Nat) : Int), fv], .func (.func 191) #[] #[.pointer (some ⟨gs, 0, none⟩), .pointer (some ⟨gk, 0, none⟩)]] w fun e w' => e = .returned (.tuple #[.int .i64 (n : Int), .int .i64 0]) ∧ (∃ a b c, (w.heap.size ≤ a ∧ w.heap.size ≤ b ∧ w.heap.size ≤ c) ∧ ∃ H2 D2, IM w' x a b c cp top2 H2 D2 ∧ R H2 D2) ∧ Turns (fun z => z = x) w w' := by
  have hl := h.lts
  have hz := mv_zero
  have b0 : Blk ((w.alloc (.cells #[.pointer (some ⟨x, 0, none⟩), .int .u64 ((st : Nat) : Int), fv] 161)).alloc (.cells #[.pointer (some ⟨x, 0, none⟩), .int .u64 ((st : Nat) : Int), fv] 161)) w.heap.size 161 #[.pointer (some ⟨x, 0, none⟩), .int .u64 ((st : Nat) : Int), fv] := Blk.alloc (Blk.new _ _ _) _
  have b1 : Blk ((w.alloc (.cells #[.pointer (some ⟨x, 0, none⟩), .int .u64 ((st : Nat) : Int), fv] 161)).alloc (.cells #[.pointer (some ⟨x, 0, none⟩), .int .u64 ((st : Nat) : Int), fv] 161)) (w.heap.size + 1) 161 #[.pointer (some ⟨x, 0, none⟩), .int .u64 ((st : Nat) : Int), fv] := Blk.new1 _ _ _ _
  have hb : Below w.heap.size w ((w.alloc (.cells #[.pointer (some ⟨x, 0, none⟩), .int .u64 ((st : Nat) : Int), fv] 161)).alloc (.cells #[.pointer (some ⟨x, 0, none⟩), .int .u64 ((st : Nat) : Int), fv] 161)) := below_new2 _ _ _
  have HCL := (h.below hb).clone
  have HIX : Hid (Blk w x 218 (ixC cp 0 rf0 0 top mf ml mc)) := h.ix
  have HD : Hid (∀ V g a b c, IM V g a b c cp top H D → Below w.heap.size w V → (w.heap.size < g ∧ w.heap.size < a ∧ w.heap.size < b ∧ w.heap.size < c) → Calls Tryz.prog 191 #[.agg #[.pointer (some ⟨g, 0, none⟩), .int .u64 ((st : Nat) : Int), fv], .pointer (some ⟨gs, 0, none⟩), .pointer (some ⟨gk, 0, none⟩)] V fun e w' => e = .returned (.tuple #[.int .i64 (n : Int), .int .i64 0]) ∧ (∃ H2 D2, IM w' g a b c cp top2 H2 D2 ∧ R H2 D2) ∧ Turns (fun z => z = g ∨ z = a ∨ z = b) V w') := HD0
  have q0 := (b0.cell 0).trans rfl
  have q1 := (b0.cell 1).trans rfl
  have q2 := (b0.cell 2).trans rfl
  have hx : x < w.heap.size := hl.1
  clear HD0 h hl
  rcases hf with rfl | ⟨f0, f1, f2, rfl⟩
  · go_enter Tryz.func90, Tryz.ntmps90
    go_wp2_with fail
    generalize ((w.alloc (.cells #[.pointer (some ⟨x, 0, none⟩), .int .u64 ((st : Nat) : Int), .nilFunc] 161)).alloc (.cells #[.pointer (some ⟨x, 0, none⟩), .int .u64 ((st : Nat) : Int), .nilFunc] 161)) = w2 at *
    refine HCL.mono ?_
    rintro e w3 ⟨g, a, b, c, rfl, hge, hI3, hb3⟩
    have hs2 := b1.lt
    have d0 := b0.below hb3 b0.lt
    have d1 := b1.below hb3 b1.lt
    have hb13 := hb.trans (hb3.mono hb.size)
    have z0 := (d1.cell 0).trans rfl
    have zf := d1.frozen 0
    have HI4 : Hid (IM (w3.setCell ⟨w.heap.size + 1, 0, none⟩ (.pointer (some ⟨g, 0, none⟩))) g a b c cp top H D) := hI3.other _ 0 _ ⟨by omega, by omega, by omega, by omega⟩
    have e0 : Blk (w3.setCell ⟨w.heap.size + 1, 0, none⟩ (.pointer (some ⟨g, 0, none⟩))) w.heap.size 161 #[.pointer (some ⟨x, 0, none⟩), .int .u64 ((st : Nat) : Int), .nilFunc] := d0.put_other 0 _ (by omega)
    have e1 : Blk (w3.setCell ⟨w.heap.size + 1, 0, none⟩ (.pointer (some ⟨g, 0, none⟩))) (w.heap.size + 1) 161 #[.pointer (some ⟨g, 0, none⟩), .int .u64 ((st : Nat) : Int), .nilFunc] := d1.put 0 _
    have hb14 : Below w.heap.size w (w3.setCell ⟨w.heap.size + 1, 0, none⟩ (.pointer (some ⟨g, 0, none⟩))) := hb13.setCell (p := ⟨w.heap.size + 1, 0, none⟩) (by show w.heap.size ≤ w.heap.size + 1; omega) _
    have m0 := (e1.cell 0).trans rfl
    have m1 := (e1.cell 1).trans rfl
    have m2 := (e1.cell 2).trans rfl
    have hg : w.heap.size + 1 < g ∧ w.heap.size + 1 < a ∧ w.heap.size + 1 < b ∧ w.heap.size + 1 < c := ⟨by omega, by omega, by omega, by omega⟩
    have H4 := HD.out _ g a b c HI4.out hb14 ⟨by omega, by omega, by omega, by omega⟩
    clear q0 q1 q2 b0 b1 hb HCL d0 d1 hb3 hb13 hI3 hge HI4 HD
    go_wp2_with fail
    generalize (w3.setCell ⟨w.heap.size + 1, 0, none⟩ (.pointer (some ⟨g, 0, none⟩))) = w3' at *
    refine H4.mono ?_
    rintro e w4 ⟨rfl, ⟨H2, D2, hI4, hR4⟩, hT4⟩
    have HR4 : Hid (R H2 D2) := hR4
    have HM4 : Blk w4.drew w.heap.size 161 #[.pointer (some ⟨x, 0, none⟩), .int .u64 ((st : Nat) : Int), .nilFunc] := Blk.drew ((hT4.block _ e0.lt (by omega)).trans e0)
    have HC4 : Blk w4.drew (w.heap.size + 1) 161 #[.pointer (some ⟨g, 0, none⟩), .int .u64 ((st : Nat) : Int), .nilFunc] := Blk.drew ((hT4.block _ e1.lt (by omega)).trans e1)
    have hxb : Blk w3' x 218 (ixC cp 0 rf0 0 top mf ml mc) := HIX.out.below hb14 hx
    have HX4 : Blk w4.drew x 218 (ixC cp 0 rf0 0 top mf ml mc) := Blk.drew ((hT4.block _ hxb.lt (by omega)).trans hxb)
    have HG4 : Blk w4.drew g 218 (ixC cp 0 rf0 0 top2 a b c) := hI4.ix.drew
    have HIE : Hid (IM (w4.drew.setRow x (ixC cp 0 rf0 0 top2 a b c)) x a b c cp top2 H2 D2) := (hI4.below (Below.refl _ _).drew).moved HX4 ⟨by omega, by omega, by omega⟩
    have HTE : Hid (Turns (fun z => z = x) w (w4.drew.setRow x (ixC cp 0 rf0 0 top2 a b c))) := oc_turns hb14 hT4 fun z hz => by rcases hz with rfl | rfl | rfl <;> omega
    have HAB : Hid (w.heap.size ≤ a ∧ w.heap.size ≤ b ∧ w.heap.size ≤ c) := ⟨by omega, by omega, by omega⟩
    clear e0 e1 m0 m1 m2 H4 hxb hT4 hb14 HIX hI4 hR4
    go_wp2_with fail
    refine wp_region_partsS (fun U => Blk U w.heap.size 161 #[.pointer (some ⟨x, 0, none⟩), .int .u64 ((st : Nat) : Int), .nilFunc]) [([], 0, true), ([], 1, true), ([], 2, false), ([], 3, false), ([], 4, false), ([], 5, false), ([], 6, false), ([], 7, false)] [] [] (by kernel_rfl) (by kernel_rfl) HM4 (partsI_yield ?_)
    generalize w4.drew = w4 at *
    have HM5 : Blk (w4.setRow x (ixC cp 0 rf0 0 top2 a b c)) w.heap.size 161 #[.pointer (some ⟨x, 0, none⟩), .int .u64 ((st : Nat) : Int), .nilFunc] := HM4.other _ (by omega)
    have j0 := (HC4.cell 0).trans rfl
    simp only [sgLHDiLay]
    go_wp2_with fail
    refine ⟨rfl, _, .pointer (some ⟨w.heap.size, 0, none⟩), rfl, Or.inl ⟨by rfl, fun W hW => by go_simp⟩, partsI_yield ?_⟩
    simp only [Act.put, sgPHDiLay]
    simp only [sgLHDiLay]
    go_wp2_with fail
    refine ⟨rfl, _, .pointer (some ⟨x, 0, none⟩), rfl, Or.inl ⟨by rfl, fun W hW => by have q0 := (hW.cell 0).trans rfl; go_simp⟩, partsI_force ?_⟩
    simp only [Act.put, sgPHDiLay]
    simp only [sgLHDiLay]
    go_wp2_with fail
    refine ⟨rfl, HM4, partsI_force ?_⟩
    simp only [sgLHDiLay]
    go_wp2_with fail
    refine ⟨rfl, HM4, partsI_force ?_⟩
    simp only [sgLHDiLay]
    go_wp2_with fail
    refine ⟨rfl, HM4, partsI_force ?_⟩
    simp only [sgLHDiLay]
    refine wpList_load_row (by rfl) 218 _ (by rfl) (g) (by rfl) 218 (ixC cp 0 rf0 0 top2 a b c) (0, 0) _ (by exact HG4) Tryz.underlying218 (by rfl) (sizeIx.trans (by rw [ixC_size])) ?_
    simp only [Act.put, sgPHDiLay]
    go_wp2_with fail
    refine ⟨rfl, HM4, partsI_force ?_⟩
    simp only [sgLHDiLay]
    go_wp2_with fail
    refine ⟨rfl, HM4, partsI_force ?_⟩
    simp only [sgLHDiLay]
    refine wpList_store_row (by rfl) 218 _ _ (by rfl) (x) (ixC cp 0 rf0 0 top2 a b c) (by rfl) (by rfl) 218 _ (by exact HX4) (sizeIx.trans (by rw [ixC_size])) (by rw [ixC_size, ixC_size]) (ixC_all _ _ _ _ _ _ _ _) ?_
    simp only [Act.put, sgPHDiLay]
    go_wp2_with fail
    refine ⟨rfl, HM5, partsI_last ?_⟩
    simp only [sgLHDiLay]
    go_wp2_with fail
    refine ⟨rfl, ?_⟩
    clear HM4 HC4 HX4 HG4 HM5 j0
    go_wp2_with fail
    go_ret2
    exact ⟨rfl, ⟨a, b, c, HAB.out, H2, D2, HIE.out, HR4.out⟩, HTE.out⟩
  · go_enter Tryz.func90, Tryz.ntmps90
    go_wp2_with fail
    generalize ((w.alloc (.cells #[.pointer (some ⟨x, 0, none⟩), .int .u64 ((st : Nat) : Int), (.func f0 f1 f2)] 161)).alloc (.cells #[.pointer (some ⟨x, 0, none⟩), .int .u64 ((st : Nat) : Int), (.func f0 f1 f2)] 161)) = w2 at *
    refine HCL.mono ?_
    rintro e w3 ⟨g, a, b, c, rfl, hge, hI3, hb3⟩
    have hs2 := b1.lt
    have d0 := b0.below hb3 b0.lt
    have d1 := b1.below hb3 b1.lt
    have hb13 := hb.trans (hb3.mono hb.size)
    have z0 := (d1.cell 0).trans rfl
    have zf := d1.frozen 0
    have HI4 : Hid (IM (w3.setCell ⟨w.heap.size + 1, 0, none⟩ (.pointer (some ⟨g, 0, none⟩))) g a b c cp top H D) := hI3.other _ 0 _ ⟨by omega, by omega, by omega, by omega⟩
    have e0 : Blk (w3.setCell ⟨w.heap.size + 1, 0, none⟩ (.pointer (some ⟨g, 0, none⟩))) w.heap.size 161 #[.pointer (some ⟨x, 0, none⟩), .int .u64 ((st : Nat) : Int), (.func f0 f1 f2)] := d0.put_other 0 _ (by omega)
    have e1 : Blk (w3.setCell ⟨w.heap.size + 1, 0, none⟩ (.pointer (some ⟨g, 0, none⟩))) (w.heap.size + 1) 161 #[.pointer (some ⟨g, 0, none⟩), .int .u64 ((st : Nat) : Int), (.func f0 f1 f2)] := d1.put 0 _
    have hb14 : Below w.heap.size w (w3.setCell ⟨w.heap.size + 1, 0, none⟩ (.pointer (some ⟨g, 0, none⟩))) := hb13.setCell (p := ⟨w.heap.size + 1, 0, none⟩) (by show w.heap.size ≤ w.heap.size + 1; omega) _
    have m0 := (e1.cell 0).trans rfl
    have m1 := (e1.cell 1).trans rfl
    have m2 := (e1.cell 2).trans rfl
    have hg : w.heap.size + 1 < g ∧ w.heap.size + 1 < a ∧ w.heap.size + 1 < b ∧ w.heap.size + 1 < c := ⟨by omega, by omega, by omega, by omega⟩
    have H4 := HD.out _ g a b c HI4.out hb14 ⟨by omega, by omega, by omega, by omega⟩
    clear q0 q1 q2 b0 b1 hb HCL d0 d1 hb3 hb13 hI3 hge HI4 HD
    go_wp2_with fail
    generalize (w3.setCell ⟨w.heap.size + 1, 0, none⟩ (.pointer (some ⟨g, 0, none⟩))) = w3' at *
    refine H4.mono ?_
    rintro e w4 ⟨rfl, ⟨H2, D2, hI4, hR4⟩, hT4⟩
    have HR4 : Hid (R H2 D2) := hR4
    have HM4 : Blk w4.drew w.heap.size 161 #[.pointer (some ⟨x, 0, none⟩), .int .u64 ((st : Nat) : Int), (.func f0 f1 f2)] := Blk.drew ((hT4.block _ e0.lt (by omega)).trans e0)
    have HC4 : Blk w4.drew (w.heap.size + 1) 161 #[.pointer (some ⟨g, 0, none⟩), .int .u64 ((st : Nat) : Int), (.func f0 f1 f2)] := Blk.drew ((hT4.block _ e1.lt (by omega)).trans e1)
    have hxb : Blk w3' x 218 (ixC cp 0 rf0 0 top mf ml mc) := HIX.out.below hb14 hx
    have HX4 : Blk w4.drew x 218 (ixC cp 0 rf0 0 top mf ml mc) := Blk.drew ((hT4.block _ hxb.lt (by omega)).trans hxb)
    have HG4 : Blk w4.drew g 218 (ixC cp 0 rf0 0 top2 a b c) := hI4.ix.drew
    have HIE : Hid (IM (w4.drew.setRow x (ixC cp 0 rf0 0 top2 a b c)) x a b c cp top2 H2 D2) := (hI4.below (Below.refl _ _).drew).moved HX4 ⟨by omega, by omega, by omega⟩
    have HTE : Hid (Turns (fun z => z = x) w (w4.drew.setRow x (ixC cp 0 rf0 0 top2 a b c))) := oc_turns hb14 hT4 fun z hz => by rcases hz with rfl | rfl | rfl <;> omega
    have HAB : Hid (w.heap.size ≤ a ∧ w.heap.size ≤ b ∧ w.heap.size ≤ c) := ⟨by omega, by omega, by omega⟩
    clear e0 e1 m0 m1 m2 H4 hxb hT4 hb14 HIX hI4 hR4
    go_wp2_with fail
    refine wp_region_partsS (fun U => Blk U w.heap.size 161 #[.pointer (some ⟨x, 0, none⟩), .int .u64 ((st : Nat) : Int), (.func f0 f1 f2)]) [([], 0, true), ([], 1, true), ([], 2, false), ([], 3, false), ([], 4, false), ([], 5, false), ([], 6, false), ([], 7, false)] [] [] (by kernel_rfl) (by kernel_rfl) HM4 (partsI_yield ?_)
    generalize w4.drew = w4 at *
    have HM5 : Blk (w4.setRow x (ixC cp 0 rf0 0 top2 a b c)) w.heap.size 161 #[.pointer (some ⟨x, 0, none⟩), .int .u64 ((st : Nat) : Int), (.func f0 f1 f2)] := HM4.other _ (by omega)
    have j0 := (HC4.cell 0).trans rfl
    simp only [sgLHDiLay]
    go_wp2_with fail
    refine ⟨rfl, _, .pointer (some ⟨w.heap.size, 0, none⟩), rfl, Or.inl ⟨by rfl, fun W hW => by go_simp⟩, partsI_yield ?_⟩
    simp only [Act.put, sgPHDiLay]
    simp only [sgLHDiLay]
    go_wp2_with fail
    refine ⟨rfl, _, .pointer (some ⟨x, 0, none⟩), rfl, Or.inl ⟨by rfl, fun W hW => by have q0 := (hW.cell 0).trans rfl; go_simp⟩, partsI_force ?_⟩
    simp only [Act.put, sgPHDiLay]
    simp only [sgLHDiLay]
    go_wp2_with fail
    refine ⟨rfl, HM4, partsI_force ?_⟩
    simp only [sgLHDiLay]
    go_wp2_with fail
    refine ⟨rfl, HM4, partsI_force ?_⟩
    simp only [sgLHDiLay]
    go_wp2_with fail
    refine ⟨rfl, HM4, partsI_force ?_⟩
    simp only [sgLHDiLay]
    refine wpList_load_row (by rfl) 218 _ (by rfl) (g) (by rfl) 218 (ixC cp 0 rf0 0 top2 a b c) (0, 0) _ (by exact HG4) Tryz.underlying218 (by rfl) (sizeIx.trans (by rw [ixC_size])) ?_
    simp only [Act.put, sgPHDiLay]
    go_wp2_with fail
    refine ⟨rfl, HM4, partsI_force ?_⟩
    simp only [sgLHDiLay]
    go_wp2_with fail
    refine ⟨rfl, HM4, partsI_force ?_⟩
    simp only [sgLHDiLay]
    refine wpList_store_row (by rfl) 218 _ _ (by rfl) (x) (ixC cp 0 rf0 0 top2 a b c) (by rfl) (by rfl) 218 _ (by exact HX4) (sizeIx.trans (by rw [ixC_size])) (by rw [ixC_size, ixC_size]) (ixC_all _ _ _ _ _ _ _ _) ?_
    simp only [Act.put, sgPHDiLay]
    go_wp2_with fail
    refine ⟨rfl, HM5, partsI_last ?_⟩
    simp only [sgLHDiLay]
    go_wp2_with fail
    refine ⟨rfl, ?_⟩
    clear HM4 HC4 HX4 HG4 HM5 j0
    go_wp2_with fail
    go_ret2
    exact ⟨rfl, ⟨a, b, c, HAB.out, H2, D2, HIE.out, HR4.out⟩, HTE.out⟩
end Go.Proofs.YtojnlmfahgeidaaGreatDoor

namespace Go.Proofs.YtojnlmfahgeidaaGreatDoor
open Go Go.RowKit
set_option linter.unusedSimpArgs false
set_option linter.unusedVariables false
section
variable {w : World} {x mf ml mc : Nat} {cp : Option Addr} {top : Int} {H : Nat → Hd} {D : Nat → Nat → Nat → Nat} {n k st : Nat} {N : Nat → Int} {S : Nat → ByteArray}
set_option maxRecDepth 100000 in
set_option maxHeartbeats 4000000 in
theorem IM.layD (h : IM w x mf ml mc cp top H D) (n q : Nat) (h1 : 1 ≤ n) (h2 : n ≤ 4096) (hk : (H n).k ≠ 0) (hn : (H n).n = (n : Int)) (sz st : Nat) (hs : (H n).s = (sz : Int)) (hsz : sz ≤ 1048576) (hq : q < (sz + 255) / 256) (a : Option Addr) (m c : Nat) (hm : m ≤ 4) (hI : IsLks w a m N S) (hE : leE N S m = 0) : Calls Tryz.prog 111 #[.pointer (some ⟨x, 0, none⟩), .int .i64 (n : Int), .int .i64 (q : Int), .slice a m c, .int .u64 ((st : Nat) : Int)] w fun e w' => e = .returned (.int .i64 0) ∧ IM w' x mf ml mc cp top (hU H n (hdT (hdS (H n)) st)) (dU D n q (upF (leF N S m) (sz - q * 256))) ∧ Turns (fun z => z = ml ∨ z = mf) w w' := by
  have hz := zero_bk
  have HL := leaf_any a m c hm N S w hI
  rw [hE, if_pos rfl] at HL
  unfold bkV at HL
  have HS : Hid (∀ V, Below w.heap.size w V → Calls Tryz.prog 166 #[.pointer (some ⟨x, 0, none⟩), .int .i64 (n : Int), .int .i64 (q : Int), .agg (va 256 (iv .u8 (leF N S m))), .int .u64 ((st : Nat) : Int)] V fun e w' => e = .returned (.int .i64 0) ∧ IM w' x mf ml mc cp top (hU H n (hdT (hdS (H n)) st)) (dU D n q (upF (leF N S m) (sz - q * 256))) ∧ Turns (fun z => z = ml ∨ z = mf) V w') := fun V hV => (h.below hV).setM n q h1 h2 hk hn sz st (leF N S m) hs hsz hq
  clear h hI hE hs hn hk
  generalize leF N S m = F at *
  go_enter Tryz.func111, Tryz.ntmps111
  go_wp2_with fail
  refine HL.mono ?_
  rintro e w2 ⟨rfl, hb2⟩
  have u1 : Blk (w2.alloc (.cells (va 256 (iv .u8 fun _ => 0)) 237)) w2.heap.size 237 (va 256 (iv .u8 fun _ => 0)) := Blk.new _ _ _
  have u2 : Blk ((w2.alloc (.cells (va 256 (iv .u8 fun _ => 0)) 237)).setRow w2.heap.size (va 256 (iv .u8 F))) w2.heap.size 237 (va 256 (iv .u8 F)) := u1.set _
  have hb3 : Below w.heap.size w ((w2.alloc (.cells (va 256 (iv .u8 fun _ => 0)) 237)).setRow w2.heap.size (va 256 (iv .u8 F))) := below_setRow (hb2.alloc hb2.size _) hb2.size _
  have H3 := HS.out _ hb3
  have HB3 : Hid (_ ) := hb3
  clear hb2 hb3 HS HL
  go_wp2_with (first
    | (refine wpList_store_row (by rfl) 237 _ _ (by rfl) (w2.heap.size) (va 256 (iv .u8 F)) (by rfl) (by rfl) 237 _ u1 (sizeBk.trans (by rw [va_size])) (by simp only [va_size]) (iv_one _ _ _) ?_; simp only [Act.put, sgPHDiLay])
    | (refine wpList_load_row (by rfl) 237 _ (by rfl) (w2.heap.size) (by rfl) 237 (va 256 (iv .u8 F)) (0, 0) _ u2 Tryz.underlying237 (by rfl) (sizeBk.trans (by rw [va_size])) ?_; simp only [Act.put, sgPHDiLay])
    | fail)
  generalize ((w2.alloc (.cells (va 256 (iv .u8 fun _ => 0)) 237)).setRow w2.heap.size (va 256 (iv .u8 F))) = w3 at *
  refine H3.mono ?_
  rintro e w4 ⟨rfl, hI4, ht4⟩
  have HE : Hid (_ ∧ _) := ⟨hI4, (Turns.bel (S := fun z => z = ml ∨ z = mf) HB3.out).tr ht4⟩
  clear hI4 ht4 H3 u1 u2
  go_wp2_with fail
  go_ret
  exact ⟨rfl, HE.out.1, HE.out.2⟩
end
end Go.Proofs.YtojnlmfahgeidaaGreatDoor
