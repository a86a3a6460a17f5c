/- A block of a quiet disk written: the program's contract of Write. -/
import Derived.Test.YtppagdmlfgialaaGreatDoorHDkKeep
import Derived.Handy

namespace Go.Proofs.YtppagdmlfgialaaGreatDoor
theorem sgLHDkWrite : (∀ (α : Type) (a : α) (l r : List α), (a :: l) ++ r = a :: (l ++ r)) ∧ (∀ (α : Type) (l : List α), [] ++ l = l) ∧ (∀ (α : Type) (l : List α), l ++ [] = l) ∧ (∀ (α β : Type) (f : α → Option β) (a : α) (l : List α), (a :: l).filterMap f = match f a with | none => l.filterMap f | some b => b :: l.filterMap f) ∧ (∀ (α β : Type) (f : α → Option β), [].filterMap f = []) ∧ (∀ (α : Type) (l : List α) (i : Nat), l.toArray[i]? = l[i]?) ∧ (∀ (α : Type) (a : α) (l : List α), (a :: l)[0]? = some a) ∧ (∀ (α : Type) (a : α) (l : List α) (i : Nat), (a :: l)[i + 1]? = l[i]?) :=
  ⟨fun _ _ _ _ => List.cons_append, fun _ _ => List.nil_append _, fun _ _ => List.append_nil _, fun _ _ _ _ _ => List.filterMap_cons, fun _ _ _ => List.filterMap_nil, fun _ _ _ => List.getElem?_toArray, fun _ _ _ => List.getElem?_cons_zero, fun _ _ _ _ => List.getElem?_cons_succ⟩
theorem sgPHDkWrite : (∀ (α : Type) (l : List α) (i : Nat) (a : α), l.toArray.setIfInBounds i a = (l.set i a).toArray) ∧ (∀ (α : Type) (a b : α) (l : List α), (a :: l).set 0 b = b :: l) ∧ (∀ (α : Type) (a b : α) (l : List α) (i : Nat), (a :: l).set (i + 1) b = a :: l.set i b) :=
  ⟨fun _ _ _ _ => List.setIfInBounds_toArray _ _ _, fun _ _ _ _ => List.set_cons_zero, fun _ _ _ _ _ => List.set_cons_succ⟩
end Go.Proofs.YtppagdmlfgialaaGreatDoor
namespace Go.Proofs.YtppagdmlfgialaaGreatDoor
open Go Go.RowKit
set_option linter.unusedSimpArgs false
set_option linter.unusedVariables false

theorem putAt_self (N at0 : Nat) (F b : Nat → Nat) (h : bkSame (fun j => F (at0 * 256 + j)) b) : va (N * 256) (iv .u8 (putAt F (at0 * 256) 256 b)) = va (N * 256) (iv .u8 F) := va_congr fun i _ => by
  unfold iv putAt
  by_cases hi : at0 * 256 ≤ i ∧ i < at0 * 256 + 256
  · rw [if_pos hi, ← h (i - at0 * 256) (by omega)]
    show Value.int _ ((F (at0 * 256 + (i - at0 * 256)) : Nat) : Int) = _
    rw [show at0 * 256 + (i - at0 * 256) = i by omega]
  · rw [if_neg hi]
theorem va_byL (b : Nat → Nat) (n : Nat) : (va n (iv .u8 b)).toList = byL b n := va_toList _ _
theorem Blk.storeMid {P : Program} {w : World} {g t M o n : Nat} {F : Nat → Nat} (h : Blk w g t (va M (iv .u8 F))) (b : Nat → Nat) (ho : o + n ≤ M) : (storeCells ⟨g, o, none⟩ (va n (iv .u8 b)).toList).run P w = .ok () (w.setRow g (va M (iv .u8 (putAt F o n b)))) := by
  have h1 := run_storeCells_at (P := P) g o t (byL b n) 0 (va M (iv .u8 F)) w h (by rw [byL_length, va_size]; omega) (mem_iv_one _ _ _)
  rw [va_byL]
  refine h1.trans ?_
  rw [← splice_put M o n F b ho]
  unfold splice
  rw [List.append_assoc, Nat.add_zero]
section
variable {B g N k lg : Nat} {F : Nat → Nat} {q : QD}
theorem DiskQ.same {w : World} {F' : Nat → Nat} (h : DiskQ w B g N F k lg q) (e : va (N * 256) (iv .u8 F') = va (N * 256) (iv .u8 F)) : DiskQ w B g N F' k lg q := h.renow (by rw [e]; exact h.now) fun _ _ => rfl
set_option maxRecDepth 100000 in
set_option maxHeartbeats 8000000 in
theorem lay_same (at0 : Nat) (b : Nat → Nat) (hat : at0 < N) (hN : N ≤ 8192) (he : bkSame (fun j => F (at0 * 256 + j)) b) (w : World) (h : DiskQ w B g N F k lg q) :
    Calls Tryz.prog 51 #[.pointer (some ⟨g, 0, none⟩), .int .i64 (at0 : Int), .agg (va 256 (iv .u8 b))] w fun e w' => e = .returned (.tuple #[]) ∧ DiskQ w' B g N F k lg q ∧ Moved g N q q w w' := by
  have hz := zero_bk
  have j0 : (0 : Int) ≤ (at0 : Int) := by omega
  have j1 : (at0 : Int) < (N : Int) := by omega
  have heq : ∀ W, (Op.equalIn 10000 141 (.agg (va 256 (iv .u8 fun j => F (at0 * 256 + j)))) (.agg (va 256 (iv .u8 b)))).run Tryz.prog W = .ok true W := fun W => by
    have := eq_bk 141 Tryz.underlying141 (fun j => F (at0 * 256 + j)) b W
    rw [decide_eq_true he] at this
    exact this
  have r1 : Blk (w.alloc (.cells (va 256 (iv .u8 b)) 141)) w.heap.size 141 (va 256 (iv .u8 b)) := Blk.new _ _ _
  have hb1 : Below w.heap.size w (w.alloc (.cells (va 256 (iv .u8 b)) 141)) := below_new1 _ _
  have HQ1 : Hid (DiskQ (w.alloc (.cells (va 256 (iv .u8 b)) 141)) B g N F k lg q) := h.below hb1
  have HM1 : Hid (Moved g N q q w (w.alloc (.cells (va 256 (iv .u8 b)) 141))) := .of_below hb1
  clear h he hb1
  go_enter Tryz.func51, Tryz.ntmps51
  go_wp2_with fail
  generalize (w.alloc (.cells (va 256 (iv .u8 b)) 141)) = w1 at *
  have HC0 : Hid (∀ W, Below w1.heap.size w1 W → W.cell? ⟨g, 0, none⟩ = some (.slice (some ⟨q.gn, 0, none⟩) N N)) := fun W hW => by rw [(HQ1.out.below hW).c]; rfl
  have HR0 : Hid (∀ W, Below w1.heap.size w1 W → W.rangeAt q.gn (at0 * 256) ((List.range 256).map (iv .u8 fun j => F (at0 * 256 + j)))) := fun W hW => (HQ1.out.below hW).now.range (at0 * 256) 256 (by omega)
  refine wp_region_partsI [] [([0, 4], 1, true), ([], 2, true), ([], 3, true), ([5], 6, true), ([], 7, false), ([], 8, false)] [] [] (w1.heap.size) (by kernel_rfl) (by kernel_rfl) (fun _ hx => nomatch hx) (partsI_yield ?_)
  simp only [sgLHDkWrite]
  have hS : Below (w1.heap.size) w1 w1.drew := (Below.refl _ _).drew
  go_wp2_with fail
  refine ⟨rfl, _, .pointer (some ⟨g, 0, none⟩), rfl, Or.inl ⟨by rfl, fun W hW => by go_simp⟩, partsI_yield ?_⟩
  simp only [Act.put, sgPHDkWrite]
  simp only [sgLHDkWrite]
  go_wp2_with fail
  refine ⟨rfl, _, .pointer (some ⟨g, 0, none⟩), rfl, Or.inl ⟨by rfl, fun W hW => by go_simp⟩, partsI_yield ?_⟩
  simp only [Act.put, sgPHDkWrite]
  simp only [sgLHDkWrite]
  go_wp2_with fail
  refine ⟨rfl, _, .slice (some ⟨q.gn, 0, none⟩) N N, rfl, Or.inl ⟨by rfl, fun W hW => by have := HC0.out W hW; go_simp⟩, partsI_yield ?_⟩
  simp only [Act.put, sgPHDkWrite]
  simp only [sgLHDkWrite]
  go_wp2_with fail
  refine ⟨rfl, _, .agg (va 256 (iv .u8 (fun j => F (at0 * 256 + j)))), rfl, yieldsIf_load_mid (by rfl) 141 _ (by rfl) (q.gn) (at0 * 256) (by rfl) ((List.range 256).map (iv .u8 (fun j => F (at0 * 256 + j)))) _ (fun W hW => HR0.out W hW) Tryz.underlying141 rfl (sizeBk.trans (by simp)), partsI_force ?_⟩
  simp only [Act.put, sgPHDkWrite]
  simp only [sgLHDkWrite]
  (refine wpList_load_rowg (by rfl) 141 _ (by rfl) (w.heap.size) (by rfl) 141 (va 256 (iv .u8 b)) (0, 0) _ r1 Tryz.underlying141 (by rfl) (sizeBk.trans (by rw [va_size])) ?_; simp only [Act.put, sgPHDkWrite])
  go_wp2_with fail
  refine ⟨rfl, hS, partsI_force ?_⟩
  simp only [sgLHDkWrite]
  go_wp2_with fail
  refine ⟨rfl, hS, partsI_last ?_⟩
  simp only [sgLHDkWrite]
  go_wp2_with fail
  refine ⟨rfl, ?_⟩
  go_wp2_with fail
  try simp only [Exit.inBlock, Exit.then]
  refine bodyPost_ret (results_none Tryz.results51 _ _ _) rfl ?_
  exact ⟨rfl, HQ1.out.below (Below.refl _ _).drew, HM1.out.trans (.of_below (Below.refl _ _).drew)⟩
set_option maxRecDepth 100000 in
set_option maxHeartbeats 8000000 in
theorem lay_other2 (at0 : Nat) (b : Nat → Nat) (hat : at0 < N) (hN : N ≤ 8192) (he : ¬ bkSame (fun j => F (at0 * 256 + j)) b) (hnew : findIn ((k : Int), (at0 : Int)) q.l = none) (hsh : (q.G.getD at0 []).length < k + 1) (hk : k < 1099511627776) (w : World) (hB : B ≤ w.heap.size) (h : DiskQ w B g N F k lg q) :
    Calls Tryz.prog 51 #[.pointer (some ⟨g, 0, none⟩), .int .i64 (at0 : Int), .agg (va 256 (iv .u8 b))] w fun e w' => e = .returned (.tuple #[]) ∧ ∃ l G ss, DiskQ w' B g N (putAt F (at0 * 256) 256 b) k lg { q with l := l, G := G, ss := ss } ∧ Moved g N q { q with l := l, G := G, ss := ss } w w' ∧ (∀ a : Nat, a ≠ at0 → findIn ((k : Int), (a : Int)) l = findIn ((k : Int), (a : Int)) q.l) ∧ (∀ j, j ≠ at0 → G.getD j [] = q.G.getD j []) := by
  have hz := zero_bk
  have j0 : (0 : Int) ≤ (at0 : Int) := by omega
  have j1 : (at0 : Int) < (N : Int) := by omega
  have heq : ∀ W, (Op.equalIn 10000 141 (.agg (va 256 (iv .u8 fun j => F (at0 * 256 + j)))) (.agg (va 256 (iv .u8 b)))).run Tryz.prog W = .ok false W := fun W => by
    have := eq_bk 141 Tryz.underlying141 (fun j => F (at0 * 256 + j)) b W
    rw [decide_eq_false he] at this
    exact this
  have r1 : Blk (w.alloc (.cells (va 256 (iv .u8 b)) 141)) w.heap.size 141 (va 256 (iv .u8 b)) := Blk.new _ _ _
  have hb1 : Below w.heap.size w (w.alloc (.cells (va 256 (iv .u8 b)) 141)) := below_new1 _ _
  have HQ1 : Hid (DiskQ (w.alloc (.cells (va 256 (iv .u8 b)) 141)) B g N F k lg q) := h.below hb1
  have HM1 : Hid (Moved g N q q w (w.alloc (.cells (va 256 (iv .u8 b)) 141))) := .of_below hb1
  have hgl : q.gn < w.heap.size := h.now.lt
  have HW : Hid (B ≤ w.heap.size) := hB
  clear h he hb1 hB
  go_enter Tryz.func51, Tryz.ntmps51
  go_wp2_with fail
  have hs1 : w.heap.size < (w.alloc (.cells (va 256 (iv .u8 b)) 141)).heap.size := by simp
  generalize (w.alloc (.cells (va 256 (iv .u8 b)) 141)) = w1 at *
  have HC0 : Hid (∀ W, Below w1.heap.size w1 W → W.cell? ⟨g, 0, none⟩ = some (.slice (some ⟨q.gn, 0, none⟩) N N)) := fun W hW => by rw [(HQ1.out.below hW).c]; rfl
  have HR0 : Hid (∀ W, Below w1.heap.size w1 W → W.rangeAt q.gn (at0 * 256) ((List.range 256).map (iv .u8 fun j => F (at0 * 256 + j)))) := fun W hW => (HQ1.out.below hW).now.range (at0 * 256) 256 (by omega)
  refine wp_region_partsI [] [([0, 4], 1, true), ([], 2, true), ([], 3, true), ([5], 6, true), ([], 7, false), ([], 8, false)] [] [] (w1.heap.size) (by kernel_rfl) (by kernel_rfl) (fun _ hx => nomatch hx) (partsI_yield ?_)
  simp only [sgLHDkWrite]
  have hS : Below (w1.heap.size) w1 w1.drew := (Below.refl _ _).drew
  go_wp2_with fail
  refine ⟨rfl, _, .pointer (some ⟨g, 0, none⟩), rfl, Or.inl ⟨by rfl, fun W hW => by go_simp⟩, partsI_yield ?_⟩
  simp only [Act.put, sgPHDkWrite]
  simp only [sgLHDkWrite]
  go_wp2_with fail
  refine ⟨rfl, _, .pointer (some ⟨g, 0, none⟩), rfl, Or.inl ⟨by rfl, fun W hW => by go_simp⟩, partsI_yield ?_⟩
  simp only [Act.put, sgPHDkWrite]
  simp only [sgLHDkWrite]
  go_wp2_with fail
  refine ⟨rfl, _, .slice (some ⟨q.gn, 0, none⟩) N N, rfl, Or.inl ⟨by rfl, fun W hW => by have := HC0.out W hW; go_simp⟩, partsI_yield ?_⟩
  simp only [Act.put, sgPHDkWrite]
  simp only [sgLHDkWrite]
  go_wp2_with fail
  refine ⟨rfl, _, .agg (va 256 (iv .u8 (fun j => F (at0 * 256 + j)))), rfl, yieldsIf_load_mid (by rfl) 141 _ (by rfl) (q.gn) (at0 * 256) (by rfl) ((List.range 256).map (iv .u8 (fun j => F (at0 * 256 + j)))) _ (fun W hW => HR0.out W hW) Tryz.underlying141 rfl (sizeBk.trans (by simp)), partsI_force ?_⟩
  simp only [Act.put, sgPHDkWrite]
  simp only [sgLHDkWrite]
  (refine wpList_load_rowg (by rfl) 141 _ (by rfl) (w.heap.size) (by rfl) 141 (va 256 (iv .u8 b)) (0, 0) _ r1 Tryz.underlying141 (by rfl) (sizeBk.trans (by rw [va_size])) ?_; simp only [Act.put, sgPHDkWrite])
  go_wp2_with fail
  refine ⟨rfl, hS, partsI_force ?_⟩
  simp only [sgLHDkWrite]
  go_wp2_with fail
  refine ⟨rfl, hS, partsI_last ?_⟩
  simp only [sgLHDkWrite]
  go_wp2_with fail
  refine ⟨rfl, ?_⟩
  go_wp2_with fail
  have r2 : Blk w1.drew w.heap.size 141 (va 256 (iv .u8 b)) := r1.drew
  have HQ2 : Hid (DiskQ w1.drew B g N F k lg q) := HQ1.out.below (Below.refl _ _).drew
  have HM2 : Hid (Moved g N q q w w1.drew) := HM1.out.trans (.of_below (Below.refl _ _).drew)
  have hs2 : w.heap.size < w1.drew.heap.size := hs1
  clear HC0 HR0 r1 HQ1 HM1 hS hs1
  generalize w1.drew = w2 at *
  have HC2 : Hid (∀ W, Below w2.heap.size w2 W → W.cell? ⟨g, 0, none⟩ = some (.slice (some ⟨q.gn, 0, none⟩) N N)) := fun W hW => by rw [(HQ2.out.below hW).c]; rfl
  refine wp_region_partsI [] [([0, 4], 1, true), ([], 2, true), ([], 3, true), ([], 5, false)] [6] [7] (w2.heap.size) (by kernel_rfl) (by kernel_rfl) (fun _ hx => nomatch hx) (partsI_yield ?_)
  simp only [sgLHDkWrite]
  have hS : Below (w2.heap.size) w2 w2.drew := (Below.refl _ _).drew
  go_wp2_with fail
  refine ⟨rfl, _, .pointer (some ⟨g, 0, none⟩), rfl, Or.inl ⟨by rfl, fun W hW => by go_simp⟩, partsI_yield ?_⟩
  simp only [Act.put, sgPHDkWrite]
  simp only [sgLHDkWrite]
  go_wp2_with fail
  refine ⟨rfl, _, .pointer (some ⟨g, 0, none⟩), rfl, Or.inl ⟨by rfl, fun W hW => by go_simp⟩, partsI_yield ?_⟩
  simp only [Act.put, sgPHDkWrite]
  simp only [sgLHDkWrite]
  go_wp2_with fail
  refine ⟨rfl, _, .slice (some ⟨q.gn, 0, none⟩) N N, rfl, Or.inl ⟨by rfl, fun W hW => by have := HC2.out W hW; go_simp⟩, partsI_force ?_⟩
  simp only [Act.put, sgPHDkWrite]
  simp only [sgLHDkWrite]
  (refine wpList_load_rowg (by rfl) 141 _ (by rfl) (w.heap.size) (by rfl) 141 (va 256 (iv .u8 b)) (0, 0) _ r2 Tryz.underlying141 (by rfl) (sizeBk.trans (by rw [va_size])) ?_; simp only [Act.put, sgPHDkWrite])
  go_wp2_with fail
  refine ⟨rfl, hS, partsI_last ?_⟩
  simp only [sgLHDkWrite]
  have hst := HQ2.out.now.drew.storeMid (P := Tryz.prog) (o := at0 * 256) (n := 256) b (by omega)
  have hvs := va_size 256 (iv .u8 b)
  go_wp2_with fail
  refine ⟨rfl, ?_⟩
  have hn3 : Blk (w2.drew.setRow q.gn (va (N * 256) (iv .u8 (putAt F (at0 * 256) 256 b)))) q.gn 141 (va (N * 256) (iv .u8 (putAt F (at0 * 256) 256 b))) := HQ2.out.now.drew.set _
  have HQ3 : Hid (DiskQ (w2.drew.setRow q.gn (va (N * 256) (iv .u8 (putAt F (at0 * 256) 256 b)))) B g N (putAt F (at0 * 256) 256 b) k lg q) := HQ2.out.renow hn3 fun z hz => setRow_other w2.drew q.gn z _ hz
  have HM3 : Hid (Moved g N q q w (w2.drew.setRow q.gn (va (N * 256) (iv .u8 (putAt F (at0 * 256) 256 b))))) := HM2.out.trans ⟨⟨rfl, rfl, rfl, by rw [setRow_size]; exact Nat.le_refl _, fun z hz hf => setRow_other w2.drew q.gn z _ fun e => hf (.inr (.inl e))⟩, fun z hz => .inl hz⟩
  have r3 : Blk (w2.drew.setRow q.gn (va (N * 256) (iv .u8 (putAt F (at0 * 256) 256 b)))) w.heap.size 141 (va 256 (iv .u8 b)) := r2.drew.other _ (by omega)
  have hs3 : w.heap.size < (w2.drew.setRow q.gn (va (N * 256) (iv .u8 (putAt F (at0 * 256) 256 b)))).heap.size := r3.lt
  clear hst hn3 HC2 HQ2 HM2 r2 hS hs2
  generalize w2.drew.setRow q.gn (va (N * 256) (iv .u8 (putAt F (at0 * 256) 256 b))) = w3 at *
  have HC3 : Hid (∀ W, Below w3.heap.size w3 W → W.cell? ⟨g, 1, none⟩ = some (.map (some q.r)) ∧ W.cell? ⟨g, 2, none⟩ = some q.sv ∧ W.cell? ⟨g, 6, none⟩ = some (.int .i64 (k : Int))) := fun W hW => ⟨by rw [(HQ3.out.below hW).c]; rfl, by rw [(HQ3.out.below hW).c]; rfl, by rw [(HQ3.out.below hW).c]; rfl⟩
  go_wp2_with fail
  refine wp_region_partsI [] [([0, 4, 8], 1, true), ([], 2, true), ([], 3, true), ([], 5, true), ([], 6, true), ([], 7, true), ([], 9, false)] [] [10] (w3.heap.size) (by kernel_rfl) (by kernel_rfl) (fun _ hx => nomatch hx) (partsI_yield ?_)
  simp only [sgLHDkWrite]
  have hS : Below (w3.heap.size) w3 w3.drew := (Below.refl _ _).drew
  go_wp2_with fail
  refine ⟨rfl, _, .pointer (some ⟨g, 0, none⟩), rfl, Or.inl ⟨by rfl, fun W hW => by go_simp⟩, partsI_yield ?_⟩
  simp only [Act.put, sgPHDkWrite]
  simp only [sgLHDkWrite]
  go_wp2_with fail
  refine ⟨rfl, _, .pointer (some ⟨g, 1, none⟩), rfl, Or.inl ⟨by rfl, fun W hW => by go_simp⟩, partsI_yield ?_⟩
  simp only [Act.put, sgPHDkWrite]
  simp only [sgLHDkWrite]
  go_wp2_with fail
  refine ⟨rfl, _, .agg #[.map (some q.r), q.sv], rfl, Or.inl ⟨by rfl, fun W hW => by obtain ⟨hWa, hWb, hWc⟩ := HC3.out W hW; go_simp⟩, partsI_yield ?_⟩
  simp only [Act.put, sgPHDkWrite]
  simp only [sgLHDkWrite]
  go_wp2_with fail
  refine ⟨rfl, _, .pointer (some ⟨g, 0, none⟩), rfl, Or.inl ⟨by rfl, fun W hW => by go_simp⟩, partsI_yield ?_⟩
  simp only [Act.put, sgPHDkWrite]
  simp only [sgLHDkWrite]
  go_wp2_with fail
  refine ⟨rfl, _, .pointer (some ⟨g, 6, none⟩), rfl, Or.inl ⟨by rfl, fun W hW => by go_simp⟩, partsI_yield ?_⟩
  simp only [Act.put, sgPHDkWrite]
  simp only [sgLHDkWrite]
  go_wp2_with fail
  refine ⟨rfl, _, .int .i64 (k : Int), rfl, Or.inl ⟨by rfl, fun W hW => by obtain ⟨hWa, hWb, hWc⟩ := HC3.out W hW; go_simp⟩, partsI_force ?_⟩
  simp only [Act.put, sgPHDkWrite]
  simp only [sgLHDkWrite]
  (refine wpList_load_rowg (by rfl) 141 _ (by rfl) (w.heap.size) (by rfl) 141 (va 256 (iv .u8 b)) (0, 0) _ r3 Tryz.underlying141 (by rfl) (sizeBk.trans (by rw [va_size])) ?_; simp only [Act.put, sgPHDkWrite])
  go_wp2_with fail
  refine ⟨rfl, hS, partsI_last ?_⟩
  simp only [sgLHDkWrite]
  go_wp2_with fail
  have hm := HQ3.out.many
  have HG0 : Hid (∀ j, j < N → q.G.length = N) := fun _ _ => hm
  refine (keep_new B q.r k at0 q.sv q.G q.ss q.l b (by omega) (by omega) (by have := hsh; omega) hnew w3.drew (by have := HW.out; show B ≤ w3.heap.size; omega) (HQ3.out.below (Below.refl _ _).drew).map (HQ3.out.below (Below.refl _ _).drew).steps).mono ?_
  rintro e w4 ⟨rfl, s', hM4, hG4, hs4, hT4⟩
  have hsl := HQ3.out.steps.len
  have hlen4 : (q.G.set at0 (q.G.getD at0 [] ++ [k])).length = N := by simp [hm]
  have hss : ∀ j, (q.ss.set at0 s').getD j undef = if j = at0 then s' else q.ss.getD j undef := fun j => by
    by_cases hj : j = at0
    · subst hj
      rw [if_pos rfl]
      simp [List.getD, show j < q.ss.length by omega]
    · rw [if_neg hj]
      simp [List.getD, List.getElem?_set_ne (Ne.symm hj)]
  have HAP : Hid (∀ j, j < N → ∀ z, ((q.ss.set at0 s').getD j undef).ownBlock = some z → (∃ i, i < N ∧ (q.ss.getD i undef).ownBlock = some z) ∨ w3.heap.size ≤ z) := fun j hj z hz => by
    rw [hss j] at hz
    by_cases hj2 : j = at0
    · rw [if_pos hj2] at hz
      rcases hs4 with h1 | ⟨y, h1, h2⟩
      · exact .inl ⟨at0, hat, by rw [← h1]; exact hz⟩
      · rw [h1] at hz
        injection hz with hz
        exact .inr (by subst hz; exact h2)
    · rw [if_neg hj2] at hz
      exact .inl ⟨j, hj, hz⟩
  have HQ4 : Hid (DiskQ w4 B g N (putAt F (at0 * 256) 256 b) k lg { q with l := q.l ++ [(((k : Int), (at0 : Int)), blkD b)], G := q.G.set at0 (q.G.getD at0 [] ++ [k]), ss := q.ss.set at0 s' }) := by
    refine HQ3.out.repast hM4 (fun p hp => ?_) hG4 hlen4 (fun j => ?_) HAP.out fun z hz h1 h2 h3 => hT4.block z hz ?_
    · rcases List.mem_append.1 hp with hp | hp
      · exact HQ3.out.keys p hp
      · simp at hp
        subst hp
        exact Int.le_refl _
    · by_cases hj : j = at0
      · subst hj
        have := hsh
        simp [List.getD, hm, hat] at this ⊢
        omega
      · have := HQ3.out.short j
        simp [List.getD, List.getElem?_set_ne (Ne.symm hj)] at this ⊢
        omega
    · rintro (e | e | e)
      · exact h1 e
      · exact h2 e
      · exact h3 at0 hat e
  have HM4 : Hid (Moved g N q { q with l := q.l ++ [(((k : Int), (at0 : Int)), blkD b)], G := q.G.set at0 (q.G.getD at0 [] ++ [k]), ss := q.ss.set at0 s' } w w4) := by
    refine HM3.out.trans ⟨⟨hT4.os, hT4.tape, hT4.output, hT4.size, fun z hz hf => hT4.block z hz ?_⟩, fun z hz => ?_⟩
    · rintro (e | e | e)
      · exact hf (.inr (.inr (.inl e)))
      · exact hf (.inr (.inr (.inr (.inl e))))
      · exact hf (.inr (.inr (.inr (.inr (.inr (.inr ⟨at0, hat, e⟩))))))
    · rcases hz with e | e | e | e | e | e | ⟨j, hj, e⟩
      · exact .inl (.inl e)
      · exact .inl (.inr (.inl e))
      · exact .inl (.inr (.inr (.inl e)))
      · exact .inl (.inr (.inr (.inr (.inl e))))
      · exact .inl (.inr (.inr (.inr (.inr (.inl e)))))
      · exact .inl (.inr (.inr (.inr (.inr (.inr (.inl e))))))
      · rcases HAP.out j hj z e with ⟨i, hi, e2⟩ | e2
        · exact .inl (.inr (.inr (.inr (.inr (.inr (.inr ⟨i, hi, e2⟩))))))
        · exact .inr e2
  clear hM4 hG4 hs4 hT4 hss HAP hlen4 hsl HG0 hm
  go_wp2_with fail
  refine ⟨rfl, ?_⟩
  try simp only [Exit.inBlock, Exit.then]
  refine bodyPost_end (results_none Tryz.results51 _ _ _) rfl ?_
  exact ⟨rfl, _, _, _, HQ4.out, HM4.out, fun a ha => by
    rw [findIn_append]
    have hne : ¬ (((k : Int), (a : Int)) = ((k : Int), (at0 : Int))) := fun e => ha (by
      have := congrArg Prod.snd e
      simp at this
      omega)
    simp [findIn, hne], fun j hj => by simp [List.getD, List.getElem?_set_ne (Ne.symm hj)]⟩
theorem lay_q2 (at0 : Nat) (b : Nat → Nat) (hat : at0 < N) (hN : N ≤ 8192) (hnew : findIn ((k : Int), (at0 : Int)) q.l = none) (hsh : (q.G.getD at0 []).length < k + 1) (hk : k < 1099511627776) (w : World) (hB : B ≤ w.heap.size) (h : DiskQ w B g N F k lg q) :
    Calls Tryz.prog 51 #[.pointer (some ⟨g, 0, none⟩), .int .i64 (at0 : Int), .agg (va 256 (iv .u8 b))] w fun e w' => e = .returned (.tuple #[]) ∧ ∃ l G ss, DiskQ w' B g N (putAt F (at0 * 256) 256 b) k lg { q with l := l, G := G, ss := ss } ∧ Moved g N q { q with l := l, G := G, ss := ss } w w' ∧ (∀ a : Nat, a ≠ at0 → findIn ((k : Int), (a : Int)) l = findIn ((k : Int), (a : Int)) q.l) ∧ (∀ j, j ≠ at0 → G.getD j [] = q.G.getD j []) := by
  by_cases he : bkSame (fun j => F (at0 * 256 + j)) b
  · refine (lay_same at0 b hat hN he w h).mono ?_
    rintro e w' ⟨rfl, h1, h2⟩
    exact ⟨rfl, q.l, q.G, q.ss, h1.same (putAt_self N at0 F b he), h2, fun _ _ => rfl, fun _ _ => rfl⟩
  · exact lay_other2 at0 b hat hN he hnew hsh hk w hB h
end
end Go.Proofs.YtppagdmlfgialaaGreatDoor

namespace Go.Proofs.YtppagdmlfgialaaGreatDoor
open Go Go.RowKit
set_option linter.unusedSimpArgs false
set_option linter.unusedVariables false

/-- an entry's cells -/
def rawF (kd at0 : Int) (b : Nat → Nat) : Nat → Value := fun i => if i = 0 then .int .i64 kd else if i = 1 then .int .i64 at0 else .int .u8 ((b (i - 2) : Nat) : Int)
theorem infoRaw : (Tryz.prog.info? 225).map (fun i => (i.zero, i.size, i.bytes)) = some (some (.agg (va 258 (rawF 0 0 fun _ => 0))), 258, 272) := by kernel_rfl
theorem raw_one (kd at0 : Int) (b : Nat → Nat) : ∀ u ∈ (va 258 (rawF kd at0 b)).toList, u.oneCell' = true := fun u hu => by
  rw [va_toList] at hu
  obtain ⟨i, _, rfl⟩ := List.mem_map.1 hu
  unfold rawF
  split
  · rfl
  · split <;> rfl
section
variable {w w1 w2 : World} {B g N k lg : Nat} {F : Nat → Nat} {q : QD}
theorem DiskQ.logged (h : DiskQ w B g N F k lg q) (c : Array Value) {v' : Value} (hrow : w2.ownsRow B 225 258 v' (lg + 1) (q.xs ++ c.toList)) (hg : (w.alloc (.cells c 225)).grownBy w2 q.lv.ownBlock) (hv : v'.ownBlock = q.lv.ownBlock ∨ v'.ownBlock = some (w.alloc (.cells c 225)).heap.size) :
    Blk w2 g 140 (dcells q N k) ∧ DiskQ (w2.setCell ⟨g, 8, none⟩ v') B g N F k (lg + 1) { q with lv := v', xs := q.xs ++ c.toList } ∧ Moved g N q { q with lv := v', xs := q.xs ++ c.toList } w (w2.setCell ⟨g, 8, none⟩ v') := by
  have hlv := own_ne h.log h.cells (by decide)
  have b2 : ∀ z, z < w.heap.size → q.lv.ownBlock ≠ some z → w2.heap[z]? = w.heap[z]? := fun z hz1 hz2 => by
    rw [hg.block z (by simp; omega) (fun e => hz2 e.symm)]
    exact heap_alloc_old _ _ hz1
  have hB2 : Blk w2 g 140 (dcells q N k) := (b2 g h.cells.lt hlv).trans h.cells
  have hvg : v'.ownBlock ≠ some g := own_ne hrow hB2 (by decide)
  have hsz := hg.size
  simp at hsz
  refine ⟨hB2, h.relog v' _ (hB2.put 8 v') ?_ fun z hf h1 h2 => ?_, ⟨hg.os, hg.tape, hg.output, ?_, fun z hz hf => ?_⟩, fun z hz => ?_⟩
  · exact own_block hrow fun z hz => Deep.blk_setCell_other w2 ⟨g, 8, none⟩ _ z fun e => hvg (by rw [← (show z = g from e)]; exact hz)
  · rw [Deep.blk_setCell_other w2 ⟨g, 8, none⟩ _ z h1]
    exact b2 z (h.foots z hf).2 h2
  · rw [Deep.nblk_setCell]
    omega
  · rw [Deep.blk_setCell_other w2 ⟨g, 8, none⟩ _ z fun e => hf (.inl e)]
    exact b2 z hz fun e => hf (.inr (.inr (.inr (.inr (.inl e)))))
  · rcases hz with e | e | e | e | e | e | e
    · exact .inl (.inl e)
    · exact .inl (.inr (.inl e))
    · exact .inl (.inr (.inr (.inl e)))
    · exact .inl (.inr (.inr (.inr (.inl e))))
    · have e' : v'.ownBlock = some z := e
      rcases hv with e2 | e2
      · exact .inl (.inr (.inr (.inr (.inr (.inl (by rw [← e2]; exact e'))))))
      · rw [e2] at e'
        injection e' with e'
        simp at e'
        exact .inr (by omega)
    · exact .inl (.inr (.inr (.inr (.inr (.inr (.inl e))))))
    · exact .inl (.inr (.inr (.inr (.inr (.inr (.inr e))))))
end
end Go.Proofs.YtppagdmlfgialaaGreatDoor

namespace Go.Proofs.YtppagdmlfgialaaGreatDoor
open Go Go.RowKit
set_option linter.unusedSimpArgs false
set_option linter.unusedVariables false

/-- no plan, these cuts, power on or off -/
structure QuietC (cv : Value) (d0 : Bool) (q : QD) (k : Nat) : Prop where
  dd : q.dd = d0
  pl : q.pl = .map none
  cu : q.cu = cv
  ev0 : 0 ≤ q.ev
  ev1 : q.ev ≤ (k : Int)
  ones : ∀ u ∈ q.xs, u.oneCell' = true
/-- no plan, no cuts, power on -/
abbrev Quiet : QD → Nat → Prop := QuietC (.slice none 0 0) false
theorem QuietC.mono {cv : Value} {d0 : Bool} {q : QD} {k k' : Nat} (h : QuietC cv d0 q k) (hk : k ≤ k') : QuietC cv d0 q k' := ⟨h.dd, h.pl, h.cu, h.ev0, by have := h.ev1; omega, h.ones⟩
section
variable {B g N k lg : Nat} {F : Nat → Nat} {q : QD}
end
end Go.Proofs.YtppagdmlfgialaaGreatDoor
