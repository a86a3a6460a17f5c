/- A block made other bytes: the program's contract of lay, at a step that was not kept before. -/
import Derived.Test.YtkhfggmjhpbajaaDkKeep
import Derived.Handy
namespace Go.Proofs.Ytkhfggmjhpbajaa
open Go Go.RowKit
set_option linter.unusedSimpArgs false
set_option linter.unusedVariables false

theorem putAt_self (N at0 : Nat) (F b : Nat → Nat) (h : bkSame (fun j => F (at0 * 256 + j)) b) : va (N * 256) (iv .u8 (putAt F (at0 * 256) 256 b)) = va (N * 256) (iv .u8 F) := va_congr fun i _ => by
  unfold iv putAt
  by_cases hi : at0 * 256 ≤ i ∧ i < at0 * 256 + 256
  · rw [if_pos hi, ← h (i - at0 * 256) (by omega)]
    show Value.int _ ((F (at0 * 256 + (i - at0 * 256)) : Nat) : Int) = _
    rw [show at0 * 256 + (i - at0 * 256) = i by omega]
  · rw [if_neg hi]
theorem over_put (n o : Nat) (F b : Nat → Nat) : va n (over (iv .u8 F) o (va 256 (iv .u8 b)).toList) = va n (iv .u8 (putAt F o 256 b)) := va_congr fun i _ => by
  unfold over putAt iv
  rw [va_toList]
  simp only [List.length_map, List.length_range]
  by_cases hi : o ≤ i ∧ i < o + 256
  · rw [if_pos hi, if_pos hi, List.getD_eq_getElem?_getD, List.getElem?_map, List.getElem?_range (by omega)]
    rfl
  · rw [if_neg hi, if_neg hi]
theorem va_byL (b : Nat → Nat) (n : Nat) : (va n (iv .u8 b)).toList = byL b n := va_toList _ _
theorem Blk.storeMid {P : Program} {w : World} {g t M o n : Nat} {F : Nat → Nat} (h : Blk w g t (va M (iv .u8 F))) (b : Nat → Nat) (ho : o + n ≤ M) : (storeCells ⟨g, o, none⟩ (va n (iv .u8 b)).toList).run P w = .ok () (w.setRow g (va M (iv .u8 (putAt F o n b)))) := by
  have h1 := run_storeCells_at (P := P) g o t (byL b n) 0 (va M (iv .u8 F)) w h (by rw [byL_length, va_size]; omega) (mem_iv_one _ _ _)
  rw [va_byL]
  refine h1.trans ?_
  rw [← splice_put M o n F b ho]
  unfold splice
  rw [List.append_assoc, Nat.add_zero]
section
variable {B g N k lg : Nat} {F : Nat → Nat} {q : QD}
theorem DiskQ.same {w : World} {F' : Nat → Nat} (h : DiskQ w B g N F k lg q) (e : va (N * 256) (iv .u8 F') = va (N * 256) (iv .u8 F)) : DiskQ w B g N F' k lg q := h.renow (by rw [e]; exact h.now) fun _ _ => rfl
set_option maxRecDepth 100000 in
set_option maxHeartbeats 8000000 in
theorem lay_same (at0 : Nat) (b : Nat → Nat) (hat : at0 < N) (hN : N ≤ 8192) (he : bkSame (fun j => F (at0 * 256 + j)) b) (w : World) (h : DiskQ w B g N F k lg q) :
    Calls Try.prog 45 #[.pointer (some ⟨g, 0, none⟩), .int .i64 (at0 : Int), .agg (va 256 (iv .u8 b))] w fun e w' => e = .returned (.tuple #[]) ∧ DiskQ w' B g N F k lg q ∧ Moved g N q q w w' := by
  have hz := zero_bk
  have j0 : (0 : Int) ≤ (at0 : Int) := by omega
  have j1 : (at0 : Int) < (N : Int) := by omega
  have heq : ∀ W, (Op.equalIn 10000 55 (.agg (va 256 (iv .u8 fun j => F (at0 * 256 + j)))) (.agg (va 256 (iv .u8 b)))).run Try.prog W = .ok true W := fun W => by
    have := eq_bk 55 Try.underlying55 (fun j => F (at0 * 256 + j)) b W
    rw [decide_eq_true he] at this
    exact this
  have r1 : Blk (w.alloc (.cells (va 256 (iv .u8 b)) 55)) w.heap.size 55 (va 256 (iv .u8 b)) := Blk.new _ _ _
  have hb1 : Below w.heap.size w (w.alloc (.cells (va 256 (iv .u8 b)) 55)) := below_new1 _ _
  have HQ1 : Hid (DiskQ (w.alloc (.cells (va 256 (iv .u8 b)) 55)) B g N F k lg q) := h.below hb1
  have HM1 : Hid (Moved g N q q w (w.alloc (.cells (va 256 (iv .u8 b)) 55))) := .of_below hb1
  clear h he hb1
  go_enter Try.func45, Try.ntmps45
  go_wp2_with fail
  generalize (w.alloc (.cells (va 256 (iv .u8 b)) 55)) = w1 at *
  have HC0 : Hid (∀ W, Below w1.heap.size w1 W → W.cell? ⟨g, 0, none⟩ = some (.slice (some ⟨q.gn, 0, none⟩) N N)) := fun W hW => by rw [(HQ1.out.below hW).c]; rfl
  have HR0 : Hid (∀ W, Below w1.heap.size w1 W → W.rangeAt q.gn (at0 * 256) ((List.range 256).map (iv .u8 fun j => F (at0 * 256 + j)))) := fun W hW => (HQ1.out.below hW).now.range (at0 * 256) 256 (by omega)
  refine wp_region_partsI [] [([0, 4], 1, true), ([], 2, true), ([], 3, true), ([5], 6, true), ([], 7, false), ([], 8, false)] [] [] (w1.heap.size) (by kernel_rfl) (by kernel_rfl) (fun _ hx => nomatch hx) (partsI_yield ?_)
  simp only [List.cons_append, List.nil_append, List.append_nil, List.filterMap_cons, List.filterMap_nil, List.getElem?_toArray, List.getElem?_cons_zero, List.getElem?_cons_succ]
  have hS : Below (w1.heap.size) w1 w1.drew := (Below.refl _ _).drew
  go_wp2_with fail
  refine ⟨rfl, _, .pointer (some ⟨g, 0, none⟩), rfl, Or.inl ⟨by rfl, fun W hW => by go_simp⟩, partsI_yield ?_⟩
  simp only [Act.put, List.setIfInBounds_toArray, List.set_cons_zero, List.set_cons_succ]
  simp only [List.cons_append, List.nil_append, List.append_nil, List.filterMap_cons, List.filterMap_nil, List.getElem?_toArray, List.getElem?_cons_zero, List.getElem?_cons_succ]
  go_wp2_with fail
  refine ⟨rfl, _, .pointer (some ⟨g, 0, none⟩), rfl, Or.inl ⟨by rfl, fun W hW => by go_simp⟩, partsI_yield ?_⟩
  simp only [Act.put, List.setIfInBounds_toArray, List.set_cons_zero, List.set_cons_succ]
  simp only [List.cons_append, List.nil_append, List.append_nil, List.filterMap_cons, List.filterMap_nil, List.getElem?_toArray, List.getElem?_cons_zero, List.getElem?_cons_succ]
  go_wp2_with fail
  refine ⟨rfl, _, .slice (some ⟨q.gn, 0, none⟩) N N, rfl, Or.inl ⟨by rfl, fun W hW => by have := HC0.out W hW; go_simp⟩, partsI_yield ?_⟩
  simp only [Act.put, List.setIfInBounds_toArray, List.set_cons_zero, List.set_cons_succ]
  simp only [List.cons_append, List.nil_append, List.append_nil, List.filterMap_cons, List.filterMap_nil, List.getElem?_toArray, List.getElem?_cons_zero, List.getElem?_cons_succ]
  go_wp2_with fail
  refine ⟨rfl, _, .agg (va 256 (iv .u8 (fun j => F (at0 * 256 + j)))), rfl, yieldsIf_load_mid (by rfl) 55 _ (by rfl) (q.gn) (at0 * 256) (by rfl) ((List.range 256).map (iv .u8 (fun j => F (at0 * 256 + j)))) _ (fun W hW => HR0.out W hW) Try.underlying55 rfl (sizeBk.trans (by simp)), partsI_force ?_⟩
  simp only [Act.put, List.setIfInBounds_toArray, List.set_cons_zero, List.set_cons_succ]
  simp only [List.cons_append, List.nil_append, List.append_nil, List.filterMap_cons, List.filterMap_nil, List.getElem?_toArray, List.getElem?_cons_zero, List.getElem?_cons_succ]
  (refine wpList_load_rowg (by rfl) 55 _ (by rfl) (w.heap.size) (by rfl) 55 (va 256 (iv .u8 b)) (0, 0) _ r1 Try.underlying55 (by rfl) (sizeBk.trans (by rw [va_size])) ?_; simp only [Act.put, List.setIfInBounds_toArray, List.set_cons_zero, List.set_cons_succ])
  go_wp2_with fail
  refine ⟨rfl, hS, partsI_force ?_⟩
  simp only [List.cons_append, List.nil_append, List.append_nil, List.filterMap_cons, List.filterMap_nil, List.getElem?_toArray, List.getElem?_cons_zero, List.getElem?_cons_succ]
  go_wp2_with fail
  refine ⟨rfl, hS, partsI_last ?_⟩
  simp only [List.cons_append, List.nil_append, List.append_nil, List.filterMap_cons, List.filterMap_nil, List.getElem?_toArray, List.getElem?_cons_zero, List.getElem?_cons_succ]
  go_wp2_with fail
  refine ⟨rfl, ?_⟩
  go_wp2_with fail
  try simp only [Exit.inBlock, Exit.then]
  refine bodyPost_ret (results_none Try.results45 _ _ _) rfl ?_
  exact ⟨rfl, HQ1.out.below (Below.refl _ _).drew, HM1.out.trans (.of_below (Below.refl _ _).drew)⟩
set_option maxRecDepth 100000 in
set_option maxHeartbeats 8000000 in
theorem lay_other (at0 : Nat) (b : Nat → Nat) (hat : at0 < N) (hN : N ≤ 8192) (he : ¬ bkSame (fun j => F (at0 * 256 + j)) b) (hnew : findIn ((k : Int), (at0 : Int)) q.l = none) (hsh : ∀ j, (q.G.getD j []).length < k) (hk : k < 1099511627776) (w : World) (hB : B ≤ w.heap.size) (h : DiskQ w B g N F k lg q) :
    Calls Try.prog 45 #[.pointer (some ⟨g, 0, none⟩), .int .i64 (at0 : Int), .agg (va 256 (iv .u8 b))] w fun e w' => e = .returned (.tuple #[]) ∧ ∃ l G ss, DiskQ w' B g N (putAt F (at0 * 256) 256 b) k lg { q with l := l, G := G, ss := ss } ∧ Moved g N q { q with l := l, G := G, ss := ss } w w' := by
  have hz := zero_bk
  have j0 : (0 : Int) ≤ (at0 : Int) := by omega
  have j1 : (at0 : Int) < (N : Int) := by omega
  have heq : ∀ W, (Op.equalIn 10000 55 (.agg (va 256 (iv .u8 fun j => F (at0 * 256 + j)))) (.agg (va 256 (iv .u8 b)))).run Try.prog W = .ok false W := fun W => by
    have := eq_bk 55 Try.underlying55 (fun j => F (at0 * 256 + j)) b W
    rw [decide_eq_false he] at this
    exact this
  have r1 : Blk (w.alloc (.cells (va 256 (iv .u8 b)) 55)) w.heap.size 55 (va 256 (iv .u8 b)) := Blk.new _ _ _
  have hb1 : Below w.heap.size w (w.alloc (.cells (va 256 (iv .u8 b)) 55)) := below_new1 _ _
  have HQ1 : Hid (DiskQ (w.alloc (.cells (va 256 (iv .u8 b)) 55)) B g N F k lg q) := h.below hb1
  have HM1 : Hid (Moved g N q q w (w.alloc (.cells (va 256 (iv .u8 b)) 55))) := .of_below hb1
  have hgl : q.gn < w.heap.size := h.now.lt
  have HW : Hid (B ≤ w.heap.size) := hB
  clear h he hb1 hB
  go_enter Try.func45, Try.ntmps45
  go_wp2_with fail
  have hs1 : w.heap.size < (w.alloc (.cells (va 256 (iv .u8 b)) 55)).heap.size := by simp
  generalize (w.alloc (.cells (va 256 (iv .u8 b)) 55)) = w1 at *
  have HC0 : Hid (∀ W, Below w1.heap.size w1 W → W.cell? ⟨g, 0, none⟩ = some (.slice (some ⟨q.gn, 0, none⟩) N N)) := fun W hW => by rw [(HQ1.out.below hW).c]; rfl
  have HR0 : Hid (∀ W, Below w1.heap.size w1 W → W.rangeAt q.gn (at0 * 256) ((List.range 256).map (iv .u8 fun j => F (at0 * 256 + j)))) := fun W hW => (HQ1.out.below hW).now.range (at0 * 256) 256 (by omega)
  refine wp_region_partsI [] [([0, 4], 1, true), ([], 2, true), ([], 3, true), ([5], 6, true), ([], 7, false), ([], 8, false)] [] [] (w1.heap.size) (by kernel_rfl) (by kernel_rfl) (fun _ hx => nomatch hx) (partsI_yield ?_)
  simp only [List.cons_append, List.nil_append, List.append_nil, List.filterMap_cons, List.filterMap_nil, List.getElem?_toArray, List.getElem?_cons_zero, List.getElem?_cons_succ]
  have hS : Below (w1.heap.size) w1 w1.drew := (Below.refl _ _).drew
  go_wp2_with fail
  refine ⟨rfl, _, .pointer (some ⟨g, 0, none⟩), rfl, Or.inl ⟨by rfl, fun W hW => by go_simp⟩, partsI_yield ?_⟩
  simp only [Act.put, List.setIfInBounds_toArray, List.set_cons_zero, List.set_cons_succ]
  simp only [List.cons_append, List.nil_append, List.append_nil, List.filterMap_cons, List.filterMap_nil, List.getElem?_toArray, List.getElem?_cons_zero, List.getElem?_cons_succ]
  go_wp2_with fail
  refine ⟨rfl, _, .pointer (some ⟨g, 0, none⟩), rfl, Or.inl ⟨by rfl, fun W hW => by go_simp⟩, partsI_yield ?_⟩
  simp only [Act.put, List.setIfInBounds_toArray, List.set_cons_zero, List.set_cons_succ]
  simp only [List.cons_append, List.nil_append, List.append_nil, List.filterMap_cons, List.filterMap_nil, List.getElem?_toArray, List.getElem?_cons_zero, List.getElem?_cons_succ]
  go_wp2_with fail
  refine ⟨rfl, _, .slice (some ⟨q.gn, 0, none⟩) N N, rfl, Or.inl ⟨by rfl, fun W hW => by have := HC0.out W hW; go_simp⟩, partsI_yield ?_⟩
  simp only [Act.put, List.setIfInBounds_toArray, List.set_cons_zero, List.set_cons_succ]
  simp only [List.cons_append, List.nil_append, List.append_nil, List.filterMap_cons, List.filterMap_nil, List.getElem?_toArray, List.getElem?_cons_zero, List.getElem?_cons_succ]
  go_wp2_with fail
  refine ⟨rfl, _, .agg (va 256 (iv .u8 (fun j => F (at0 * 256 + j)))), rfl, yieldsIf_load_mid (by rfl) 55 _ (by rfl) (q.gn) (at0 * 256) (by rfl) ((List.range 256).map (iv .u8 (fun j => F (at0 * 256 + j)))) _ (fun W hW => HR0.out W hW) Try.underlying55 rfl (sizeBk.trans (by simp)), partsI_force ?_⟩
  simp only [Act.put, List.setIfInBounds_toArray, List.set_cons_zero, List.set_cons_succ]
  simp only [List.cons_append, List.nil_append, List.append_nil, List.filterMap_cons, List.filterMap_nil, List.getElem?_toArray, List.getElem?_cons_zero, List.getElem?_cons_succ]
  (refine wpList_load_rowg (by rfl) 55 _ (by rfl) (w.heap.size) (by rfl) 55 (va 256 (iv .u8 b)) (0, 0) _ r1 Try.underlying55 (by rfl) (sizeBk.trans (by rw [va_size])) ?_; simp only [Act.put, List.setIfInBounds_toArray, List.set_cons_zero, List.set_cons_succ])
  go_wp2_with fail
  refine ⟨rfl, hS, partsI_force ?_⟩
  simp only [List.cons_append, List.nil_append, List.append_nil, List.filterMap_cons, List.filterMap_nil, List.getElem?_toArray, List.getElem?_cons_zero, List.getElem?_cons_succ]
  go_wp2_with fail
  refine ⟨rfl, hS, partsI_last ?_⟩
  simp only [List.cons_append, List.nil_append, List.append_nil, List.filterMap_cons, List.filterMap_nil, List.getElem?_toArray, List.getElem?_cons_zero, List.getElem?_cons_succ]
  go_wp2_with fail
  refine ⟨rfl, ?_⟩
  go_wp2_with fail
  have r2 : Blk w1.drew w.heap.size 55 (va 256 (iv .u8 b)) := r1.drew
  have HQ2 : Hid (DiskQ w1.drew B g N F k lg q) := HQ1.out.below (Below.refl _ _).drew
  have HM2 : Hid (Moved g N q q w w1.drew) := HM1.out.trans (.of_below (Below.refl _ _).drew)
  have hs2 : w.heap.size < w1.drew.heap.size := hs1
  clear HC0 HR0 r1 HQ1 HM1 hS hs1
  generalize w1.drew = w2 at *
  have HC2 : Hid (∀ W, Below w2.heap.size w2 W → W.cell? ⟨g, 0, none⟩ = some (.slice (some ⟨q.gn, 0, none⟩) N N)) := fun W hW => by rw [(HQ2.out.below hW).c]; rfl
  refine wp_region_partsI [] [([0, 4], 1, true), ([], 2, true), ([], 3, true), ([], 5, false)] [6] [7] (w2.heap.size) (by kernel_rfl) (by kernel_rfl) (fun _ hx => nomatch hx) (partsI_yield ?_)
  simp only [List.cons_append, List.nil_append, List.append_nil, List.filterMap_cons, List.filterMap_nil, List.getElem?_toArray, List.getElem?_cons_zero, List.getElem?_cons_succ]
  have hS : Below (w2.heap.size) w2 w2.drew := (Below.refl _ _).drew
  go_wp2_with fail
  refine ⟨rfl, _, .pointer (some ⟨g, 0, none⟩), rfl, Or.inl ⟨by rfl, fun W hW => by go_simp⟩, partsI_yield ?_⟩
  simp only [Act.put, List.setIfInBounds_toArray, List.set_cons_zero, List.set_cons_succ]
  simp only [List.cons_append, List.nil_append, List.append_nil, List.filterMap_cons, List.filterMap_nil, List.getElem?_toArray, List.getElem?_cons_zero, List.getElem?_cons_succ]
  go_wp2_with fail
  refine ⟨rfl, _, .pointer (some ⟨g, 0, none⟩), rfl, Or.inl ⟨by rfl, fun W hW => by go_simp⟩, partsI_yield ?_⟩
  simp only [Act.put, List.setIfInBounds_toArray, List.set_cons_zero, List.set_cons_succ]
  simp only [List.cons_append, List.nil_append, List.append_nil, List.filterMap_cons, List.filterMap_nil, List.getElem?_toArray, List.getElem?_cons_zero, List.getElem?_cons_succ]
  go_wp2_with fail
  refine ⟨rfl, _, .slice (some ⟨q.gn, 0, none⟩) N N, rfl, Or.inl ⟨by rfl, fun W hW => by have := HC2.out W hW; go_simp⟩, partsI_force ?_⟩
  simp only [Act.put, List.setIfInBounds_toArray, List.set_cons_zero, List.set_cons_succ]
  simp only [List.cons_append, List.nil_append, List.append_nil, List.filterMap_cons, List.filterMap_nil, List.getElem?_toArray, List.getElem?_cons_zero, List.getElem?_cons_succ]
  (refine wpList_load_rowg (by rfl) 55 _ (by rfl) (w.heap.size) (by rfl) 55 (va 256 (iv .u8 b)) (0, 0) _ r2 Try.underlying55 (by rfl) (sizeBk.trans (by rw [va_size])) ?_; simp only [Act.put, List.setIfInBounds_toArray, List.set_cons_zero, List.set_cons_succ])
  go_wp2_with fail
  refine ⟨rfl, hS, partsI_last ?_⟩
  simp only [List.cons_append, List.nil_append, List.append_nil, List.filterMap_cons, List.filterMap_nil, List.getElem?_toArray, List.getElem?_cons_zero, List.getElem?_cons_succ]
  have hst := HQ2.out.now.drew.storeMid (P := Try.prog) (o := at0 * 256) (n := 256) b (by omega)
  have hvs := va_size 256 (iv .u8 b)
  go_wp2_with fail
  refine ⟨rfl, ?_⟩
  have hn3 : Blk (w2.drew.setRow q.gn (va (N * 256) (iv .u8 (putAt F (at0 * 256) 256 b)))) q.gn 55 (va (N * 256) (iv .u8 (putAt F (at0 * 256) 256 b))) := HQ2.out.now.drew.set _
  have HQ3 : Hid (DiskQ (w2.drew.setRow q.gn (va (N * 256) (iv .u8 (putAt F (at0 * 256) 256 b)))) B g N (putAt F (at0 * 256) 256 b) k lg q) := HQ2.out.renow hn3 fun z hz => setRow_other w2.drew q.gn z _ hz
  have HM3 : Hid (Moved g N q q w (w2.drew.setRow q.gn (va (N * 256) (iv .u8 (putAt F (at0 * 256) 256 b))))) := HM2.out.trans ⟨⟨rfl, rfl, rfl, by rw [setRow_size]; exact Nat.le_refl _, fun z hz hf => setRow_other w2.drew q.gn z _ fun e => hf (.inr (.inl e))⟩, fun z hz => .inl hz⟩
  have r3 : Blk (w2.drew.setRow q.gn (va (N * 256) (iv .u8 (putAt F (at0 * 256) 256 b)))) w.heap.size 55 (va 256 (iv .u8 b)) := r2.drew.other _ (by omega)
  have hs3 : w.heap.size < (w2.drew.setRow q.gn (va (N * 256) (iv .u8 (putAt F (at0 * 256) 256 b)))).heap.size := r3.lt
  clear hst hn3 HC2 HQ2 HM2 r2 hS hs2
  generalize w2.drew.setRow q.gn (va (N * 256) (iv .u8 (putAt F (at0 * 256) 256 b))) = w3 at *
  have HC3 : Hid (∀ W, Below w3.heap.size w3 W → W.cell? ⟨g, 1, none⟩ = some (.map (some q.r)) ∧ W.cell? ⟨g, 2, none⟩ = some q.sv ∧ W.cell? ⟨g, 6, none⟩ = some (.int .i64 (k : Int))) := fun W hW => ⟨by rw [(HQ3.out.below hW).c]; rfl, by rw [(HQ3.out.below hW).c]; rfl, by rw [(HQ3.out.below hW).c]; rfl⟩
  go_wp2_with fail
  refine wp_region_partsI [] [([0, 4, 8], 1, true), ([], 2, true), ([], 3, true), ([], 5, true), ([], 6, true), ([], 7, true), ([], 9, false)] [] [10] (w3.heap.size) (by kernel_rfl) (by kernel_rfl) (fun _ hx => nomatch hx) (partsI_yield ?_)
  simp only [List.cons_append, List.nil_append, List.append_nil, List.filterMap_cons, List.filterMap_nil, List.getElem?_toArray, List.getElem?_cons_zero, List.getElem?_cons_succ]
  have hS : Below (w3.heap.size) w3 w3.drew := (Below.refl _ _).drew
  go_wp2_with fail
  refine ⟨rfl, _, .pointer (some ⟨g, 0, none⟩), rfl, Or.inl ⟨by rfl, fun W hW => by go_simp⟩, partsI_yield ?_⟩
  simp only [Act.put, List.setIfInBounds_toArray, List.set_cons_zero, List.set_cons_succ]
  simp only [List.cons_append, List.nil_append, List.append_nil, List.filterMap_cons, List.filterMap_nil, List.getElem?_toArray, List.getElem?_cons_zero, List.getElem?_cons_succ]
  go_wp2_with fail
  refine ⟨rfl, _, .pointer (some ⟨g, 1, none⟩), rfl, Or.inl ⟨by rfl, fun W hW => by go_simp⟩, partsI_yield ?_⟩
  simp only [Act.put, List.setIfInBounds_toArray, List.set_cons_zero, List.set_cons_succ]
  simp only [List.cons_append, List.nil_append, List.append_nil, List.filterMap_cons, List.filterMap_nil, List.getElem?_toArray, List.getElem?_cons_zero, List.getElem?_cons_succ]
  go_wp2_with fail
  refine ⟨rfl, _, .agg #[.map (some q.r), q.sv], rfl, Or.inl ⟨by rfl, fun W hW => by obtain ⟨hWa, hWb, hWc⟩ := HC3.out W hW; go_simp⟩, partsI_yield ?_⟩
  simp only [Act.put, List.setIfInBounds_toArray, List.set_cons_zero, List.set_cons_succ]
  simp only [List.cons_append, List.nil_append, List.append_nil, List.filterMap_cons, List.filterMap_nil, List.getElem?_toArray, List.getElem?_cons_zero, List.getElem?_cons_succ]
  go_wp2_with fail
  refine ⟨rfl, _, .pointer (some ⟨g, 0, none⟩), rfl, Or.inl ⟨by rfl, fun W hW => by go_simp⟩, partsI_yield ?_⟩
  simp only [Act.put, List.setIfInBounds_toArray, List.set_cons_zero, List.set_cons_succ]
  simp only [List.cons_append, List.nil_append, List.append_nil, List.filterMap_cons, List.filterMap_nil, List.getElem?_toArray, List.getElem?_cons_zero, List.getElem?_cons_succ]
  go_wp2_with fail
  refine ⟨rfl, _, .pointer (some ⟨g, 6, none⟩), rfl, Or.inl ⟨by rfl, fun W hW => by go_simp⟩, partsI_yield ?_⟩
  simp only [Act.put, List.setIfInBounds_toArray, List.set_cons_zero, List.set_cons_succ]
  simp only [List.cons_append, List.nil_append, List.append_nil, List.filterMap_cons, List.filterMap_nil, List.getElem?_toArray, List.getElem?_cons_zero, List.getElem?_cons_succ]
  go_wp2_with fail
  refine ⟨rfl, _, .int .i64 (k : Int), rfl, Or.inl ⟨by rfl, fun W hW => by obtain ⟨hWa, hWb, hWc⟩ := HC3.out W hW; go_simp⟩, partsI_force ?_⟩
  simp only [Act.put, List.setIfInBounds_toArray, List.set_cons_zero, List.set_cons_succ]
  simp only [List.cons_append, List.nil_append, List.append_nil, List.filterMap_cons, List.filterMap_nil, List.getElem?_toArray, List.getElem?_cons_zero, List.getElem?_cons_succ]
  (refine wpList_load_rowg (by rfl) 55 _ (by rfl) (w.heap.size) (by rfl) 55 (va 256 (iv .u8 b)) (0, 0) _ r3 Try.underlying55 (by rfl) (sizeBk.trans (by rw [va_size])) ?_; simp only [Act.put, List.setIfInBounds_toArray, List.set_cons_zero, List.set_cons_succ])
  go_wp2_with fail
  refine ⟨rfl, hS, partsI_last ?_⟩
  simp only [List.cons_append, List.nil_append, List.append_nil, List.filterMap_cons, List.filterMap_nil, List.getElem?_toArray, List.getElem?_cons_zero, List.getElem?_cons_succ]
  go_wp2_with fail
  have hm := HQ3.out.many
  have HG0 : Hid (∀ j, j < N → q.G.length = N) := fun _ _ => hm
  refine (keep_new B q.r k at0 q.sv q.G q.ss q.l b (by omega) (by omega) (by have := hsh at0; omega) hnew w3.drew (by have := HW.out; show B ≤ w3.heap.size; omega) (HQ3.out.below (Below.refl _ _).drew).map (HQ3.out.below (Below.refl _ _).drew).steps).mono ?_
  rintro e w4 ⟨rfl, s', hM4, hG4, hs4, hT4⟩
  have hsl := HQ3.out.steps.len
  have hlen4 : (q.G.set at0 (q.G.getD at0 [] ++ [k])).length = N := by simp [hm]
  have hss : ∀ j, (q.ss.set at0 s').getD j undef = if j = at0 then s' else q.ss.getD j undef := fun j => by
    by_cases hj : j = at0
    · subst hj
      rw [if_pos rfl]
      simp [List.getD, show j < q.ss.length by omega]
    · rw [if_neg hj]
      simp [List.getD, List.getElem?_set_ne (Ne.symm hj)]
  have HAP : Hid (∀ j, j < N → ∀ z, ((q.ss.set at0 s').getD j undef).ownBlock = some z → (∃ i, i < N ∧ (q.ss.getD i undef).ownBlock = some z) ∨ w3.heap.size ≤ z) := fun j hj z hz => by
    rw [hss j] at hz
    by_cases hj2 : j = at0
    · rw [if_pos hj2] at hz
      rcases hs4 with h1 | ⟨y, h1, h2⟩
      · exact .inl ⟨at0, hat, by rw [← h1]; exact hz⟩
      · rw [h1] at hz
        injection hz with hz
        exact .inr (by subst hz; exact h2)
    · rw [if_neg hj2] at hz
      exact .inl ⟨j, hj, hz⟩
  have HQ4 : Hid (DiskQ w4 B g N (putAt F (at0 * 256) 256 b) k lg { q with l := q.l ++ [(((k : Int), (at0 : Int)), blkD b)], G := q.G.set at0 (q.G.getD at0 [] ++ [k]), ss := q.ss.set at0 s' }) := by
    refine HQ3.out.repast hM4 (fun p hp => ?_) hG4 hlen4 (fun j => ?_) HAP.out fun z hz h1 h2 h3 => hT4.block z hz ?_
    · rcases List.mem_append.1 hp with hp | hp
      · exact HQ3.out.keys p hp
      · simp at hp
        subst hp
        exact Int.le_refl _
    · by_cases hj : j = at0
      · subst hj
        have := hsh j
        simp [List.getD, hm, hat] at this ⊢
        omega
      · have := hsh j
        simp [List.getD, List.getElem?_set_ne (Ne.symm hj)] at this ⊢
        omega
    · rintro (e | e | e)
      · exact h1 e
      · exact h2 e
      · exact h3 at0 hat e
  have HM4 : Hid (Moved g N q { q with l := q.l ++ [(((k : Int), (at0 : Int)), blkD b)], G := q.G.set at0 (q.G.getD at0 [] ++ [k]), ss := q.ss.set at0 s' } w w4) := by
    refine HM3.out.trans ⟨⟨hT4.os, hT4.tape, hT4.output, hT4.size, fun z hz hf => hT4.block z hz ?_⟩, fun z hz => ?_⟩
    · rintro (e | e | e)
      · exact hf (.inr (.inr (.inl e)))
      · exact hf (.inr (.inr (.inr (.inl e))))
      · exact hf (.inr (.inr (.inr (.inr (.inr (.inr ⟨at0, hat, e⟩))))))
    · rcases hz with e | e | e | e | e | e | ⟨j, hj, e⟩
      · exact .inl (.inl e)
      · exact .inl (.inr (.inl e))
      · exact .inl (.inr (.inr (.inl e)))
      · exact .inl (.inr (.inr (.inr (.inl e))))
      · exact .inl (.inr (.inr (.inr (.inr (.inl e)))))
      · exact .inl (.inr (.inr (.inr (.inr (.inr (.inl e))))))
      · rcases HAP.out j hj z e with ⟨i, hi, e2⟩ | e2
        · exact .inl (.inr (.inr (.inr (.inr (.inr (.inr ⟨i, hi, e2⟩))))))
        · exact .inr e2
  clear hM4 hG4 hs4 hT4 hss HAP hlen4 hsl HG0 hm
  go_wp2_with fail
  refine ⟨rfl, ?_⟩
  try simp only [Exit.inBlock, Exit.then]
  refine bodyPost_end (results_none Try.results45 _ _ _) rfl ?_
  exact ⟨rfl, _, _, _, HQ4.out, HM4.out⟩
theorem lay_q (at0 : Nat) (b : Nat → Nat) (hat : at0 < N) (hN : N ≤ 8192) (hnew : findIn ((k : Int), (at0 : Int)) q.l = none) (hsh : ∀ j, (q.G.getD j []).length < k) (hk : k < 1099511627776) (w : World) (hB : B ≤ w.heap.size) (h : DiskQ w B g N F k lg q) :
    Calls Try.prog 45 #[.pointer (some ⟨g, 0, none⟩), .int .i64 (at0 : Int), .agg (va 256 (iv .u8 b))] w fun e w' => e = .returned (.tuple #[]) ∧ ∃ l G ss, DiskQ w' B g N (putAt F (at0 * 256) 256 b) k lg { q with l := l, G := G, ss := ss } ∧ Moved g N q { q with l := l, G := G, ss := ss } w w' := by
  by_cases he : bkSame (fun j => F (at0 * 256 + j)) b
  · refine (lay_same at0 b hat hN he w h).mono ?_
    rintro e w' ⟨rfl, h1, h2⟩
    exact ⟨rfl, q.l, q.G, q.ss, h1.same (putAt_self N at0 F b he), h2⟩
  · exact lay_other at0 b hat hN he hnew hsh hk w hB h
end
end Go.Proofs.Ytkhfggmjhpbajaa
