/- A block of a quiet disk written: the program's contract of Write. -/
import Derived.Test.YtdhbjcnbdfidcaaHDkKeep
import Derived.Handy

namespace Go.Proofs.Ytdhbjcnbdfidcaa
open Go Go.RowKit
set_option linter.unusedSimpArgs false
set_option linter.unusedVariables false

theorem putAt_self (N at0 : Nat) (F b : Nat → Nat) (h : bkSame (fun j => F (at0 * 256 + j)) b) : va (N * 256) (iv .u8 (putAt F (at0 * 256) 256 b)) = va (N * 256) (iv .u8 F) := va_congr fun i _ => by
  unfold iv putAt
  by_cases hi : at0 * 256 ≤ i ∧ i < at0 * 256 + 256
  · rw [if_pos hi, ← h (i - at0 * 256) (by omega)]
    show Value.int _ ((F (at0 * 256 + (i - at0 * 256)) : Nat) : Int) = _
    rw [show at0 * 256 + (i - at0 * 256) = i by omega]
  · rw [if_neg hi]
theorem over_put (n o : Nat) (F b : Nat → Nat) : va n (over (iv .u8 F) o (va 256 (iv .u8 b)).toList) = va n (iv .u8 (putAt F o 256 b)) := va_congr fun i _ => by
  unfold over putAt iv
  rw [va_toList]
  simp only [List.length_map, List.length_range]
  by_cases hi : o ≤ i ∧ i < o + 256
  · rw [if_pos hi, if_pos hi, List.getD_eq_getElem?_getD, List.getElem?_map, List.getElem?_range (by omega)]
    rfl
  · rw [if_neg hi, if_neg hi]
theorem va_byL (b : Nat → Nat) (n : Nat) : (va n (iv .u8 b)).toList = byL b n := va_toList _ _
theorem Blk.storeMid {P : Program} {w : World} {g t M o n : Nat} {F : Nat → Nat} (h : Blk w g t (va M (iv .u8 F))) (b : Nat → Nat) (ho : o + n ≤ M) : (storeCells ⟨g, o, none⟩ (va n (iv .u8 b)).toList).run P w = .ok () (w.setRow g (va M (iv .u8 (putAt F o n b)))) := by
  have h1 := run_storeCells_at (P := P) g o t (byL b n) 0 (va M (iv .u8 F)) w h (by rw [byL_length, va_size]; omega) (mem_iv_one _ _ _)
  rw [va_byL]
  refine h1.trans ?_
  rw [← splice_put M o n F b ho]
  unfold splice
  rw [List.append_assoc, Nat.add_zero]
section
variable {B g N k lg : Nat} {F : Nat → Nat} {q : QD}
theorem DiskQ.same {w : World} {F' : Nat → Nat} (h : DiskQ w B g N F k lg q) (e : va (N * 256) (iv .u8 F') = va (N * 256) (iv .u8 F)) : DiskQ w B g N F' k lg q := h.renow (by rw [e]; exact h.now) fun _ _ => rfl
set_option maxRecDepth 100000 in
set_option maxHeartbeats 8000000 in
theorem lay_same (at0 : Nat) (b : Nat → Nat) (hat : at0 < N) (hN : N ≤ 8192) (he : bkSame (fun j => F (at0 * 256 + j)) b) (w : World) (h : DiskQ w B g N F k lg q) :
    Calls Try.prog 36 #[.pointer (some ⟨g, 0, none⟩), .int .i64 (at0 : Int), .agg (va 256 (iv .u8 b))] w fun e w' => e = .returned (.tuple #[]) ∧ DiskQ w' B g N F k lg q ∧ Moved g N q q w w' := by
  have hz := zero_bk
  have j0 : (0 : Int) ≤ (at0 : Int) := by omega
  have j1 : (at0 : Int) < (N : Int) := by omega
  have heq : ∀ W, (Op.equalIn 10000 60 (.agg (va 256 (iv .u8 fun j => F (at0 * 256 + j)))) (.agg (va 256 (iv .u8 b)))).run Try.prog W = .ok true W := fun W => by
    have := eq_bk 60 Try.underlying60 (fun j => F (at0 * 256 + j)) b W
    rw [decide_eq_true he] at this
    exact this
  have r1 : Blk (w.alloc (.cells (va 256 (iv .u8 b)) 60)) w.heap.size 60 (va 256 (iv .u8 b)) := Blk.new _ _ _
  have hb1 : Below w.heap.size w (w.alloc (.cells (va 256 (iv .u8 b)) 60)) := below_new1 _ _
  have HQ1 : Hid (DiskQ (w.alloc (.cells (va 256 (iv .u8 b)) 60)) B g N F k lg q) := h.below hb1
  have HM1 : Hid (Moved g N q q w (w.alloc (.cells (va 256 (iv .u8 b)) 60))) := .of_below hb1
  clear h he hb1
  go_enter Try.func36, Try.ntmps36
  go_wp2_with fail
  generalize (w.alloc (.cells (va 256 (iv .u8 b)) 60)) = w1 at *
  have HC0 : Hid (∀ W, Below w1.heap.size w1 W → W.cell? ⟨g, 0, none⟩ = some (.slice (some ⟨q.gn, 0, none⟩) N N)) := fun W hW => by rw [(HQ1.out.below hW).c]; rfl
  have HR0 : Hid (∀ W, Below w1.heap.size w1 W → W.rangeAt q.gn (at0 * 256) ((List.range 256).map (iv .u8 fun j => F (at0 * 256 + j)))) := fun W hW => (HQ1.out.below hW).now.range (at0 * 256) 256 (by omega)
  refine wp_region_partsI [] [([0, 4], 1, true), ([], 2, true), ([], 3, true), ([5], 6, true), ([], 7, false), ([], 8, false)] [] [] (w1.heap.size) (by kernel_rfl) (by kernel_rfl) (fun _ hx => nomatch hx) (partsI_yield ?_)
  simp only [List.cons_append, List.nil_append, List.append_nil, List.filterMap_cons, List.filterMap_nil, List.getElem?_toArray, List.getElem?_cons_zero, List.getElem?_cons_succ]
  have hS : Below (w1.heap.size) w1 w1.drew := (Below.refl _ _).drew
  go_wp2_with fail
  refine ⟨rfl, _, .pointer (some ⟨g, 0, none⟩), rfl, Or.inl ⟨by rfl, fun W hW => by go_simp⟩, partsI_yield ?_⟩
  simp only [Act.put, List.setIfInBounds_toArray, List.set_cons_zero, List.set_cons_succ]
  simp only [List.cons_append, List.nil_append, List.append_nil, List.filterMap_cons, List.filterMap_nil, List.getElem?_toArray, List.getElem?_cons_zero, List.getElem?_cons_succ]
  go_wp2_with fail
  refine ⟨rfl, _, .pointer (some ⟨g, 0, none⟩), rfl, Or.inl ⟨by rfl, fun W hW => by go_simp⟩, partsI_yield ?_⟩
  simp only [Act.put, List.setIfInBounds_toArray, List.set_cons_zero, List.set_cons_succ]
  simp only [List.cons_append, List.nil_append, List.append_nil, List.filterMap_cons, List.filterMap_nil, List.getElem?_toArray, List.getElem?_cons_zero, List.getElem?_cons_succ]
  go_wp2_with fail
  refine ⟨rfl, _, .slice (some ⟨q.gn, 0, none⟩) N N, rfl, Or.inl ⟨by rfl, fun W hW => by have := HC0.out W hW; go_simp⟩, partsI_yield ?_⟩
  simp only [Act.put, List.setIfInBounds_toArray, List.set_cons_zero, List.set_cons_succ]
  simp only [List.cons_append, List.nil_append, List.append_nil, List.filterMap_cons, List.filterMap_nil, List.getElem?_toArray, List.getElem?_cons_zero, List.getElem?_cons_succ]
  go_wp2_with fail
  refine ⟨rfl, _, .agg (va 256 (iv .u8 (fun j => F (at0 * 256 + j)))), rfl, yieldsIf_load_mid (by rfl) 60 _ (by rfl) (q.gn) (at0 * 256) (by rfl) ((List.range 256).map (iv .u8 (fun j => F (at0 * 256 + j)))) _ (fun W hW => HR0.out W hW) Try.underlying60 rfl (sizeBk.trans (by simp)), partsI_force ?_⟩
  simp only [Act.put, List.setIfInBounds_toArray, List.set_cons_zero, List.set_cons_succ]
  simp only [List.cons_append, List.nil_append, List.append_nil, List.filterMap_cons, List.filterMap_nil, List.getElem?_toArray, List.getElem?_cons_zero, List.getElem?_cons_succ]
  (refine wpList_load_rowg (by rfl) 60 _ (by rfl) (w.heap.size) (by rfl) 60 (va 256 (iv .u8 b)) (0, 0) _ r1 Try.underlying60 (by rfl) (sizeBk.trans (by rw [va_size])) ?_; simp only [Act.put, List.setIfInBounds_toArray, List.set_cons_zero, List.set_cons_succ])
  go_wp2_with fail
  refine ⟨rfl, hS, partsI_force ?_⟩
  simp only [List.cons_append, List.nil_append, List.append_nil, List.filterMap_cons, List.filterMap_nil, List.getElem?_toArray, List.getElem?_cons_zero, List.getElem?_cons_succ]
  go_wp2_with fail
  refine ⟨rfl, hS, partsI_last ?_⟩
  simp only [List.cons_append, List.nil_append, List.append_nil, List.filterMap_cons, List.filterMap_nil, List.getElem?_toArray, List.getElem?_cons_zero, List.getElem?_cons_succ]
  go_wp2_with fail
  refine ⟨rfl, ?_⟩
  go_wp2_with fail
  try simp only [Exit.inBlock, Exit.then]
  refine bodyPost_ret (results_none Try.results36 _ _ _) rfl ?_
  exact ⟨rfl, HQ1.out.below (Below.refl _ _).drew, HM1.out.trans (.of_below (Below.refl _ _).drew)⟩
set_option maxRecDepth 100000 in
set_option maxHeartbeats 8000000 in
theorem lay_other (at0 : Nat) (b : Nat → Nat) (hat : at0 < N) (hN : N ≤ 8192) (he : ¬ bkSame (fun j => F (at0 * 256 + j)) b) (hnew : findIn ((k : Int), (at0 : Int)) q.l = none) (hsh : ∀ j, (q.G.getD j []).length < k) (hk : k < 1099511627776) (w : World) (hB : B ≤ w.heap.size) (h : DiskQ w B g N F k lg q) :
    Calls Try.prog 36 #[.pointer (some ⟨g, 0, none⟩), .int .i64 (at0 : Int), .agg (va 256 (iv .u8 b))] w fun e w' => e = .returned (.tuple #[]) ∧ ∃ l G ss, DiskQ w' B g N (putAt F (at0 * 256) 256 b) k lg { q with l := l, G := G, ss := ss } ∧ Moved g N q { q with l := l, G := G, ss := ss } w w' := by
  have hz := zero_bk
  have j0 : (0 : Int) ≤ (at0 : Int) := by omega
  have j1 : (at0 : Int) < (N : Int) := by omega
  have heq : ∀ W, (Op.equalIn 10000 60 (.agg (va 256 (iv .u8 fun j => F (at0 * 256 + j)))) (.agg (va 256 (iv .u8 b)))).run Try.prog W = .ok false W := fun W => by
    have := eq_bk 60 Try.underlying60 (fun j => F (at0 * 256 + j)) b W
    rw [decide_eq_false he] at this
    exact this
  have r1 : Blk (w.alloc (.cells (va 256 (iv .u8 b)) 60)) w.heap.size 60 (va 256 (iv .u8 b)) := Blk.new _ _ _
  have hb1 : Below w.heap.size w (w.alloc (.cells (va 256 (iv .u8 b)) 60)) := below_new1 _ _
  have HQ1 : Hid (DiskQ (w.alloc (.cells (va 256 (iv .u8 b)) 60)) B g N F k lg q) := h.below hb1
  have HM1 : Hid (Moved g N q q w (w.alloc (.cells (va 256 (iv .u8 b)) 60))) := .of_below hb1
  have hgl : q.gn < w.heap.size := h.now.lt
  have HW : Hid (B ≤ w.heap.size) := hB
  clear h he hb1 hB
  go_enter Try.func36, Try.ntmps36
  go_wp2_with fail
  have hs1 : w.heap.size < (w.alloc (.cells (va 256 (iv .u8 b)) 60)).heap.size := by simp
  generalize (w.alloc (.cells (va 256 (iv .u8 b)) 60)) = w1 at *
  have HC0 : Hid (∀ W, Below w1.heap.size w1 W → W.cell? ⟨g, 0, none⟩ = some (.slice (some ⟨q.gn, 0, none⟩) N N)) := fun W hW => by rw [(HQ1.out.below hW).c]; rfl
  have HR0 : Hid (∀ W, Below w1.heap.size w1 W → W.rangeAt q.gn (at0 * 256) ((List.range 256).map (iv .u8 fun j => F (at0 * 256 + j)))) := fun W hW => (HQ1.out.below hW).now.range (at0 * 256) 256 (by omega)
  refine wp_region_partsI [] [([0, 4], 1, true), ([], 2, true), ([], 3, true), ([5], 6, true), ([], 7, false), ([], 8, false)] [] [] (w1.heap.size) (by kernel_rfl) (by kernel_rfl) (fun _ hx => nomatch hx) (partsI_yield ?_)
  simp only [List.cons_append, List.nil_append, List.append_nil, List.filterMap_cons, List.filterMap_nil, List.getElem?_toArray, List.getElem?_cons_zero, List.getElem?_cons_succ]
  have hS : Below (w1.heap.size) w1 w1.drew := (Below.refl _ _).drew
  go_wp2_with fail
  refine ⟨rfl, _, .pointer (some ⟨g, 0, none⟩), rfl, Or.inl ⟨by rfl, fun W hW => by go_simp⟩, partsI_yield ?_⟩
  simp only [Act.put, List.setIfInBounds_toArray, List.set_cons_zero, List.set_cons_succ]
  simp only [List.cons_append, List.nil_append, List.append_nil, List.filterMap_cons, List.filterMap_nil, List.getElem?_toArray, List.getElem?_cons_zero, List.getElem?_cons_succ]
  go_wp2_with fail
  refine ⟨rfl, _, .pointer (some ⟨g, 0, none⟩), rfl, Or.inl ⟨by rfl, fun W hW => by go_simp⟩, partsI_yield ?_⟩
  simp only [Act.put, List.setIfInBounds_toArray, List.set_cons_zero, List.set_cons_succ]
  simp only [List.cons_append, List.nil_append, List.append_nil, List.filterMap_cons, List.filterMap_nil, List.getElem?_toArray, List.getElem?_cons_zero, List.getElem?_cons_succ]
  go_wp2_with fail
  refine ⟨rfl, _, .slice (some ⟨q.gn, 0, none⟩) N N, rfl, Or.inl ⟨by rfl, fun W hW => by have := HC0.out W hW; go_simp⟩, partsI_yield ?_⟩
  simp only [Act.put, List.setIfInBounds_toArray, List.set_cons_zero, List.set_cons_succ]
  simp only [List.cons_append, List.nil_append, List.append_nil, List.filterMap_cons, List.filterMap_nil, List.getElem?_toArray, List.getElem?_cons_zero, List.getElem?_cons_succ]
  go_wp2_with fail
  refine ⟨rfl, _, .agg (va 256 (iv .u8 (fun j => F (at0 * 256 + j)))), rfl, yieldsIf_load_mid (by rfl) 60 _ (by rfl) (q.gn) (at0 * 256) (by rfl) ((List.range 256).map (iv .u8 (fun j => F (at0 * 256 + j)))) _ (fun W hW => HR0.out W hW) Try.underlying60 rfl (sizeBk.trans (by simp)), partsI_force ?_⟩
  simp only [Act.put, List.setIfInBounds_toArray, List.set_cons_zero, List.set_cons_succ]
  simp only [List.cons_append, List.nil_append, List.append_nil, List.filterMap_cons, List.filterMap_nil, List.getElem?_toArray, List.getElem?_cons_zero, List.getElem?_cons_succ]
  (refine wpList_load_rowg (by rfl) 60 _ (by rfl) (w.heap.size) (by rfl) 60 (va 256 (iv .u8 b)) (0, 0) _ r1 Try.underlying60 (by rfl) (sizeBk.trans (by rw [va_size])) ?_; simp only [Act.put, List.setIfInBounds_toArray, List.set_cons_zero, List.set_cons_succ])
  go_wp2_with fail
  refine ⟨rfl, hS, partsI_force ?_⟩
  simp only [List.cons_append, List.nil_append, List.append_nil, List.filterMap_cons, List.filterMap_nil, List.getElem?_toArray, List.getElem?_cons_zero, List.getElem?_cons_succ]
  go_wp2_with fail
  refine ⟨rfl, hS, partsI_last ?_⟩
  simp only [List.cons_append, List.nil_append, List.append_nil, List.filterMap_cons, List.filterMap_nil, List.getElem?_toArray, List.getElem?_cons_zero, List.getElem?_cons_succ]
  go_wp2_with fail
  refine ⟨rfl, ?_⟩
  go_wp2_with fail
  have r2 : Blk w1.drew w.heap.size 60 (va 256 (iv .u8 b)) := r1.drew
  have HQ2 : Hid (DiskQ w1.drew B g N F k lg q) := HQ1.out.below (Below.refl _ _).drew
  have HM2 : Hid (Moved g N q q w w1.drew) := HM1.out.trans (.of_below (Below.refl _ _).drew)
  have hs2 : w.heap.size < w1.drew.heap.size := hs1
  clear HC0 HR0 r1 HQ1 HM1 hS hs1
  generalize w1.drew = w2 at *
  have HC2 : Hid (∀ W, Below w2.heap.size w2 W → W.cell? ⟨g, 0, none⟩ = some (.slice (some ⟨q.gn, 0, none⟩) N N)) := fun W hW => by rw [(HQ2.out.below hW).c]; rfl
  refine wp_region_partsI [] [([0, 4], 1, true), ([], 2, true), ([], 3, true), ([], 5, false)] [6] [7] (w2.heap.size) (by kernel_rfl) (by kernel_rfl) (fun _ hx => nomatch hx) (partsI_yield ?_)
  simp only [List.cons_append, List.nil_append, List.append_nil, List.filterMap_cons, List.filterMap_nil, List.getElem?_toArray, List.getElem?_cons_zero, List.getElem?_cons_succ]
  have hS : Below (w2.heap.size) w2 w2.drew := (Below.refl _ _).drew
  go_wp2_with fail
  refine ⟨rfl, _, .pointer (some ⟨g, 0, none⟩), rfl, Or.inl ⟨by rfl, fun W hW => by go_simp⟩, partsI_yield ?_⟩
  simp only [Act.put, List.setIfInBounds_toArray, List.set_cons_zero, List.set_cons_succ]
  simp only [List.cons_append, List.nil_append, List.append_nil, List.filterMap_cons, List.filterMap_nil, List.getElem?_toArray, List.getElem?_cons_zero, List.getElem?_cons_succ]
  go_wp2_with fail
  refine ⟨rfl, _, .pointer (some ⟨g, 0, none⟩), rfl, Or.inl ⟨by rfl, fun W hW => by go_simp⟩, partsI_yield ?_⟩
  simp only [Act.put, List.setIfInBounds_toArray, List.set_cons_zero, List.set_cons_succ]
  simp only [List.cons_append, List.nil_append, List.append_nil, List.filterMap_cons, List.filterMap_nil, List.getElem?_toArray, List.getElem?_cons_zero, List.getElem?_cons_succ]
  go_wp2_with fail
  refine ⟨rfl, _, .slice (some ⟨q.gn, 0, none⟩) N N, rfl, Or.inl ⟨by rfl, fun W hW => by have := HC2.out W hW; go_simp⟩, partsI_force ?_⟩
  simp only [Act.put, List.setIfInBounds_toArray, List.set_cons_zero, List.set_cons_succ]
  simp only [List.cons_append, List.nil_append, List.append_nil, List.filterMap_cons, List.filterMap_nil, List.getElem?_toArray, List.getElem?_cons_zero, List.getElem?_cons_succ]
  (refine wpList_load_rowg (by rfl) 60 _ (by rfl) (w.heap.size) (by rfl) 60 (va 256 (iv .u8 b)) (0, 0) _ r2 Try.underlying60 (by rfl) (sizeBk.trans (by rw [va_size])) ?_; simp only [Act.put, List.setIfInBounds_toArray, List.set_cons_zero, List.set_cons_succ])
  go_wp2_with fail
  refine ⟨rfl, hS, partsI_last ?_⟩
  simp only [List.cons_append, List.nil_append, List.append_nil, List.filterMap_cons, List.filterMap_nil, List.getElem?_toArray, List.getElem?_cons_zero, List.getElem?_cons_succ]
  have hst := HQ2.out.now.drew.storeMid (P := Try.prog) (o := at0 * 256) (n := 256) b (by omega)
  have hvs := va_size 256 (iv .u8 b)
  go_wp2_with fail
  refine ⟨rfl, ?_⟩
  have hn3 : Blk (w2.drew.setRow q.gn (va (N * 256) (iv .u8 (putAt F (at0 * 256) 256 b)))) q.gn 60 (va (N * 256) (iv .u8 (putAt F (at0 * 256) 256 b))) := HQ2.out.now.drew.set _
  have HQ3 : Hid (DiskQ (w2.drew.setRow q.gn (va (N * 256) (iv .u8 (putAt F (at0 * 256) 256 b)))) B g N (putAt F (at0 * 256) 256 b) k lg q) := HQ2.out.renow hn3 fun z hz => setRow_other w2.drew q.gn z _ hz
  have HM3 : Hid (Moved g N q q w (w2.drew.setRow q.gn (va (N * 256) (iv .u8 (putAt F (at0 * 256) 256 b))))) := HM2.out.trans ⟨⟨rfl, rfl, rfl, by rw [setRow_size]; exact Nat.le_refl _, fun z hz hf => setRow_other w2.drew q.gn z _ fun e => hf (.inr (.inl e))⟩, fun z hz => .inl hz⟩
  have r3 : Blk (w2.drew.setRow q.gn (va (N * 256) (iv .u8 (putAt F (at0 * 256) 256 b)))) w.heap.size 60 (va 256 (iv .u8 b)) := r2.drew.other _ (by omega)
  have hs3 : w.heap.size < (w2.drew.setRow q.gn (va (N * 256) (iv .u8 (putAt F (at0 * 256) 256 b)))).heap.size := r3.lt
  clear hst hn3 HC2 HQ2 HM2 r2 hS hs2
  generalize w2.drew.setRow q.gn (va (N * 256) (iv .u8 (putAt F (at0 * 256) 256 b))) = w3 at *
  have HC3 : Hid (∀ W, Below w3.heap.size w3 W → W.cell? ⟨g, 1, none⟩ = some (.map (some q.r)) ∧ W.cell? ⟨g, 2, none⟩ = some q.sv ∧ W.cell? ⟨g, 6, none⟩ = some (.int .i64 (k : Int))) := fun W hW => ⟨by rw [(HQ3.out.below hW).c]; rfl, by rw [(HQ3.out.below hW).c]; rfl, by rw [(HQ3.out.below hW).c]; rfl⟩
  go_wp2_with fail
  refine wp_region_partsI [] [([0, 4, 8], 1, true), ([], 2, true), ([], 3, true), ([], 5, true), ([], 6, true), ([], 7, true), ([], 9, false)] [] [10] (w3.heap.size) (by kernel_rfl) (by kernel_rfl) (fun _ hx => nomatch hx) (partsI_yield ?_)
  simp only [List.cons_append, List.nil_append, List.append_nil, List.filterMap_cons, List.filterMap_nil, List.getElem?_toArray, List.getElem?_cons_zero, List.getElem?_cons_succ]
  have hS : Below (w3.heap.size) w3 w3.drew := (Below.refl _ _).drew
  go_wp2_with fail
  refine ⟨rfl, _, .pointer (some ⟨g, 0, none⟩), rfl, Or.inl ⟨by rfl, fun W hW => by go_simp⟩, partsI_yield ?_⟩
  simp only [Act.put, List.setIfInBounds_toArray, List.set_cons_zero, List.set_cons_succ]
  simp only [List.cons_append, List.nil_append, List.append_nil, List.filterMap_cons, List.filterMap_nil, List.getElem?_toArray, List.getElem?_cons_zero, List.getElem?_cons_succ]
  go_wp2_with fail
  refine ⟨rfl, _, .pointer (some ⟨g, 1, none⟩), rfl, Or.inl ⟨by rfl, fun W hW => by go_simp⟩, partsI_yield ?_⟩
  simp only [Act.put, List.setIfInBounds_toArray, List.set_cons_zero, List.set_cons_succ]
  simp only [List.cons_append, List.nil_append, List.append_nil, List.filterMap_cons, List.filterMap_nil, List.getElem?_toArray, List.getElem?_cons_zero, List.getElem?_cons_succ]
  go_wp2_with fail
  refine ⟨rfl, _, .agg #[.map (some q.r), q.sv], rfl, Or.inl ⟨by rfl, fun W hW => by obtain ⟨hWa, hWb, hWc⟩ := HC3.out W hW; go_simp⟩, partsI_yield ?_⟩
  simp only [Act.put, List.setIfInBounds_toArray, List.set_cons_zero, List.set_cons_succ]
  simp only [List.cons_append, List.nil_append, List.append_nil, List.filterMap_cons, List.filterMap_nil, List.getElem?_toArray, List.getElem?_cons_zero, List.getElem?_cons_succ]
  go_wp2_with fail
  refine ⟨rfl, _, .pointer (some ⟨g, 0, none⟩), rfl, Or.inl ⟨by rfl, fun W hW => by go_simp⟩, partsI_yield ?_⟩
  simp only [Act.put, List.setIfInBounds_toArray, List.set_cons_zero, List.set_cons_succ]
  simp only [List.cons_append, List.nil_append, List.append_nil, List.filterMap_cons, List.filterMap_nil, List.getElem?_toArray, List.getElem?_cons_zero, List.getElem?_cons_succ]
  go_wp2_with fail
  refine ⟨rfl, _, .pointer (some ⟨g, 6, none⟩), rfl, Or.inl ⟨by rfl, fun W hW => by go_simp⟩, partsI_yield ?_⟩
  simp only [Act.put, List.setIfInBounds_toArray, List.set_cons_zero, List.set_cons_succ]
  simp only [List.cons_append, List.nil_append, List.append_nil, List.filterMap_cons, List.filterMap_nil, List.getElem?_toArray, List.getElem?_cons_zero, List.getElem?_cons_succ]
  go_wp2_with fail
  refine ⟨rfl, _, .int .i64 (k : Int), rfl, Or.inl ⟨by rfl, fun W hW => by obtain ⟨hWa, hWb, hWc⟩ := HC3.out W hW; go_simp⟩, partsI_force ?_⟩
  simp only [Act.put, List.setIfInBounds_toArray, List.set_cons_zero, List.set_cons_succ]
  simp only [List.cons_append, List.nil_append, List.append_nil, List.filterMap_cons, List.filterMap_nil, List.getElem?_toArray, List.getElem?_cons_zero, List.getElem?_cons_succ]
  (refine wpList_load_rowg (by rfl) 60 _ (by rfl) (w.heap.size) (by rfl) 60 (va 256 (iv .u8 b)) (0, 0) _ r3 Try.underlying60 (by rfl) (sizeBk.trans (by rw [va_size])) ?_; simp only [Act.put, List.setIfInBounds_toArray, List.set_cons_zero, List.set_cons_succ])
  go_wp2_with fail
  refine ⟨rfl, hS, partsI_last ?_⟩
  simp only [List.cons_append, List.nil_append, List.append_nil, List.filterMap_cons, List.filterMap_nil, List.getElem?_toArray, List.getElem?_cons_zero, List.getElem?_cons_succ]
  go_wp2_with fail
  have hm := HQ3.out.many
  have HG0 : Hid (∀ j, j < N → q.G.length = N) := fun _ _ => hm
  refine (keep_new B q.r k at0 q.sv q.G q.ss q.l b (by omega) (by omega) (by have := hsh at0; omega) hnew w3.drew (by have := HW.out; show B ≤ w3.heap.size; omega) (HQ3.out.below (Below.refl _ _).drew).map (HQ3.out.below (Below.refl _ _).drew).steps).mono ?_
  rintro e w4 ⟨rfl, s', hM4, hG4, hs4, hT4⟩
  have hsl := HQ3.out.steps.len
  have hlen4 : (q.G.set at0 (q.G.getD at0 [] ++ [k])).length = N := by simp [hm]
  have hss : ∀ j, (q.ss.set at0 s').getD j undef = if j = at0 then s' else q.ss.getD j undef := fun j => by
    by_cases hj : j = at0
    · subst hj
      rw [if_pos rfl]
      simp [List.getD, show j < q.ss.length by omega]
    · rw [if_neg hj]
      simp [List.getD, List.getElem?_set_ne (Ne.symm hj)]
  have HAP : Hid (∀ j, j < N → ∀ z, ((q.ss.set at0 s').getD j undef).ownBlock = some z → (∃ i, i < N ∧ (q.ss.getD i undef).ownBlock = some z) ∨ w3.heap.size ≤ z) := fun j hj z hz => by
    rw [hss j] at hz
    by_cases hj2 : j = at0
    · rw [if_pos hj2] at hz
      rcases hs4 with h1 | ⟨y, h1, h2⟩
      · exact .inl ⟨at0, hat, by rw [← h1]; exact hz⟩
      · rw [h1] at hz
        injection hz with hz
        exact .inr (by subst hz; exact h2)
    · rw [if_neg hj2] at hz
      exact .inl ⟨j, hj, hz⟩
  have HQ4 : Hid (DiskQ w4 B g N (putAt F (at0 * 256) 256 b) k lg { q with l := q.l ++ [(((k : Int), (at0 : Int)), blkD b)], G := q.G.set at0 (q.G.getD at0 [] ++ [k]), ss := q.ss.set at0 s' }) := by
    refine HQ3.out.repast hM4 (fun p hp => ?_) hG4 hlen4 (fun j => ?_) HAP.out fun z hz h1 h2 h3 => hT4.block z hz ?_
    · rcases List.mem_append.1 hp with hp | hp
      · exact HQ3.out.keys p hp
      · simp at hp
        subst hp
        exact Int.le_refl _
    · by_cases hj : j = at0
      · subst hj
        have := hsh j
        simp [List.getD, hm, hat] at this ⊢
        omega
      · have := hsh j
        simp [List.getD, List.getElem?_set_ne (Ne.symm hj)] at this ⊢
        omega
    · rintro (e | e | e)
      · exact h1 e
      · exact h2 e
      · exact h3 at0 hat e
  have HM4 : Hid (Moved g N q { q with l := q.l ++ [(((k : Int), (at0 : Int)), blkD b)], G := q.G.set at0 (q.G.getD at0 [] ++ [k]), ss := q.ss.set at0 s' } w w4) := by
    refine HM3.out.trans ⟨⟨hT4.os, hT4.tape, hT4.output, hT4.size, fun z hz hf => hT4.block z hz ?_⟩, fun z hz => ?_⟩
    · rintro (e | e | e)
      · exact hf (.inr (.inr (.inl e)))
      · exact hf (.inr (.inr (.inr (.inl e))))
      · exact hf (.inr (.inr (.inr (.inr (.inr (.inr ⟨at0, hat, e⟩))))))
    · rcases hz with e | e | e | e | e | e | ⟨j, hj, e⟩
      · exact .inl (.inl e)
      · exact .inl (.inr (.inl e))
      · exact .inl (.inr (.inr (.inl e)))
      · exact .inl (.inr (.inr (.inr (.inl e))))
      · exact .inl (.inr (.inr (.inr (.inr (.inl e)))))
      · exact .inl (.inr (.inr (.inr (.inr (.inr (.inl e))))))
      · rcases HAP.out j hj z e with ⟨i, hi, e2⟩ | e2
        · exact .inl (.inr (.inr (.inr (.inr (.inr (.inr ⟨i, hi, e2⟩))))))
        · exact .inr e2
  clear hM4 hG4 hs4 hT4 hss HAP hlen4 hsl HG0 hm
  go_wp2_with fail
  refine ⟨rfl, ?_⟩
  try simp only [Exit.inBlock, Exit.then]
  refine bodyPost_end (results_none Try.results36 _ _ _) rfl ?_
  exact ⟨rfl, _, _, _, HQ4.out, HM4.out⟩
theorem lay_q (at0 : Nat) (b : Nat → Nat) (hat : at0 < N) (hN : N ≤ 8192) (hnew : findIn ((k : Int), (at0 : Int)) q.l = none) (hsh : ∀ j, (q.G.getD j []).length < k) (hk : k < 1099511627776) (w : World) (hB : B ≤ w.heap.size) (h : DiskQ w B g N F k lg q) :
    Calls Try.prog 36 #[.pointer (some ⟨g, 0, none⟩), .int .i64 (at0 : Int), .agg (va 256 (iv .u8 b))] w fun e w' => e = .returned (.tuple #[]) ∧ ∃ l G ss, DiskQ w' B g N (putAt F (at0 * 256) 256 b) k lg { q with l := l, G := G, ss := ss } ∧ Moved g N q { q with l := l, G := G, ss := ss } w w' := by
  by_cases he : bkSame (fun j => F (at0 * 256 + j)) b
  · refine (lay_same at0 b hat hN he w h).mono ?_
    rintro e w' ⟨rfl, h1, h2⟩
    exact ⟨rfl, q.l, q.G, q.ss, h1.same (putAt_self N at0 F b he), h2⟩
  · exact lay_other at0 b hat hN he hnew hsh hk w hB h
end
end Go.Proofs.Ytdhbjcnbdfidcaa

namespace Go.Proofs.Ytdhbjcnbdfidcaa
open Go Go.RowKit
set_option linter.unusedSimpArgs false
set_option linter.unusedVariables false

/-- an entry's cells -/
def rawF (kd at0 : Int) (b : Nat → Nat) : Nat → Value := fun i => if i = 0 then .int .i64 kd else if i = 1 then .int .i64 at0 else .int .u8 ((b (i - 2) : Nat) : Int)
set_option maxRecDepth 100000 in
theorem built_raw (kd at0 : Int) (b : Nat → Nat) : Try.prog.built 98 [(0, .int .i64 kd), (1, .int .i64 at0), (2, .agg (va 256 (iv .u8 b)))] = some (va 258 (rawF kd at0 b)) := by kernel_rfl
theorem build_raw (kd at0 : Int) (b : Nat → Nat) (w : World) : (Instr.build 98 #[(0, .int .i64 kd), (1, .int .i64 at0), (2, .agg (va 256 (iv .u8 b)))]).run Try.prog w = .ok (.agg (va 258 (rawF kd at0 b))) w := run_build w _ _ _ (built_raw kd at0 b)
theorem infoRaw : (Try.prog.info? 98).map (fun i => (i.zero, i.size, i.bytes)) = some (some (.agg (va 258 (rawF 0 0 fun _ => 0))), 258, 272) := by kernel_rfl
theorem raw_one (kd at0 : Int) (b : Nat → Nat) : ∀ u ∈ (va 258 (rawF kd at0 b)).toList, u.oneCell' = true := fun u hu => by
  rw [va_toList] at hu
  obtain ⟨i, _, rfl⟩ := List.mem_map.1 hu
  unfold rawF
  split
  · rfl
  · split <;> rfl
theorem Blk.loadMid {P : Program} {w : World} {g t M o n : Nat} {f : Nat → Value} (h : Blk w g t (va M f)) (ho : o + n ≤ M) : (loadCellsFrom ⟨g, o, none⟩ 0 n #[]).run P w = .ok (va n fun j => f (o + j)) w := by
  have := run_loadCells_list (P := P) w ⟨g, o, none⟩ ((List.range n).map fun j => f (o + j)) (fun j v hv => by
    rw [Addr.add_mid]
    exact h.range o n ho j v hv)
  rw [List.length_map, List.length_range] at this
  exact this
/-- a struct of three parts -/
theorem wpList_build3 {P : Program} {ops : Array Oper} {rest : List Oper} {o : Oper} {a : Act} {w : World} {Q : Exit → Act → World → Prop} (hg : o.guard = none) (t : TypeId) (x y z : Operand) (ho : o.op = .build t #[(0, x), (1, y), (2, z)]) (vx vy vz : Value) (hx : a.eval x = vx) (hy : a.eval y = vy) (hz : a.eval z = vz)
    (cells : Array Value) (hf : P.built t [(0, vx), (1, vy), (2, vz)] = some cells) (h : wpList P ops Q rest (a.put o.dst (.agg cells)) w) : wpList P ops Q (o :: rest) a w := by
  refine wpList_buildTo hg t _ ho o.dst rfl cells ?_ h
  have e : (Array.map (fun (x : Nat × Operand) => match x with | (i, x) => (i, a.eval x)) #[(0, x), (1, y), (2, z)]).toList = [(0, vx), (1, vy), (2, vz)] := by simp [hx, hy, hz]
  rw [e]
  exact hf
section
variable {w w1 w2 : World} {B g N k lg : Nat} {F : Nat → Nat} {q : QD}
theorem DiskQ.logged (h : DiskQ w B g N F k lg q) (c : Array Value) {v' : Value} (hrow : w2.ownsRow B 98 258 v' (lg + 1) (q.xs ++ c.toList)) (hg : (w.alloc (.cells c 98)).grownBy w2 q.lv.ownBlock) (hv : v'.ownBlock = q.lv.ownBlock ∨ v'.ownBlock = some (w.alloc (.cells c 98)).heap.size) :
    Blk w2 g 84 (dcells q N k) ∧ DiskQ (w2.setCell ⟨g, 8, none⟩ v') B g N F k (lg + 1) { q with lv := v', xs := q.xs ++ c.toList } ∧ Moved g N q { q with lv := v', xs := q.xs ++ c.toList } w (w2.setCell ⟨g, 8, none⟩ v') := by
  have hlv := own_ne h.log h.cells (by decide)
  have b2 : ∀ z, z < w.heap.size → q.lv.ownBlock ≠ some z → w2.heap[z]? = w.heap[z]? := fun z hz1 hz2 => by
    rw [hg.block z (by simp; omega) (fun e => hz2 e.symm)]
    exact heap_alloc_old _ _ hz1
  have hB2 : Blk w2 g 84 (dcells q N k) := (b2 g h.cells.lt hlv).trans h.cells
  have hvg : v'.ownBlock ≠ some g := own_ne hrow hB2 (by decide)
  have hsz := hg.size
  simp at hsz
  refine ⟨hB2, h.relog v' _ (hB2.put 8 v') ?_ fun z hf h1 h2 => ?_, ⟨hg.os, hg.tape, hg.output, ?_, fun z hz hf => ?_⟩, fun z hz => ?_⟩
  · exact own_block hrow fun z hz => Deep.blk_setCell_other w2 ⟨g, 8, none⟩ _ z fun e => hvg (by rw [← (show z = g from e)]; exact hz)
  · rw [Deep.blk_setCell_other w2 ⟨g, 8, none⟩ _ z h1]
    exact b2 z (h.foots z hf).2 h2
  · rw [Deep.nblk_setCell]
    omega
  · rw [Deep.blk_setCell_other w2 ⟨g, 8, none⟩ _ z fun e => hf (.inl e)]
    exact b2 z hz fun e => hf (.inr (.inr (.inr (.inr (.inl e)))))
  · rcases hz with e | e | e | e | e | e | e
    · exact .inl (.inl e)
    · exact .inl (.inr (.inl e))
    · exact .inl (.inr (.inr (.inl e)))
    · exact .inl (.inr (.inr (.inr (.inl e))))
    · have e' : v'.ownBlock = some z := e
      rcases hv with e2 | e2
      · exact .inl (.inr (.inr (.inr (.inr (.inl (by rw [← e2]; exact e'))))))
      · rw [e2] at e'
        injection e' with e'
        simp at e'
        exact .inr (by omega)
    · exact .inl (.inr (.inr (.inr (.inr (.inr (.inl e))))))
    · exact .inl (.inr (.inr (.inr (.inr (.inr (.inr e))))))
end
end Go.Proofs.Ytdhbjcnbdfidcaa

namespace Go.Proofs.Ytdhbjcnbdfidcaa
open Go Go.RowKit
set_option linter.unusedSimpArgs false
set_option linter.unusedVariables false

/-- no plan, these cuts, power on or off -/
structure QuietC (cv : Value) (d0 : Bool) (q : QD) (k : Nat) : Prop where
  dd : q.dd = d0
  pl : q.pl = .map none
  cu : q.cu = cv
  ev0 : 0 ≤ q.ev
  ev1 : q.ev ≤ (k : Int)
  ones : ∀ u ∈ q.xs, u.oneCell' = true
/-- no plan, no cuts, power on -/
abbrev Quiet : QD → Nat → Prop := QuietC (.slice none 0 0) false
theorem QuietC.mono {cv : Value} {d0 : Bool} {q : QD} {k k' : Nat} (h : QuietC cv d0 q k) (hk : k ≤ k') : QuietC cv d0 q k' := ⟨h.dd, h.pl, h.cu, h.ev0, by have := h.ev1; omega, h.ones⟩
theorem keys_new {k : Nat} {l : List ((Int × Int) × Vector Nat 256)} (h : ∀ p ∈ l, p.1.1 ≤ (k : Int)) (a : Int) : findIn (((k + 1 : Nat) : Int), a) l = none := by
  induction l with
  | nil => rfl
  | cons p l ih =>
    simp only [findIn]
    rw [if_neg (fun e => by
      have := h p (by simp)
      rw [← e] at this
      simp at this
      omega)]
    exact ih fun x hx => h x (by simp [hx])
section
variable {B g N k lg : Nat} {F : Nat → Nat} {q : QD}
set_option maxRecDepth 100000 in
set_option maxHeartbeats 8000000 in
theorem write_ge {cv : Value} {m : Nat} (hq : QuietC cv false q m) (er : Int) (d1 : Bool) (at0 : Nat) (b : Nat → Nat) (hat : at0 < N) (hN : N ≤ 8192) (hk : k < 549755813888) (hlg : lg < 137438953472) (w : World) (hnext : ∀ w0, DiskQ w0 B g N F (k + 1) lg q → Moved g N q q w w0 → Calls Try.prog 35 #[.pointer (some ⟨g, 0, none⟩)] w0 fun e w' => e = .returned (.tuple #[.bool true, .int .i64 er]) ∧ DiskQ w' B g N F (k + 1) lg { q with ev := q.ev + 1, dd := d1 } ∧ Moved g N q { q with ev := q.ev + 1, dd := d1 } w0 w') (hB : B ≤ w.heap.size) (h : DiskQ w B g N F k lg q) :
    Calls Try.prog 14 #[.pointer (some ⟨g, 0, none⟩), .int .i64 (at0 : Int), .agg (va 256 (iv .u8 b))] w fun e w' => e = .returned (.int .i64 er) ∧ ∃ q', DiskQ w' B g N (putAt F (at0 * 256) 256 b) (k + 1) (lg + 1) q' ∧ QuietC cv d1 q' (m + 1) ∧ Moved g N q q' w w' ∧ q'.ev = q.ev + 1 := by
  have hNx : Hid (∀ w0, DiskQ w0 B g N F (k + 1) lg q → Moved g N q q w w0 → Calls Try.prog 35 #[.pointer (some ⟨g, 0, none⟩)] w0 fun e w' => e = .returned (.tuple #[.bool true, .int .i64 er]) ∧ DiskQ w' B g N F (k + 1) lg { q with ev := q.ev + 1, dd := d1 } ∧ Moved g N q { q with ev := q.ev + 1, dd := d1 } w0 w') := hnext
  clear hnext
  have hz := zero_bk
  have hbr := build_raw 2 (at0 : Int) b
  obtain ⟨i0, hi, hz0, hz1, hz2⟩ := info_parts infoRaw
  have j0 : (0 : Int) ≤ (at0 : Int) := by omega
  have j1 : (at0 : Int) < (N : Int) := by omega
  have HQt : Hid (QuietC cv false q m) := hq
  have HKN : Hid (findIn (((k + 1 : Nat) : Int), (at0 : Int)) q.l = none) := keys_new h.keys _
  have HSH : Hid (∀ j, (q.G.getD j []).length < k + 1) := fun j => Nat.lt_succ_of_le (h.short j)
  have r1 : Blk (w.alloc (.cells (va 256 (iv .u8 b)) 60)) w.heap.size 60 (va 256 (iv .u8 b)) := Blk.new _ _ _
  have hb1 : Below w.heap.size w (w.alloc (.cells (va 256 (iv .u8 b)) 60)) := below_new1 _ _
  have HQ1 : Hid (DiskQ (w.alloc (.cells (va 256 (iv .u8 b)) 60)) B g N F k lg q) := h.below hb1
  have HM1 : Hid (Moved g N q q w (w.alloc (.cells (va 256 (iv .u8 b)) 60))) := .of_below hb1
  have HF : Hid (∀ z, foot g N q z → z < w.heap.size) := fun z hz => (h.foots z hz).2
  have HW : Hid (B ≤ w.heap.size) := hB
  clear h hb1 hB hq
  go_enter Try.func14, Try.ntmps14
  go_wp2_with fail
  have hs1 : w.heap.size < (w.alloc (.cells (va 256 (iv .u8 b)) 60)).heap.size := r1.lt
  generalize (w.alloc (.cells (va 256 (iv .u8 b)) 60)) = w1 at *
  have HBX : Hid (∀ q' v v', Moved g N q q' w1 v → Turns (foot g N q') v v' → Blk v w.heap.size 60 (va 256 (iv .u8 b)) → Blk v' w.heap.size 60 (va 256 (iv .u8 b))) := fun q' v v' h1 h2 h3 => (h2.block _ h3.lt fun e => by
    rcases h1.2 _ e with e | e
    · have := HF.out _ e
      omega
    · omega).trans h3
  refine (begin_q HQt.out.dd HQt.out.pl at0 hat (by omega) w1 HQ1.out).mono ?_
  rintro e w2 ⟨rfl, hq2, hm2⟩
  have HQ2 : Hid (DiskQ w2 B g N F (k + 1) lg q) := hq2
  have HM2 : Hid (Moved g N q q w1 w2) := hm2
  have r2 : Blk w2 w.heap.size 60 (va 256 (iv .u8 b)) := HBX.out q w1 w2 (.of_below (Below.refl _ _)) hm2.1 r1
  clear hq2 hm2 HQ1 r1
  go_wp2_with fail
  refine (hNx.out w2 HQ2.out (HM1.out.trans HM2.out)).mono ?_
  rintro e w3 ⟨rfl, hq3, hm3⟩
  obtain ⟨q3, hq3e⟩ : ∃ q3 : QD, q3 = { q with ev := q.ev + 1, dd := d1 } := ⟨_, rfl⟩
  have HE3 : Hid (q3 = { q with ev := q.ev + 1, dd := d1 }) := hq3e
  have HKN3 : Hid (findIn (((k + 1 : Nat) : Int), (at0 : Int)) q3.l = none) := by rw [hq3e]; exact HKN.out
  have HSH3 : Hid (∀ j, (q3.G.getD j []).length < k + 1) := by rw [hq3e]; exact HSH.out
  have HQ3 : Hid (DiskQ w3 B g N F (k + 1) lg q3) := by rw [hq3e]; exact hq3
  have HM3 : Hid (Moved g N q q3 w1 w3) := by rw [hq3e]; exact HM2.out.trans hm3
  have HQt3 : Hid (QuietC cv d1 q3 (m + 1)) := by
    rw [hq3e]
    obtain ⟨a1, a2, a3, a4, a5, a6⟩ := HQt.out
    exact ⟨rfl, a2, a3, by show 0 ≤ q.ev + 1; omega, by show q.ev + 1 ≤ ((m + 1 : Nat) : Int); omega, a6⟩
  have HV3 : Hid (q3.ev = q.ev + 1) := by rw [hq3e]; rfl
  have r3 : Blk w3 w.heap.size 60 (va 256 (iv .u8 b)) := HBX.out q w2 w3 HM2.out hm3.1 r2
  clear hq3 hm3 HQ2 r2 hq3e HE3 HKN HSH HM2
  go_wp2_with (first
    | (refine wpList_load_row (by rfl) 60 _ (by rfl) (w.heap.size) (by rfl) 60 (va 256 (iv .u8 b)) (0, 0) _ r3 Try.underlying60 (by rfl) (sizeBk.trans (by rw [va_size])) ?_; simp only [Act.put, List.setIfInBounds_toArray, List.set_cons_zero, List.set_cons_succ])
    | fail)
  refine (lay_q at0 b hat hN HKN3.out HSH3.out (by omega) w3 (Nat.le_trans HW.out (Nat.le_trans (Nat.le_of_lt hs1) HM3.out.1.size)) HQ3.out).mono ?_
  rintro e w4 ⟨rfl, l4, G4, ss4, hq4, hm4⟩
  obtain ⟨q4, hq4e⟩ : ∃ q4 : QD, q4 = { q3 with l := l4, G := G4, ss := ss4 } := ⟨_, rfl⟩
  rw [← hq4e] at hq4 hm4
  have HQ4 : Hid (DiskQ w4 B g N (putAt F (at0 * 256) 256 b) (k + 1) lg q4) := hq4
  have HM4 : Hid (Moved g N q q4 w1 w4) := HM3.out.trans hm4
  have r4 : Blk w4 w.heap.size 60 (va 256 (iv .u8 b)) := HBX.out q3 w3 w4 HM3.out hm4.1 r3
  have HQt4 : Hid (QuietC cv d1 q4 (m + 1)) := by
    rw [hq4e]
    obtain ⟨a1, a2, a3, a4, a5, a6⟩ := HQt3.out
    exact ⟨a1, a2, a3, a4, a5, a6⟩
  have HV4 : Hid (q4.ev = q.ev + 1) := by rw [hq4e]; exact HV3.out
  clear hq4e hq4 hm4 HV3 HQ3 HM3 r3 HQt3 HKN3 HSH3
  obtain ⟨gw, cw, hwv, hgw, hgwl⟩ := kown_form HQ4.out.wear (show 0 < N by omega)
  obtain ⟨x0, hx0⟩ := HQ4.out.ints at0 hat
  have c9 : w4.cell? ⟨g, 9, none⟩ = some (.slice (some ⟨gw, 0, none⟩) N cw) := by rw [HQ4.out.c, ← hwv]; rfl
  have hwr := HQ4.out.wear
  rw [hwv] at hwr
  have cw0 : w4.cell? ⟨gw, at0, none⟩ = some (.int .i64 x0) := by
    rw [hwr.cellAt (g := gw) at0 (by omega)]
    exact hx0
  have fw0 : w4.frozen? ⟨gw, at0, none⟩ = false := by
    rcases hwr.2 with ⟨hn, _⟩ | ⟨g', cap', cur, hv, _, hg, _⟩
    · cases hn
    · injection hv with hv1
      injection hv1 with hv1
      injection hv1 with hv1
      subst hv1
      exact Blk.frozen (show Blk w4 gw 3 cur from hg) at0
  have HWR : Hid (w4.ownsRow B 3 1 (.slice (some ⟨gw, 0, none⟩) N cw) N q4.ys) := hwr
  have HWV : Hid (q4.wv = .slice (some ⟨gw, 0, none⟩) N cw) := hwv
  clear hwr hwv hx0
  go_wp2_with fail
  have HQ5 : Hid (DiskQ (w4.setCell ⟨gw, at0, none⟩ (.int .i64 (wrap64 (x0 + 1)))) B g N (putAt F (at0 * 256) 256 b) (k + 1) lg { q4 with ys := q4.ys.set at0 (.int .i64 (wrap64 (x0 + 1))) }) := by
    have hys : q4.ys.length = N := by
      have := HWR.out.1
      omega
    refine HQ4.out.rewear ?_ (fun j hj => ?_) fun z hz => Deep.blk_setCell_other w4 ⟨gw, at0, none⟩ _ z fun e => hz ?_
    · rw [HWV.out]
      exact own_setCell HWR.out at0 hat _
    · by_cases hja : j = at0
      · subst hja
        exact ⟨wrap64 (x0 + 1), by simp [hys, hat]⟩
      · obtain ⟨y0, hy0⟩ := HQ4.out.ints j hj
        exact ⟨y0, by rw [List.getElem?_set_ne (Ne.symm hja)]; exact hy0⟩
    · rw [HWV.out, show z = gw from e]
      rfl
  have HM5 : Hid (Moved g N q { q4 with ys := q4.ys.set at0 (.int .i64 (wrap64 (x0 + 1))) } w1 (w4.setCell ⟨gw, at0, none⟩ (.int .i64 (wrap64 (x0 + 1))))) := by
    refine HM4.out.trans ⟨⟨rfl, rfl, rfl, by rw [Deep.nblk_setCell]; exact Nat.le_refl _, fun z hz hf => Deep.blk_setCell_other w4 ⟨gw, at0, none⟩ _ z fun e => hf ?_⟩, fun z hz => .inl hz⟩
    refine .inr (.inr (.inr (.inr (.inr (.inl ?_)))))
    rw [HWV.out, show z = gw from e]
    rfl
  have r5 : Blk (w4.setCell ⟨gw, at0, none⟩ (.int .i64 (wrap64 (x0 + 1)))) w.heap.size 60 (va 256 (iv .u8 b)) := r4.put_other _ _ fun e => own_ne HWR.out r4 (by decide) (by rw [e]; rfl)
  have HQt5 : Hid (QuietC cv d1 { q4 with ys := q4.ys.set at0 (.int .i64 (wrap64 (x0 + 1))) } (m + 1)) := by
    obtain ⟨a1, a2, a3, a4, a5, a6⟩ := HQt4.out
    exact ⟨a1, a2, a3, a4, a5, a6⟩
  have HV5 : Hid (({ q4 with ys := q4.ys.set at0 (.int .i64 (wrap64 (x0 + 1))) } : QD).ev = q.ev + 1) := HV4.out
  clear HV4 HQ4 HM4 r4 HQt4 HWR HWV c9 cw0 fw0
  generalize w4.setCell ⟨gw, at0, none⟩ (.int .i64 (wrap64 (x0 + 1))) = w5 at *
  generalize ({ q4 with ys := q4.ys.set at0 (.int .i64 (wrap64 (x0 + 1))) } : QD) = q5 at *
  have d8 : w5.cell? ⟨g, 8, none⟩ = some q5.lv := by rw [HQ5.out.c]; rfl
  refine wp_region_partsS (fun W => W.cell? ⟨g, 8, none⟩ = some q5.lv ∧ Blk W w.heap.size 60 (va 256 (iv .u8 b))) [([0, 1, 5], 2, true), ([], 3, true), ([], 4, true), ([], 6, false), ([], 7, false), ([], 8, false), ([], 9, false), ([], 10, false), ([], 11, false)] [] [12] (by kernel_rfl) (by kernel_rfl) ⟨d8, r5.drew⟩ (partsI_yield ?_)
  simp only [List.cons_append, List.nil_append, List.append_nil, List.filterMap_cons, List.filterMap_nil, List.getElem?_toArray, List.getElem?_cons_zero, List.getElem?_cons_succ]
  go_wp2_with fail
  refine ⟨rfl, _, .pointer (some ⟨g, 0, none⟩), rfl, Or.inl ⟨by rfl, fun W hW => by go_simp⟩, partsI_yield ?_⟩
  simp only [Act.put, List.setIfInBounds_toArray, List.set_cons_zero, List.set_cons_succ]
  simp only [List.cons_append, List.nil_append, List.append_nil, List.filterMap_cons, List.filterMap_nil, List.getElem?_toArray, List.getElem?_cons_zero, List.getElem?_cons_succ]
  go_wp2_with fail
  refine ⟨rfl, _, .pointer (some ⟨g, 8, none⟩), rfl, Or.inl ⟨by rfl, fun W hW => by go_simp⟩, partsI_yield ?_⟩
  simp only [Act.put, List.setIfInBounds_toArray, List.set_cons_zero, List.set_cons_succ]
  simp only [List.cons_append, List.nil_append, List.append_nil, List.filterMap_cons, List.filterMap_nil, List.getElem?_toArray, List.getElem?_cons_zero, List.getElem?_cons_succ]
  go_wp2_with fail
  refine ⟨rfl, _, q5.lv, rfl, Or.inl ⟨by rfl, fun W hW => by obtain ⟨hWa, hWb⟩ := hW; go_simp⟩, partsI_force ?_⟩
  simp only [Act.put, List.setIfInBounds_toArray, List.set_cons_zero, List.set_cons_succ]
  simp only [List.cons_append, List.nil_append, List.append_nil, List.filterMap_cons, List.filterMap_nil, List.getElem?_toArray, List.getElem?_cons_zero, List.getElem?_cons_succ]
  refine wpList_load_rowg (by rfl) 60 _ (by rfl) w.heap.size (by rfl) 60 (va 256 (iv .u8 b)) (0, 0) _ r5.drew Try.underlying60 (by rfl) (sizeBk.trans (by rw [va_size])) ?_
  simp only [Act.put, List.setIfInBounds_toArray, List.set_cons_zero, List.set_cons_succ]
  go_wp2_with fail
  refine ⟨rfl, ⟨d8, r5.drew⟩, partsI_force ?_⟩
  simp only [List.cons_append, List.nil_append, List.append_nil, List.filterMap_cons, List.filterMap_nil, List.getElem?_toArray, List.getElem?_cons_zero, List.getElem?_cons_succ]
  refine wpList_build3 rfl 98 _ _ _ rfl (.int .i64 2) (.int .i64 (at0 : Int)) (.agg (va 256 (iv .u8 b))) rfl rfl rfl (va 258 (rawF 2 (at0 : Int) b)) (built_raw 2 (at0 : Int) b) ?_

  simp only [Act.put, List.setIfInBounds_toArray, List.set_cons_zero, List.set_cons_succ]
  go_wp2_with fail
  refine ⟨rfl, ⟨d8, r5.drew⟩, partsI_force ?_⟩
  simp only [List.cons_append, List.nil_append, List.append_nil, List.filterMap_cons, List.filterMap_nil, List.getElem?_toArray, List.getElem?_cons_zero, List.getElem?_cons_succ]
  refine wpList_build1 rfl 82 98 _ rfl (va 258 (rawF 2 (at0 : Int) b)) rfl i0 (.agg (va 258 (rawF 0 0 fun _ => 0))) 258 Try.underlying82 hi hz0 hz1 (va_size _ _) (by decide) (by decide) ?_
  simp only [Act.put, List.setIfInBounds_toArray, List.set_cons_zero, List.set_cons_succ]
  go_wp2_with fail
  have r6 : Blk (w5.drew.alloc (.cells (va 258 (rawF 2 (at0 : Int) b)) 98)) w.heap.size 60 (va 256 (iv .u8 b)) := r5.drew.alloc _
  have d86 : (w5.drew.alloc (.cells (va 258 (rawF 2 (at0 : Int) b)) 98)).cell? ⟨g, 8, none⟩ = some q5.lv := by rw [(HQ5.out.cells.drew.alloc _).cell]; rfl
  refine ⟨rfl, ⟨d86, r6⟩, partsI_force ?_⟩
  simp only [List.cons_append, List.nil_append, List.append_nil, List.filterMap_cons, List.filterMap_nil, List.getElem?_toArray, List.getElem?_cons_zero, List.getElem?_cons_succ]
  have HOWN : Hid ((w5.drew.alloc (.cells (va 258 (rawF 2 (at0 : Int) b)) 98)).ownsRow B 98 258 q5.lv lg q5.xs) := World.ownsRow.alloc (w := w5.drew) HQ5.out.log _
  have HC : Hid (∀ j u, (va 258 (rawF 2 (at0 : Int) b)).toList[j]? = some u → (w5.drew.alloc (.cells (va 258 (rawF 2 (at0 : Int) b)) 98)).cell? ((⟨w5.drew.heap.size, 0, none⟩ : Addr).add j) = some u) := cells_new w5.drew _ _
  have HBB : Hid (B ≤ (w5.drew.alloc (.cells (va 258 (rawF 2 (at0 : Int) b)) 98)).heap.size) := by
    have h1 := HM5.out.1.size
    have h2 := HW.out
    show B ≤ _
    rw [show (w5.drew.alloc (.cells (va 258 (rawF 2 (at0 : Int) b)) 98)).heap.size = w5.heap.size + 1 by simp]
    omega
  refine wpList_append_own_at rfl _ _ 82 rfl B 98 i0 (.agg (va 258 (rawF 0 0 fun _ => 0))) 258 272 Try.underlying82 hi hz0 hz1 hz2 (va_size _ _) (by decide) _ _ _ rfl HOWN.out ⟨w5.drew.heap.size, 0, none⟩ 1 1 (va 258 (rawF 2 (at0 : Int) b)).toList rfl (by rw [Array.length_toList, va_size]) HC.out (raw_one _ _ _) (by unfold maxLen; omega) (by omega) HBB.out ?_
  intro v' w6 hrow hgr hsb
  obtain ⟨xa, xc, hxe⟩ := kown_slice hrow
  subst hxe
  obtain ⟨hB6, hq6, hm6⟩ := (HQ5.out.below (Below.refl _ _).drew).logged (va 258 (rawF 2 (at0 : Int) b)) hrow hgr hsb
  have HQ6 : Hid (DiskQ (w6.setCell ⟨g, 8, none⟩ (Value.slice xa (lg + 1) xc)) B g N (putAt F (at0 * 256) 256 b) (k + 1) (lg + 1) { q5 with lv := (Value.slice xa (lg + 1) xc), xs := q5.xs ++ (va 258 (rawF 2 (at0 : Int) b)).toList }) := hq6
  have HM6 : Hid (Moved g N q { q5 with lv := (Value.slice xa (lg + 1) xc), xs := q5.xs ++ (va 258 (rawF 2 (at0 : Int) b)).toList } w (w6.setCell ⟨g, 8, none⟩ (Value.slice xa (lg + 1) xc))) := HM1.out.trans (HM5.out.trans (Moved.trans (.of_below (Below.refl _ _).drew) hm6))
  have HQt6 : Hid (QuietC cv d1 { q5 with lv := (Value.slice xa (lg + 1) xc), xs := q5.xs ++ (va 258 (rawF 2 (at0 : Int) b)).toList } (m + 1)) := by
    obtain ⟨a1, a2, a3, a4, a5, a6⟩ := HQt5.out
    exact ⟨a1, a2, a3, a4, a5, fun u hu => by
      rcases List.mem_append.1 hu with h1 | h1
      · exact a6 u h1
      · exact raw_one _ _ _ u h1⟩
  have d8c : w6.cell? ⟨g, 8, none⟩ = some q5.lv := by rw [hB6.cell]; rfl
  have f8c : w6.frozen? ⟨g, 8, none⟩ = false := hB6.frozen 8
  have r7 : Blk w6 w.heap.size 60 (va 256 (iv .u8 b)) := (hgr.block _ r6.lt fun e => own_ne HQ5.out.log r5 (by decide) e.symm).trans r6
  clear hq6 hm6 HOWN HC HBB hrow hgr hsb d86 r6
  go_wp2_with fail
  refine ⟨rfl, ⟨d8c, r7⟩, partsI_force ?_⟩
  simp only [List.cons_append, List.nil_append, List.append_nil, List.filterMap_cons, List.filterMap_nil, List.getElem?_toArray, List.getElem?_cons_zero, List.getElem?_cons_succ]
  go_wp2_with fail
  refine ⟨rfl, ⟨d8c, r7⟩, partsI_force ?_⟩
  simp only [List.cons_append, List.nil_append, List.append_nil, List.filterMap_cons, List.filterMap_nil, List.getElem?_toArray, List.getElem?_cons_zero, List.getElem?_cons_succ]
  go_wp2_with fail
  refine ⟨rfl, ⟨d8c, r7⟩, partsI_last ?_⟩
  simp only [List.cons_append, List.nil_append, List.append_nil, List.filterMap_cons, List.filterMap_nil, List.getElem?_toArray, List.getElem?_cons_zero, List.getElem?_cons_succ]
  go_wp2_with fail
  refine ⟨rfl, ?_⟩
  go_wp2_with fail
  go_ret
  exact ⟨rfl, _, HQ6.out, HQt6.out, HM6.out, HV5.out⟩
theorem write_g {cv : Value} {m : Nat} (hq : QuietC cv false q m) (er : Int) (d1 : Bool) (hnext : ∀ w, DiskQ w B g N F (k + 1) lg q → Calls Try.prog 35 #[.pointer (some ⟨g, 0, none⟩)] w fun e w' => e = .returned (.tuple #[.bool true, .int .i64 er]) ∧ DiskQ w' B g N F (k + 1) lg { q with ev := q.ev + 1, dd := d1 } ∧ Moved g N q { q with ev := q.ev + 1, dd := d1 } w w') (at0 : Nat) (b : Nat → Nat) (hat : at0 < N) (hN : N ≤ 8192) (hk : k < 549755813888) (hlg : lg < 137438953472) (w : World) (hB : B ≤ w.heap.size) (h : DiskQ w B g N F k lg q) :
    Calls Try.prog 14 #[.pointer (some ⟨g, 0, none⟩), .int .i64 (at0 : Int), .agg (va 256 (iv .u8 b))] w fun e w' => e = .returned (.int .i64 er) ∧ ∃ q', DiskQ w' B g N (putAt F (at0 * 256) 256 b) (k + 1) (lg + 1) q' ∧ QuietC cv d1 q' (m + 1) ∧ Moved g N q q' w w' :=
  (write_ge hq er d1 at0 b hat hN hk hlg w (fun w0 h0 _ => hnext w0 h0) hB h).mono fun e w' ⟨h1, q', h2, h3, h4, _⟩ => ⟨h1, q', h2, h3, h4⟩
theorem write_q (hq : Quiet q k) (at0 : Nat) (b : Nat → Nat) (hat : at0 < N) (hN : N ≤ 8192) (hk : k < 549755813888) (hlg : lg < 137438953472) (w : World) (hB : B ≤ w.heap.size) (h : DiskQ w B g N F k lg q) :
    Calls Try.prog 14 #[.pointer (some ⟨g, 0, none⟩), .int .i64 (at0 : Int), .agg (va 256 (iv .u8 b))] w fun e w' => e = .returned (.int .i64 0) ∧ ∃ q', DiskQ w' B g N (putAt F (at0 * 256) 256 b) (k + 1) (lg + 1) q' ∧ Quiet q' (k + 1) ∧ Moved g N q q' w w' :=
  write_g hq 0 false (fun w hw => by
    have e : ({ q with ev := q.ev + 1, dd := false } : QD) = { q with ev := q.ev + 1 } := by
      have := hq.dd
      rw [← this]
    rw [e]
    exact next_q hq.cu ⟨hq.ev0, by have := hq.ev1; omega⟩ w hw) at0 b hat hN hk hlg w hB h
end
end Go.Proofs.Ytdhbjcnbdfidcaa
