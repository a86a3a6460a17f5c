/- A digest asked of a log: the program's contract. -/
import Derived.Test.YtaoglljkghkbpaaLogAdd
import Derived.Handy
namespace Go.Proofs.Ytaoglljkghkbpaa
open Go.RowKit
set_option linter.unusedSimpArgs false
set_option linter.unusedVariables false

theorem LogAt.below {w w' : World} {g r : Nat} {v : Value} {E : List (Nat × ByteArray)} (h : LogAt w g r v E) (hb : Below w.heap.size w w') : LogAt w' g r v E := by
  obtain ⟨hB, hown, hM⟩ := h
  refine ⟨hB.below hb hB.lt, own_block hown (fun k hk => hb.block k (hown.lt k hk).2), hM.below hb ?_⟩
  obtain ⟨es, cl, hg, _⟩ := hM
  exact (Array.getElem?_eq_some_iff.1 hg).1
theorem find_sum (e : Nat × ByteArray) : ∀ E : List (Nat × ByteArray), isIn e E = true → lookS e E = sumOf e
  | [], h => by cases h
  | x :: E, h => by
    unfold isIn lookS at *
    simp only [List.map_cons, findIn] at h ⊢
    by_cases q : e = x
    · subst q
      simp
    · simp only [q, if_false] at h ⊢
      exact find_sum e E h

set_option maxRecDepth 100000 in
set_option maxHeartbeats 4000000 in
theorem logOf_old (tag : Nat) (s : ByteArray) (g r : Nat) (v : Value) (E : List (Nat × ByteArray)) (hn : isIn (tag, s) E = true) (w : World) (h : LogAt w g r v E) :
    Calls Try.prog 43 #[.pointer (some ⟨g, 0, none⟩), .int .u8 (tag : Int), .string s] w fun e w' => e = .returned (.agg (va 32 (iv .u8 (sumOf (tag, s))))) ∧ Below w.heap.size w w' := by
  have hl := fun w' (hb : Below w.heap.size w w') => h.look (tag, s) true hb
  simp only [if_true, hn] at hl
  rw [find_sum _ _ hn] at hl
  have hh := h
  obtain ⟨hB, hown, hM⟩ := h
  have hgl := hB.lt
  generalize sumOf (tag, s) = y at *
  have r1 : Blk ((w.alloc (.cells #[.int .u8 0, .int .u8 0, .int .u8 0, .int .u8 0, .int .u8 0, .int .u8 0, .int .u8 0, .int .u8 0, .int .u8 0, .int .u8 0, .int .u8 0, .int .u8 0, .int .u8 0, .int .u8 0, .int .u8 0, .int .u8 0, .int .u8 0, .int .u8 0, .int .u8 0, .int .u8 0, .int .u8 0, .int .u8 0, .int .u8 0, .int .u8 0, .int .u8 0, .int .u8 0, .int .u8 0, .int .u8 0, .int .u8 0, .int .u8 0, .int .u8 0, .int .u8 0] 69)).alloc (.cells #[.int .u8 (tag : Int), .string s] 98)) w.heap.size 69 (va 32 (iv .u8 fun _ => 0)) := (Blk.new w _ (va 32 (iv .u8 fun _ => 0))).alloc _
  have e1 : Blk ((w.alloc (.cells #[.int .u8 0, .int .u8 0, .int .u8 0, .int .u8 0, .int .u8 0, .int .u8 0, .int .u8 0, .int .u8 0, .int .u8 0, .int .u8 0, .int .u8 0, .int .u8 0, .int .u8 0, .int .u8 0, .int .u8 0, .int .u8 0, .int .u8 0, .int .u8 0, .int .u8 0, .int .u8 0, .int .u8 0, .int .u8 0, .int .u8 0, .int .u8 0, .int .u8 0, .int .u8 0, .int .u8 0, .int .u8 0, .int .u8 0, .int .u8 0, .int .u8 0, .int .u8 0] 69)).alloc (.cells #[.int .u8 (tag : Int), .string s] 98)) (w.heap.size + 1) 98 #[.int .u8 (tag : Int), .string s] := by
    have e : (w.alloc (.cells #[.int .u8 0, .int .u8 0, .int .u8 0, .int .u8 0, .int .u8 0, .int .u8 0, .int .u8 0, .int .u8 0, .int .u8 0, .int .u8 0, .int .u8 0, .int .u8 0, .int .u8 0, .int .u8 0, .int .u8 0, .int .u8 0, .int .u8 0, .int .u8 0, .int .u8 0, .int .u8 0, .int .u8 0, .int .u8 0, .int .u8 0, .int .u8 0, .int .u8 0, .int .u8 0, .int .u8 0, .int .u8 0, .int .u8 0, .int .u8 0, .int .u8 0, .int .u8 0] 69)).heap.size = w.heap.size + 1 := by simp
    rw [← e]
    exact Blk.new _ _ _
  have hB1 : Blk ((w.alloc (.cells #[.int .u8 0, .int .u8 0, .int .u8 0, .int .u8 0, .int .u8 0, .int .u8 0, .int .u8 0, .int .u8 0, .int .u8 0, .int .u8 0, .int .u8 0, .int .u8 0, .int .u8 0, .int .u8 0, .int .u8 0, .int .u8 0, .int .u8 0, .int .u8 0, .int .u8 0, .int .u8 0, .int .u8 0, .int .u8 0, .int .u8 0, .int .u8 0, .int .u8 0, .int .u8 0, .int .u8 0, .int .u8 0, .int .u8 0, .int .u8 0, .int .u8 0, .int .u8 0] 69)).alloc (.cells #[.int .u8 (tag : Int), .string s] 98)) g 91 #[v, .map (some r)] := (hB.alloc _).alloc _
  have hb1 : Below w.heap.size w ((w.alloc (.cells #[.int .u8 0, .int .u8 0, .int .u8 0, .int .u8 0, .int .u8 0, .int .u8 0, .int .u8 0, .int .u8 0, .int .u8 0, .int .u8 0, .int .u8 0, .int .u8 0, .int .u8 0, .int .u8 0, .int .u8 0, .int .u8 0, .int .u8 0, .int .u8 0, .int .u8 0, .int .u8 0, .int .u8 0, .int .u8 0, .int .u8 0, .int .u8 0, .int .u8 0, .int .u8 0, .int .u8 0, .int .u8 0, .int .u8 0, .int .u8 0, .int .u8 0, .int .u8 0] 69)).alloc (.cells #[.int .u8 (tag : Int), .string s] 98)) := ((Below.refl _ _).alloc (Nat.le_refl _) _).alloc (by simp) _
  have hs1 : ((w.alloc (.cells #[.int .u8 0, .int .u8 0, .int .u8 0, .int .u8 0, .int .u8 0, .int .u8 0, .int .u8 0, .int .u8 0, .int .u8 0, .int .u8 0, .int .u8 0, .int .u8 0, .int .u8 0, .int .u8 0, .int .u8 0, .int .u8 0, .int .u8 0, .int .u8 0, .int .u8 0, .int .u8 0, .int .u8 0, .int .u8 0, .int .u8 0, .int .u8 0, .int .u8 0, .int .u8 0, .int .u8 0, .int .u8 0, .int .u8 0, .int .u8 0, .int .u8 0, .int .u8 0] 69)).alloc (.cells #[.int .u8 (tag : Int), .string s] 98)).heap.size = w.heap.size + 2 := by simp
  have HL : Hid (∀ w', Below w.heap.size w w' → Sem.run Try.prog (Instr.lookup 88 (.map (some r)) (.agg #[.int .u8 (tag : Int), .string s]) true) w' = .ok (.tuple #[.agg (va 32 (iv .u8 y)), .bool true]) w') := hl
  clear hl
  go_enter Try.func43, Try.ntmps43
  go_wp2_with fail
  generalize ((w.alloc (.cells #[.int .u8 0, .int .u8 0, .int .u8 0, .int .u8 0, .int .u8 0, .int .u8 0, .int .u8 0, .int .u8 0, .int .u8 0, .int .u8 0, .int .u8 0, .int .u8 0, .int .u8 0, .int .u8 0, .int .u8 0, .int .u8 0, .int .u8 0, .int .u8 0, .int .u8 0, .int .u8 0, .int .u8 0, .int .u8 0, .int .u8 0, .int .u8 0, .int .u8 0, .int .u8 0, .int .u8 0, .int .u8 0, .int .u8 0, .int .u8 0, .int .u8 0, .int .u8 0] 69)).alloc (.cells #[.int .u8 (tag : Int), .string s] 98)) = w1 at *
  refine wp_region_partsI [7] [([4, 0], 1, true), ([], 2, true), ([], 3, true), ([], 5, true), ([6, 7, 8], 9, false), ([], 10, false)] [] [11] w1.heap.size (by kernel_rfl) (by kernel_rfl) (lows_one ⟨⟨w.heap.size + 1, 0, none⟩, _, _, _, rfl, e1.lt, e1⟩) (partsI_yield ?_)
  simp only [List.cons_append, List.nil_append, List.append_nil, List.filterMap_cons, List.filterMap_nil, List.getElem?_toArray, List.getElem?_cons_zero, List.getElem?_cons_succ]
  refine wpList_load_row (by rfl) 98 _ (by rfl) (w.heap.size + 1) (by rfl) 98 #[.int .u8 (tag : Int), .string s] (0, 0) _ e1.drew Try.underlying98 (by rfl) sizeEnt ?_
  simp only [Act.put, List.setIfInBounds_toArray, List.set_cons_zero, List.set_cons_succ]
  go_wp2_with fail
  refine ⟨rfl, _, .pointer (some ⟨g, 0, none⟩), rfl, Or.inl ⟨by rfl, fun W hW => by go_simp⟩, partsI_yield ?_⟩
  simp only [Act.put, List.setIfInBounds_toArray, List.set_cons_zero, List.set_cons_succ]
  simp only [List.cons_append, List.nil_append, List.append_nil, List.filterMap_cons, List.filterMap_nil, List.getElem?_toArray, List.getElem?_cons_zero, List.getElem?_cons_succ]
  go_wp2_with fail
  refine ⟨rfl, _, .pointer (some ⟨g, 1, none⟩), rfl, Or.inl ⟨by rfl, fun W hW => by go_simp⟩, partsI_yield ?_⟩
  simp only [Act.put, List.setIfInBounds_toArray, List.set_cons_zero, List.set_cons_succ]
  simp only [List.cons_append, List.nil_append, List.append_nil, List.filterMap_cons, List.filterMap_nil, List.getElem?_toArray, List.getElem?_cons_zero, List.getElem?_cons_succ]
  go_wp2_with fail
  refine ⟨rfl, _, .map (some r), rfl, Or.inl ⟨by rfl, fun W hW => by have cw : W.cell? ⟨g, 1, none⟩ = some (.map (some r)) := (by rw [(hB1.below hW hB1.lt).cell]; rfl); go_simp⟩, partsI_yield ?_⟩
  simp only [Act.put, List.setIfInBounds_toArray, List.set_cons_zero, List.set_cons_succ]
  simp only [List.cons_append, List.nil_append, List.append_nil, List.filterMap_cons, List.filterMap_nil, List.getElem?_toArray, List.getElem?_cons_zero, List.getElem?_cons_succ]
  go_wp2_with fail
  refine ⟨rfl, _, .tuple #[.agg (va 32 (iv .u8 y)), .bool true], rfl, Or.inl ⟨by rfl, fun W hW => by have lw := HL.out W (hb1.trans (hW.mono (by omega))); go_simp⟩, partsI_force ?_⟩
  simp only [Act.put, List.setIfInBounds_toArray, List.set_cons_zero, List.set_cons_succ]
  simp only [List.cons_append, List.nil_append, List.append_nil, List.filterMap_cons, List.filterMap_nil, List.getElem?_toArray, List.getElem?_cons_zero, List.getElem?_cons_succ]
  go_wp2_with fail
  have hbn : Below w1.heap.size w1 (w1.alloc (.cells #[.int .u8 0, .int .u8 0, .int .u8 0, .int .u8 0, .int .u8 0, .int .u8 0, .int .u8 0, .int .u8 0, .int .u8 0, .int .u8 0, .int .u8 0, .int .u8 0, .int .u8 0, .int .u8 0, .int .u8 0, .int .u8 0, .int .u8 0, .int .u8 0, .int .u8 0, .int .u8 0, .int .u8 0, .int .u8 0, .int .u8 0, .int .u8 0, .int .u8 0, .int .u8 0, .int .u8 0, .int .u8 0, .int .u8 0, .int .u8 0, .int .u8 0, .int .u8 0] 69)).drew := ((Below.refl _ _).alloc (Nat.le_refl _) _).drew
  refine ⟨rfl, hbn, partsI_force ?_⟩
  simp only [List.cons_append, List.nil_append, List.append_nil, List.filterMap_cons, List.filterMap_nil, List.getElem?_toArray, List.getElem?_cons_zero, List.getElem?_cons_succ]
  have n0 : Blk (w1.alloc (.cells #[.int .u8 0, .int .u8 0, .int .u8 0, .int .u8 0, .int .u8 0, .int .u8 0, .int .u8 0, .int .u8 0, .int .u8 0, .int .u8 0, .int .u8 0, .int .u8 0, .int .u8 0, .int .u8 0, .int .u8 0, .int .u8 0, .int .u8 0, .int .u8 0, .int .u8 0, .int .u8 0, .int .u8 0, .int .u8 0, .int .u8 0, .int .u8 0, .int .u8 0, .int .u8 0, .int .u8 0, .int .u8 0, .int .u8 0, .int .u8 0, .int .u8 0, .int .u8 0] 69)).drew (w.heap.size + 2) 69 (va 32 (iv .u8 fun _ => 0)) := by
    rw [← hs1]
    exact Blk.new _ _ _
  have hb2 : Below w1.heap.size w1 ((w1.alloc (.cells #[.int .u8 0, .int .u8 0, .int .u8 0, .int .u8 0, .int .u8 0, .int .u8 0, .int .u8 0, .int .u8 0, .int .u8 0, .int .u8 0, .int .u8 0, .int .u8 0, .int .u8 0, .int .u8 0, .int .u8 0, .int .u8 0, .int .u8 0, .int .u8 0, .int .u8 0, .int .u8 0, .int .u8 0, .int .u8 0, .int .u8 0, .int .u8 0, .int .u8 0, .int .u8 0, .int .u8 0, .int .u8 0, .int .u8 0, .int .u8 0, .int .u8 0, .int .u8 0] 69)).drew.setRow (w.heap.size + 2) (va 32 (iv .u8 y))) := below_setRow hbn (by omega) _
  have n2 := n0.set (va 32 (iv .u8 y))
  refine wpList_store_row (by rfl) 69 _ _ (by rfl) (w.heap.size + 2) (va 32 (iv .u8 y)) (by rfl) (by rfl) 69 _ n0 (sizeSum.trans (by rw [va_size])) (by rw [va_size, va_size]) (iv_one _ _ _) ?_
  simp only [Act.put, List.setIfInBounds_toArray, List.set_cons_zero, List.set_cons_succ]
  refine ⟨rfl, hb2, partsI_last ?_⟩
  simp only [List.cons_append, List.nil_append, List.append_nil, List.filterMap_cons, List.filterMap_nil, List.getElem?_toArray, List.getElem?_cons_zero, List.getElem?_cons_succ]
  generalize (w1.alloc (.cells #[.int .u8 0, .int .u8 0, .int .u8 0, .int .u8 0, .int .u8 0, .int .u8 0, .int .u8 0, .int .u8 0, .int .u8 0, .int .u8 0, .int .u8 0, .int .u8 0, .int .u8 0, .int .u8 0, .int .u8 0, .int .u8 0, .int .u8 0, .int .u8 0, .int .u8 0, .int .u8 0, .int .u8 0, .int .u8 0, .int .u8 0, .int .u8 0, .int .u8 0, .int .u8 0, .int .u8 0, .int .u8 0, .int .u8 0, .int .u8 0, .int .u8 0, .int .u8 0] 69)).drew.setRow (w.heap.size + 2) (va 32 (iv .u8 y)) = w2 at *
  have r2 := r1.below hb2 r1.lt
  have e2 := e1.below hb2 e1.lt
  have b2 : Below w.heap.size w w2 := hb1.trans (hb2.mono (by omega))
  clear n0 hbn hB1 HL
  go_wp2_with fail
  refine ⟨rfl, ?_⟩
  go_wp2_with (first
    | (refine wpList_load_row (by rfl) 69 _ (by rfl) (w.heap.size + 2) (by rfl) 69 (va 32 (iv .u8 y)) (0, 0) _ n2 Try.underlying69 (by rfl) (sizeSum.trans (by rw [va_size])) ?_; simp only [Act.put, List.setIfInBounds_toArray, List.set_cons_zero, List.set_cons_succ])
    | (refine wpList_store_row (by rfl) 69 _ _ (by rfl) (w.heap.size) (va 32 (iv .u8 y)) (by rfl) (by rfl) 69 _ r2 (sizeSum.trans (by rw [va_size])) (by rw [va_size, va_size]) (iv_one _ _ _) ?_; simp only [Act.put, List.setIfInBounds_toArray, List.set_cons_zero, List.set_cons_succ])
    | fail)
  try simp only [Exit.inBlock, Exit.then]
  refine bodyPost_ret (results_cell_row Try.results43 _ _ w.heap.size 69 (va 32 (iv .u8 y)) (0, 0) _ rfl (r2.set _) Try.underlying69 rfl (sizeSum.trans (by rw [va_size]))) rfl ?_
  exact ⟨rfl, below_setRow b2 (Nat.le_refl _) _⟩

set_option maxRecDepth 100000 in
set_option maxHeartbeats 4000000 in
theorem logOf_new (tag : Nat) (ht : tag < 256) (s : ByteArray) (hs : s.size ≤ 140737488351232) (g r : Nat) (v : Value) (E : List (Nat × ByteArray)) (hE : E.length ≤ 4000000000000) (hn : isIn (tag, s) E = false) (w : World) (h : LogAt w g r v E) :
    Calls Try.prog 43 #[.pointer (some ⟨g, 0, none⟩), .int .u8 (tag : Int), .string s] w fun e w' => e = .returned (.agg (va 32 (iv .u8 (sumOf (tag, s))))) ∧ ∃ v', LogAt w' g r v' (E ++ [(tag, s)]) ∧ LogKeeps g r v w w' ∧ (v'.ownBlock = v.ownBlock ∨ ∃ k, v'.ownBlock = some k ∧ w.heap.size ≤ k) := by
  have hO : Hid (∀ w : World, Calls Try.prog 33 #[.int .u8 (tag : Int), .string s] w fun e w' => e = .returned (.agg (va 32 (iv .u8 (sumOf (tag, s))))) ∧ Below w.heap.size w w') := fun w => of_any tag ht s hs w
  have hA : Hid (∀ w : World, LogAt w g r v E → Calls Try.prog 47 #[.pointer (some ⟨g, 0, none⟩), .agg #[.int .u8 (tag : Int), .string s], .agg (va 32 (iv .u8 (sumOf (tag, s))))] w fun e w' => e = .returned (.tuple #[]) ∧ ∃ v', LogAt w' g r v' (E ++ [(tag, s)]) ∧ LogKeeps g r v w w' ∧ (v'.ownBlock = v.ownBlock ∨ ∃ k, v'.ownBlock = some k ∧ w.heap.size ≤ k)) := fun w hw => logAdd_any tag s g r v E hE hn w hw _ rfl
  have hl := fun w' (hb : Below w.heap.size w w') => h.look (tag, s) true hb
  simp only [if_true, hn] at hl
  generalize lookS (tag, s) E = y at *
  have hh := h
  generalize HXQ : sumOf (tag, s) = x at *
  have HXQ' : Hid (sumOf (tag, s) = x) := HXQ
  clear HXQ
  obtain ⟨hB, hown, hM⟩ := h
  have hgl := hB.lt

  have r1 : Blk ((w.alloc (.cells #[.int .u8 0, .int .u8 0, .int .u8 0, .int .u8 0, .int .u8 0, .int .u8 0, .int .u8 0, .int .u8 0, .int .u8 0, .int .u8 0, .int .u8 0, .int .u8 0, .int .u8 0, .int .u8 0, .int .u8 0, .int .u8 0, .int .u8 0, .int .u8 0, .int .u8 0, .int .u8 0, .int .u8 0, .int .u8 0, .int .u8 0, .int .u8 0, .int .u8 0, .int .u8 0, .int .u8 0, .int .u8 0, .int .u8 0, .int .u8 0, .int .u8 0, .int .u8 0] 69)).alloc (.cells #[.int .u8 (tag : Int), .string s] 98)) w.heap.size 69 (va 32 (iv .u8 fun _ => 0)) := (Blk.new w _ (va 32 (iv .u8 fun _ => 0))).alloc _
  have e1 : Blk ((w.alloc (.cells #[.int .u8 0, .int .u8 0, .int .u8 0, .int .u8 0, .int .u8 0, .int .u8 0, .int .u8 0, .int .u8 0, .int .u8 0, .int .u8 0, .int .u8 0, .int .u8 0, .int .u8 0, .int .u8 0, .int .u8 0, .int .u8 0, .int .u8 0, .int .u8 0, .int .u8 0, .int .u8 0, .int .u8 0, .int .u8 0, .int .u8 0, .int .u8 0, .int .u8 0, .int .u8 0, .int .u8 0, .int .u8 0, .int .u8 0, .int .u8 0, .int .u8 0, .int .u8 0] 69)).alloc (.cells #[.int .u8 (tag : Int), .string s] 98)) (w.heap.size + 1) 98 #[.int .u8 (tag : Int), .string s] := by
    have e : (w.alloc (.cells #[.int .u8 0, .int .u8 0, .int .u8 0, .int .u8 0, .int .u8 0, .int .u8 0, .int .u8 0, .int .u8 0, .int .u8 0, .int .u8 0, .int .u8 0, .int .u8 0, .int .u8 0, .int .u8 0, .int .u8 0, .int .u8 0, .int .u8 0, .int .u8 0, .int .u8 0, .int .u8 0, .int .u8 0, .int .u8 0, .int .u8 0, .int .u8 0, .int .u8 0, .int .u8 0, .int .u8 0, .int .u8 0, .int .u8 0, .int .u8 0, .int .u8 0, .int .u8 0] 69)).heap.size = w.heap.size + 1 := by simp
    rw [← e]
    exact Blk.new _ _ _
  have hB1 : Blk ((w.alloc (.cells #[.int .u8 0, .int .u8 0, .int .u8 0, .int .u8 0, .int .u8 0, .int .u8 0, .int .u8 0, .int .u8 0, .int .u8 0, .int .u8 0, .int .u8 0, .int .u8 0, .int .u8 0, .int .u8 0, .int .u8 0, .int .u8 0, .int .u8 0, .int .u8 0, .int .u8 0, .int .u8 0, .int .u8 0, .int .u8 0, .int .u8 0, .int .u8 0, .int .u8 0, .int .u8 0, .int .u8 0, .int .u8 0, .int .u8 0, .int .u8 0, .int .u8 0, .int .u8 0] 69)).alloc (.cells #[.int .u8 (tag : Int), .string s] 98)) g 91 #[v, .map (some r)] := (hB.alloc _).alloc _
  have hb1 : Below w.heap.size w ((w.alloc (.cells #[.int .u8 0, .int .u8 0, .int .u8 0, .int .u8 0, .int .u8 0, .int .u8 0, .int .u8 0, .int .u8 0, .int .u8 0, .int .u8 0, .int .u8 0, .int .u8 0, .int .u8 0, .int .u8 0, .int .u8 0, .int .u8 0, .int .u8 0, .int .u8 0, .int .u8 0, .int .u8 0, .int .u8 0, .int .u8 0, .int .u8 0, .int .u8 0, .int .u8 0, .int .u8 0, .int .u8 0, .int .u8 0, .int .u8 0, .int .u8 0, .int .u8 0, .int .u8 0] 69)).alloc (.cells #[.int .u8 (tag : Int), .string s] 98)) := ((Below.refl _ _).alloc (Nat.le_refl _) _).alloc (by simp) _
  have hs1 : ((w.alloc (.cells #[.int .u8 0, .int .u8 0, .int .u8 0, .int .u8 0, .int .u8 0, .int .u8 0, .int .u8 0, .int .u8 0, .int .u8 0, .int .u8 0, .int .u8 0, .int .u8 0, .int .u8 0, .int .u8 0, .int .u8 0, .int .u8 0, .int .u8 0, .int .u8 0, .int .u8 0, .int .u8 0, .int .u8 0, .int .u8 0, .int .u8 0, .int .u8 0, .int .u8 0, .int .u8 0, .int .u8 0, .int .u8 0, .int .u8 0, .int .u8 0, .int .u8 0, .int .u8 0] 69)).alloc (.cells #[.int .u8 (tag : Int), .string s] 98)).heap.size = w.heap.size + 2 := by simp
  have HL : Hid (∀ w', Below w.heap.size w w' → Sem.run Try.prog (Instr.lookup 88 (.map (some r)) (.agg #[.int .u8 (tag : Int), .string s]) true) w' = .ok (.tuple #[.agg (va 32 (iv .u8 y)), .bool false]) w') := hl
  clear hl
  go_enter Try.func43, Try.ntmps43
  go_wp2_with fail
  generalize ((w.alloc (.cells #[.int .u8 0, .int .u8 0, .int .u8 0, .int .u8 0, .int .u8 0, .int .u8 0, .int .u8 0, .int .u8 0, .int .u8 0, .int .u8 0, .int .u8 0, .int .u8 0, .int .u8 0, .int .u8 0, .int .u8 0, .int .u8 0, .int .u8 0, .int .u8 0, .int .u8 0, .int .u8 0, .int .u8 0, .int .u8 0, .int .u8 0, .int .u8 0, .int .u8 0, .int .u8 0, .int .u8 0, .int .u8 0, .int .u8 0, .int .u8 0, .int .u8 0, .int .u8 0] 69)).alloc (.cells #[.int .u8 (tag : Int), .string s] 98)) = w1 at *
  refine wp_region_partsI [7] [([4, 0], 1, true), ([], 2, true), ([], 3, true), ([], 5, true), ([6, 7, 8], 9, false), ([], 10, false)] [] [11] w1.heap.size (by kernel_rfl) (by kernel_rfl) (lows_one ⟨⟨w.heap.size + 1, 0, none⟩, _, _, _, rfl, e1.lt, e1⟩) (partsI_yield ?_)
  simp only [List.cons_append, List.nil_append, List.append_nil, List.filterMap_cons, List.filterMap_nil, List.getElem?_toArray, List.getElem?_cons_zero, List.getElem?_cons_succ]
  refine wpList_load_row (by rfl) 98 _ (by rfl) (w.heap.size + 1) (by rfl) 98 #[.int .u8 (tag : Int), .string s] (0, 0) _ e1.drew Try.underlying98 (by rfl) sizeEnt ?_
  simp only [Act.put, List.setIfInBounds_toArray, List.set_cons_zero, List.set_cons_succ]
  go_wp2_with fail
  refine ⟨rfl, _, .pointer (some ⟨g, 0, none⟩), rfl, Or.inl ⟨by rfl, fun W hW => by go_simp⟩, partsI_yield ?_⟩
  simp only [Act.put, List.setIfInBounds_toArray, List.set_cons_zero, List.set_cons_succ]
  simp only [List.cons_append, List.nil_append, List.append_nil, List.filterMap_cons, List.filterMap_nil, List.getElem?_toArray, List.getElem?_cons_zero, List.getElem?_cons_succ]
  go_wp2_with fail
  refine ⟨rfl, _, .pointer (some ⟨g, 1, none⟩), rfl, Or.inl ⟨by rfl, fun W hW => by go_simp⟩, partsI_yield ?_⟩
  simp only [Act.put, List.setIfInBounds_toArray, List.set_cons_zero, List.set_cons_succ]
  simp only [List.cons_append, List.nil_append, List.append_nil, List.filterMap_cons, List.filterMap_nil, List.getElem?_toArray, List.getElem?_cons_zero, List.getElem?_cons_succ]
  go_wp2_with fail
  refine ⟨rfl, _, .map (some r), rfl, Or.inl ⟨by rfl, fun W hW => by have cw : W.cell? ⟨g, 1, none⟩ = some (.map (some r)) := (by rw [(hB1.below hW hB1.lt).cell]; rfl); go_simp⟩, partsI_yield ?_⟩
  simp only [Act.put, List.setIfInBounds_toArray, List.set_cons_zero, List.set_cons_succ]
  simp only [List.cons_append, List.nil_append, List.append_nil, List.filterMap_cons, List.filterMap_nil, List.getElem?_toArray, List.getElem?_cons_zero, List.getElem?_cons_succ]
  go_wp2_with fail
  refine ⟨rfl, _, .tuple #[.agg (va 32 (iv .u8 y)), .bool false], rfl, Or.inl ⟨by rfl, fun W hW => by have lw := HL.out W (hb1.trans (hW.mono (by omega))); go_simp⟩, partsI_force ?_⟩
  simp only [Act.put, List.setIfInBounds_toArray, List.set_cons_zero, List.set_cons_succ]
  simp only [List.cons_append, List.nil_append, List.append_nil, List.filterMap_cons, List.filterMap_nil, List.getElem?_toArray, List.getElem?_cons_zero, List.getElem?_cons_succ]
  go_wp2_with fail
  have hbn : Below w1.heap.size w1 (w1.alloc (.cells #[.int .u8 0, .int .u8 0, .int .u8 0, .int .u8 0, .int .u8 0, .int .u8 0, .int .u8 0, .int .u8 0, .int .u8 0, .int .u8 0, .int .u8 0, .int .u8 0, .int .u8 0, .int .u8 0, .int .u8 0, .int .u8 0, .int .u8 0, .int .u8 0, .int .u8 0, .int .u8 0, .int .u8 0, .int .u8 0, .int .u8 0, .int .u8 0, .int .u8 0, .int .u8 0, .int .u8 0, .int .u8 0, .int .u8 0, .int .u8 0, .int .u8 0, .int .u8 0] 69)).drew := ((Below.refl _ _).alloc (Nat.le_refl _) _).drew
  refine ⟨rfl, hbn, partsI_force ?_⟩
  simp only [List.cons_append, List.nil_append, List.append_nil, List.filterMap_cons, List.filterMap_nil, List.getElem?_toArray, List.getElem?_cons_zero, List.getElem?_cons_succ]
  have n0 : Blk (w1.alloc (.cells #[.int .u8 0, .int .u8 0, .int .u8 0, .int .u8 0, .int .u8 0, .int .u8 0, .int .u8 0, .int .u8 0, .int .u8 0, .int .u8 0, .int .u8 0, .int .u8 0, .int .u8 0, .int .u8 0, .int .u8 0, .int .u8 0, .int .u8 0, .int .u8 0, .int .u8 0, .int .u8 0, .int .u8 0, .int .u8 0, .int .u8 0, .int .u8 0, .int .u8 0, .int .u8 0, .int .u8 0, .int .u8 0, .int .u8 0, .int .u8 0, .int .u8 0, .int .u8 0] 69)).drew (w.heap.size + 2) 69 (va 32 (iv .u8 fun _ => 0)) := by
    rw [← hs1]
    exact Blk.new _ _ _
  have hb2 : Below w1.heap.size w1 ((w1.alloc (.cells #[.int .u8 0, .int .u8 0, .int .u8 0, .int .u8 0, .int .u8 0, .int .u8 0, .int .u8 0, .int .u8 0, .int .u8 0, .int .u8 0, .int .u8 0, .int .u8 0, .int .u8 0, .int .u8 0, .int .u8 0, .int .u8 0, .int .u8 0, .int .u8 0, .int .u8 0, .int .u8 0, .int .u8 0, .int .u8 0, .int .u8 0, .int .u8 0, .int .u8 0, .int .u8 0, .int .u8 0, .int .u8 0, .int .u8 0, .int .u8 0, .int .u8 0, .int .u8 0] 69)).drew.setRow (w.heap.size + 2) (va 32 (iv .u8 y))) := below_setRow hbn (by omega) _
  have n2 := n0.set (va 32 (iv .u8 y))
  refine wpList_store_row (by rfl) 69 _ _ (by rfl) (w.heap.size + 2) (va 32 (iv .u8 y)) (by rfl) (by rfl) 69 _ n0 (sizeSum.trans (by rw [va_size])) (by rw [va_size, va_size]) (iv_one _ _ _) ?_
  simp only [Act.put, List.setIfInBounds_toArray, List.set_cons_zero, List.set_cons_succ]
  refine ⟨rfl, hb2, partsI_last ?_⟩
  simp only [List.cons_append, List.nil_append, List.append_nil, List.filterMap_cons, List.filterMap_nil, List.getElem?_toArray, List.getElem?_cons_zero, List.getElem?_cons_succ]
  generalize (w1.alloc (.cells #[.int .u8 0, .int .u8 0, .int .u8 0, .int .u8 0, .int .u8 0, .int .u8 0, .int .u8 0, .int .u8 0, .int .u8 0, .int .u8 0, .int .u8 0, .int .u8 0, .int .u8 0, .int .u8 0, .int .u8 0, .int .u8 0, .int .u8 0, .int .u8 0, .int .u8 0, .int .u8 0, .int .u8 0, .int .u8 0, .int .u8 0, .int .u8 0, .int .u8 0, .int .u8 0, .int .u8 0, .int .u8 0, .int .u8 0, .int .u8 0, .int .u8 0, .int .u8 0] 69)).drew.setRow (w.heap.size + 2) (va 32 (iv .u8 y)) = w2 at *
  have r2 := r1.below hb2 r1.lt
  have e2 := e1.below hb2 e1.lt
  have b2 : Below w.heap.size w w2 := hb1.trans (hb2.mono (by omega))
  clear n0 hbn hB1 HL
  go_wp2_with fail
  refine ⟨rfl, ?_⟩
  go_wp2_with fail
  refine (hO.out _).mono ?_
  rintro e w3 ⟨rfl, hb3⟩
  have r3 := r2.below hb3 r2.lt
  have e3 := e2.below hb3 e2.lt
  have b3 : Below w.heap.size w w3 := b2.trans (hb3.mono b2.size)
  have hs3 : w.heap.size + 2 ≤ w3.heap.size := Nat.le_trans (Nat.le_of_lt n2.lt) hb3.size
  clear r2 e2 b2 hb3 n2 r1 e1 hb1 hb2
  have n3 : Blk (w3.alloc (.cells #[.int .u8 0, .int .u8 0, .int .u8 0, .int .u8 0, .int .u8 0, .int .u8 0, .int .u8 0, .int .u8 0, .int .u8 0, .int .u8 0, .int .u8 0, .int .u8 0, .int .u8 0, .int .u8 0, .int .u8 0, .int .u8 0, .int .u8 0, .int .u8 0, .int .u8 0, .int .u8 0, .int .u8 0, .int .u8 0, .int .u8 0, .int .u8 0, .int .u8 0, .int .u8 0, .int .u8 0, .int .u8 0, .int .u8 0, .int .u8 0, .int .u8 0, .int .u8 0] 69)) w3.heap.size 69 (va 32 (iv .u8 fun _ => 0)) := Blk.new _ _ _
  have q3 : Blk ((w3.alloc (.cells #[.int .u8 0, .int .u8 0, .int .u8 0, .int .u8 0, .int .u8 0, .int .u8 0, .int .u8 0, .int .u8 0, .int .u8 0, .int .u8 0, .int .u8 0, .int .u8 0, .int .u8 0, .int .u8 0, .int .u8 0, .int .u8 0, .int .u8 0, .int .u8 0, .int .u8 0, .int .u8 0, .int .u8 0, .int .u8 0, .int .u8 0, .int .u8 0, .int .u8 0, .int .u8 0, .int .u8 0, .int .u8 0, .int .u8 0, .int .u8 0, .int .u8 0, .int .u8 0] 69)).setRow w3.heap.size (va 32 (iv .u8 x))) w3.heap.size 69 (va 32 (iv .u8 x)) := n3.set _
  have r4 : Blk ((w3.alloc (.cells #[.int .u8 0, .int .u8 0, .int .u8 0, .int .u8 0, .int .u8 0, .int .u8 0, .int .u8 0, .int .u8 0, .int .u8 0, .int .u8 0, .int .u8 0, .int .u8 0, .int .u8 0, .int .u8 0, .int .u8 0, .int .u8 0, .int .u8 0, .int .u8 0, .int .u8 0, .int .u8 0, .int .u8 0, .int .u8 0, .int .u8 0, .int .u8 0, .int .u8 0, .int .u8 0, .int .u8 0, .int .u8 0, .int .u8 0, .int .u8 0, .int .u8 0, .int .u8 0] 69)).setRow w3.heap.size (va 32 (iv .u8 x))) w.heap.size 69 (va 32 (iv .u8 fun _ => 0)) := (r3.alloc _).other _ (by omega)
  have e4 : Blk ((w3.alloc (.cells #[.int .u8 0, .int .u8 0, .int .u8 0, .int .u8 0, .int .u8 0, .int .u8 0, .int .u8 0, .int .u8 0, .int .u8 0, .int .u8 0, .int .u8 0, .int .u8 0, .int .u8 0, .int .u8 0, .int .u8 0, .int .u8 0, .int .u8 0, .int .u8 0, .int .u8 0, .int .u8 0, .int .u8 0, .int .u8 0, .int .u8 0, .int .u8 0, .int .u8 0, .int .u8 0, .int .u8 0, .int .u8 0, .int .u8 0, .int .u8 0, .int .u8 0, .int .u8 0] 69)).setRow w3.heap.size (va 32 (iv .u8 x))) (w.heap.size + 1) 98 #[.int .u8 (tag : Int), .string s] := (e3.alloc _).other _ (by omega)
  have b4 : Below w.heap.size w ((w3.alloc (.cells #[.int .u8 0, .int .u8 0, .int .u8 0, .int .u8 0, .int .u8 0, .int .u8 0, .int .u8 0, .int .u8 0, .int .u8 0, .int .u8 0, .int .u8 0, .int .u8 0, .int .u8 0, .int .u8 0, .int .u8 0, .int .u8 0, .int .u8 0, .int .u8 0, .int .u8 0, .int .u8 0, .int .u8 0, .int .u8 0, .int .u8 0, .int .u8 0, .int .u8 0, .int .u8 0, .int .u8 0, .int .u8 0, .int .u8 0, .int .u8 0, .int .u8 0, .int .u8 0] 69)).setRow w3.heap.size (va 32 (iv .u8 x))) := below_setRow (b3.alloc (by omega) _) (by omega) _
  go_wp2_with (first
    | (refine wpList_store_row (by rfl) 69 _ _ (by rfl) (w3.heap.size) (va 32 (iv .u8 x)) (by rfl) (by rfl) 69 _ n3 (sizeSum.trans (by rw [va_size])) (by rw [va_size, va_size]) (iv_one _ _ _) ?_; simp only [Act.put, List.setIfInBounds_toArray, List.set_cons_zero, List.set_cons_succ])
    | (refine wpList_load_row (by rfl) 98 _ (by rfl) (w.heap.size + 1) (by rfl) 98 (#[.int .u8 (tag : Int), .string s]) (0, 0) _ e4 Try.underlying98 (by rfl) (sizeEnt) ?_; simp only [Act.put, List.setIfInBounds_toArray, List.set_cons_zero, List.set_cons_succ])
    | (refine wpList_load_row (by rfl) 69 _ (by rfl) (w3.heap.size) (by rfl) 69 (va 32 (iv .u8 x)) (0, 0) _ q3 Try.underlying69 (by rfl) (sizeSum.trans (by rw [va_size])) ?_; simp only [Act.put, List.setIfInBounds_toArray, List.set_cons_zero, List.set_cons_succ])
    | fail)
  generalize (w3.alloc (.cells #[.int .u8 0, .int .u8 0, .int .u8 0, .int .u8 0, .int .u8 0, .int .u8 0, .int .u8 0, .int .u8 0, .int .u8 0, .int .u8 0, .int .u8 0, .int .u8 0, .int .u8 0, .int .u8 0, .int .u8 0, .int .u8 0, .int .u8 0, .int .u8 0, .int .u8 0, .int .u8 0, .int .u8 0, .int .u8 0, .int .u8 0, .int .u8 0, .int .u8 0, .int .u8 0, .int .u8 0, .int .u8 0, .int .u8 0, .int .u8 0, .int .u8 0, .int .u8 0] 69)).setRow w3.heap.size (va 32 (iv .u8 x)) = w4 at *
  have hlog := hh.below b4
  refine (hA.out _ hlog).mono ?_
  rintro e w5 ⟨rfl, v5, hlog5, hk5, hv5⟩
  have hvb : ∀ k, v.ownBlock = some k → k < w.heap.size := fun k hk => (hown.lt k hk).2
  have hrl : r < w.heap.size := by obtain ⟨es, cl, hg, _⟩ := hM; exact (Array.getElem?_eq_some_iff.1 hg).1
  have q5 : Blk w5 w3.heap.size 69 (va 32 (iv .u8 x)) := (hk5.2.2.2.2 _ q3.lt (by omega) (by omega) (fun q => by have := hvb _ q; omega)).trans q3
  have r5 : Blk w5 w.heap.size 69 (va 32 (iv .u8 fun _ => 0)) := (hk5.2.2.2.2 _ r4.lt (by omega) (by omega) (fun q => by have := hvb _ q; omega)).trans r4
  have hl5 := hlog5
  have hgk : w.heap.size ≤ w5.heap.size := Nat.le_trans b4.size hk5.2.2.2.1
  go_wp2_with (first
    | (refine wpList_load_row (by rfl) 69 _ (by rfl) (w3.heap.size) (by rfl) 69 (va 32 (iv .u8 x)) (0, 0) _ q5 Try.underlying69 (by rfl) (sizeSum.trans (by rw [va_size])) ?_; simp only [Act.put, List.setIfInBounds_toArray, List.set_cons_zero, List.set_cons_succ])
    | (refine wpList_store_row (by rfl) 69 _ _ (by rfl) (w.heap.size) (va 32 (iv .u8 x)) (by rfl) (by rfl) 69 _ r5 (sizeSum.trans (by rw [va_size])) (by rw [va_size, va_size]) (iv_one _ _ _) ?_; simp only [Act.put, List.setIfInBounds_toArray, List.set_cons_zero, List.set_cons_succ])
    | fail)
  try simp only [Exit.inBlock, Exit.then]
  refine bodyPost_ret (results_cell_row Try.results43 _ _ w.heap.size 69 (va 32 (iv .u8 x)) (0, 0) _ rfl (r5.set _) Try.underlying69 rfl (sizeSum.trans (by rw [va_size]))) rfl ?_
  have hoth : ∀ k, k ≠ w.heap.size → (w5.setRow w.heap.size (va 32 (iv .u8 x))).heap[k]? = w5.heap[k]? := fun k hk => setRow_other w5 w.heap.size k _ hk
  have hne5 : v5.ownBlock ≠ some w.heap.size := own_ne hlog5.2.1 r5 (by decide)
  refine ⟨rfl, v5, ⟨hlog5.1.other _ (by omega), own_block hlog5.2.1 (fun k hk => hoth k (fun q => hne5 (q ▸ hk))), ?_⟩, ⟨hk5.1.trans b4.os, hk5.2.1.trans b4.tape, hk5.2.2.1.trans b4.output, ?_, fun k h1 h2 h3 h4 => ?_⟩, ?_⟩
  · obtain ⟨es, cl, hg, he⟩ := hlog5.2.2
    exact ⟨es, cl, (hoth r (by omega)).trans hg, he⟩
  · simp [World.setRow]
    omega
  · rw [hoth k (by omega), hk5.2.2.2.2 k (Nat.lt_of_lt_of_le h1 b4.size) h2 h3 h4]
    exact b4.block k h1
  · rcases hv5 with q | ⟨k, q, hk⟩
    · exact .inl q
    · exact .inr ⟨k, q, Nat.le_trans b4.size hk⟩
end Go.Proofs.Ytaoglljkghkbpaa
