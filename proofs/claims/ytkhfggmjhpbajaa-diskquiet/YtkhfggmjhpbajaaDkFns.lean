/- A quiet disk: the program's contracts of Dead, has, begin, Contains of no cuts, next, Blocks. -/
import Derived.Test.YtkhfggmjhpbajaaDkKit
import Derived.Test.YtkhfggmjhpbajaaDkNil
import Derived.BigQuiet
import Derived.Deep.QuietTactic
import Derived.Handy
namespace Go.Proofs.Ytkhfggmjhpbajaa
open Go Go.RowKit
set_option linter.unusedSimpArgs false
set_option linter.unusedVariables false

theorem zero_steps (w : World) : (zeroValue 39).run Try.prog w = .ok (.slice none 0 0) w := by
  have h : (Try.prog.info? 39).bind (·.zero) = some (.slice none 0 0) := by kernel_rfl
  cases hq : Try.prog.info? 39 with
  | none => simp [hq] at h
  | some i =>
    have hi : i.zero = some (.slice none 0 0) := by simpa [hq] using h
    simp [zeroValue, typeInfo, hq, hi]
theorem chk_int (e : Bool) (x : Int) (w : World) : (Instr.checkKey e 10000 3 (.int .i64 x)).run Try.prog w = .ok () w := by
  rw [show (10000 : Nat) = 9999 + 1 from rfl, Instr.checkKey]
  simp [run_underlying Try.underlying3]
theorem lookup_planless (x : Int) (w : World) : (Instr.lookup 85 (.map none) (.int .i64 x) false).run Try.prog w = .ok (.slice none 0 0) w := by
  simp [Instr.lookup, run_underlying Try.underlying85, chk_int, zero_steps, Instr.findKey, run_underlying Try.underlying3, Instr.findNow]
theorem delete_planless (x : Int) (ty : TypeId) (w : World) : (Builtin.delete_ #[85, 3] ty #[.map none, .int .i64 x]).run Try.prog w = .ok (.tuple #[]) w := by
  simp [Builtin.delete_, run_underlying Try.underlying85, chk_int]

section
variable {w : World} {B g N k lg : Nat} {F : Nat → Nat} {q : QD}
theorem DiskQ.c (h : DiskQ w B g N F k lg q) (i : Nat) : w.cell? ⟨g, i, none⟩ = (dcells q N k)[i]? := h.cells.cell i
set_option maxHeartbeats 1000000 in
theorem dead_q (hd : q.dd = false) (w : World) (h : DiskQ w B g N F k lg q) : Calls Try.prog 11 #[.pointer (some ⟨g, 0, none⟩)] w fun e w' => e = .returned (.bool false) ∧ w = w' := by
  have c5 : w.cell? ⟨g, 5, none⟩ = some (.bool false) := by rw [h.c]; show some (Value.bool q.dd) = _; rw [hd]
  clear h
  go_enter Try.func11, Try.ntmps11
  go_wp2_with fail
  go_ret
  exact ⟨rfl, rfl⟩
set_option maxHeartbeats 1000000 in
theorem blocks_q (w : World) (h : DiskQ w B g N F k lg q) : Calls Try.prog 14 #[.pointer (some ⟨g, 0, none⟩)] w fun e w' => e = .returned (.int .i64 (N : Int)) ∧ w = w' := by
  have c0 : w.cell? ⟨g, 0, none⟩ = some (.slice (some ⟨q.gn, 0, none⟩) N N) := by rw [h.c]; rfl
  clear h
  go_enter Try.func14, Try.ntmps14
  go_wp2_with fail
  go_ret
  exact ⟨rfl, rfl⟩
set_option maxHeartbeats 1000000 in
theorem has_q (at0 : Nat) (hat : at0 < N) (w : World) (h : DiskQ w B g N F k lg q) : Calls Try.prog 49 #[.pointer (some ⟨g, 0, none⟩), .int .i64 (at0 : Int)] w fun e w' => e = .returned (.bool true) ∧ w = w' := by
  have c0 : w.cell? ⟨g, 0, none⟩ = some (.slice (some ⟨q.gn, 0, none⟩) N N) := by rw [h.c]; rfl
  have h0 : (0 : Int) ≤ (at0 : Int) := by omega
  have h1 : (at0 : Int) < (N : Int) := by omega
  clear h hat
  go_enter Try.func49, Try.ntmps49
  go_wp2_with fail
  go_ret
  exact ⟨rfl, rfl⟩
set_option maxRecDepth 100000 in
set_option maxHeartbeats 4000000 in
theorem begin_q (hd : q.dd = false) (hp : q.pl = .map none) (at0 : Nat) (hat : at0 < N) (hk : k < 4611686018427387904) (w : World) (h : DiskQ w B g N F k lg q) :
    Calls Try.prog 42 #[.pointer (some ⟨g, 0, none⟩), .int .i64 (at0 : Int)] w fun e w' => e = .returned (.int .i64 0) ∧ DiskQ w' B g N F (k + 1) lg q ∧ Moved g N q q w w' := by
  have hD : Hid (∀ w : World, DiskQ w B g N F k lg q → Calls Try.prog 11 #[.pointer (some ⟨g, 0, none⟩)] w fun e w' => e = .returned (.bool false) ∧ w = w') := fun w h => dead_q hd w h
  have hH : Hid (∀ w : World, DiskQ w B g N F k lg q → Calls Try.prog 49 #[.pointer (some ⟨g, 0, none⟩), .int .i64 (at0 : Int)] w fun e w' => e = .returned (.bool true) ∧ w = w') := fun w h => has_q at0 hat w h
  have c3 : w.cell? ⟨g, 2, none⟩ = some q.sv := by rw [h.c]; rfl
  have c4 : w.cell? ⟨g, 3, none⟩ = some (.map none) := by rw [h.c]; show some q.pl = _; rw [hp]
  have c6 : w.cell? ⟨g, 6, none⟩ = some (.int .i64 (k : Int)) := by rw [h.c]; rfl
  have f6 : w.frozen? ⟨g, 6, none⟩ = false := h.cells.frozen 6
  have HQ : Hid (DiskQ w B g N F k lg q) := h
  clear h hd hp hat
  have hlk := lookup_planless (k : Int)
  have hdl := delete_planless (k : Int)
  go_enter Try.func42, Try.ntmps42
  go_wp2_with fail
  refine (hD.out _ HQ.out).mono ?_
  rintro e _ ⟨rfl, rfl⟩
  go_wp2_with fail
  refine (hH.out _ HQ.out).mono ?_
  rintro e _ ⟨rfl, rfl⟩
  go_wp2_with fail
  go_quiet (fail)
  go_wp2_with fail
  go_loopw [23] (fun t wr => t = .int .i64 0 ∧ ∃ n, wr = w.drewN n) (fun _ _ => 0)
  case atStart => exact ⟨rfl, _, rfl⟩
  case round =>
    obtain ⟨rfl, n, rfl⟩ := hrel
    have HQ1 : Hid (DiskQ (w.drewN n) B g N F k lg q) := HQ.out.below (dkbelow_drewN (Below.refl _ _) _)
    have HM1 : Hid (Moved g N q q w (w.drewN n)) := .of_below (dkbelow_drewN (Below.refl _ _) _)
    generalize w.drewN n = w1 at *
    have e4 : w1.cell? ⟨g, 3, none⟩ = some (.map none) := by rw [HQ1.out.c, ← HQ.out.c]; exact c4
    have e6 : w1.cell? ⟨g, 6, none⟩ = some (.int .i64 (k : Int)) := by rw [HQ1.out.c]; rfl
    have e6f : w1.frozen? ⟨g, 6, none⟩ = false := HQ1.out.cells.frozen 6
    have e4B : ∀ W, Below w1.heap.size w1 W → W.cell? ⟨g, 3, none⟩ = some (.map none) := fun W hW => by
      have := (HQ1.out.below hW).c 3
      rw [this, ← HQ.out.c]
      exact c4
    go_wp2_with fail
    refine wp_region_partsI [] [([0, 4], 1, true), ([], 2, true), ([], 3, true), ([], 5, false), ([], 6, false), ([], 7, false), ([], 8, false)] [] [] (w1.heap.size) (by kernel_rfl) (by kernel_rfl) (fun _ hx => nomatch hx) (partsI_yield ?_)
    simp only [List.cons_append, List.nil_append, List.append_nil, List.filterMap_cons, List.filterMap_nil, List.getElem?_toArray, List.getElem?_cons_zero, List.getElem?_cons_succ]
    have hS : Below (w1.heap.size) w1 w1.drew := (Below.refl _ _).drew
    go_wp2_with fail
    refine ⟨rfl, _, .pointer (some ⟨g, 0, none⟩), rfl, Or.inl ⟨by rfl, fun W hW => by go_simp⟩, partsI_yield ?_⟩
    simp only [Act.put, List.setIfInBounds_toArray, List.set_cons_zero, List.set_cons_succ]
    simp only [List.cons_append, List.nil_append, List.append_nil, List.filterMap_cons, List.filterMap_nil, List.getElem?_toArray, List.getElem?_cons_zero, List.getElem?_cons_succ]
    go_wp2_with fail
    refine ⟨rfl, _, .pointer (some ⟨g, 3, none⟩), rfl, Or.inl ⟨by rfl, fun W hW => by go_simp⟩, partsI_yield ?_⟩
    simp only [Act.put, List.setIfInBounds_toArray, List.set_cons_zero, List.set_cons_succ]
    simp only [List.cons_append, List.nil_append, List.append_nil, List.filterMap_cons, List.filterMap_nil, List.getElem?_toArray, List.getElem?_cons_zero, List.getElem?_cons_succ]
    go_wp2_with fail
    refine ⟨rfl, _, .map none, rfl, Or.inl ⟨by rfl, fun W hW => by have e4W : W.cell? ⟨g, 3, none⟩ = some (.map none) := (e4B W hW); go_simp⟩, partsI_force ?_⟩
    simp only [Act.put, List.setIfInBounds_toArray, List.set_cons_zero, List.set_cons_succ]
    simp only [List.cons_append, List.nil_append, List.append_nil, List.filterMap_cons, List.filterMap_nil, List.getElem?_toArray, List.getElem?_cons_zero, List.getElem?_cons_succ]
    go_wp2_with fail
    refine ⟨rfl, hS, partsI_force ?_⟩
    simp only [List.cons_append, List.nil_append, List.append_nil, List.filterMap_cons, List.filterMap_nil, List.getElem?_toArray, List.getElem?_cons_zero, List.getElem?_cons_succ]
    go_wp2_with fail
    refine ⟨rfl, hS, partsI_force ?_⟩
    simp only [List.cons_append, List.nil_append, List.append_nil, List.filterMap_cons, List.filterMap_nil, List.getElem?_toArray, List.getElem?_cons_zero, List.getElem?_cons_succ]
    go_wp2_with fail
    refine ⟨rfl, hS, partsI_force ?_⟩
    simp only [List.cons_append, List.nil_append, List.append_nil, List.filterMap_cons, List.filterMap_nil, List.getElem?_toArray, List.getElem?_cons_zero, List.getElem?_cons_succ]
    go_wp2_with fail
    refine ⟨rfl, hS, partsI_last ?_⟩
    simp only [List.cons_append, List.nil_append, List.append_nil, List.filterMap_cons, List.filterMap_nil, List.getElem?_toArray, List.getElem?_cons_zero, List.getElem?_cons_succ]
    go_wp2_with fail
    refine ⟨rfl, ?_⟩
    go_wp2_with fail
    go_ret
    have hB : Blk (w1.drew.setCell ⟨g, 6, none⟩ (.int .i64 ((k + 1 : Nat) : Int))) g 88 (dcells q N (k + 1)) := HQ1.out.cells.drew.put 6 (.int .i64 ((k + 1 : Nat) : Int))
    refine ⟨rfl, HQ1.out.put (Nat.le_succ _) q.ev hB fun b hb => Deep.blk_setCell_other w1.drew ⟨g, 6, none⟩ _ b hb, HM1.out.trans ⟨⟨rfl, rfl, rfl, by show w1.heap.size ≤ (w1.setCell _ _).heap.size; rw [Deep.nblk_setCell]; exact Nat.le_refl _, fun b hb hf => Deep.blk_setCell_other w1.drew ⟨g, 6, none⟩ _ b fun e => hf (.inl e)⟩, fun b hb => .inl hb⟩⟩
set_option maxHeartbeats 2000000 in
theorem index_none (e0 : Int) (f0 : Bool) (w : World) : Calls Try.prog 54 #[.slice none 0 0, .agg #[.int .i64 e0, .bool f0]] w fun e w' => e = .returned (.int .i64 (-1)) ∧ Below w.heap.size w w' := by
  go_enter Try.func54, Try.ntmps54
  go_wp2_with fail
  have hb : Below w.heap.size w (w.alloc (.cells #[.int .i64 e0, .bool f0] 41)) := below_new1 _ _
  go_loopw [8] (fun t wr => t = .int .i64 0 ∧ wr = w.alloc (.cells #[.int .i64 e0, .bool f0] 41)) (fun _ _ => 0)
  case atStart => exact ⟨rfl, rfl⟩
  case round =>
    obtain ⟨rfl, rfl⟩ := hrel
    go_wp2_with fail
    go_ret
    exact ⟨rfl, hb⟩
set_option maxHeartbeats 2000000 in
theorem contains_none (e0 : Int) (f0 : Bool) (w : World) : Calls Try.prog 51 #[.slice none 0 0, .agg #[.int .i64 e0, .bool f0]] w fun e w' => e = .returned (.bool false) ∧ Below w.heap.size w w' := by
  have hI : Hid (∀ w : World, Calls Try.prog 54 #[.slice none 0 0, .agg #[.int .i64 e0, .bool f0]] w fun e w' => e = .returned (.int .i64 (-1)) ∧ Below w.heap.size w w') := index_none e0 f0
  have hb : Below w.heap.size w (w.alloc (.cells #[.int .i64 e0, .bool f0] 41)) := below_new1 _ _
  go_enter Try.func51, Try.ntmps51
  go_wp2_with fail
  refine (hI.out _).mono ?_
  rintro e w1 ⟨rfl, hb1⟩
  go_wp2_with fail
  go_ret
  exact ⟨rfl, hb.trans (hb1.mono hb.size)⟩
set_option maxRecDepth 100000 in
set_option maxHeartbeats 4000000 in
theorem next_q (hc : q.cu = .slice none 0 0) (hev : 0 ≤ q.ev ∧ q.ev < 4611686018427387904) (w : World) (h : DiskQ w B g N F k lg q) :
    Calls Try.prog 43 #[.pointer (some ⟨g, 0, none⟩)] w fun e w' => e = .returned (.tuple #[.bool true, .int .i64 0]) ∧ DiskQ w' B g N F k lg { q with ev := q.ev + 1 } ∧ Moved g N q { q with ev := q.ev + 1 } w w' := by
  have hI : Hid (∀ (e0 : Int) (f0 : Bool) (w : World), Calls Try.prog 51 #[.slice none 0 0, .agg #[.int .i64 e0, .bool f0]] w fun e w' => e = .returned (.bool false) ∧ Below w.heap.size w w') := contains_none
  have c7 : w.cell? ⟨g, 7, none⟩ = some (.int .i64 q.ev) := by rw [h.c]; rfl
  have f7 : w.frozen? ⟨g, 7, none⟩ = false := h.cells.frozen 7
  obtain ⟨E, hE⟩ : ∃ E, E = q.ev := ⟨_, rfl⟩
  have hB : Blk (w.setCell ⟨g, 7, none⟩ (.int .i64 (q.ev + 1))) g 88 (dcells { q with ev := q.ev + 1 } N k) := h.cells.put 7 _
  have HQ1 : Hid (DiskQ (w.setCell ⟨g, 7, none⟩ (.int .i64 (q.ev + 1))) B g N F k lg { q with ev := q.ev + 1 }) := h.put (Nat.le_refl _) _ hB fun b hb => Deep.blk_setCell_other w ⟨g, 7, none⟩ _ b hb
  have HM1 : Hid (Moved g N q { q with ev := q.ev + 1 } w (w.setCell ⟨g, 7, none⟩ (.int .i64 (q.ev + 1)))) := ⟨⟨rfl, rfl, rfl, by rw [Deep.nblk_setCell]; exact Nat.le_refl _, fun b hb hf => Deep.blk_setCell_other w ⟨g, 7, none⟩ _ b fun e => hf (.inl e)⟩, fun b hb => .inl hb⟩
  have HC : Hid (∀ W, DiskQ W B g N F k lg { q with ev := q.ev + 1 } → W.cell? ⟨g, 4, none⟩ = some (.slice none 0 0)) := fun W hW => by
    rw [hW.c]
    show some q.cu = _
    rw [hc]
  have d4 := HC.out _ HQ1.out
  clear hB h hc
  rw [← hE] at c7 hev HQ1 HM1 HC d4 ⊢
  generalize ({ q with ev := E + 1 } : QD) = q' at *
  clear hE
  go_enter Try.func43, Try.ntmps43
  go_wp2_with fail
  generalize w.setCell ⟨g, 7, none⟩ (.int .i64 (E + 1)) = w1 at *
  refine (hI.out _ _ _).mono ?_
  rintro e w2 ⟨rfl, hb2⟩
  have HQ2 : Hid (DiskQ w2 B g N F k lg q') := HQ1.out.below hb2
  have HM2 : Hid (Moved g N q q' w w2) := HM1.out.trans (.of_below hb2)
  have d5 := HC.out _ HQ2.out
  clear hb2
  go_wp2_with fail
  refine (hI.out _ _ _).mono ?_
  rintro e w3 ⟨rfl, hb3⟩
  go_wp2_with fail
  try simp only [Exit.inBlock, Exit.then]
  refine bodyPost_ret (results_tmp2 Try.results43 _ _ _) rfl ?_
  exact ⟨rfl, HQ2.out.below hb3, HM2.out.trans (.of_below hb3)⟩
end
end Go.Proofs.Ytkhfggmjhpbajaa
