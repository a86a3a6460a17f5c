/- What a block held from a raw step on, kept: the program's contract of keep, at a step that was not kept before. -/
import Derived.Test.YtdhbjcnbdfidcaaHDkNil
import Derived.BigQuiet
import Derived.Deep.QuietTactic
import Derived.Handy
import Derived.Test.YtdhbjcnbdfidcaaHDigHSum
import Derived.Test.YtdhbjcnbdfidcaaHRefPut

namespace Go.Proofs.Ytdhbjcnbdfidcaa
open Go Go.RowKit
set_option linter.unusedSimpArgs false
set_option linter.unusedVariables false

theorem zero_steps (w : World) : (zeroValue 103).run Try.prog w = .ok (.slice none 0 0) w := by
  have h : (Try.prog.info? 103).bind (·.zero) = some (.slice none 0 0) := by kernel_rfl
  cases hq : Try.prog.info? 103 with
  | none => simp [hq] at h
  | some i =>
    have hi : i.zero = some (.slice none 0 0) := by simpa [hq] using h
    simp [zeroValue, typeInfo, hq, hi]
theorem chk_int (e : Bool) (x : Int) (w : World) : (Instr.checkKey e 10000 3 (.int .i64 x)).run Try.prog w = .ok () w := by
  rw [show (10000 : Nat) = 9999 + 1 from rfl, Instr.checkKey]
  simp [run_underlying Try.underlying3]
theorem lookup_planless (x : Int) (w : World) : (Instr.lookup 81 (.map none) (.int .i64 x) false).run Try.prog w = .ok (.slice none 0 0) w := by
  simp [Instr.lookup, run_underlying Try.underlying81, chk_int, zero_steps, Instr.findKey, run_underlying Try.underlying3, Instr.findNow]
theorem delete_planless (x : Int) (ty : TypeId) (w : World) : (Builtin.delete_ #[81, 3] ty #[.map none, .int .i64 x]).run Try.prog w = .ok (.tuple #[]) w := by
  simp [Builtin.delete_, run_underlying Try.underlying81, chk_int]

section
variable {w : World} {B g N k lg : Nat} {F : Nat → Nat} {q : QD}
theorem DiskQ.c (h : DiskQ w B g N F k lg q) (i : Nat) : w.cell? ⟨g, i, none⟩ = (dcells q N k)[i]? := h.cells.cell i
set_option maxHeartbeats 1000000 in
theorem dead_q (hd : q.dd = false) (w : World) (h : DiskQ w B g N F k lg q) : Calls Try.prog 20 #[.pointer (some ⟨g, 0, none⟩)] w fun e w' => e = .returned (.bool false) ∧ w = w' := by
  have c5 : w.cell? ⟨g, 5, none⟩ = some (.bool false) := by rw [h.c]; show some (Value.bool q.dd) = _; rw [hd]
  clear h
  go_enter Try.func20, Try.ntmps20
  go_wp2_with fail
  go_ret
  exact ⟨rfl, rfl⟩
set_option maxHeartbeats 1000000 in
theorem has_q (at0 : Nat) (hat : at0 < N) (w : World) (h : DiskQ w B g N F k lg q) : Calls Try.prog 41 #[.pointer (some ⟨g, 0, none⟩), .int .i64 (at0 : Int)] w fun e w' => e = .returned (.bool true) ∧ w = w' := by
  have c0 : w.cell? ⟨g, 0, none⟩ = some (.slice (some ⟨q.gn, 0, none⟩) N N) := by rw [h.c]; rfl
  have h0 : (0 : Int) ≤ (at0 : Int) := by omega
  have h1 : (at0 : Int) < (N : Int) := by omega
  clear h hat
  go_enter Try.func41, Try.ntmps41
  go_wp2_with fail
  go_ret
  exact ⟨rfl, rfl⟩
set_option maxRecDepth 100000 in
set_option maxHeartbeats 4000000 in
theorem begin_q (hd : q.dd = false) (hp : q.pl = .map none) (at0 : Nat) (hat : at0 < N) (hk : k < 4611686018427387904) (w : World) (h : DiskQ w B g N F k lg q) :
    Calls Try.prog 34 #[.pointer (some ⟨g, 0, none⟩), .int .i64 (at0 : Int)] w fun e w' => e = .returned (.int .i64 0) ∧ DiskQ w' B g N F (k + 1) lg q ∧ Moved g N q q w w' := by
  have hD : Hid (∀ w : World, DiskQ w B g N F k lg q → Calls Try.prog 20 #[.pointer (some ⟨g, 0, none⟩)] w fun e w' => e = .returned (.bool false) ∧ w = w') := fun w h => dead_q hd w h
  have hH : Hid (∀ w : World, DiskQ w B g N F k lg q → Calls Try.prog 41 #[.pointer (some ⟨g, 0, none⟩), .int .i64 (at0 : Int)] w fun e w' => e = .returned (.bool true) ∧ w = w') := fun w h => has_q at0 hat w h
  have c3 : w.cell? ⟨g, 2, none⟩ = some q.sv := by rw [h.c]; rfl
  have c4 : w.cell? ⟨g, 3, none⟩ = some (.map none) := by rw [h.c]; show some q.pl = _; rw [hp]
  have c6 : w.cell? ⟨g, 6, none⟩ = some (.int .i64 (k : Int)) := by rw [h.c]; rfl
  have f6 : w.frozen? ⟨g, 6, none⟩ = false := h.cells.frozen 6
  have HQ : Hid (DiskQ w B g N F k lg q) := h
  clear h hd hp hat
  have hlk := lookup_planless (k : Int)
  have hdl := delete_planless (k : Int)
  go_enter Try.func34, Try.ntmps34
  go_wp2_with fail
  refine (hD.out _ HQ.out).mono ?_
  rintro e _ ⟨rfl, rfl⟩
  go_wp2_with fail
  refine (hH.out _ HQ.out).mono ?_
  rintro e _ ⟨rfl, rfl⟩
  go_wp2_with fail
  go_quiet (fail)
  go_wp2_with fail
  go_loopw [23] (fun t wr => t = .int .i64 0 ∧ ∃ n, wr = w.drewN n) (fun _ _ => 0)
  case atStart => exact ⟨rfl, _, rfl⟩
  case round =>
    obtain ⟨rfl, n, rfl⟩ := hrel
    have HQ1 : Hid (DiskQ (w.drewN n) B g N F k lg q) := HQ.out.below (dkbelow_drewN (Below.refl _ _) _)
    have HM1 : Hid (Moved g N q q w (w.drewN n)) := .of_below (dkbelow_drewN (Below.refl _ _) _)
    generalize w.drewN n = w1 at *
    have e4 : w1.cell? ⟨g, 3, none⟩ = some (.map none) := by rw [HQ1.out.c, ← HQ.out.c]; exact c4
    have e6 : w1.cell? ⟨g, 6, none⟩ = some (.int .i64 (k : Int)) := by rw [HQ1.out.c]; rfl
    have e6f : w1.frozen? ⟨g, 6, none⟩ = false := HQ1.out.cells.frozen 6
    have e4B : ∀ W, Below w1.heap.size w1 W → W.cell? ⟨g, 3, none⟩ = some (.map none) := fun W hW => by
      have := (HQ1.out.below hW).c 3
      rw [this, ← HQ.out.c]
      exact c4
    go_wp2_with fail
    refine wp_region_partsI [] [([0, 4], 1, true), ([], 2, true), ([], 3, true), ([], 5, false), ([], 6, false), ([], 7, false), ([], 8, false)] [] [] (w1.heap.size) (by kernel_rfl) (by kernel_rfl) (fun _ hx => nomatch hx) (partsI_yield ?_)
    simp only [List.cons_append, List.nil_append, List.append_nil, List.filterMap_cons, List.filterMap_nil, List.getElem?_toArray, List.getElem?_cons_zero, List.getElem?_cons_succ]
    have hS : Below (w1.heap.size) w1 w1.drew := (Below.refl _ _).drew
    go_wp2_with fail
    refine ⟨rfl, _, .pointer (some ⟨g, 0, none⟩), rfl, Or.inl ⟨by rfl, fun W hW => by go_simp⟩, partsI_yield ?_⟩
    simp only [Act.put, List.setIfInBounds_toArray, List.set_cons_zero, List.set_cons_succ]
    simp only [List.cons_append, List.nil_append, List.append_nil, List.filterMap_cons, List.filterMap_nil, List.getElem?_toArray, List.getElem?_cons_zero, List.getElem?_cons_succ]
    go_wp2_with fail
    refine ⟨rfl, _, .pointer (some ⟨g, 3, none⟩), rfl, Or.inl ⟨by rfl, fun W hW => by go_simp⟩, partsI_yield ?_⟩
    simp only [Act.put, List.setIfInBounds_toArray, List.set_cons_zero, List.set_cons_succ]
    simp only [List.cons_append, List.nil_append, List.append_nil, List.filterMap_cons, List.filterMap_nil, List.getElem?_toArray, List.getElem?_cons_zero, List.getElem?_cons_succ]
    go_wp2_with fail
    refine ⟨rfl, _, .map none, rfl, Or.inl ⟨by rfl, fun W hW => by have e4W : W.cell? ⟨g, 3, none⟩ = some (.map none) := (e4B W hW); go_simp⟩, partsI_force ?_⟩
    simp only [Act.put, List.setIfInBounds_toArray, List.set_cons_zero, List.set_cons_succ]
    simp only [List.cons_append, List.nil_append, List.append_nil, List.filterMap_cons, List.filterMap_nil, List.getElem?_toArray, List.getElem?_cons_zero, List.getElem?_cons_succ]
    go_wp2_with fail
    refine ⟨rfl, hS, partsI_force ?_⟩
    simp only [List.cons_append, List.nil_append, List.append_nil, List.filterMap_cons, List.filterMap_nil, List.getElem?_toArray, List.getElem?_cons_zero, List.getElem?_cons_succ]
    go_wp2_with fail
    refine ⟨rfl, hS, partsI_force ?_⟩
    simp only [List.cons_append, List.nil_append, List.append_nil, List.filterMap_cons, List.filterMap_nil, List.getElem?_toArray, List.getElem?_cons_zero, List.getElem?_cons_succ]
    go_wp2_with fail
    refine ⟨rfl, hS, partsI_force ?_⟩
    simp only [List.cons_append, List.nil_append, List.append_nil, List.filterMap_cons, List.filterMap_nil, List.getElem?_toArray, List.getElem?_cons_zero, List.getElem?_cons_succ]
    go_wp2_with fail
    refine ⟨rfl, hS, partsI_last ?_⟩
    simp only [List.cons_append, List.nil_append, List.append_nil, List.filterMap_cons, List.filterMap_nil, List.getElem?_toArray, List.getElem?_cons_zero, List.getElem?_cons_succ]
    go_wp2_with fail
    refine ⟨rfl, ?_⟩
    go_wp2_with fail
    go_ret
    have hB : Blk (w1.drew.setCell ⟨g, 6, none⟩ (.int .i64 ((k + 1 : Nat) : Int))) g 84 (dcells q N (k + 1)) := HQ1.out.cells.drew.put 6 (.int .i64 ((k + 1 : Nat) : Int))
    refine ⟨rfl, HQ1.out.put (Nat.le_succ _) q.ev hB fun b hb => Deep.blk_setCell_other w1.drew ⟨g, 6, none⟩ _ b hb, HM1.out.trans ⟨⟨rfl, rfl, rfl, by show w1.heap.size ≤ (w1.setCell _ _).heap.size; rw [Deep.nblk_setCell]; exact Nat.le_refl _, fun b hb hf => Deep.blk_setCell_other w1.drew ⟨g, 6, none⟩ _ b fun e => hf (.inl e)⟩, fun b hb => .inl hb⟩⟩
set_option maxHeartbeats 2000000 in
theorem index_none (e0 : Int) (f0 : Bool) (w : World) : Calls Try.prog 47 #[.slice none 0 0, .agg #[.int .i64 e0, .bool f0]] w fun e w' => e = .returned (.int .i64 (-1)) ∧ Below w.heap.size w w' := by
  go_enter Try.func47, Try.ntmps47
  go_wp2_with fail
  have hb : Below w.heap.size w (w.alloc (.cells #[.int .i64 e0, .bool f0] 41)) := below_new1 _ _
  go_loopw [8] (fun t wr => t = .int .i64 0 ∧ wr = w.alloc (.cells #[.int .i64 e0, .bool f0] 41)) (fun _ _ => 0)
  case atStart => exact ⟨rfl, rfl⟩
  case round =>
    obtain ⟨rfl, rfl⟩ := hrel
    go_wp2_with fail
    go_ret
    exact ⟨rfl, hb⟩
set_option maxHeartbeats 2000000 in
theorem contains_none (e0 : Int) (f0 : Bool) (w : World) : Calls Try.prog 43 #[.slice none 0 0, .agg #[.int .i64 e0, .bool f0]] w fun e w' => e = .returned (.bool false) ∧ Below w.heap.size w w' := by
  have hI : Hid (∀ w : World, Calls Try.prog 47 #[.slice none 0 0, .agg #[.int .i64 e0, .bool f0]] w fun e w' => e = .returned (.int .i64 (-1)) ∧ Below w.heap.size w w') := index_none e0 f0
  have hb : Below w.heap.size w (w.alloc (.cells #[.int .i64 e0, .bool f0] 41)) := below_new1 _ _
  go_enter Try.func43, Try.ntmps43
  go_wp2_with fail
  refine (hI.out _).mono ?_
  rintro e w1 ⟨rfl, hb1⟩
  go_wp2_with fail
  go_ret
  exact ⟨rfl, hb.trans (hb1.mono hb.size)⟩
set_option maxRecDepth 100000 in
set_option maxHeartbeats 4000000 in
theorem next_q (hc : q.cu = .slice none 0 0) (hev : 0 ≤ q.ev ∧ q.ev < 4611686018427387904) (w : World) (h : DiskQ w B g N F k lg q) :
    Calls Try.prog 35 #[.pointer (some ⟨g, 0, none⟩)] w fun e w' => e = .returned (.tuple #[.bool true, .int .i64 0]) ∧ DiskQ w' B g N F k lg { q with ev := q.ev + 1 } ∧ Moved g N q { q with ev := q.ev + 1 } w w' := by
  have hI : Hid (∀ (e0 : Int) (f0 : Bool) (w : World), Calls Try.prog 43 #[.slice none 0 0, .agg #[.int .i64 e0, .bool f0]] w fun e w' => e = .returned (.bool false) ∧ Below w.heap.size w w') := contains_none
  have c7 : w.cell? ⟨g, 7, none⟩ = some (.int .i64 q.ev) := by rw [h.c]; rfl
  have f7 : w.frozen? ⟨g, 7, none⟩ = false := h.cells.frozen 7
  obtain ⟨E, hE⟩ : ∃ E, E = q.ev := ⟨_, rfl⟩
  have hB : Blk (w.setCell ⟨g, 7, none⟩ (.int .i64 (q.ev + 1))) g 84 (dcells { q with ev := q.ev + 1 } N k) := h.cells.put 7 _
  have HQ1 : Hid (DiskQ (w.setCell ⟨g, 7, none⟩ (.int .i64 (q.ev + 1))) B g N F k lg { q with ev := q.ev + 1 }) := h.put (Nat.le_refl _) _ hB fun b hb => Deep.blk_setCell_other w ⟨g, 7, none⟩ _ b hb
  have HM1 : Hid (Moved g N q { q with ev := q.ev + 1 } w (w.setCell ⟨g, 7, none⟩ (.int .i64 (q.ev + 1)))) := ⟨⟨rfl, rfl, rfl, by rw [Deep.nblk_setCell]; exact Nat.le_refl _, fun b hb hf => Deep.blk_setCell_other w ⟨g, 7, none⟩ _ b fun e => hf (.inl e)⟩, fun b hb => .inl hb⟩
  have HC : Hid (∀ W, DiskQ W B g N F k lg { q with ev := q.ev + 1 } → W.cell? ⟨g, 4, none⟩ = some (.slice none 0 0)) := fun W hW => by
    rw [hW.c]
    show some q.cu = _
    rw [hc]
  have d4 := HC.out _ HQ1.out
  clear hB h hc
  rw [← hE] at c7 hev HQ1 HM1 HC d4 ⊢
  generalize ({ q with ev := E + 1 } : QD) = q' at *
  clear hE
  go_enter Try.func35, Try.ntmps35
  go_wp2_with fail
  generalize w.setCell ⟨g, 7, none⟩ (.int .i64 (E + 1)) = w1 at *
  refine (hI.out _ _ _).mono ?_
  rintro e w2 ⟨rfl, hb2⟩
  have HQ2 : Hid (DiskQ w2 B g N F k lg q') := HQ1.out.below hb2
  have HM2 : Hid (Moved g N q q' w w2) := HM1.out.trans (.of_below hb2)
  have d5 := HC.out _ HQ2.out
  clear hb2
  go_wp2_with fail
  refine (hI.out _ _ _).mono ?_
  rintro e w3 ⟨rfl, hb3⟩
  go_wp2_with fail
  try simp only [Exit.inBlock, Exit.then]
  refine bodyPost_ret (results_tmp2 Try.results35 _ _ _) rfl ?_
  exact ⟨rfl, HQ2.out.below hb3, HM2.out.trans (.of_below hb3)⟩
end
end Go.Proofs.Ytdhbjcnbdfidcaa

namespace Go.Proofs.Ytdhbjcnbdfidcaa
open Go Go.RowKit

section
variable {P : Program} {ops : Array Oper} {Q : Exit → Act → World → Prop} {md : Region.Mode} {Wl : List Nat} {S : World → Prop}

theorem takeS_gen {i fuel : Nat} {o : Oper} {v : Value} {listed : Array Bool} {a : Act} {w : World} (hs : Region.noSelect ops = true) (hi : ops[i]? = some o) (hr : (Region.ready md ops listed).contains i = true)
    (hf : Region.free md ops listed i = true) (hWi : Wl.contains i = false) (hwait : waitW md ops listed i Wl (waitArr md ops listed i) = true) (hy : YieldsIf P ops S o v a) (hS : S w)
    (hK : wpAnyW P md ops (Strict Q) S (Wl.contains ·) fuel (listed.setIfInBounds i true) (a.put o.dst v) w) :
    wpAnyW P md ops (Strict Q) S (Wl.contains ·) (fuel + 1) listed a w := by
  generalize hwt : waitArr md ops listed i = arr at hwait
  unfold waitW at hwait
  rw [List.all_eq_true] at hwait
  have hall : ∀ j oj, ops[j]? = some oj → (if arr.getD j false then (j == i || oj.after.any fun e => Region.binds md e && arr.getD e.on false && decide (e.on < ops.size)) && !listed.getD j true else !Wl.contains j) = true := fun j oj hj => by
    have h1 := hwait j (List.mem_range.2 (Array.getElem?_eq_some_iff.1 hj).1)
    rw [hj] at h1; exact h1
  have hin : ∀ j, decide (j < ops.size) = true → ∃ oj, ops[j]? = some oj := fun j hj => ⟨_, Array.getElem?_eq_getElem (of_decide_eq_true hj)⟩
  refine wpAnyW_take hi (Region.noSelect_spec hs) (fun j => arr.getD j false && decide (j < ops.size)) (v := v) (strict_frame _ _) ?_ ?_ hWi fuel listed a w (Region.free_spec hi hf) ?_ (by simpa using hr) hy hS hK
  · intro j oj hj hw hne
    simp only [Bool.and_eq_true] at hw
    have h1 := hall j oj hj
    rw [if_pos hw.1] at h1
    simp only [Bool.and_eq_true, Bool.or_eq_true, beq_iff_eq, hne, false_or] at h1
    obtain ⟨e, he, hb⟩ := Array.any_eq_true'.1 h1.1
    simp only [Bool.and_eq_true] at hb
    exact ⟨e, he, hb.1.1, by simp only [Bool.and_eq_true]; exact ⟨hb.1.2, hb.2⟩⟩
  · intro j oj hj hw
    have hlt : decide (j < ops.size) = true := decide_eq_true (Array.getElem?_eq_some_iff.1 hj).1
    have h1 := hall j oj hj
    cases hq : arr.getD j false with
    | true => rw [hlt]; rfl
    | false => rw [if_neg (by rw [hq]; decide), hw] at h1; cases h1
  · intro j hw
    simp only [Bool.and_eq_true] at hw
    obtain ⟨oj, hj⟩ := hin j hw.2
    have h1 := hall j oj hj
    rw [if_pos hw.1] at h1
    simp only [Bool.and_eq_true, Bool.not_eq_true'] at h1
    exact h1.2

theorem forceS_step {i fuel : Nat} {listed : Array Bool} {a : Act} {w : World} (hb : forceW md ops listed i = true)
    (h : wpOp P ops (Strict Q) i (fun a' w' => (Wl.contains i = false → S w') ∧ wpAnyW P md ops (Strict Q) S (Wl.contains ·) fuel (listed.setIfInBounds i true) a' w') a w) :
    wpAnyW P md ops (Strict Q) S (Wl.contains ·) (fuel + 1) listed a w := by
  unfold forceW at hb
  simp only [Bool.and_eq_true, beq_iff_eq] at hb
  refine ⟨fun h0 => absurd (hb.1.symm.trans h0) (by simp), ?_⟩
  rw [hb.1]
  intro j hj
  have : j = i := by simpa using hj
  subst this; exact h

theorem takeS_step {i fuel : Nat} {listed : Array Bool} {a : Act} {w : World} (hs : Region.noSelect ops = true) (hb : takeW md ops listed Wl [] i = true) (hS : S w)
    (h : wpOp P ops (Strict Q) i (fun a' w' => S w' → wpAnyW P md ops (Strict Q) S (Wl.contains ·) fuel (listed.setIfInBounds i true) a' w') a w) :
    wpAnyW P md ops (Strict Q) S (Wl.contains ·) (fuel + 1) listed a w := by
  unfold takeW at hb
  cases hi : ops[i]? with
  | none => rw [hi] at hb; cases hb
  | some o =>
    rw [hi] at hb
    simp only [Bool.and_eq_true, Bool.or_eq_true, Bool.not_eq_true'] at hb
    obtain ⟨⟨⟨⟨hr, hf⟩, hWi⟩, hk⟩, hwait⟩ := hb
    have key : ∃ v, wpAnyW P md ops (Strict Q) S (Wl.contains ·) fuel (listed.setIfInBounds i true) (a.put o.dst v) w ∧ YieldsIf P ops S o v a := by
      unfold wpOp at h
      simp only [hi] at h
      by_cases hw : Region.wanted o (yielded ops a.tmps) = true
      · simp only [hw, if_true] at h
        rcases h with h | ⟨_, h⟩
        · unfold Oper.wp at h
          have hrun : ∃ v, (execOp a.eval o).run P w = .ok (.value v) w ∧ ∀ w', S w' → (execOp a.eval o).run P w' = .ok (.value v) w' := by
            cases hsr : (execOp a.eval o).run P w with
            | ok n w1 =>
              rcases hk with hk | hk
              · obtain ⟨hp, hv⟩ := kindV_run (P := P) hk a.eval
                obtain ⟨v, rfl⟩ := hv _ _ _ hsr
                obtain ⟨rfl, h2⟩ := hp _ _ _ hsr
                exact ⟨v, rfl, fun w' _ => h2 w'⟩
              · obtain ⟨t, x, hop, hx⟩ := lowLoad_run hk
                cases hx
            | halt y w1 =>
              rw [hsr] at h
              cases y <;> simp only [Oper.upon, Strict] at h <;> first | exact absurd h.1 (by intro e; cases e) | exact h.elim
          obtain ⟨v, h1, h2⟩ := hrun
          rw [h1, Oper.upon_value] at h
          exact ⟨v, h hS, .inl ⟨hw, h2⟩⟩
        · exact absurd h Strict.noOut
      · rw [Bool.not_eq_true] at hw
        simp only [hw, Bool.false_eq_true, if_false] at h
        exact ⟨undef, h hS, .inr ⟨hw, rfl⟩⟩
    obtain ⟨v, hK, hy⟩ := key
    exact takeS_gen hs hi hr hf hWi hwait hy hS hK

theorem takesS_step (hs : Region.noSelect ops = true) (more : List Nat) (fuel : Nat) (Q' : Exit → Act → World → Prop) :
    ∀ (ts : List Nat) (listed l2 : Array Bool) (a : Act) (w : World), takesB md ops Wl [] ts listed = some l2 →
      (∀ a' w', S w' → wpList P ops (Strict Q') (more.filterMap fun i => ops[i]?) a' w' → wpAnyW P md ops (Strict Q) S (Wl.contains ·) fuel l2 a' w') →
      S w → wpList P ops (Strict Q') ((ts ++ more).filterMap fun i => ops[i]?) a w →
      wpAnyW P md ops (Strict Q) S (Wl.contains ·) (ts.length + fuel) listed a w := by
  intro ts
  induction ts with
  | nil =>
    intro listed l2 a w hb hn hS h
    simp only [takesB, Option.some.injEq] at hb
    subst hb
    rw [List.length_nil, Nat.zero_add]
    exact hn a w hS h
  | cons i rest ih =>
    intro listed l2 a w hb hn hS h
    unfold takesB at hb
    split at hb
    · rename_i hc
      have hlen : (i :: rest).length + fuel = (rest.length + fuel) + 1 := by simp only [List.length_cons]; omega
      rw [hlen]
      obtain ⟨o, ho⟩ := has_op hc
      refine takeS_step hs hc hS (wpOp_mono (fun a' w' h' h2 => ?_) (wpOp_strict (wpList_one ho h)))
      exact ih _ l2 a' w' hb hn h2 h'
    · cases hb

theorem tailS_step : ∀ (ts : List Nat) (listed : Array Bool) (a : Act) (w : World), tailB md ops Wl ts listed = true → wpList P ops (Strict Q) (ts.filterMap fun i => ops[i]?) a w →
    wpAnyW P md ops (Strict Q) S (Wl.contains ·) ts.length listed a w
  | [], listed, a, w, hb, h => ⟨by simpa [tailB] using hb, h⟩
  | i :: rest, listed, a, w, hb, h => by
    simp only [tailB, Bool.and_eq_true] at hb
    obtain ⟨o, ho⟩ := has_op' hb.1.1
    refine forceS_step hb.1.1 (wpOp_mono (fun a' w' h' => ?_) (wpList_one ho h))
    exact ⟨fun e => (by rw [hb.1.2] at e; cases e), tailS_step rest _ a' w' hb.2 h'⟩

theorem partsS_step (hs : Region.noSelect ops = true) (takes tail : List Nat) :
    ∀ (ps : List (List Nat × Nat × Bool)) (listed : Array Bool) (a : Act) (w : World), partsB md ops Wl [] ps takes tail listed = true → S w →
      wpPartsI P ops Q S ps (takes ++ tail) a w → wpAnyW P md ops (Strict Q) S (Wl.contains ·) (lenOf ps (takes.length + tail.length)) listed a w
  | [], listed, a, w, hb, hS, h => by
    unfold partsB at hb
    split at hb
    · rename_i l2 hl2
      exact takesS_step hs tail tail.length Q takes listed l2 a w hl2 (fun a' w' _ h' => tailS_step tail l2 a' w' hb h') hS h
    · cases hb
  | (ts, i, false) :: rest, listed, a, w, hb, hS, h => by
    unfold partsB at hb
    split at hb
    · rename_i l2 hl2
      simp only [Bool.and_eq_true, Bool.not_eq_true', Bool.false_eq_true, if_false] at hb
      refine takesS_step hs [i] _ _ ts listed l2 a w hl2 (fun a' w' _ h' => ?_) hS h
      obtain ⟨o, ho⟩ := has_op' hb.1.1
      rw [Nat.add_comm 1]
      refine forceS_step hb.1.1 (wpOp_mono (fun a2 w2 h2 => ?_) (wpOp_strict (wpList_one ho h')))
      have h3 := h2.2
      exact ⟨fun _ => h3.1, partsS_step hs takes tail rest _ a2 w2 hb.2 h3.1 h3.2⟩
    · cases hb
  | (ts, i, true) :: rest, listed, a, w, hb, hS, h => by
    unfold partsB at hb
    split at hb
    · rename_i l2 hl2
      simp only [Bool.and_eq_true, if_true] at hb
      refine takesS_step hs [] _ _ ts listed l2 a w hl2 (fun a' w' hS' h' => ?_) hS h
      obtain ⟨-, o, v, ho, hy, hn⟩ := h'
      have hc := hb.1
      unfold yieldW at hc
      rw [ho] at hc
      simp only [Bool.and_eq_true, Bool.not_eq_true'] at hc
      rw [Nat.add_comm 1]
      exact takeS_gen hs ho hc.1.1.1 hc.1.1.2 hc.1.2 hc.2 hy hS' (partsS_step hs takes tail rest _ _ w' hb.2 hS' hn)
    · cases hb

/-- THE LAW. -/
theorem wp_region_partsS {id : Nat} {a : Act} {w : World} (S : World → Prop) (ps : List (List Nat × Nat × Bool)) (takes tail : List Nat) (hm : P.follows .mixedOrders = true) (hB : wholeB ops tail [] ps takes tail = true)
    (hS : S w.drew) (h : wpPartsI P ops Q S ps (takes ++ tail) a w.drew) : (Code.region id ops true).wp P Q a w := by
  unfold wholeB at hB
  simp only [Bool.and_eq_true, beq_iff_eq] at hB
  refine Code.wp_mono Strict.imp (wp_region_any hm ?_)
  rw [← hB.1.1.1]
  exact wpAny_of_W _ _ _ _ (partsS_step hB.1.1.2 takes tail ps _ a _ (by rw [hB.1.1.1]; exact hB.2) hS h)
end
end Go.Proofs.Ytdhbjcnbdfidcaa

namespace Go.Proofs.Ytdhbjcnbdfidcaa
open Go Go.RowKit
set_option linter.unusedSimpArgs false
set_option linter.unusedVariables false

theorem vbK (b : Nat → Nat) : bK (blkD b) = .agg (va 256 (iv .u8 b)) := bK_blkD b
theorem own_grown {w w' : World} {o : Option Nat} (h : w.grownBy w' o) : Turns (fun z => o = some z) w w' := ⟨h.os, h.tape, h.output, h.size, fun b hb hn => h.block b hb fun e => hn e.symm⟩
set_option maxRecDepth 100000 in
set_option maxHeartbeats 8000000 in
theorem keep_new (B r step at0 : Nat) (sv : Value) (G : List (List Nat)) (ss : List Value) (l : List ((Int × Int) × Vector Nat 256)) (b : Nat → Nat) (hat : at0 < G.length) (hGl : G.length ≤ 8192) (hlen : (G.getD at0 []).length ≤ 1099511627776) (hn : findIn ((step : Int), (at0 : Int)) l = none)
    (w : World) (hB : B ≤ w.heap.size) (hM : MapIs momK bK w r l) (hG : GrpAt w B sv G ss) :
    Calls Try.prog 44 #[.agg #[.map (some r), sv], .int .i64 (step : Int), .int .i64 (at0 : Int), .agg (va 256 (iv .u8 b))] w fun e w' => e = .returned (.tuple #[]) ∧ ∃ s', MapIs momK bK w' r (l ++ [(((step : Int), (at0 : Int)), blkD b)]) ∧ GrpAt w' B sv (G.set at0 (G.getD at0 [] ++ [step])) (ss.set at0 s') ∧ (s'.ownBlock = (ss.getD at0 undef).ownBlock ∨ ∃ k, s'.ownBlock = some k ∧ w.heap.size ≤ k) ∧ Turns (fun z => z = r ∨ sv.ownBlock = some z ∨ (ss.getD at0 undef).ownBlock = some z) w w' := by
  have hz := zero_bk
  obtain ⟨i0, hi, hz0, hz1, hz2⟩ := info_parts infoInt
  obtain ⟨gv, c, rfl, hgv, hgvl⟩ := kown_form hG.row (show 0 < G.length by omega)
  have hrl : r < w.heap.size := by
    obtain ⟨es, cl, hg, _⟩ := hM
    exact (Array.getElem?_eq_some_iff.1 hg).1
  have j0 : (0 : Int) ≤ (at0 : Int) := by omega
  have j1 : (at0 : Int) < (G.length : Int) := by omega
  have hb2 : Below w.heap.size w (((w.alloc (.cells #[.map (some r), .slice (some ⟨gv, 0, none⟩) G.length c] 79)).alloc (.cells (va 256 (iv .u8 b)) 60)).alloc (.cells #[.int .i64 (step : Int), .int .i64 (at0 : Int)] 113)) := below_new3 _ _ _ _
  have hlk := run_lookup_is (P := Try.prog) Try.underlying76 mom_key zero_bk (hM.below hb2 hrl) ((step : Int), (at0 : Int)) true
  rw [hn] at hlk
  have hlk2 : Sem.run Try.prog (Instr.lookup 76 (.map (some r)) (.agg #[.int .i64 (step : Int), .int .i64 (at0 : Int)]) true) (((w.alloc (.cells #[.map (some r), .slice (some ⟨gv, 0, none⟩) G.length c] 79)).alloc (.cells (va 256 (iv .u8 b)) 60)).alloc (.cells #[.int .i64 (step : Int), .int .i64 (at0 : Int)] 113)) = .ok (.tuple #[.agg (va 256 (iv .u8 fun _ => 0)), .bool false]) (((w.alloc (.cells #[.map (some r), .slice (some ⟨gv, 0, none⟩) G.length c] 79)).alloc (.cells (va 256 (iv .u8 b)) 60)).alloc (.cells #[.int .i64 (step : Int), .int .i64 (at0 : Int)] 113)) := hlk
  have r3 : Blk ((((w.alloc (.cells #[.map (some r), .slice (some ⟨gv, 0, none⟩) G.length c] 79)).alloc (.cells (va 256 (iv .u8 b)) 60)).alloc (.cells #[.int .i64 (step : Int), .int .i64 (at0 : Int)] 113)).alloc (.cells (va 256 (iv .u8 fun _ => 0)) 60)) (w.heap.size + 3) 60 (va 256 (iv .u8 fun _ => 0)) := by
    have := Blk.new (((w.alloc (.cells #[.map (some r), .slice (some ⟨gv, 0, none⟩) G.length c] 79)).alloc (.cells (va 256 (iv .u8 b)) 60)).alloc (.cells #[.int .i64 (step : Int), .int .i64 (at0 : Int)] 113)) 60 (va 256 (iv .u8 fun _ => 0))
    rwa [show (((w.alloc (.cells #[.map (some r), .slice (some ⟨gv, 0, none⟩) G.length c] 79)).alloc (.cells (va 256 (iv .u8 b)) 60)).alloc (.cells #[.int .i64 (step : Int), .int .i64 (at0 : Int)] 113)).heap.size = w.heap.size + 3 by simp] at this
  have k0 : Blk (((w.alloc (.cells #[.map (some r), .slice (some ⟨gv, 0, none⟩) G.length c] 79)).alloc (.cells (va 256 (iv .u8 b)) 60)).alloc (.cells #[.int .i64 (step : Int), .int .i64 (at0 : Int)] 113)) w.heap.size 79 #[.map (some r), .slice (some ⟨gv, 0, none⟩) G.length c] := ((Blk.new _ _ _).alloc _).alloc _
  have k1 : Blk (((w.alloc (.cells #[.map (some r), .slice (some ⟨gv, 0, none⟩) G.length c] 79)).alloc (.cells (va 256 (iv .u8 b)) 60)).alloc (.cells #[.int .i64 (step : Int), .int .i64 (at0 : Int)] 113)) (w.heap.size + 1) 60 (va 256 (iv .u8 b)) := (Blk.new1 _ _ _ _).alloc _
  have k2 : Blk (((w.alloc (.cells #[.map (some r), .slice (some ⟨gv, 0, none⟩) G.length c] 79)).alloc (.cells (va 256 (iv .u8 b)) 60)).alloc (.cells #[.int .i64 (step : Int), .int .i64 (at0 : Int)] 113)) (w.heap.size + 2) 113 #[.int .i64 (step : Int), .int .i64 (at0 : Int)] := Blk.new2 _ _ _ _ _
  have hs2 : (((w.alloc (.cells #[.map (some r), .slice (some ⟨gv, 0, none⟩) G.length c] 79)).alloc (.cells (va 256 (iv .u8 b)) 60)).alloc (.cells #[.int .i64 (step : Int), .int .i64 (at0 : Int)] 113)).heap.size = w.heap.size + 3 := by simp
  clear hlk
  go_enter Try.func44, Try.ntmps44
  go_wp2_with (first
    | (refine wpList_store_row (by rfl) 60 _ _ (by rfl) (w.heap.size + 3) (va 256 (iv .u8 (fun _ => 0))) (by rfl) (by rfl) 60 _ r3 (sizeBk.trans (by rw [va_size])) (by simp only [va_size]) (iv_one _ _ _) ?_; simp only [Act.put, List.setIfInBounds_toArray, List.set_cons_zero, List.set_cons_succ])
    | fail)
  have hb3 : Below w.heap.size w (((((w.alloc (.cells #[.map (some r), .slice (some ⟨gv, 0, none⟩) G.length c] 79)).alloc (.cells (va 256 (iv .u8 b)) 60)).alloc (.cells #[.int .i64 (step : Int), .int .i64 (at0 : Int)] 113)).alloc (.cells (va 256 (iv .u8 fun _ => 0)) 60)).setRow (w.heap.size + 3) (va 256 (iv .u8 fun _ => 0))) := below_setRow (hb2.alloc (by omega) _) (by omega) _
  have m0 : Blk (((((w.alloc (.cells #[.map (some r), .slice (some ⟨gv, 0, none⟩) G.length c] 79)).alloc (.cells (va 256 (iv .u8 b)) 60)).alloc (.cells #[.int .i64 (step : Int), .int .i64 (at0 : Int)] 113)).alloc (.cells (va 256 (iv .u8 fun _ => 0)) 60)).setRow (w.heap.size + 3) (va 256 (iv .u8 fun _ => 0))) w.heap.size 79 #[.map (some r), .slice (some ⟨gv, 0, none⟩) G.length c] := (k0.alloc _).other _ (by omega)
  have m1 : Blk (((((w.alloc (.cells #[.map (some r), .slice (some ⟨gv, 0, none⟩) G.length c] 79)).alloc (.cells (va 256 (iv .u8 b)) 60)).alloc (.cells #[.int .i64 (step : Int), .int .i64 (at0 : Int)] 113)).alloc (.cells (va 256 (iv .u8 fun _ => 0)) 60)).setRow (w.heap.size + 3) (va 256 (iv .u8 fun _ => 0))) (w.heap.size + 1) 60 (va 256 (iv .u8 b)) := (k1.alloc _).other _ (by omega)
  have m2 : Blk (((((w.alloc (.cells #[.map (some r), .slice (some ⟨gv, 0, none⟩) G.length c] 79)).alloc (.cells (va 256 (iv .u8 b)) 60)).alloc (.cells #[.int .i64 (step : Int), .int .i64 (at0 : Int)] 113)).alloc (.cells (va 256 (iv .u8 fun _ => 0)) 60)).setRow (w.heap.size + 3) (va 256 (iv .u8 fun _ => 0))) (w.heap.size + 2) 113 #[.int .i64 (step : Int), .int .i64 (at0 : Int)] := (k2.alloc _).other _ (by omega)
  clear k0 k1 k2 hlk2 hb2 r3 hs2
  generalize ((((w.alloc (.cells #[.map (some r), .slice (some ⟨gv, 0, none⟩) G.length c] 79)).alloc (.cells (va 256 (iv .u8 b)) 60)).alloc (.cells #[.int .i64 (step : Int), .int .i64 (at0 : Int)] 113)).alloc (.cells (va 256 (iv .u8 fun _ => 0)) 60)).setRow (w.heap.size + 3) (va 256 (iv .u8 fun _ => 0)) = w3 at *
  have hG3 := hG.below hb3
  have hM3 := hM.below hb3 hrl
  have hsz3 : w.heap.size ≤ w3.heap.size := hb3.size
  obtain ⟨S, hS0⟩ : ∃ S, S = ss.getD at0 undef := ⟨_, rfl⟩
  obtain ⟨Gj, hGj⟩ : ∃ Gj, Gj = G.getD at0 [] := ⟨_, rfl⟩
  have hsl := hG.len
  have hcell : w3.cell? ⟨gv, at0, none⟩ = some S := by
    rw [hG3.row.cellAt (g := gv) at0 (by omega), hS0]
    simp [List.getD, hsl, hat]
  have hE := hG3.each at0 hat
  rw [← hS0, ← hGj] at hE
  have HSv : Hid (S = ss.getD at0 undef) := hS0
  have HGJ : Hid (Gj = G.getD at0 []) := hGj
  have HEACH : Hid (w3.ownsRow B 3 1 S Gj.length (intL Gj)) := hE
  rw [← hGj] at hlen
  have HOWN : Hid ((w3.alloc (.cells #[.int .i64 (step : Int)] 3)).drew.ownsRow B 3 1 S Gj.length (intL Gj)) := World.ownsRow.alloc (w := w3) hE _
  have hSb : ∀ x, S.ownBlock = some x → B ≤ x ∧ x < w3.heap.size := hE.lt
  have HG3 : Hid (GrpAt w3 B (.slice (some ⟨gv, 0, none⟩) G.length c) G ss) := hG3
  have HM3 : Hid (MapIs momK bK w3 r l) := hM3
  have d1 : w3.cell? ⟨w.heap.size, 1, none⟩ = some (.slice (some ⟨gv, 0, none⟩) G.length c) := by rw [m0.cell]; rfl
  have HG : Hid (GrpAt w B (.slice (some ⟨gv, 0, none⟩) G.length c) G ss) := hG
  clear hS0 hGj hE hG3 hM3 hG
  refine wp_region_partsS (fun W => W.cell? ⟨w.heap.size, 1, none⟩ = some (.slice (some ⟨gv, 0, none⟩) G.length c) ∧ W.cell? ⟨gv, at0, none⟩ = some S) [([2, 5, 8], 0, true), ([], 1, true), ([], 3, true), ([], 4, true), ([6], 7, true), ([], 9, false), ([], 10, false)] [] [11, 12] (by kernel_rfl) (by kernel_rfl) ⟨d1, hcell⟩ (partsI_yield ?_)
  simp only [List.cons_append, List.nil_append, List.append_nil, List.filterMap_cons, List.filterMap_nil, List.getElem?_toArray, List.getElem?_cons_zero, List.getElem?_cons_succ]
  go_wp2_with fail
  refine ⟨rfl, _, .pointer (some ⟨w.heap.size, 1, none⟩), rfl, Or.inl ⟨by rfl, fun W hW => by go_simp⟩, partsI_yield ?_⟩
  simp only [Act.put, List.setIfInBounds_toArray, List.set_cons_zero, List.set_cons_succ]
  simp only [List.cons_append, List.nil_append, List.append_nil, List.filterMap_cons, List.filterMap_nil, List.getElem?_toArray, List.getElem?_cons_zero, List.getElem?_cons_succ]
  go_wp2_with fail
  refine ⟨rfl, _, .slice (some ⟨gv, 0, none⟩) G.length c, rfl, Or.inl ⟨by rfl, fun W hW => by obtain ⟨hW1, hW2⟩ := hW; go_simp⟩, partsI_yield ?_⟩
  simp only [Act.put, List.setIfInBounds_toArray, List.set_cons_zero, List.set_cons_succ]
  simp only [List.cons_append, List.nil_append, List.append_nil, List.filterMap_cons, List.filterMap_nil, List.getElem?_toArray, List.getElem?_cons_zero, List.getElem?_cons_succ]
  go_wp2_with fail
  refine ⟨rfl, _, .pointer (some ⟨w.heap.size, 1, none⟩), rfl, Or.inl ⟨by rfl, fun W hW => by go_simp⟩, partsI_yield ?_⟩
  simp only [Act.put, List.setIfInBounds_toArray, List.set_cons_zero, List.set_cons_succ]
  simp only [List.cons_append, List.nil_append, List.append_nil, List.filterMap_cons, List.filterMap_nil, List.getElem?_toArray, List.getElem?_cons_zero, List.getElem?_cons_succ]
  go_wp2_with fail
  refine ⟨rfl, _, .slice (some ⟨gv, 0, none⟩) G.length c, rfl, Or.inl ⟨by rfl, fun W hW => by obtain ⟨hW1, hW2⟩ := hW; go_simp⟩, partsI_yield ?_⟩
  simp only [Act.put, List.setIfInBounds_toArray, List.set_cons_zero, List.set_cons_succ]
  simp only [List.cons_append, List.nil_append, List.append_nil, List.filterMap_cons, List.filterMap_nil, List.getElem?_toArray, List.getElem?_cons_zero, List.getElem?_cons_succ]
  go_wp2_with fail
  refine ⟨rfl, _, S, rfl, Or.inl ⟨by rfl, fun W hW => by obtain ⟨hW1, hW2⟩ := hW; go_simp⟩, partsI_force ?_⟩
  simp only [Act.put, List.setIfInBounds_toArray, List.set_cons_zero, List.set_cons_succ]
  simp only [List.cons_append, List.nil_append, List.append_nil, List.filterMap_cons, List.filterMap_nil, List.getElem?_toArray, List.getElem?_cons_zero, List.getElem?_cons_succ]
  go_wp2_with fail
  have a0 : Blk (w3.alloc (.cells #[.int .i64 (step : Int)] 3)).drew w.heap.size 79 #[.map (some r), .slice (some ⟨gv, 0, none⟩) G.length c] := m0.alloc _
  have hGa : GrpAt (w3.alloc (.cells #[.int .i64 (step : Int)] 3)).drew B (.slice (some ⟨gv, 0, none⟩) G.length c) G ss := HG3.out.below (Below.drew (Below.alloc (Below.refl _ w3) (Nat.le_refl _) _))
  have ca : (w3.alloc (.cells #[.int .i64 (step : Int)] 3)).drew.cell? ⟨gv, at0, none⟩ = some S := by
    rw [hGa.row.cellAt (g := gv) at0 (by omega), HSv.out]
    simp [List.getD, hsl, hat]
  refine ⟨rfl, ⟨by rw [a0.cell]; rfl, ca⟩, partsI_force ?_⟩
  simp only [List.cons_append, List.nil_append, List.append_nil, List.filterMap_cons, List.filterMap_nil, List.getElem?_toArray, List.getElem?_cons_zero, List.getElem?_cons_succ]
  refine wpList_append_own_at rfl _ _ 69 rfl B 3 i0 (.int .i64 0) 1 8 Try.underlying69 hi hz0 hz1 hz2 rfl (by decide) _ _ _ rfl HOWN.out ⟨w3.heap.size, 0, none⟩ 1 1 [.int .i64 (step : Int)] rfl rfl (cell_one_new _ _ _) (fun x hx => by simp at hx; subst hx; rfl) (by unfold maxLen; omega) (by omega) (by simp; omega) ?_
  intro s' w4 hrow hgr hsb
  obtain ⟨sa, sc, rfl⟩ := kown_slice hrow
  have hSne : S.ownBlock ≠ some gv := fun qq => own_own HEACH.out HG3.out.row (by decide) qq rfl
  have hrow4 := hGa.row.kept hgr (.inr fun qq => hSne qq.symm)
  have c4 : w4.cell? ⟨gv, at0, none⟩ = some S := by
    have := hrow4.cellAt (g := gv) at0 (by omega)
    rw [this, HSv.out]
    simp [List.getD, hsl, hat]
  have f4 : w4.frozen? ⟨gv, at0, none⟩ = false := by
    rcases hrow4.2 with ⟨hn, _⟩ | ⟨g', cap', cur, hv, _, hg, _⟩
    · cases hn
    · injection hv with hv1
      injection hv1 with hv1
      injection hv1 with hv1
      subst hv1
      exact Blk.frozen (show Blk w4 gv 69 cur from hg) at0
  have b4 : ∀ z, z < w3.heap.size → S.ownBlock ≠ some z → w4.heap[z]? = w3.heap[z]? := fun z hz1 hz2 => by
    rw [hgr.block z (by simp; omega) (fun e => hz2 e.symm)]
    exact (heap_alloc_old _ _ hz1)
  have n0 : S.ownBlock ≠ some w.heap.size := own_ne HEACH.out m0 (by decide)
  have n1 : S.ownBlock ≠ some (w.heap.size + 1) := own_ne HEACH.out m1 (by decide)
  have n2 : S.ownBlock ≠ some (w.heap.size + 2) := own_ne HEACH.out m2 (by decide)
  have p0 : Blk w4 w.heap.size 79 #[.map (some r), .slice (some ⟨gv, 0, none⟩) G.length c] := (b4 _ m0.lt n0).trans m0
  have p1 : Blk w4 (w.heap.size + 1) 60 (va 256 (iv .u8 b)) := (b4 _ m1.lt n1).trans m1
  have p2 : Blk w4 (w.heap.size + 2) 113 #[.int .i64 (step : Int), .int .i64 (at0 : Int)] := (b4 _ m2.lt n2).trans m2
  go_wp2_with fail
  refine ⟨rfl, ⟨by rw [p0.cell]; rfl, c4⟩, partsI_last ?_⟩
  simp only [List.cons_append, List.nil_append, List.append_nil, List.filterMap_cons, List.filterMap_nil, List.getElem?_toArray, List.getElem?_cons_zero, List.getElem?_cons_succ]
  go_wp2_with fail
  refine ⟨rfl, ?_⟩
  have q0 : Blk (w4.setCell ⟨gv, at0, none⟩ (.slice sa (Gj.length + 1) sc)) w.heap.size 79 #[.map (some r), .slice (some ⟨gv, 0, none⟩) G.length c] := p0.put_other _ _ (by omega)
  have q1 : Blk (w4.setCell ⟨gv, at0, none⟩ (.slice sa (Gj.length + 1) sc)) (w.heap.size + 1) 60 (va 256 (iv .u8 b)) := p1.put_other _ _ (by omega)
  have q2 : Blk (w4.setCell ⟨gv, at0, none⟩ (.slice sa (Gj.length + 1) sc)) (w.heap.size + 2) 113 #[.int .i64 (step : Int), .int .i64 (at0 : Int)] := p2.put_other _ _ (by omega)
  have HGP : Hid (GrpAt (w4.setCell ⟨gv, at0, none⟩ (.slice sa (Gj.length + 1) sc)) B (.slice (some ⟨gv, 0, none⟩) G.length c) (G.set at0 (G.getD at0 [] ++ [step])) (ss.set at0 (.slice sa (Gj.length + 1) sc))) := by
    refine hGa.push hat ?_ ?_ ?_
    · rw [← HGJ.out]
      exact hrow
    · rw [← HSv.out]
      exact hgr
    · rw [← HSv.out]
      rcases hsb with h1 | h1
      · exact .inl h1
      · exact .inr ⟨_, h1, Nat.le_refl _⟩
  have hrS : S.ownBlock ≠ some r := by
    obtain ⟨es, cl, hg, _⟩ := HM3.out
    exact own_map HEACH.out hg
  have hrg : r ≠ gv := fun e => by
    obtain ⟨es, cl, hg, _⟩ := HM3.out
    exact own_map HG3.out.row hg (by rw [e]; rfl)
  have HT5 : Hid (Turns (fun z => z = r ∨ gv = z ∨ S.ownBlock = some z) w (w4.setCell ⟨gv, at0, none⟩ (.slice sa (Gj.length + 1) sc))) := by
    refine ⟨hgr.os.trans hb3.os, hgr.tape.trans hb3.tape, hgr.output.trans hb3.output, ?_, fun z hz hn => ?_⟩
    · rw [Deep.nblk_setCell]
      have := hgr.size
      simp at this
      omega
    · have h1 : z ≠ gv := fun e => hn (.inr (.inl e.symm))
      have h2 : S.ownBlock ≠ some z := fun e => hn (.inr (.inr e))
      rw [Deep.blk_setCell_other w4 ⟨gv, at0, none⟩ _ z h1, b4 z (by omega) h2]
      exact hb3.block z hz
  have hM5 : MapIs momK bK (w4.setCell ⟨gv, at0, none⟩ (.slice sa (Gj.length + 1) sc)) r l := by
    obtain ⟨es, cl, hg, he⟩ := HM3.out
    refine ⟨es, cl, ?_, he⟩
    rw [Deep.blk_setCell_other w4 ⟨gv, at0, none⟩ _ r hrg, b4 r (by omega) hrS]
    exact hg
  have HSB : Hid ((Value.slice sa (Gj.length + 1) sc).ownBlock = S.ownBlock ∨ ∃ k, (Value.slice sa (Gj.length + 1) sc).ownBlock = some k ∧ w.heap.size ≤ k) := by
    rcases hsb with h1 | h1
    · exact .inl h1
    · exact .inr ⟨_, h1, by show w.heap.size ≤ (w3.alloc _).heap.size; simp; omega⟩
  clear hGa ca HOWN hrow hgr hsb hrow4 c4 f4 b4 n0 n1 n2 p0 p1 p2 a0 HEACH
  generalize w4.setCell ⟨gv, at0, none⟩ (.slice sa (Gj.length + 1) sc) = w5 at *
  obtain ⟨w6, hup, hM6, hk6⟩ := run_update_is (P := Try.prog) Try.underlying76 mom_key hM5 ((step : Int), (at0 : Int)) (blkD b) hn
  have hup2 : Sem.run Try.prog (Instr.mapUpdate 76 (.map (some r)) (.agg #[.int .i64 (step : Int), .int .i64 (at0 : Int)]) (.agg (va 256 (iv .u8 b)))) w5 = .ok () w6 := by
    rw [← vbK]
    exact hup
  have x0 : w5.cell? ⟨w.heap.size, 0, none⟩ = some (.map (some r)) := by rw [q0.cell]; rfl
  have y0 : w5.cell? ⟨w.heap.size + 2, 0, none⟩ = some (.int .i64 (step : Int)) := by rw [q2.cell]; rfl
  have y1 : w5.cell? ⟨w.heap.size + 2, 1, none⟩ = some (.int .i64 (at0 : Int)) := by rw [q2.cell]; rfl
  clear hup
  go_wp2_with (first
    | (refine wpList_load_row (by rfl) 60 _ (by rfl) (w.heap.size + 1) (by rfl) 60 (va 256 (iv .u8 b)) (0, 0) _ q1 Try.underlying60 (by rfl) (sizeBk.trans (by rw [va_size])) ?_; simp only [Act.put, List.setIfInBounds_toArray, List.set_cons_zero, List.set_cons_succ])
    | fail)
  refine bodyPost_end (results_none Try.results44 _ _ _) rfl ?_
  have hkg : ∀ {v : Value} {e m : Nat} {xs : List Value}, w5.ownsRow B e 1 v m xs → w6.ownsRow B e 1 v m xs := fun hh => own_block hh fun z hz => hk6.2 z (fun e => by
    obtain ⟨es, cl, hg, _⟩ := hM5
    exact own_map hh hg (e ▸ hz)) (hh.lt z hz).2
  refine ⟨rfl, _, hM6, ⟨hkg HGP.out.row, fun j hj => hkg (HGP.out.each j hj), HGP.out.apart⟩, ?_, ?_⟩
  · rw [← HSv.out]
    exact HSB.out
  · rw [← HSv.out]
    have hT6 : Turns (fun z => z = r) w5 w6 := ⟨hk6.1.os, hk6.1.tape, hk6.1.output, hk6.1.size, fun z hz hn => hk6.2 z hn hz⟩
    refine (HT5.out.trans hT6 fun z hz => .inl (.inl hz)).mono fun z hz => ?_
    rcases hz with h1 | h1 | h1
    · exact .inl h1
    · exact .inr (.inl (by rw [h1]; rfl))
    · exact .inr (.inr h1)
end Go.Proofs.Ytdhbjcnbdfidcaa
