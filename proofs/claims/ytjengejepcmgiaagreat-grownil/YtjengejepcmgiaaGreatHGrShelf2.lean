/-
  DERIVED: THE SHELF's CONTRACTS AT THIS DUMP, IN PLAIN WORDS (tools/lay-plain.mjs out of 'YtjengejepcmgiaaGreatGrShelf2.lean', which tools/lay-shelf.mjs wrote): THE SAME DECLARATIONS UNDER THE SAME NAMES: 'import', 'namespace', 'open', 'def', 'theorem' AND NOTHING ELSE: no command of the shelf's: FOR A HAND-IN. Each laying: the table of numbers ('.._ren') and one theorem, a field a fact of the dump's own or the kernel's comparison; each contract: ONE APPLICATION.
-/
import Derived.Test.YtjengejepcmgiaaGreatHLogOf
import Derived.Test.YtjengejepcmgiaaGreatHGrTouch
import Derived.Test.YtjengejepcmgiaaGreatHTrRDown
import Derived.Deep.MidRow
import Derived.BigQuiet
import Derived.Deep.QuietTactic
import Derived.Deep.DeepCutAuto
import Derived.Deep.Cut
import Derived.Handy
import Derived.Shelf.Spec.SlicesGrow
import Derived.Test.YtjengejepcmgiaaGreatProg

namespace Go.Proofs.YtjengejepcmgiaaGreat
open Go Go.RowKit
set_option linter.unusedSimpArgs false
set_option linter.unusedVariables false

theorem gbelow_drewN {B : Nat} {w0 w : World} (h : Below B w0 w) (n : Nat) : Below B w0 (w.drewN n) := ⟨h.1, h.2, h.3, h.4, h.5⟩
theorem gr_build1 {P : Program} {ops : Array Oper} {rest : List Oper} {o : Oper} {a : Act} {w : World} {Q : Exit → Act → World → Prop} (hg : o.guard = none) (t : TypeId) (i : Nat) (x : Operand) (ho : o.op = .build t #[(i, x)]) (vx : Value) (hx : a.eval x = vx)
    (cells : Array Value) (hf : P.built t [(i, vx)] = some cells) (h : wpList P ops Q rest (a.put o.dst (.agg cells)) w) : wpList P ops Q (o :: rest) a w := by
  refine wpList_buildTo hg t _ ho o.dst rfl cells ?_ h
  have e : (Array.map (fun (x : Nat × Operand) => match x with | (i, x) => (i, a.eval x)) #[(i, x)]).toList = [(i, vx)] := by simp [hx]
  rw [e]
  exact hf
/-- a part's cells: the level 0, the place 0, none ahead; whether it is there, whether it is new, its bytes -/
def ptF (th fr : Bool) (f : Nat → Nat) : Nat → Value := fun i => if i < 2 then .int .i64 0 else if i < 35 then rfF rf0.1 rf0.2 (i - 2) else if i < 68 then rfF rf0.1 rf0.2 (i - 35) else if i = 68 then .bool th else if i = 69 then .bool fr else if i < 326 then .int .u8 ((f (i - 70) : Nat) : Int) else .slice none 0 0
def ptC (th fr : Bool) (f : Nat → Nat) : Array Value := va 327 (ptF th fr f)
theorem ptC_size (th fr : Bool) (f : Nat → Nat) : (ptC th fr f).size = 327 := va_size _ _
theorem built_pt : Tryz.prog.built 149 [(0, .int .i64 0)] = some (ptC false false fun _ => 0) := by kernel_rfl
theorem gsizeRef : (Tryz.prog.info? 44).map (·.size) = some 33 := by kernel_rfl
section
variable {w : World} {b t : Nat} {th fr : Bool} {f : Nat → Nat}
theorem pt_c0 (H : Blk w b t (ptC th fr f)) : w.cell? ⟨b, 0, none⟩ = some (.int .i64 0) := H.cv (n := 327) (by decide)
theorem pt_c1 (H : Blk w b t (ptC th fr f)) : w.cell? ⟨b, 1, none⟩ = some (.int .i64 0) := H.cv (n := 327) (by decide)
theorem pt_c68 (H : Blk w b t (ptC th fr f)) : w.cell? ⟨b, 68, none⟩ = some (.bool th) := H.cv (n := 327) (by decide)
theorem pt_c69 (H : Blk w b t (ptC th fr f)) : w.cell? ⟨b, 69, none⟩ = some (.bool fr) := H.cv (n := 327) (by decide)
theorem pt_c326 (H : Blk w b t (ptC th fr f)) : w.cell? ⟨b, 326, none⟩ = some (.slice none 0 0) := H.cv (n := 327) (by decide)
theorem pt_old (H : Blk w b t (ptC th fr f)) : w.rangeAt b 2 ((List.range 33).map (rfF rf0.1 rf0.2)) := by
  have := Blk.range (n := 327) (f := ptF th fr f) H 2 33 (by decide)
  rw [show ((List.range 33).map fun j => ptF th fr f (2 + j)) = (List.range 33).map (rfF rf0.1 rf0.2) from List.map_congr_left fun j hj => ?_] at this
  · exact this
  · have hj := List.mem_range.1 hj
    unfold ptF
    rw [if_neg (by omega), if_pos (by omega), show 2 + j - 2 = j by omega]
theorem pt_leaf (H : Blk w b t (ptC th fr f)) : w.rangeAt b 70 ((List.range 256).map (iv .u8 f)) := by
  have := Blk.range (n := 327) (f := ptF th fr f) H 70 256 (by decide)
  rw [show ((List.range 256).map fun j => ptF th fr f (70 + j)) = (List.range 256).map (iv .u8 f) from List.map_congr_left fun j hj => ?_] at this
  · exact this
  · have hj := List.mem_range.1 hj
    unfold ptF
    rw [if_neg (by omega), if_neg (by omega), if_neg (by omega), if_neg (by omega), if_neg (by omega), if_pos (by omega), show 70 + j - 70 = j by omega]
    rfl
theorem pt_putOld (H : Blk w b t (ptC th fr f)) : Blk (w.setCells b 2 (rfC rf0).toList) b t (ptC th fr f) := by
  have := Blk.cells_put (n := 327) (rfC rf0).toList 2 w (ptF th fr f) H
  rw [show va 327 (over (ptF th fr f) 2 (rfC rf0).toList) = ptC th fr f from va_congr fun i hi => ?_] at this
  · exact this
  · unfold over rfC
    rw [va_toList]
    simp only [List.length_map, List.length_range]
    by_cases hj : 2 ≤ i ∧ i < 2 + 33
    · rw [if_pos hj, List.getD_eq_getElem?_getD, List.getElem?_map, List.getElem?_range (by omega)]
      unfold ptF
      rw [if_neg (by omega), if_pos (by omega)]
      rfl
    · rw [if_neg hj]
theorem pt_putLeaf (H : Blk w b t (ptC th fr f)) (f' : Nat → Nat) : Blk (w.setCells b 70 (va 256 (iv .u8 f')).toList) b t (ptC th fr f') := by
  have := Blk.cells_put (n := 327) (va 256 (iv .u8 f')).toList 70 w (ptF th fr f) H
  rw [show va 327 (over (ptF th fr f) 70 (va 256 (iv .u8 f')).toList) = ptC th fr f' from va_congr fun i hi => ?_] at this
  · exact this
  · unfold over
    rw [va_toList]
    simp only [List.length_map, List.length_range]
    by_cases hj : 70 ≤ i ∧ i < 70 + 256
    · rw [if_pos hj, List.getD_eq_getElem?_getD, List.getElem?_map, List.getElem?_range (by omega)]
      unfold ptF
      rw [if_neg (by omega), if_neg (by omega), if_neg (by omega), if_neg (by omega), if_neg (by omega), if_pos (by omega)]
      rfl
    · rw [if_neg hj]
      unfold ptF
      by_cases h1 : i < 2
      · rw [if_pos h1, if_pos h1]
      · by_cases h2 : i < 35
        · rw [if_neg h1, if_neg h1, if_pos h2, if_pos h2]
        · by_cases h3 : i < 68
          · rw [if_neg h1, if_neg h1, if_neg h2, if_neg h2, if_pos h3, if_pos h3]
          · by_cases h4 : i = 68
            · subst h4; rfl
            · by_cases h5 : i = 69
              · subst h5; rfl
              · rw [if_neg h1, if_neg h1, if_neg h2, if_neg h2, if_neg h3, if_neg h3, if_neg h4, if_neg h4, if_neg h5, if_neg h5, if_neg (by omega), if_neg (by omega)]
theorem pt_putThere (H : Blk w b t (ptC th fr f)) (x : Bool) : Blk (w.setCell ⟨b, 68, none⟩ (.bool x)) b t (ptC x fr f) := by
  have := H.put 68 (.bool x)
  rw [show (ptC th fr f).setIfInBounds 68 (.bool x) = ptC x fr f from ?_] at this
  · exact this
  · unfold ptC
    rw [va_set]
    refine va_congr fun i hi => ?_
    unfold upd ptF
    by_cases hj : i = 68
    · subst hj
      rfl
    · rw [if_neg hj]
      simp only [hj, if_false]
theorem pt_putFresh (H : Blk w b t (ptC th fr f)) (x : Bool) : Blk (w.setCell ⟨b, 69, none⟩ (.bool x)) b t (ptC th x f) := by
  have := H.put 69 (.bool x)
  rw [show (ptC th fr f).setIfInBounds 69 (.bool x) = ptC th x f from ?_] at this
  · exact this
  · unfold ptC
    rw [va_set]
    refine va_congr fun i hi => ?_
    unfold upd ptF
    by_cases hj : i = 69
    · subst hj
      rfl
    · rw [if_neg hj]
      simp only [hj, if_false]
theorem pt_there (H : Blk w b t (ptC th fr f)) (o m : Nat) (hm : o + m ≤ 327) : w.there b o m := Blk.there H o m (by rw [ptC_size]; exact hm)
end
set_option maxRecDepth 100000 in
set_option maxHeartbeats 4000000 in
theorem kept_new (b : Nat) (f : Nat → Nat) (w : World) (hb : Blk w b 149 (ptC true true f)) : Calls Tryz.prog 84 #[.pointer (some ⟨b, 0, none⟩)] w fun e w' => e = .returned (.bool false) ∧ w = w' := by
  have c1 := pt_c68 hb
  have c2 := pt_c69 hb
  clear hb
  go_enter Tryz.func84, Tryz.ntmps84
  go_wp2_with fail
  go_ret
  exact ⟨rfl, rfl⟩
set_option maxRecDepth 100000 in
set_option maxHeartbeats 4000000 in
theorem settle_new (b : Nat) (f : Nat → Nat) (w : World) (hb : Blk w b 149 (ptC true false f)) : Calls Tryz.prog 143 #[.pointer (some ⟨b, 0, none⟩), .bool false] w fun e w' => e = .returned (.tuple #[]) ∧ w' = w.setCell ⟨b, 69, none⟩ (.bool true) := by
  have c1 := pt_c68 hb
  have c2 := pt_c69 hb
  have HK : Hid (∀ W, Blk W b 149 (ptC true true f) → Calls Tryz.prog 84 #[.pointer (some ⟨b, 0, none⟩)] W fun e w' => e = .returned (.bool false) ∧ W = w') := kept_new b f
  have HB : Hid (Blk (w.setCell ⟨b, 69, none⟩ (.bool true)) b 149 (ptC true true f)) := pt_putFresh hb true
  have hfz : w.frozen? ⟨b, 69, none⟩ = false := hb.frozen 69
  clear hb
  go_enter Tryz.func143, Tryz.ntmps143
  go_wp2_with fail
  refine (HK.out _ HB.out).mono ?_
  rintro e _ ⟨rfl, rfl⟩
  go_wp2_with fail
  first
    | refine bodyPost_end (results_none Tryz.results143 _ _ _) rfl ?_
    | refine bodyPost_ret (results_none Tryz.results143 _ _ _) rfl ?_
  exact ⟨rfl, rfl⟩
theorem oneM_look {w : World} {r : Nat} {f : Nat → Nat} (h : OneM w r (.agg (va 256 (iv .u8 f)))) : (Instr.lookup 129 (.map (some r)) (.int .i64 0) false).run Tryz.prog w = .ok (.agg (va 256 (iv .u8 f))) w := by
  obtain ⟨c, h⟩ := h
  have hgo : (getObj r).run Tryz.prog w = .ok (.map #[{ key := .int .i64 0, val := .agg (va 256 (iv .u8 f)), born := c }] (c + 1)) w := by simp [getObj, Sem.run, h]
  have hc : ∀ e, (Instr.checkKey e 10000 3 (.int .i64 0)).run Tryz.prog w = .ok () w := fun e => by
    rw [show (10000 : Nat) = 9999 + 1 from rfl, Instr.checkKey]
    simp [run_underlying Tryz.underlying3]
  have hk : (Instr.findKey 3 (.int .i64 0) [({ key := .int .i64 0, val := .agg (va 256 (iv .u8 f)), born := c } : MapEntry)]).run Tryz.prog w = .ok (some (0, .agg (va 256 (iv .u8 f)))) w := by
    simp [Instr.findKey, run_underlying Tryz.underlying3, Instr.findNow, Instr.sameNow]
  simp [Instr.lookup, run_underlying Tryz.underlying129, hgo, hc, hk]
set_option maxRecDepth 100000 in
set_option maxHeartbeats 4000000 in
theorem lookAtLeaf_new (g m b : Nat) (f : Nat → Nat) (hf : f 0 = 1) (w : World) (hgb : g ≠ b) (hg : w.cell? ⟨g, 36, none⟩ = some (.map (some m))) (hm : OneM w m (.agg (va 256 (iv .u8 f)))) (hb : Blk w b 149 (ptC false false fun _ => 0)) :
    Calls Tryz.prog 111 #[.pointer (some ⟨g, 0, none⟩), .pointer (some ⟨b, 0, none⟩)] w fun e w' => e = .returned (.tuple #[]) ∧ Blk w' b 149 (ptC true true f) ∧ Below b w w' := by
  have hS0 : w.drew.cell? ⟨g, 36, none⟩ = some (.map (some m)) ∧ OneM w.drew m (.agg (va 256 (iv .u8 f))) ∧ Blk w.drew b 149 (ptC false false fun _ => 0) := ⟨hg, hm, hb⟩
  have hlk := oneM_look hS0.2.1
  have c1 := pt_c1 hS0.2.2
  have hz := zero_bk
  have HN : Hid (∀ w, Calls Tryz.prog 41 #[.agg (rfC rf0)] w fun e w' => e = .returned (.bool true) ∧ Below w.heap.size w w') := none_any rf0
  have heq : ∀ W, (Op.equalIn 10000 38 (.agg (va 256 (iv .u8 f))) (.agg (va 256 (iv .u8 fun _ => 0)))).run Tryz.prog W = .ok false W := fun W => by
    have := eq_bk 38 Tryz.underlying38 f (fun _ => 0) W
    rw [decide_eq_false (fun u => by have := u 0 (by decide); rw [hf] at this; cases this)] at this
    exact this
  have ht : Hid (w.drew.there b 70 256) := pt_there hb 70 256 (by decide)
  clear hg hm hb
  go_enter Tryz.func111, Tryz.ntmps111
  go_wp2_with fail
  refine wp_region_partsS (fun W => W.cell? ⟨g, 36, none⟩ = some (.map (some m)) ∧ OneM W m (.agg (va 256 (iv .u8 f))) ∧ Blk W b 149 (ptC false false fun _ => 0)) [([0, 1, 5], 2, true), ([], 3, true), ([], 4, true), ([], 6, false), ([], 7, false), ([], 8, false), ([], 9, false), ([], 10, false), ([], 11, false)] [] [12] (by kernel_rfl) (by kernel_rfl) hS0 (partsI_yield ?_)
  simp only [List.cons_append, List.nil_append, List.append_nil, List.filterMap_cons, List.filterMap_nil, List.getElem?_toArray, List.getElem?_cons_zero, List.getElem?_cons_succ]
  go_wp2_with fail
  refine ⟨rfl, _, .pointer (some ⟨g, 0, none⟩), rfl, Or.inl ⟨by rfl, fun W hW => by go_simp⟩, partsI_yield ?_⟩
  simp only [Act.put, List.setIfInBounds_toArray, List.set_cons_zero, List.set_cons_succ]
  simp only [List.cons_append, List.nil_append, List.append_nil, List.filterMap_cons, List.filterMap_nil, List.getElem?_toArray, List.getElem?_cons_zero, List.getElem?_cons_succ]
  go_wp2_with fail
  refine ⟨rfl, _, .pointer (some ⟨g, 36, none⟩), rfl, Or.inl ⟨by rfl, fun W hW => by go_simp⟩, partsI_yield ?_⟩
  simp only [Act.put, List.setIfInBounds_toArray, List.set_cons_zero, List.set_cons_succ]
  simp only [List.cons_append, List.nil_append, List.append_nil, List.filterMap_cons, List.filterMap_nil, List.getElem?_toArray, List.getElem?_cons_zero, List.getElem?_cons_succ]
  go_wp2_with fail
  refine ⟨rfl, _, .map (some m), rfl, Or.inl ⟨by rfl, fun W hW => by have hW1 := hW.1; go_simp⟩, partsI_force ?_⟩
  simp only [Act.put, List.setIfInBounds_toArray, List.set_cons_zero, List.set_cons_succ]
  simp only [List.cons_append, List.nil_append, List.append_nil, List.filterMap_cons, List.filterMap_nil, List.getElem?_toArray, List.getElem?_cons_zero, List.getElem?_cons_succ]
  go_wp2_with fail
  refine ⟨rfl, hS0, partsI_force ?_⟩
  simp only [List.cons_append, List.nil_append, List.append_nil, List.filterMap_cons, List.filterMap_nil, List.getElem?_toArray, List.getElem?_cons_zero, List.getElem?_cons_succ]
  go_wp2_with fail
  refine ⟨rfl, hS0, partsI_force ?_⟩
  simp only [List.cons_append, List.nil_append, List.append_nil, List.filterMap_cons, List.filterMap_nil, List.getElem?_toArray, List.getElem?_cons_zero, List.getElem?_cons_succ]
  go_wp2_with fail
  refine ⟨rfl, hS0, partsI_force ?_⟩
  simp only [List.cons_append, List.nil_append, List.append_nil, List.filterMap_cons, List.filterMap_nil, List.getElem?_toArray, List.getElem?_cons_zero, List.getElem?_cons_succ]
  go_wp2_with fail
  refine ⟨rfl, hS0, partsI_force ?_⟩
  simp only [List.cons_append, List.nil_append, List.append_nil, List.filterMap_cons, List.filterMap_nil, List.getElem?_toArray, List.getElem?_cons_zero, List.getElem?_cons_succ]
  go_wp2_with fail
  refine ⟨rfl, hS0, partsI_force ?_⟩
  simp only [List.cons_append, List.nil_append, List.append_nil, List.filterMap_cons, List.filterMap_nil, List.getElem?_toArray, List.getElem?_cons_zero, List.getElem?_cons_succ]
  go_wp2_with fail
  refine ⟨rfl, hS0, partsI_last ?_⟩
  simp only [List.cons_append, List.nil_append, List.append_nil, List.filterMap_cons, List.filterMap_nil, List.getElem?_toArray, List.getElem?_cons_zero, List.getElem?_cons_succ]
  refine wpList_store_mid (by rfl) 38 _ _ (by rfl) b 70 (va 256 (iv .u8 f)) (by rfl) (by rfl) (by rw [va_size]; exact ht.out) (by rw [va_size]; exact sizeBk) (iv_one _ _ _) ?_
  simp only [Act.put, List.setIfInBounds_toArray, List.set_cons_zero, List.set_cons_succ]
  have HB1 : Hid (Below b w (w.drew.setCells b 70 (va 256 (iv .u8 f)).toList)) := below_setCells (Nat.le_refl _) _ _ _ (Below.refl _ _).drew
  have p1 := pt_putLeaf hS0.2.2 f
  go_wp2_with fail
  refine ⟨rfl, ?_⟩
  generalize w.drew.setCells b 70 (va 256 (iv .u8 f)).toList = w1 at *
  have c68 := pt_c68 p1
  have hfz : w1.frozen? ⟨b, 68, none⟩ = false := p1.frozen 68
  have HR1 : Hid (w1.rangeAt b 70 ((List.range 256).map (iv .u8 f))) := pt_leaf p1
  have HB2 : Hid (Below b w (w1.setCell ⟨b, 68, none⟩ (.bool true))) := HB1.out.setCell (Nat.le_refl _) _
  have HP2 : Hid (Blk (w1.setCell ⟨b, 68, none⟩ (.bool true)) b 149 (ptC true false f)) := pt_putThere p1 true
  clear hlk c1 ht hS0 p1 HB1
  go_wp2_with (first
    | (refine wpList_load_blk (by rfl) 38 _ (by rfl) (b) (70) 256 (iv .u8 f) (by rfl) _ (by exact HR1.out) Tryz.underlying38 rfl sizeBk ?_; simp only [Act.put, List.setIfInBounds_toArray, List.set_cons_zero, List.set_cons_succ])
    | fail)
  generalize w1.setCell ⟨b, 68, none⟩ (.bool true) = w2 at *
  have hS2 : Blk w2.drew b 149 (ptC true false f) := HP2.out
  refine wp_region_partsS (fun W => Blk W b 149 (ptC true false f)) [([0, 1], 2, false), ([], 3, false), ([], 4, true), ([], 5, false), ([6, 7, 8, 13, 17], 9, true), ([], 10, true), ([], 11, true), ([], 14, true), ([], 15, true), ([], 16, true), ([], 18, true), ([], 19, true), ([], 20, true), ([], 12, true), ([], 21, true)] [22] [23] (by kernel_rfl) (by kernel_rfl) hS2 (partsI_force ?_)
  simp only [List.cons_append, List.nil_append, List.append_nil, List.filterMap_cons, List.filterMap_nil, List.getElem?_toArray, List.getElem?_cons_zero, List.getElem?_cons_succ]
  go_wp2_with fail
  refine ⟨rfl, hS2, partsI_force ?_⟩
  simp only [List.cons_append, List.nil_append, List.append_nil, List.filterMap_cons, List.filterMap_nil, List.getElem?_toArray, List.getElem?_cons_zero, List.getElem?_cons_succ]
  go_wp2_with fail
  refine ⟨rfl, hS2, partsI_yield ?_⟩
  simp only [List.cons_append, List.nil_append, List.append_nil, List.filterMap_cons, List.filterMap_nil, List.getElem?_toArray, List.getElem?_cons_zero, List.getElem?_cons_succ]
  go_wp2_with fail
  refine ⟨rfl, _, .agg (rfC rf0), rfl, yieldsIf_load_mid (by rfl) 44 _ (by rfl) b 2 (by rfl) _ _ (fun W hW => pt_old hW) Tryz.underlying44 rfl (gsizeRef.trans (by simp)), partsI_force ?_⟩
  simp only [Act.put, List.setIfInBounds_toArray, List.set_cons_zero, List.set_cons_succ]
  simp only [List.cons_append, List.nil_append, List.append_nil, List.filterMap_cons, List.filterMap_nil, List.getElem?_toArray, List.getElem?_cons_zero, List.getElem?_cons_succ]
  go_wp2_with fail
  refine (HN.out _).mono ?_
  rintro e w3 ⟨rfl, hb3⟩
  have hS3 := hS2.below hb3 hS2.lt
  go_wp2_with fail
  refine ⟨rfl, hS3, partsI_yield ?_⟩
  simp only [List.cons_append, List.nil_append, List.append_nil, List.filterMap_cons, List.filterMap_nil, List.getElem?_toArray, List.getElem?_cons_zero, List.getElem?_cons_succ]
  go_wp2_with fail
  refine ⟨rfl, _, undef, rfl, Or.inr ⟨by rfl, rfl⟩, partsI_yield ?_⟩
  simp only [Act.put, List.setIfInBounds_toArray, List.set_cons_zero, List.set_cons_succ]
  simp only [List.cons_append, List.nil_append, List.append_nil, List.filterMap_cons, List.filterMap_nil, List.getElem?_toArray, List.getElem?_cons_zero, List.getElem?_cons_succ]
  go_wp2_with fail
  refine ⟨rfl, _, undef, rfl, Or.inr ⟨by rfl, rfl⟩, partsI_yield ?_⟩
  simp only [Act.put, List.setIfInBounds_toArray, List.set_cons_zero, List.set_cons_succ]
  simp only [List.cons_append, List.nil_append, List.append_nil, List.filterMap_cons, List.filterMap_nil, List.getElem?_toArray, List.getElem?_cons_zero, List.getElem?_cons_succ]
  go_wp2_with fail
  refine ⟨rfl, _, undef, rfl, Or.inr ⟨by rfl, rfl⟩, partsI_yield ?_⟩
  simp only [Act.put, List.setIfInBounds_toArray, List.set_cons_zero, List.set_cons_succ]
  simp only [List.cons_append, List.nil_append, List.append_nil, List.filterMap_cons, List.filterMap_nil, List.getElem?_toArray, List.getElem?_cons_zero, List.getElem?_cons_succ]
  go_wp2_with fail
  refine ⟨rfl, _, undef, rfl, Or.inr ⟨by rfl, rfl⟩, partsI_yield ?_⟩
  simp only [Act.put, List.setIfInBounds_toArray, List.set_cons_zero, List.set_cons_succ]
  simp only [List.cons_append, List.nil_append, List.append_nil, List.filterMap_cons, List.filterMap_nil, List.getElem?_toArray, List.getElem?_cons_zero, List.getElem?_cons_succ]
  go_wp2_with fail
  refine ⟨rfl, _, undef, rfl, Or.inr ⟨by rfl, rfl⟩, partsI_yield ?_⟩
  simp only [Act.put, List.setIfInBounds_toArray, List.set_cons_zero, List.set_cons_succ]
  simp only [List.cons_append, List.nil_append, List.append_nil, List.filterMap_cons, List.filterMap_nil, List.getElem?_toArray, List.getElem?_cons_zero, List.getElem?_cons_succ]
  go_wp2_with fail
  refine ⟨rfl, _, undef, rfl, Or.inr ⟨by rfl, rfl⟩, partsI_yield ?_⟩
  simp only [Act.put, List.setIfInBounds_toArray, List.set_cons_zero, List.set_cons_succ]
  simp only [List.cons_append, List.nil_append, List.append_nil, List.filterMap_cons, List.filterMap_nil, List.getElem?_toArray, List.getElem?_cons_zero, List.getElem?_cons_succ]
  go_wp2_with fail
  refine ⟨rfl, _, undef, rfl, Or.inr ⟨by rfl, rfl⟩, partsI_yield ?_⟩
  simp only [Act.put, List.setIfInBounds_toArray, List.set_cons_zero, List.set_cons_succ]
  simp only [List.cons_append, List.nil_append, List.append_nil, List.filterMap_cons, List.filterMap_nil, List.getElem?_toArray, List.getElem?_cons_zero, List.getElem?_cons_succ]
  go_wp2_with fail
  refine ⟨rfl, _, undef, rfl, Or.inr ⟨by rfl, rfl⟩, partsI_yield ?_⟩
  simp only [Act.put, List.setIfInBounds_toArray, List.set_cons_zero, List.set_cons_succ]
  simp only [List.cons_append, List.nil_append, List.append_nil, List.filterMap_cons, List.filterMap_nil, List.getElem?_toArray, List.getElem?_cons_zero, List.getElem?_cons_succ]
  go_wp2_with fail
  refine ⟨rfl, _, undef, rfl, Or.inr ⟨by rfl, rfl⟩, partsI_yield ?_⟩
  simp only [Act.put, List.setIfInBounds_toArray, List.set_cons_zero, List.set_cons_succ]
  simp only [List.cons_append, List.nil_append, List.append_nil, List.filterMap_cons, List.filterMap_nil, List.getElem?_toArray, List.getElem?_cons_zero, List.getElem?_cons_succ]
  go_wp2_with fail
  refine ⟨rfl, _, undef, rfl, Or.inr ⟨by rfl, rfl⟩, partsI_yield ?_⟩
  simp only [Act.put, List.setIfInBounds_toArray, List.set_cons_zero, List.set_cons_succ]
  simp only [List.cons_append, List.nil_append, List.append_nil, List.filterMap_cons, List.filterMap_nil, List.getElem?_toArray, List.getElem?_cons_zero, List.getElem?_cons_succ]
  go_wp2_with fail
  refine ⟨rfl, _, undef, rfl, Or.inr ⟨by rfl, rfl⟩, partsI_last ?_⟩
  simp only [Act.put, List.setIfInBounds_toArray, List.set_cons_zero, List.set_cons_succ]
  simp only [List.cons_append, List.nil_append, List.append_nil, List.filterMap_cons, List.filterMap_nil, List.getElem?_toArray, List.getElem?_cons_zero, List.getElem?_cons_succ]
  go_wp2_with fail
  refine (settle_new b f w3 hS3).mono ?_
  rintro e w4 ⟨rfl, rfl⟩
  go_wp2_with fail
  refine ⟨rfl, ?_⟩
  go_wp2_with fail
  try simp only [Exit.inBlock, Exit.then]
  first
    | refine bodyPost_end (results_none Tryz.results111 _ _ _) rfl ?_
    | refine bodyPost_ret (results_none Tryz.results111 _ _ _) rfl ?_
  exact ⟨rfl, pt_putFresh hS3 true, ((HB2.out.drew).trans (hb3.mono (Nat.le_of_lt hS2.lt))).setCell (Nat.le_refl _) _⟩
/-- a grown tree's cells: an empty tree, and a leaf that may be set -/
def gr0F (cp : Option Addr) (m : Nat) : Nat → Value := fun i => if i = 0 then .pointer cp else if i = 1 then .int .i64 0 else if i < 35 then rfF rf0.1 rf0.2 (i - 2) else if i = 35 then .int .i64 0 else if i = 36 then .map (some m) else .int .i64 1
def gr0C (cp : Option Addr) (m : Nat) : Array Value := va 38 (gr0F cp m)
section
variable {w : World} {g t m : Nat} {cp : Option Addr}
theorem g0_c1 (H : Blk w g t (gr0C cp m)) : w.cell? ⟨g, 1, none⟩ = some (.int .i64 0) := H.cv (n := 38) (by decide)
theorem g0_c35 (H : Blk w g t (gr0C cp m)) : w.cell? ⟨g, 35, none⟩ = some (.int .i64 0) := H.cv (n := 38) (by decide)
theorem g0_c36 (H : Blk w g t (gr0C cp m)) : w.cell? ⟨g, 36, none⟩ = some (.map (some m)) := H.cv (n := 38) (by decide)
theorem g0_root (H : Blk w g t (gr0C cp m)) : w.rangeAt g 2 ((List.range 33).map (rfF rf0.1 rf0.2)) := by
  have := Blk.range (n := 38) (f := gr0F cp m) H 2 33 (by decide)
  rw [show ((List.range 33).map fun j => gr0F cp m (2 + j)) = (List.range 33).map (rfF rf0.1 rf0.2) from List.map_congr_left fun j hj => ?_] at this
  · exact this
  · have hj := List.mem_range.1 hj
    unfold gr0F
    rw [if_neg (by omega), if_neg (by omega), if_pos (by omega), show 2 + j - 2 = j by omega]
end
set_option maxRecDepth 100000 in
set_option maxHeartbeats 4000000 in
theorem gCapacity_0 (w : World) : Calls Tryz.prog 63 #[.int .i64 0] w fun x w' => x = .returned (.int .i64 1) ∧ w = w' := by
  have hC : Hid (∀ w, Calls Tryz.prog 36 #[.int .i64 0] w fun e w' => e = .returned (.tuple #[.int .i64 1, .int .i64 0]) ∧ w = w') := capacity_ok 0 1 (by decide) rfl
  go_enter Tryz.func63, Tryz.ntmps63
  go_wp2_with fail
  refine (hC.out _).mono ?_
  rintro e _ ⟨rfl, rfl⟩
  go_wp2_with fail
  go_ret
  exact ⟨rfl, rfl⟩
set_option maxRecDepth 100000 in
set_option maxHeartbeats 4000000 in
theorem lookAt_new (g m b : Nat) (cp : Option Addr) (f : Nat → Nat) (hf : f 0 = 1) (sa : Option Addr) (cap : Nat) (w : World) (hgb : g < b) (hmb : m < b) (hg : Blk w g 131 (gr0C cp m)) (hm : OneM w m (.agg (va 256 (iv .u8 f)))) (hb : Blk w b 149 (ptC false false fun _ => 0)) :
    Calls Tryz.prog 80 #[.pointer (some ⟨g, 0, none⟩), .pointer (some ⟨b, 0, none⟩), .slice sa 1 cap] w fun e w' => e = .returned (.tuple #[.pointer (some ⟨b, 0, none⟩), .int .i64 0]) ∧ Blk w' b 149 (ptC true true f) ∧ Below b w w' := by
  have HC : Hid (∀ w, Calls Tryz.prog 63 #[.int .i64 0] w fun x w' => x = .returned (.int .i64 1) ∧ w = w') := gCapacity_0
  have c0 := pt_c0 hb
  have c1 := pt_c1 hb
  have g1 := g0_c1 hg
  have HR : Hid (∀ n, (w.drewN n).rangeAt g 2 ((List.range 33).map (rfF rf0.1 rf0.2))) := fun n => g0_root (hg.below (gbelow_drewN (Below.refl _ _) n) hg.lt)
  have HT : Hid (∀ n, (w.drewN n).there b 2 33) := fun n => pt_there (hb.below (gbelow_drewN (Below.refl _ _) n) hb.lt) 2 33 (by decide)
  have HB : Hid (∀ n, Blk (w.drewN n) b 149 (ptC false false fun _ => 0)) := fun n => hb.below (gbelow_drewN (Below.refl _ _) n) hb.lt
  have HG : Hid (∀ n, Blk (w.drewN n) g 131 (gr0C cp m)) := fun n => hg.below (gbelow_drewN (Below.refl _ _) n) hg.lt
  have HM : Hid (∀ n, OneM (w.drewN n) m (.agg (va 256 (iv .u8 f)))) := fun n => hm.below (gbelow_drewN (Below.refl _ _) n) hm.lt
  have HG0 : Hid (Blk w g 131 (gr0C cp m)) := hg
  have HM0 : Hid (OneM w m (.agg (va 256 (iv .u8 f)))) := hm
  clear hg hm hb
  go_enter Tryz.func80, Tryz.ntmps80
  go_wp2_with fail
  go_quiet (fail)
  go_wp2_with (first
    | (refine wpList_load_blk (by rfl) 44 _ (by rfl) (g) (2) 33 (rfF rf0.1 rf0.2) (by rfl) _ (by exact HR.out _) Tryz.underlying44 rfl gsizeRef ?_; simp only [Act.put, List.setIfInBounds_toArray, List.set_cons_zero, List.set_cons_succ])
    | (refine wpList_store_mid (by rfl) 44 _ _ (by rfl) b 2 (rfC rf0) (by rfl) (by rfl) (by rw [rfC_size]; exact HT.out _) (by rw [rfC_size]; exact gsizeRef) (rfC_all _) ?_; simp only [Act.put, List.setIfInBounds_toArray, List.set_cons_zero, List.set_cons_succ])
    | fail)
  have HB2 : Hid (Below b w ((w.drewN nq).setCells b 2 (rfC rf0).toList)) := below_setCells (Nat.le_refl _) _ _ _ (gbelow_drewN (Below.refl _ _) nq)
  have HP2 : Hid (Blk ((w.drewN nq).setCells b 2 (rfC rf0).toList) b 149 (ptC false false fun _ => 0)) := pt_putOld (HB.out nq)
  clear HR HT HB HG HM c0 c1 g1
  generalize (w.drewN nq).setCells b 2 (rfC rf0).toList = w2 at *
  have hS3 : Blk w2.drew b 149 (ptC false false fun _ => 0) := HP2.out
  have c0 := pt_c0 hS3
  have c1 := pt_c1 hS3
  refine wp_region_partsS (fun W => Blk W b 149 (ptC false false fun _ => 0)) [([0, 4], 1, true), ([], 2, true), ([], 3, true), ([], 5, false), ([], 6, false), ([], 7, false), ([], 8, false), ([], 9, false)] [10] [] (by kernel_rfl) (by kernel_rfl) hS3 (partsI_yield ?_)
  simp only [List.cons_append, List.nil_append, List.append_nil, List.filterMap_cons, List.filterMap_nil, List.getElem?_toArray, List.getElem?_cons_zero, List.getElem?_cons_succ]
  go_wp2_with fail
  refine ⟨rfl, _, .pointer (some ⟨b, 0, none⟩), rfl, Or.inl ⟨by rfl, fun W hW => by go_simp⟩, partsI_yield ?_⟩
  simp only [Act.put, List.setIfInBounds_toArray, List.set_cons_zero, List.set_cons_succ]
  simp only [List.cons_append, List.nil_append, List.append_nil, List.filterMap_cons, List.filterMap_nil, List.getElem?_toArray, List.getElem?_cons_zero, List.getElem?_cons_succ]
  go_wp2_with fail
  refine ⟨rfl, _, .pointer (some ⟨b, 1, none⟩), rfl, Or.inl ⟨by rfl, fun W hW => by go_simp⟩, partsI_yield ?_⟩
  simp only [Act.put, List.setIfInBounds_toArray, List.set_cons_zero, List.set_cons_succ]
  simp only [List.cons_append, List.nil_append, List.append_nil, List.filterMap_cons, List.filterMap_nil, List.getElem?_toArray, List.getElem?_cons_zero, List.getElem?_cons_succ]
  go_wp2_with fail
  refine ⟨rfl, _, .int .i64 0, rfl, Or.inl ⟨by rfl, fun W hW => by have hW1 := pt_c1 hW; go_simp⟩, partsI_force ?_⟩
  simp only [Act.put, List.setIfInBounds_toArray, List.set_cons_zero, List.set_cons_succ]
  simp only [List.cons_append, List.nil_append, List.append_nil, List.filterMap_cons, List.filterMap_nil, List.getElem?_toArray, List.getElem?_cons_zero, List.getElem?_cons_succ]
  go_wp2_with fail
  refine ⟨rfl, hS3, partsI_force ?_⟩
  simp only [List.cons_append, List.nil_append, List.append_nil, List.filterMap_cons, List.filterMap_nil, List.getElem?_toArray, List.getElem?_cons_zero, List.getElem?_cons_succ]
  go_wp2_with fail
  refine ⟨rfl, hS3, partsI_force ?_⟩
  simp only [List.cons_append, List.nil_append, List.append_nil, List.filterMap_cons, List.filterMap_nil, List.getElem?_toArray, List.getElem?_cons_zero, List.getElem?_cons_succ]
  go_wp2_with fail
  refine ⟨rfl, hS3, partsI_force ?_⟩
  simp only [List.cons_append, List.nil_append, List.append_nil, List.filterMap_cons, List.filterMap_nil, List.getElem?_toArray, List.getElem?_cons_zero, List.getElem?_cons_succ]
  go_wp2_with fail
  refine (HC.out _).mono ?_
  rintro e _ ⟨rfl, rfl⟩
  go_wp2_with fail
  refine ⟨rfl, hS3, partsI_force ?_⟩
  simp only [List.cons_append, List.nil_append, List.append_nil, List.filterMap_cons, List.filterMap_nil, List.getElem?_toArray, List.getElem?_cons_zero, List.getElem?_cons_succ]
  go_wp2_with fail
  refine ⟨rfl, hS3, partsI_last ?_⟩
  simp only [List.cons_append, List.nil_append, List.append_nil, List.filterMap_cons, List.filterMap_nil, List.getElem?_toArray, List.getElem?_cons_zero, List.getElem?_cons_succ]
  go_wp2_with fail
  refine ⟨rfl, ?_⟩
  have HG2 : Hid (Blk w2.drew g 131 (gr0C cp m)) := HG0.out.below HB2.out.drew hgb
  have HM2 : Hid (OneM w2.drew m (.agg (va 256 (iv .u8 f)))) := HM0.out.below HB2.out.drew hmb
  have HB3 : Hid (Below b w w2.drew) := HB2.out.drew
  have HP3 : Hid (Blk w2.drew b 149 (ptC false false fun _ => 0)) := hS3
  clear hS3 c0 c1 HP2 HB2 HG0 HM0
  generalize w2.drew = w3 at *
  go_wp2_with fail
  refine wp_region_partsS (fun _ => True) [([0, 1, 2, 3, 9], 4, true), ([], 5, true), ([], 6, true), ([], 10, true), ([], 11, true), ([], 12, true), ([], 7, true), ([], 8, true), ([], 13, true)] [14, 15] [] (by kernel_rfl) (by kernel_rfl) trivial (partsI_yield ?_)
  simp only [List.cons_append, List.nil_append, List.append_nil, List.filterMap_cons, List.filterMap_nil, List.getElem?_toArray, List.getElem?_cons_zero, List.getElem?_cons_succ]
  go_wp2_with fail
  refine ⟨rfl, _, undef, rfl, Or.inr ⟨by rfl, rfl⟩, partsI_yield ?_⟩
  simp only [Act.put, List.setIfInBounds_toArray, List.set_cons_zero, List.set_cons_succ]
  simp only [List.cons_append, List.nil_append, List.append_nil, List.filterMap_cons, List.filterMap_nil, List.getElem?_toArray, List.getElem?_cons_zero, List.getElem?_cons_succ]
  go_wp2_with fail
  refine ⟨rfl, _, undef, rfl, Or.inr ⟨by rfl, rfl⟩, partsI_yield ?_⟩
  simp only [Act.put, List.setIfInBounds_toArray, List.set_cons_zero, List.set_cons_succ]
  simp only [List.cons_append, List.nil_append, List.append_nil, List.filterMap_cons, List.filterMap_nil, List.getElem?_toArray, List.getElem?_cons_zero, List.getElem?_cons_succ]
  go_wp2_with fail
  refine ⟨rfl, _, undef, rfl, Or.inr ⟨by rfl, rfl⟩, partsI_yield ?_⟩
  simp only [Act.put, List.setIfInBounds_toArray, List.set_cons_zero, List.set_cons_succ]
  simp only [List.cons_append, List.nil_append, List.append_nil, List.filterMap_cons, List.filterMap_nil, List.getElem?_toArray, List.getElem?_cons_zero, List.getElem?_cons_succ]
  go_wp2_with fail
  refine ⟨rfl, _, undef, rfl, Or.inr ⟨by rfl, rfl⟩, partsI_yield ?_⟩
  simp only [Act.put, List.setIfInBounds_toArray, List.set_cons_zero, List.set_cons_succ]
  simp only [List.cons_append, List.nil_append, List.append_nil, List.filterMap_cons, List.filterMap_nil, List.getElem?_toArray, List.getElem?_cons_zero, List.getElem?_cons_succ]
  go_wp2_with fail
  refine ⟨rfl, _, undef, rfl, Or.inr ⟨by rfl, rfl⟩, partsI_yield ?_⟩
  simp only [Act.put, List.setIfInBounds_toArray, List.set_cons_zero, List.set_cons_succ]
  simp only [List.cons_append, List.nil_append, List.append_nil, List.filterMap_cons, List.filterMap_nil, List.getElem?_toArray, List.getElem?_cons_zero, List.getElem?_cons_succ]
  go_wp2_with fail
  refine ⟨rfl, _, undef, rfl, Or.inr ⟨by rfl, rfl⟩, partsI_yield ?_⟩
  simp only [Act.put, List.setIfInBounds_toArray, List.set_cons_zero, List.set_cons_succ]
  simp only [List.cons_append, List.nil_append, List.append_nil, List.filterMap_cons, List.filterMap_nil, List.getElem?_toArray, List.getElem?_cons_zero, List.getElem?_cons_succ]
  go_wp2_with fail
  refine ⟨rfl, _, undef, rfl, Or.inr ⟨by rfl, rfl⟩, partsI_yield ?_⟩
  simp only [Act.put, List.setIfInBounds_toArray, List.set_cons_zero, List.set_cons_succ]
  simp only [List.cons_append, List.nil_append, List.append_nil, List.filterMap_cons, List.filterMap_nil, List.getElem?_toArray, List.getElem?_cons_zero, List.getElem?_cons_succ]
  go_wp2_with fail
  refine ⟨rfl, _, undef, rfl, Or.inr ⟨by rfl, rfl⟩, partsI_yield ?_⟩
  simp only [Act.put, List.setIfInBounds_toArray, List.set_cons_zero, List.set_cons_succ]
  simp only [List.cons_append, List.nil_append, List.append_nil, List.filterMap_cons, List.filterMap_nil, List.getElem?_toArray, List.getElem?_cons_zero, List.getElem?_cons_succ]
  go_wp2_with fail
  refine ⟨rfl, _, undef, rfl, Or.inr ⟨by rfl, rfl⟩, partsI_last ?_⟩
  simp only [Act.put, List.setIfInBounds_toArray, List.set_cons_zero, List.set_cons_succ]
  simp only [List.cons_append, List.nil_append, List.append_nil, List.filterMap_cons, List.filterMap_nil, List.getElem?_toArray, List.getElem?_cons_zero, List.getElem?_cons_succ]
  go_wp2_with fail
  refine ⟨rfl, ?_⟩
  have c0 := pt_c0 HP3.out
  have c0' : w3.drew.cell? ⟨b, 0, none⟩ = some (.int .i64 0) := c0
  go_wp2_with fail
  have HBd : Hid (Below b w w3.drew) := HB3.out.drew
  refine (lookAtLeaf_new g m b f hf w3.drew (by omega) (g0_c36 (w := w3.drew) HG2.out) HM2.out HP3.out).mono ?_
  rintro e w4 ⟨rfl, p4, hb4⟩
  go_wp2_with fail
  go_ret2
  exact ⟨rfl, p4, HBd.out.trans hb4⟩
set_option maxRecDepth 100000 in
set_option maxHeartbeats 4000000 in
theorem look_new (g m : Nat) (cp : Option Addr) (f : Nat → Nat) (hf : f 0 = 1) (w : World) (hg : Blk w g 131 (gr0C cp m)) (hm : OneM w m (.agg (va 256 (iv .u8 f)))) :
    Calls Tryz.prog 51 #[.pointer (some ⟨g, 0, none⟩)] w fun e w' => ∃ b, e = .returned (.tuple #[.pointer (some ⟨b, 0, none⟩), .int .i64 0]) ∧ w.heap.size ≤ b ∧ Blk w' b 149 (ptC true true f) ∧ Below w.heap.size w w' := by
  have HBt : Hid (Tryz.prog.built 149 [(0, .int .i64 0)] = some (ptC false false fun _ => 0)) := built_pt
  have g1 : w.drew.cell? ⟨g, 1, none⟩ = some (.int .i64 0) := g0_c1 hg
  have g35 : w.drew.cell? ⟨g, 35, none⟩ = some (.int .i64 0) := g0_c35 hg
  go_enter Tryz.func51, Tryz.ntmps51
  go_wp2_with fail
  refine wp_region_partsS (fun W => Blk W g 131 (gr0C cp m)) [([0, 4], 1, true), ([], 2, true), ([], 3, true), ([], 5, false), ([], 6, false), ([], 7, false), ([], 8, false), ([], 9, false)] [10] [] (by kernel_rfl) (by kernel_rfl) hg (partsI_yield ?_)
  simp only [List.cons_append, List.nil_append, List.append_nil, List.filterMap_cons, List.filterMap_nil, List.getElem?_toArray, List.getElem?_cons_zero, List.getElem?_cons_succ]
  go_wp2_with fail
  refine ⟨rfl, _, .pointer (some ⟨g, 0, none⟩), rfl, Or.inl ⟨by rfl, fun W hW => by go_simp⟩, partsI_yield ?_⟩
  simp only [Act.put, List.setIfInBounds_toArray, List.set_cons_zero, List.set_cons_succ]
  simp only [List.cons_append, List.nil_append, List.append_nil, List.filterMap_cons, List.filterMap_nil, List.getElem?_toArray, List.getElem?_cons_zero, List.getElem?_cons_succ]
  go_wp2_with fail
  refine ⟨rfl, _, .pointer (some ⟨g, 35, none⟩), rfl, Or.inl ⟨by rfl, fun W hW => by go_simp⟩, partsI_yield ?_⟩
  simp only [Act.put, List.setIfInBounds_toArray, List.set_cons_zero, List.set_cons_succ]
  simp only [List.cons_append, List.nil_append, List.append_nil, List.filterMap_cons, List.filterMap_nil, List.getElem?_toArray, List.getElem?_cons_zero, List.getElem?_cons_succ]
  go_wp2_with fail
  refine ⟨rfl, _, .int .i64 0, rfl, Or.inl ⟨by rfl, fun W hW => by have hW1 := g0_c35 hW; go_simp⟩, partsI_force ?_⟩
  simp only [Act.put, List.setIfInBounds_toArray, List.set_cons_zero, List.set_cons_succ]
  simp only [List.cons_append, List.nil_append, List.append_nil, List.filterMap_cons, List.filterMap_nil, List.getElem?_toArray, List.getElem?_cons_zero, List.getElem?_cons_succ]
  go_wp2_with fail
  refine ⟨rfl, hg, partsI_force ?_⟩
  simp only [List.cons_append, List.nil_append, List.append_nil, List.filterMap_cons, List.filterMap_nil, List.getElem?_toArray, List.getElem?_cons_zero, List.getElem?_cons_succ]
  go_wp2_with fail
  refine ⟨rfl, hg, partsI_force ?_⟩
  simp only [List.cons_append, List.nil_append, List.append_nil, List.filterMap_cons, List.filterMap_nil, List.getElem?_toArray, List.getElem?_cons_zero, List.getElem?_cons_succ]
  go_wp2_with fail
  refine ⟨rfl, hg, partsI_force ?_⟩
  simp only [List.cons_append, List.nil_append, List.append_nil, List.filterMap_cons, List.filterMap_nil, List.getElem?_toArray, List.getElem?_cons_zero, List.getElem?_cons_succ]
  go_wp2_with fail
  refine ⟨rfl, hg, partsI_force ?_⟩
  simp only [List.cons_append, List.nil_append, List.append_nil, List.filterMap_cons, List.filterMap_nil, List.getElem?_toArray, List.getElem?_cons_zero, List.getElem?_cons_succ]
  go_wp2_with fail
  refine ⟨rfl, hg, partsI_last ?_⟩
  simp only [List.cons_append, List.nil_append, List.append_nil, List.filterMap_cons, List.filterMap_nil, List.getElem?_toArray, List.getElem?_cons_zero, List.getElem?_cons_succ]
  go_wp2_with fail
  refine ⟨rfl, ?_⟩
  have HB1 : Hid (Below w.heap.size w (w.alloc (.cells (ptC false false fun _ => 0) 149)).drew) := (below_new1 w _).drew
  have HP1 : Hid (Blk (w.alloc (.cells (ptC false false fun _ => 0) 149)).drew w.heap.size 149 (ptC false false fun _ => 0)) := Blk.new w _ _
  have HGl : Hid (g < w.heap.size ∧ m < w.heap.size) := ⟨hg.lt, hm.lt⟩
  have HG0 : Hid (Blk w g 131 (gr0C cp m)) := hg
  have HM0 : Hid (OneM w m (.agg (va 256 (iv .u8 f)))) := hm
  clear hg hm g1 g35
  go_wp2_with (first
    | (refine gr_build1 (by rfl) 149 0 _ (by rfl) (.int .i64 0) (by rfl) (ptC false false fun _ => 0) (by exact HBt.out) ?_; simp only [Act.put, List.setIfInBounds_toArray, List.set_cons_zero, List.set_cons_succ])
    | fail)
  generalize (w.alloc (.cells (ptC false false fun _ => 0) 149)).drew = w1 at *
  refine (touched_one g (.agg (va 256 (iv .u8 f))) m w1 (g0_c36 (HG0.out.below HB1.out HGl.out.1)) (HM0.out.below HB1.out HGl.out.2)).mono ?_
  rintro e w2 ⟨sa, cap, rfl, hb2⟩
  have HB2 : Hid (Below w.heap.size w w2) := HB1.out.trans (hb2.mono HB1.out.size)
  have HP2 : Hid (Blk w2 w.heap.size 149 (ptC false false fun _ => 0)) := HP1.out.below hb2 HP1.out.lt
  clear hb2 HP1 HB1
  go_wp2_with fail
  refine (lookAt_new g m w.heap.size cp f hf sa cap w2 HGl.out.1 HGl.out.2 (HG0.out.below HB2.out HGl.out.1) (HM0.out.below HB2.out HGl.out.2) HP2.out).mono ?_
  rintro e w3 ⟨rfl, p3, hb3⟩
  go_wp2_with fail
  go_ret2
  exact ⟨w.heap.size, rfl, Nat.le_refl _, p3, HB2.out.trans hb3⟩
end Go.Proofs.YtjengejepcmgiaaGreat

namespace Go.Proofs
open Go.Shelf
def Tryz.growA_ren : Go.Shelf.Ren := ⟨fun | 4 => 113 | n => n, fun | 22 => 136 | 25 => 133 | 3 => 3 | 4 => 4 | 9 => 9 | 20 => 20 | 0 => 0 | n => n, fun | n => n⟩
theorem Tryz.growA : Go.Proofs.Lays8.n4 Tryz.prog Tryz.growA_ren := {
  mixed := by kernel_rfl
  f4 := ⟨Tryz.f113.name, by decide, Tryz.func113.trans (congrArg some (by kernel_rfl))⟩
  t0 := Tryz.underlying0
  a0 := Tryz.isAgg0
  z0 := Tryz.sizeOf0
  v0 := Tryz.zeroValue0
  t3 := Tryz.underlying3
  a3 := Tryz.isAgg3
  z3 := Tryz.sizeOf3
  v3 := Tryz.zeroValue3
  t4 := Tryz.underlying4
  a4 := Tryz.isAgg4
  z4 := Tryz.sizeOf4
  v4 := Tryz.zeroValue4
  t9 := Tryz.underlying9
  a9 := Tryz.isAgg9
  z9 := Tryz.sizeOf9
  v9 := Tryz.zeroValue9
  t20 := Tryz.underlying20
  a20 := Tryz.isAgg20
  z20 := Tryz.sizeOf20
  v20 := Tryz.zeroValue20
  t22 := Tryz.underlying136
  a22 := Tryz.isAgg136
  z22 := Tryz.sizeOf136
  v22 := Tryz.zeroValue136 }
end Go.Proofs
