/- Grown trees: what they have in the memory; nil ones; their heights and standing trees. -/
import Derived.Test.YtjengejepcmgiaaGreatHGrShelf2
import Derived.Test.YtjengejepcmgiaaGreatHBlkOwn
import Derived.Test.YtjengejepcmgiaaGreatHTrRDown
import Derived.Lib.AppendZerosOnto
import Derived.Lib.Walk
import Derived.Deep.MidRow
import Derived.Deep.DeepCutAuto
import Derived.Deep.Cut
import Derived.Handy

namespace Go.Proofs.YtjengejepcmgiaaGreat
open Go Go.RowKit
set_option linter.unusedSimpArgs false
set_option linter.unusedVariables false

theorem ginfoPt : (Tryz.prog.info? 133).map (fun i => (i.zero, i.size, i.bytes)) = some (some (.pointer none), 1, 8) := by kernel_rfl
/-- the levels, of which the first has what v says -/
def lvF (v : Value) : Nat → Value := fun i => if i = 0 then v else .slice none 0 0
theorem lv_put {w : World} {l t : Nat} {u : Value} (H : Blk w l t (va 7 (lvF u))) (v : Value) : Blk (w.setCell ⟨l, 0, none⟩ v) l t (va 7 (lvF v)) := by
  have := H.put 0 v
  rw [va_set, show va 7 (upd (lvF u) 0 v) = va 7 (lvF v) from va_congr fun i hi => ?_] at this
  · exact this
  · unfold upd lvF
    by_cases h : i = 0
    · rw [if_pos h, if_pos h]
    · rw [if_neg h, if_neg h, if_neg h]
theorem gnew_cells (w : World) (v : Value) (t : TypeId) : ∀ j u, ([v] : List Value)[j]? = some u → (w.alloc (.cells #[v] t)).cell? ((⟨w.heap.size, 0, none⟩ : Addr).add j) = some u := fun j u hu => by
  cases j with
  | zero =>
    simp at hu
    subst hu
    rw [Addr.add_mid]
    exact ((Blk.new w t #[v]).cell 0).trans rfl
  | succ j => simp at hu
theorem own_setOther {w : World} {B e size n l i : Nat} {v u : Value} {xs : List Value} (h : w.ownsRow B e size v n xs) (hl : l < B) : (w.setCell ⟨l, i, none⟩ u).ownsRow B e size v n xs := by
  refine ⟨h.1, ?_⟩
  rcases h.2 with hn | ⟨g, cap, cur, rfl, hg, hgg, rest⟩
  · exact .inl hn
  · exact .inr ⟨g, cap, cur, rfl, hg, (Deep.blk_setCell_other w ⟨l, i, none⟩ u g (by show g ≠ l; omega)).trans hgg, rest⟩
theorem own_one {w : World} {B e : Nat} {v x : Value} (h : w.ownsRow B e 1 v 1 [x]) : ∃ c cap, v = .slice (some ⟨c, 0, none⟩) 1 cap ∧ w.cell? ⟨c, 0, none⟩ = some x ∧ B ≤ c ∧ c < w.heap.size ∧ 1 ≤ cap ∧ cap ≤ maxLen := by
  rcases h.2 with ⟨_, h1⟩ | ⟨g, cap, cur, rfl, hg, hgg, h1, h2, h3, h4⟩
  · cases h1
  · refine ⟨g, cap, rfl, ?_, hg, (Array.getElem?_eq_some_iff.1 hgg).1, h1, h2⟩
    have := (show Blk w g e cur from hgg).cell 0
    rw [this]
    have h5 := congrArg (fun z => z[0]?) h4
    simp only [Nat.one_mul, List.getElem?_cons_zero] at h5
    rw [List.getElem?_take] at h5
    simpa using h5
theorem gone_cells {w : World} {c : Nat} {v : Value} (h : w.cell? ⟨c, 0, none⟩ = some v) : ∀ j u, ([v] : List Value)[j]? = some u → w.cell? ((⟨c, 0, none⟩ : Addr).add j) = some u := fun j u hu => by
  cases j with
  | zero =>
    simp at hu
    subst hu
    rw [Addr.add_mid]
    exact h
  | succ j => simp at hu
theorem own_none (w : World) (B e size : Nat) : w.ownsRow B e size (.slice none 0 0) 0 [] := ⟨by simp, .inl ⟨rfl, rfl⟩⟩
set_option maxRecDepth 100000 in
set_option maxHeartbeats 4000000 in
theorem news1_new (p l : Nat) (f : Nat → Nat) (w : World) (hpl : p < l) (hp : Blk w p 149 (ptC true true f)) (hl : Blk w l 180 (va 7 (lvF (.slice none 0 0)))) :
    Calls Tryz.prog 82 #[.pointer (some ⟨p, 0, none⟩), .pointer (some ⟨l, 0, none⟩)] w fun e w' => e = .returned (.tuple #[]) ∧ ∃ v, w'.ownsRow w.heap.size 133 1 v 1 [.pointer (some ⟨p, 0, none⟩)] ∧ Blk w' l 180 (va 7 (lvF v)) ∧ Below l w w' := by
  have hS0 : Blk w.drew p 149 (ptC true true f) ∧ Blk w.drew l 180 (va 7 (lvF (.slice none 0 0))) := ⟨hp, hl⟩
  have c69 := pt_c69 hp
  have HL : Hid (Blk w l 180 (va 7 (lvF (.slice none 0 0)))) := hl
  obtain ⟨i0, hi, hz0, hz1, hz2⟩ := tinfo_parts ginfoPt
  clear hp hl
  go_enter Tryz.func82, Tryz.ntmps82
  go_wp2_with fail
  refine wp_region_partsS (fun W => Blk W p 149 (ptC true true f) ∧ Blk W l 180 (va 7 (lvF (.slice none 0 0)))) [([0, 4, 10], 1, true), ([], 2, true), ([], 3, true), ([], 5, true), ([], 6, true), ([], 7, true), ([8], 9, true), ([], 11, false), ([], 12, false)] [13] [14] (by kernel_rfl) (by kernel_rfl) hS0 (partsI_yield ?_)
  simp only [List.cons_append, List.nil_append, List.append_nil, List.filterMap_cons, List.filterMap_nil, List.getElem?_toArray, List.getElem?_cons_zero, List.getElem?_cons_succ]
  go_wp2_with fail
  refine ⟨rfl, _, .pointer (some ⟨p, 0, none⟩), rfl, Or.inl ⟨by rfl, fun W hW => by go_simp⟩, partsI_yield ?_⟩
  simp only [Act.put, List.setIfInBounds_toArray, List.set_cons_zero, List.set_cons_succ]
  simp only [List.cons_append, List.nil_append, List.append_nil, List.filterMap_cons, List.filterMap_nil, List.getElem?_toArray, List.getElem?_cons_zero, List.getElem?_cons_succ]
  go_wp2_with fail
  refine ⟨rfl, _, .pointer (some ⟨p, 0, none⟩), rfl, Or.inl ⟨by rfl, fun W hW => by go_simp⟩, partsI_yield ?_⟩
  simp only [Act.put, List.setIfInBounds_toArray, List.set_cons_zero, List.set_cons_succ]
  simp only [List.cons_append, List.nil_append, List.append_nil, List.filterMap_cons, List.filterMap_nil, List.getElem?_toArray, List.getElem?_cons_zero, List.getElem?_cons_succ]
  go_wp2_with fail
  refine ⟨rfl, _, .int .i64 0, rfl, Or.inl ⟨by rfl, fun W hW => by have hW1 := pt_c0 hW.1; go_simp⟩, partsI_yield ?_⟩
  simp only [Act.put, List.setIfInBounds_toArray, List.set_cons_zero, List.set_cons_succ]
  simp only [List.cons_append, List.nil_append, List.append_nil, List.filterMap_cons, List.filterMap_nil, List.getElem?_toArray, List.getElem?_cons_zero, List.getElem?_cons_succ]
  go_wp2_with fail
  refine ⟨rfl, _, .pointer (some ⟨p, 0, none⟩), rfl, Or.inl ⟨by rfl, fun W hW => by go_simp⟩, partsI_yield ?_⟩
  simp only [Act.put, List.setIfInBounds_toArray, List.set_cons_zero, List.set_cons_succ]
  simp only [List.cons_append, List.nil_append, List.append_nil, List.filterMap_cons, List.filterMap_nil, List.getElem?_toArray, List.getElem?_cons_zero, List.getElem?_cons_succ]
  go_wp2_with fail
  refine ⟨rfl, _, .pointer (some ⟨p, 0, none⟩), rfl, Or.inl ⟨by rfl, fun W hW => by go_simp⟩, partsI_yield ?_⟩
  simp only [Act.put, List.setIfInBounds_toArray, List.set_cons_zero, List.set_cons_succ]
  simp only [List.cons_append, List.nil_append, List.append_nil, List.filterMap_cons, List.filterMap_nil, List.getElem?_toArray, List.getElem?_cons_zero, List.getElem?_cons_succ]
  go_wp2_with fail
  refine ⟨rfl, _, .int .i64 0, rfl, Or.inl ⟨by rfl, fun W hW => by have hW1 := pt_c0 hW.1; go_simp⟩, partsI_yield ?_⟩
  simp only [Act.put, List.setIfInBounds_toArray, List.set_cons_zero, List.set_cons_succ]
  simp only [List.cons_append, List.nil_append, List.append_nil, List.filterMap_cons, List.filterMap_nil, List.getElem?_toArray, List.getElem?_cons_zero, List.getElem?_cons_succ]
  go_wp2_with fail
  refine ⟨rfl, _, .slice none 0 0, rfl, Or.inl ⟨by rfl, fun W hW => by have hW1 : W.cell? ⟨l, 0, none⟩ = some (.slice none 0 0) := hW.2.cv (n := 7) (by decide); go_simp⟩, partsI_force ?_⟩
  simp only [Act.put, List.setIfInBounds_toArray, List.set_cons_zero, List.set_cons_succ]
  simp only [List.cons_append, List.nil_append, List.append_nil, List.filterMap_cons, List.filterMap_nil, List.getElem?_toArray, List.getElem?_cons_zero, List.getElem?_cons_succ]
  go_wp2_with fail
  refine ⟨rfl, ⟨hS0.1.alloc _, hS0.2.alloc _⟩, partsI_force ?_⟩
  simp only [List.cons_append, List.nil_append, List.append_nil, List.filterMap_cons, List.filterMap_nil, List.getElem?_toArray, List.getElem?_cons_zero, List.getElem?_cons_succ]
  have HC : Hid (∀ j u, ([.pointer (some ⟨p, 0, none⟩)] : List Value)[j]? = some u → (w.alloc (.cells #[.pointer (some ⟨p, 0, none⟩)] 133)).drew.cell? ((⟨w.heap.size, 0, none⟩ : Addr).add j) = some u) := gnew_cells w _ _
  have HS1 : Hid (w.heap.size ≤ (w.alloc (.cells #[.pointer (some ⟨p, 0, none⟩)] 133)).drew.heap.size) := by
    show _ ≤ _
    simp
  refine wpList_append_own _ rfl _ _ 136 rfl w.heap.size 133 i0 (.pointer none) 1 8 Tryz.underlying136 hi hz0 hz1 hz2 rfl (by decide) (.slice none 0 0) 0 [] rfl (own_none _ _ _ _) ⟨w.heap.size, 0, none⟩ 1 1 [.pointer (some ⟨p, 0, none⟩)] rfl rfl HC.out (by intro u hu; obtain rfl := List.mem_singleton.1 hu; rfl) (by unfold maxLen; omega) (by omega) HS1.out ?_
  intro v w2 hown hgr hv
  go_wp2_with fail
  have s1p : Blk (w.alloc (.cells #[.pointer (some ⟨p, 0, none⟩)] 133)).drew p 149 (ptC true true f) := hS0.1.alloc _
  have s1l : Blk (w.alloc (.cells #[.pointer (some ⟨p, 0, none⟩)] 133)).drew l 180 (va 7 (lvF (.slice none 0 0))) := hS0.2.alloc _
  have hb2 := below_grown_none hgr
  have s2p := s1p.below hb2 s1p.lt
  have s2l := s1l.below hb2 s1l.lt
  have HB2 : Hid (Below w.heap.size w w2) := (below_new1 w _).drew.trans (hb2.mono (by simp))
  clear hb2
  refine ⟨rfl, ⟨s2p, s2l⟩, partsI_last ?_⟩
  simp only [List.cons_append, List.nil_append, List.append_nil, List.filterMap_cons, List.filterMap_nil, List.getElem?_toArray, List.getElem?_cons_zero, List.getElem?_cons_succ]
  obtain ⟨sa, scap, rfl⟩ := kown_slice hown
  have cl : w2.cell? ⟨l, 0, none⟩ = some (.slice none 0 0) := s2l.cv (n := 7) (by decide)
  have hfz : w2.frozen? ⟨l, 0, none⟩ = false := s2l.frozen 0
  have HW : Hid (w2.ownsRow w.heap.size 133 1 (.slice sa 1 scap) 1 [.pointer (some ⟨p, 0, none⟩)]) := hown
  have HS2 : Hid (Blk w2 l 180 (va 7 (lvF (.slice none 0 0)))) := s2l
  clear hown hv hgr s1p s1l s2p s2l hS0 HC HS1
  go_wp2_with fail
  refine ⟨rfl, ?_⟩
  go_wp2_with fail
  try simp only [Exit.inBlock, Exit.then]
  first
    | refine bodyPost_end (results_none Tryz.results82 _ _ _) rfl ?_
    | refine bodyPost_ret (results_none Tryz.results82 _ _ _) rfl ?_
  exact ⟨rfl, _, own_setOther HW.out HL.out.lt, lv_put HS2.out _, (HB2.out.mono (Nat.le_of_lt HL.out.lt)).setCell (Nat.le_refl _) _⟩
set_option maxRecDepth 100000 in
set_option maxHeartbeats 4000000 in
theorem each_new (p l : Nat) (f : Nat → Nat) (w : World) (hpl : p < l) (hp : Blk w p 149 (ptC true true f)) (hl : Blk w l 180 (va 7 (lvF (.slice none 0 0)))) :
    Calls Tryz.prog 81 #[.pointer (some ⟨p, 0, none⟩), .func (.func 82) #[] #[.pointer (some ⟨l, 0, none⟩)]] w fun e w' => e = .returned (.tuple #[]) ∧ ∃ v, w'.ownsRow w.heap.size 133 1 v 1 [.pointer (some ⟨p, 0, none⟩)] ∧ Blk w' l 180 (va 7 (lvF v)) ∧ Below l w w' := by
  have c326 := pt_c326 hp
  have HN : Hid (Calls Tryz.prog 82 #[.pointer (some ⟨p, 0, none⟩), .pointer (some ⟨l, 0, none⟩)] w fun e w' => e = .returned (.tuple #[]) ∧ ∃ v, w'.ownsRow w.heap.size 133 1 v 1 [.pointer (some ⟨p, 0, none⟩)] ∧ Blk w' l 180 (va 7 (lvF v)) ∧ Below l w w') := news1_new p l f w hpl hp hl
  clear hp hl
  go_enter Tryz.func81, Tryz.ntmps81
  go_wp2_with fail
  refine wp_loop_rounds 1 ?_
  rw [rounds_succ]
  go_wp2_with fail
  refine HN.out.mono ?_
  rintro e w2 ⟨rfl, v, h1, h2, h3⟩
  go_wp2_with fail
  try simp only [Exit.inBlock, Exit.then]
  first
    | refine bodyPost_end (results_none Tryz.results81 _ _ _) rfl ?_
    | refine bodyPost_ret (results_none Tryz.results81 _ _ _) rfl ?_
  exact ⟨rfl, v, h1, h2, h3⟩
theorem grow_one (w : World) : Calls Tryz.prog 113 #[.slice none 0 0, .int .i64 1] w fun e w' => ∃ cap, 1 ≤ cap ∧ e = .returned (.slice (some ⟨w.heap.size, 0, none⟩) 0 cap) ∧ w'.ownsRow w.heap.size 133 1 (.slice (some ⟨w.heap.size, 0, none⟩) 0 cap) 0 [] ∧ Below w.heap.size w w' := by
  obtain ⟨i0, hi, hz0, hz1, hz2⟩ := tinfo_parts ginfoPt
  have h := Any8.slices_Grow_grow Tryz.growA i0 (.pointer none) hi hz0 (by omega) none 0 0 1 [] w (by omega) (by omega) (by omega) (by omega) (by simp) (fun _ => rfl) (fun a ha => by cases ha)
  refine Calls.mono h ?_
  rintro e w' ⟨rfl, rfl⟩
  have h1 : 0 + 1 ≤ grownCap w (0 + 1) 0 133 := grownCap_ge w _ _ _
  refine ⟨_, h1, rfl, ⟨rfl, .inr ⟨w.heap.size, _, _, rfl, Nat.le_refl _, Blk.new w.drew _ _, by omega, grownCap_le_maxLen w _ _ _ (by unfold maxLen; omega), ?_, ?_⟩⟩, ((Below.refl _ w).drew.alloc (Nat.le_refl _) _)⟩
  · have e25 : Tryz.growA_ren.t 25 = 133 := rfl
    have ec : (Value.pointer none).cells.size = 1 := rfl
    simp [Builtin.zeroCells, e25, ec]
    have h2 : 1 ≤ grownCap w 1 0 133 := h1
    omega
  · simp
set_option maxRecDepth 100000 in
set_option maxHeartbeats 4000000 in
theorem concat_one (p l B : Nat) (v : Value) (w : World) (hl : Blk w l 180 (va 7 (lvF v))) (hown : w.ownsRow B 133 1 v 1 [.pointer (some ⟨p, 0, none⟩)]) :
    Calls Tryz.prog 83 #[.slice (some ⟨l, 0, none⟩) 7 7] w fun e w' => ∃ a cap, e = .returned (.slice a 1 cap) ∧ Below w.heap.size w w' := by
  obtain ⟨i0, hi, hz0, hz1, hz2⟩ := tinfo_parts ginfoPt
  obtain ⟨c, cap, rfl, hc, hB, hcl, _, _⟩ := own_one hown
  have HG : Hid (∀ w, Calls Tryz.prog 113 #[.slice none 0 0, .int .i64 1] w fun e w' => ∃ cap, 1 ≤ cap ∧ e = .returned (.slice (some ⟨w.heap.size, 0, none⟩) 0 cap) ∧ w'.ownsRow w.heap.size 133 1 (.slice (some ⟨w.heap.size, 0, none⟩) 0 cap) 0 [] ∧ Below w.heap.size w w') := grow_one
  have l0 : w.cell? ⟨l, 0, none⟩ = some (.slice (some ⟨c, 0, none⟩) 1 cap) := hl.cv (n := 7) (by decide)
  have l1 : w.cell? ⟨l, 1, none⟩ = some (.slice none 0 0) := hl.cv (n := 7) (by decide)
  have l2 : w.cell? ⟨l, 2, none⟩ = some (.slice none 0 0) := hl.cv (n := 7) (by decide)
  have l3 : w.cell? ⟨l, 3, none⟩ = some (.slice none 0 0) := hl.cv (n := 7) (by decide)
  have l4 : w.cell? ⟨l, 4, none⟩ = some (.slice none 0 0) := hl.cv (n := 7) (by decide)
  have l5 : w.cell? ⟨l, 5, none⟩ = some (.slice none 0 0) := hl.cv (n := 7) (by decide)
  have l6 : w.cell? ⟨l, 6, none⟩ = some (.slice none 0 0) := hl.cv (n := 7) (by decide)
  have HL : Hid (Blk w l 180 (va 7 (lvF (.slice (some ⟨c, 0, none⟩) 1 cap)))) := hl
  clear hl hown
  go_enter Tryz.func83, Tryz.ntmps83
  go_wp2_with fail
  refine wp_loop_rounds 8 ?_
  rw [rounds_succ]
  go_wp2_with fail
  rw [rounds_succ]
  go_wp2_with fail
  rw [rounds_succ]
  go_wp2_with fail
  rw [rounds_succ]
  go_wp2_with fail
  rw [rounds_succ]
  go_wp2_with fail
  rw [rounds_succ]
  go_wp2_with fail
  rw [rounds_succ]
  go_wp2_with fail
  rw [rounds_succ]
  go_wp2_with fail
  refine (HG.out _).mono ?_
  rintro e w2 ⟨gcap, hg1, rfl, hown, hb2⟩
  have HOWN : Hid (w2.ownsRow w.heap.size 133 1 (.slice (some ⟨w.heap.size, 0, none⟩) 0 gcap) 0 []) := hown
  have hL2 := HL.out.below hb2 HL.out.lt
  have m0 : w2.cell? ⟨l, 0, none⟩ = some (.slice (some ⟨c, 0, none⟩) 1 cap) := hL2.cv (n := 7) (by decide)
  have m1 : w2.cell? ⟨l, 1, none⟩ = some (.slice none 0 0) := hL2.cv (n := 7) (by decide)
  have m2 : w2.cell? ⟨l, 2, none⟩ = some (.slice none 0 0) := hL2.cv (n := 7) (by decide)
  have m3 : w2.cell? ⟨l, 3, none⟩ = some (.slice none 0 0) := hL2.cv (n := 7) (by decide)
  have m4 : w2.cell? ⟨l, 4, none⟩ = some (.slice none 0 0) := hL2.cv (n := 7) (by decide)
  have m5 : w2.cell? ⟨l, 5, none⟩ = some (.slice none 0 0) := hL2.cv (n := 7) (by decide)
  have m6 : w2.cell? ⟨l, 6, none⟩ = some (.slice none 0 0) := hL2.cv (n := 7) (by decide)
  have HC : Hid (∀ j u, ([.pointer (some ⟨p, 0, none⟩)] : List Value)[j]? = some u → w2.cell? ((⟨c, 0, none⟩ : Addr).add j) = some u) := gone_cells ((hb2.cell hcl).trans hc)
  have HS1 : Hid (w.heap.size ≤ w2.heap.size) := hb2.size
  have HB2 : Hid (Below w.heap.size w w2) := hb2
  have HLt : Hid (l < w.heap.size) := HL.out.lt
  clear l0 l1 l2 l3 l4 l5 l6 hb2 hown HG HL
  go_wp2_with fail
  refine wp_loop_rounds 8 ?_
  rw [rounds_succ]
  go_wp2_with (first
    | (at_builtin; refine wpList_append_own _ rfl _ _ 136 rfl w.heap.size 133 i0 (.pointer none) 1 8 Tryz.underlying136 hi hz0 hz1 hz2 rfl (by decide) (.slice (some ⟨w.heap.size, 0, none⟩) 0 gcap) 0 [] rfl HOWN.out ⟨c, 0, none⟩ 1 cap [.pointer (some ⟨p, 0, none⟩)] rfl rfl HC.out (by intro u hu; obtain rfl := List.mem_singleton.1 hu; rfl) (by unfold maxLen; omega) (by omega) HS1.out ?_)
    | fail)
  rintro v' w3 hown3 hgr3 _
  obtain ⟨c3, cap3, rfl, hc3, hB3, hlt3, hq1, hq2⟩ := own_one hown3
  have hb3 : Below w.heap.size w2 w3 := (Below.refl _ _).grown hgr3 HS1.out (fun k hk => by cases hk; exact Nat.le_refl _)
  have n1 : w3.cell? ⟨l, 1, none⟩ = some (.slice none 0 0) := (hb3.cell HLt.out).trans m1
  have n2 : w3.cell? ⟨l, 2, none⟩ = some (.slice none 0 0) := (hb3.cell HLt.out).trans m2
  have n3 : w3.cell? ⟨l, 3, none⟩ = some (.slice none 0 0) := (hb3.cell HLt.out).trans m3
  have n4 : w3.cell? ⟨l, 4, none⟩ = some (.slice none 0 0) := (hb3.cell HLt.out).trans m4
  have n5 : w3.cell? ⟨l, 5, none⟩ = some (.slice none 0 0) := (hb3.cell HLt.out).trans m5
  have n6 : w3.cell? ⟨l, 6, none⟩ = some (.slice none 0 0) := (hb3.cell HLt.out).trans m6
  have HB3 : Hid (Below w.heap.size w w3) := HB2.out.trans hb3
  have hq3 : ¬ cap3 < 1 := by omega
  have HQ : Hid (cap3 ≤ maxLen) := hq2
  clear m0 m1 m2 m3 m4 m5 m6 hb3 hown3 hgr3 hq2 hB3 hlt3 HC HS1 hL2 HOWN HB2
  go_wp2_with fail
  rw [rounds_succ]
  go_wp2_with fail
  rw [rounds_succ]
  go_wp2_with fail
  rw [rounds_succ]
  go_wp2_with fail
  rw [rounds_succ]
  go_wp2_with fail
  rw [rounds_succ]
  go_wp2_with fail
  rw [rounds_succ]
  go_wp2_with fail
  rw [rounds_succ]
  go_wp2_with fail
  go_ret
  exact ⟨_, _, rfl, HB3.out⟩
theorem zero_lv (w : World) : (zeroValue 180).run Tryz.prog w = .ok (.agg (va 7 (lvF (.slice none 0 0)))) w := zero_of (by kernel_rfl) w
set_option maxRecDepth 100000 in
set_option maxHeartbeats 4000000 in
theorem news_new (p : Nat) (f : Nat → Nat) (w : World) (hp : Blk w p 149 (ptC true true f)) :
    Calls Tryz.prog 52 #[.pointer (some ⟨p, 0, none⟩)] w fun e w' => ∃ a cap, e = .returned (.slice a 1 cap) ∧ Below w.heap.size w w' := by
  have hz := zero_lv
  have HE : Hid (∀ w', Blk w' p 149 (ptC true true f) → Blk w' w.heap.size 180 (va 7 (lvF (.slice none 0 0))) → Calls Tryz.prog 81 #[.pointer (some ⟨p, 0, none⟩), .func (.func 82) #[] #[.pointer (some ⟨w.heap.size, 0, none⟩)]] w' fun e w2 => e = .returned (.tuple #[]) ∧ ∃ v, w2.ownsRow w'.heap.size 133 1 v 1 [.pointer (some ⟨p, 0, none⟩)] ∧ Blk w2 w.heap.size 180 (va 7 (lvF v)) ∧ Below w.heap.size w' w2) := fun w' h1 h2 => each_new p w.heap.size f w' hp.lt h1 h2
  have HB1 : Hid (Below w.heap.size w (w.alloc (.cells (va 7 (lvF (.slice none 0 0))) 180))) := below_new1 w _
  have HL1 : Hid (Blk (w.alloc (.cells (va 7 (lvF (.slice none 0 0))) 180)) w.heap.size 180 (va 7 (lvF (.slice none 0 0)))) := Blk.new w _ _
  have HP1 : Hid (Blk (w.alloc (.cells (va 7 (lvF (.slice none 0 0))) 180)) p 149 (ptC true true f)) := hp.alloc _
  clear hp
  go_enter Tryz.func52, Tryz.ntmps52
  go_wp2_with fail
  generalize (w.alloc (.cells (va 7 (lvF (.slice none 0 0))) 180)) = w1 at *
  refine (HE.out w1 HP1.out HL1.out).mono ?_
  rintro e w2 ⟨rfl, v, hown, hl2, hb2⟩
  have HC : Hid (Calls Tryz.prog 83 #[.slice (some ⟨w.heap.size, 0, none⟩) 7 7] w2 fun e w' => ∃ a cap, e = .returned (.slice a 1 cap) ∧ Below w2.heap.size w2 w') := concat_one p w.heap.size w1.heap.size v w2 hl2 hown
  have HB2 : Hid (Below w.heap.size w w2) := HB1.out.trans hb2
  clear hown hl2 hb2 HE HL1 HP1 HB1
  go_wp2_with fail
  refine HC.out.mono ?_
  rintro e w3 ⟨a, cap, rfl, hb3⟩
  go_wp2_with fail
  go_ret
  exact ⟨a, cap, rfl, HB2.out.trans (hb3.mono HB2.out.size)⟩
set_option maxRecDepth 100000 in
set_option maxHeartbeats 4000000 in
theorem fresh_new (g m : Nat) (cp : Option Addr) (f : Nat → Nat) (hf : f 0 = 1) (w : World) (hg : Blk w g 131 (gr0C cp m)) (hm : OneM w m (.agg (va 256 (iv .u8 f)))) :
    Calls Tryz.prog 24 #[.pointer (some ⟨g, 0, none⟩)] w fun e w' => e = .returned (.tuple #[.int .i64 1, .int .i64 0]) ∧ Below w.heap.size w w' := by
  have HL : Hid (Calls Tryz.prog 51 #[.pointer (some ⟨g, 0, none⟩)] w fun e w' => ∃ b, e = .returned (.tuple #[.pointer (some ⟨b, 0, none⟩), .int .i64 0]) ∧ w.heap.size ≤ b ∧ Blk w' b 149 (ptC true true f) ∧ Below w.heap.size w w') := look_new g m cp f hf w hg hm
  clear hg hm
  go_enter Tryz.func24, Tryz.ntmps24
  go_wp2_with fail
  refine HL.out.mono ?_
  rintro e w2 ⟨b, rfl, hb, hp2, hb2⟩
  have HN : Hid (Calls Tryz.prog 52 #[.pointer (some ⟨b, 0, none⟩)] w2 fun e w' => ∃ a cap, e = .returned (.slice a 1 cap) ∧ Below w2.heap.size w2 w') := news_new b f w2 hp2
  have HB2 : Hid (Below w.heap.size w w2) := hb2
  clear hb hp2 hb2 HL
  go_wp2_with fail
  refine HN.out.mono ?_
  rintro e w3 ⟨a, cap, rfl, hb3⟩
  go_wp2_with fail
  go_ret2
  exact ⟨rfl, HB2.out.trans (hb3.mono HB2.out.size)⟩
end Go.Proofs.YtjengejepcmgiaaGreat

namespace Go.Proofs.YtjengejepcmgiaaGreat
open Go Go.RowKit
set_option linter.unusedSimpArgs false
set_option linter.unusedVariables false

/-- a grown tree's cells: the cache, the standing tree, the height, the map, the end -/
def grF (cp : Option Addr) (h : Int) (R : Rf) (hh : Int) (mv : Option Nat) (e : Int) : Nat → Value := fun i => if i = 0 then .pointer cp else if i < 35 then trF h R (i - 1) else if i = 35 then .int .i64 hh else if i = 36 then .map mv else .int .i64 e
def grC (cp : Option Addr) (h : Int) (R : Rf) (hh : Int) (mv : Option Nat) (e : Int) : Array Value := va 38 (grF cp h R hh mv e)
theorem grC_size (cp : Option Addr) (h : Int) (R : Rf) (hh : Int) (mv : Option Nat) (e : Int) : (grC cp h R hh mv e).size = 38 := va_size _ _
theorem built_gr1 (cp : Option Addr) : Tryz.prog.built 131 [(0, .pointer cp)] = some (grC cp 0 rf0 0 none 0) := by kernel_rfl
theorem zero_tr (w : World) : (zeroValue 46).run Tryz.prog w = .ok (.agg (trC 0 rf0)) w := zero_of (by kernel_rfl) w
theorem built_tr0 : Tryz.prog.built 46 [] = some (trC 0 rf0) := by kernel_rfl
section
variable {w : World} {b t : Nat} {cp : Option Addr} {h hh e : Int} {R : Rf} {mv : Option Nat}
theorem gr_c0 (H : Blk w b t (grC cp h R hh mv e)) : w.cell? ⟨b, 0, none⟩ = some (.pointer cp) := H.cv (n := 38) (by decide)
theorem gr_c35 (H : Blk w b t (grC cp h R hh mv e)) : w.cell? ⟨b, 35, none⟩ = some (.int .i64 hh) := H.cv (n := 38) (by decide)
theorem gr_c36 (H : Blk w b t (grC cp h R hh mv e)) : w.cell? ⟨b, 36, none⟩ = some (.map mv) := H.cv (n := 38) (by decide)
theorem gr_c37 (H : Blk w b t (grC cp h R hh mv e)) : w.cell? ⟨b, 37, none⟩ = some (.int .i64 e) := H.cv (n := 38) (by decide)
theorem gr_tree (H : Blk w b t (grC cp h R hh mv e)) : w.rangeAt b 1 ((List.range 34).map (trF h R)) := by
  have := Blk.range (n := 38) (f := grF cp h R hh mv e) H 1 34 (by decide)
  rw [show ((List.range 34).map fun j => grF cp h R hh mv e (1 + j)) = (List.range 34).map (trF h R) from List.map_congr_left fun j hj => ?_] at this
  · exact this
  · have hj := List.mem_range.1 hj
    unfold grF
    rw [if_neg (by omega), if_pos (by omega), show 1 + j - 1 = j by omega]
theorem gr_putTree (H : Blk w b t (grC cp h R hh mv e)) (h' : Int) (R' : Rf) : Blk (w.setCells b 1 (trC h' R').toList) b t (grC cp h' R' hh mv e) := by
  have := Blk.cells_put (n := 38) (trC h' R').toList 1 w (grF cp h R hh mv e) H
  rw [show va 38 (over (grF cp h R hh mv e) 1 (trC h' R').toList) = grC cp h' R' hh mv e from va_congr fun i hi => ?_] at this
  · exact this
  · unfold over trC
    rw [va_toList]
    simp only [List.length_map, List.length_range]
    by_cases hj : 1 ≤ i ∧ i < 1 + 34
    · rw [if_pos hj, List.getD_eq_getElem?_getD, List.getElem?_map, List.getElem?_range (by omega)]
      unfold grF
      rw [if_neg (by omega), if_pos (by omega)]
      rfl
    · rw [if_neg hj]
      unfold grF
      by_cases h0 : i = 0
      · rw [if_pos h0, if_pos h0]
      · have h1 : ¬ i < 35 := by omega
        rw [if_neg h0, if_neg h0, if_neg h1, if_neg h1]
theorem gr_putHeight (H : Blk w b t (grC cp h R hh mv e)) (x : Int) : Blk (w.setCell ⟨b, 35, none⟩ (.int .i64 x)) b t (grC cp h R x mv e) := by
  have := H.put 35 (.int .i64 x)
  rw [show (grC cp h R hh mv e).setIfInBounds 35 (.int .i64 x) = grC cp h R x mv e from ?_] at this
  · exact this
  · unfold grC
    rw [va_set]
    refine va_congr fun i hi => ?_
    unfold upd grF
    by_cases hj : i = 35
    · subst hj
      rfl
    · rw [if_neg hj]
      by_cases h0 : i = 0
      · rw [if_pos h0, if_pos h0]
      · rw [if_neg h0, if_neg h0]
        by_cases h1 : i < 35
        · rw [if_pos h1, if_pos h1]
        · rw [if_neg h1, if_neg h1]
          by_cases h2 : i = 35
          · first | exact absurd h2 hj | rw [if_pos h2, if_pos h2]
          · rw [if_neg h2, if_neg h2]
            all_goals by_cases h3 : i = 36
            all_goals first | exact absurd h3 hj | rw [if_pos h3, if_pos h3] | exact absurd (show i = 37 by omega) hj | rw [if_neg h3, if_neg h3]
theorem gr_putMap (H : Blk w b t (grC cp h R hh mv e)) (x : Option Nat) : Blk (w.setCell ⟨b, 36, none⟩ (.map x)) b t (grC cp h R hh x e) := by
  have := H.put 36 (.map x)
  rw [show (grC cp h R hh mv e).setIfInBounds 36 (.map x) = grC cp h R hh x e from ?_] at this
  · exact this
  · unfold grC
    rw [va_set]
    refine va_congr fun i hi => ?_
    unfold upd grF
    by_cases hj : i = 36
    · subst hj
      rfl
    · rw [if_neg hj]
      by_cases h0 : i = 0
      · rw [if_pos h0, if_pos h0]
      · rw [if_neg h0, if_neg h0]
        by_cases h1 : i < 35
        · rw [if_pos h1, if_pos h1]
        · rw [if_neg h1, if_neg h1]
          by_cases h2 : i = 35
          · first | exact absurd h2 hj | rw [if_pos h2, if_pos h2]
          · rw [if_neg h2, if_neg h2]
            all_goals by_cases h3 : i = 36
            all_goals first | exact absurd h3 hj | rw [if_pos h3, if_pos h3] | exact absurd (show i = 37 by omega) hj | rw [if_neg h3, if_neg h3]
theorem gr_putEnd (H : Blk w b t (grC cp h R hh mv e)) (x : Int) : Blk (w.setCell ⟨b, 37, none⟩ (.int .i64 x)) b t (grC cp h R hh mv x) := by
  have := H.put 37 (.int .i64 x)
  rw [show (grC cp h R hh mv e).setIfInBounds 37 (.int .i64 x) = grC cp h R hh mv x from ?_] at this
  · exact this
  · unfold grC
    rw [va_set]
    refine va_congr fun i hi => ?_
    unfold upd grF
    by_cases hj : i = 37
    · subst hj
      rfl
    · rw [if_neg hj]
      by_cases h0 : i = 0
      · rw [if_pos h0, if_pos h0]
      · rw [if_neg h0, if_neg h0]
        by_cases h1 : i < 35
        · rw [if_pos h1, if_pos h1]
        · rw [if_neg h1, if_neg h1]
          by_cases h2 : i = 35
          · first | exact absurd h2 hj | rw [if_pos h2, if_pos h2]
          · rw [if_neg h2, if_neg h2]
            all_goals by_cases h3 : i = 36
            all_goals first | exact absurd h3 hj | rw [if_pos h3, if_pos h3] | exact absurd (show i = 37 by omega) hj | rw [if_neg h3, if_neg h3]
end
set_option maxRecDepth 100000 in
set_option maxHeartbeats 4000000 in
theorem grHeight_nil (w : World) : Calls Tryz.prog 22 #[.pointer none] w fun x w' => x = .returned (.int .i64 0) ∧ w = w' := by
  go_enter Tryz.func22, Tryz.ntmps22
  go_wp2_with fail
  go_ret
  exact ⟨rfl, rfl⟩
set_option maxRecDepth 100000 in
set_option maxHeartbeats 4000000 in
theorem grWrong_nil (p : Int) (w : World) : Calls Tryz.prog 50 #[.pointer none, .int .i64 p] w fun x w' => x = .returned (.int .i64 1) ∧ w = w' := by
  go_enter Tryz.func50, Tryz.ntmps50
  go_wp2_with fail
  go_ret
  exact ⟨rfl, rfl⟩
set_option maxRecDepth 100000 in
set_option maxHeartbeats 4000000 in
theorem grFit_nil (p : Int) (w : World) : Calls Tryz.prog 28 #[.pointer none, .int .i64 p] w fun x w' => x = .returned (.int .i64 1) ∧ w = w' := by
  go_enter Tryz.func28, Tryz.ntmps28
  go_wp2_with fail
  go_ret
  exact ⟨rfl, rfl⟩
set_option maxRecDepth 100000 in
set_option maxHeartbeats 4000000 in
theorem grFresh_nil (w : World) : Calls Tryz.prog 24 #[.pointer none] w fun x w' => x = .returned (.tuple #[.int .i64 0, .int .i64 1]) ∧ w = w' := by
  go_enter Tryz.func24, Tryz.ntmps24
  go_wp2_with fail
  go_ret2
  exact ⟨rfl, rfl⟩
set_option maxRecDepth 100000 in
set_option maxHeartbeats 4000000 in
theorem grGone_nil (w : World) : Calls Tryz.prog 25 #[.pointer none] w fun x w' => x = .returned (.tuple #[.slice none 0 0, .int .i64 1]) ∧ w = w' := by
  go_enter Tryz.func25, Tryz.ntmps25
  go_wp2_with fail
  go_ret2
  exact ⟨rfl, rfl⟩
set_option maxRecDepth 100000 in
set_option maxHeartbeats 4000000 in
theorem grTouched_nil (w : World) : Calls Tryz.prog 30 #[.pointer none] w fun x w' => x = .returned (.slice none 0 0) ∧ w = w' := by
  go_enter Tryz.func30, Tryz.ntmps30
  go_wp2_with fail
  go_ret
  exact ⟨rfl, rfl⟩
set_option maxRecDepth 100000 in
set_option maxHeartbeats 4000000 in
theorem grClone_nil (w : World) : Calls Tryz.prog 31 #[.pointer none] w fun x w' => x = .returned (.pointer none) ∧ w = w' := by
  go_enter Tryz.func31, Tryz.ntmps31
  go_wp2_with fail
  go_ret
  exact ⟨rfl, rfl⟩
set_option maxRecDepth 100000 in
set_option maxHeartbeats 4000000 in
theorem grStanding_nil (w : World) : Calls Tryz.prog 21 #[.pointer none] w fun x w' => x = .returned (.agg (trC 0 rf0)) ∧ Below w.heap.size w w' := by
  have hz := zero_tr
  have hb1 : Below w.heap.size w (w.alloc (.cells (trC 0 rf0) 46)) := below_new1 _ _
  have t1 : Blk (w.alloc (.cells (trC 0 rf0) 46)) w.heap.size 46 (trC 0 rf0) := Blk.new _ _ _
  go_enter Tryz.func21, Tryz.ntmps21
  go_wp2_with (first
    | (refine wpList_buildTo (by rfl) 46 #[] (by rfl) _ rfl (trC 0 rf0) (by exact built_tr0) ?_; simp only [Act.put, List.setIfInBounds_toArray, List.set_cons_zero, List.set_cons_succ])
    | (refine wpList_store_row (by rfl) 46 _ _ (by rfl) (w.heap.size) (trC 0 rf0) (by rfl) (by rfl) 46 (_) (by exact t1) (sizeTr.trans (by rw [trC_size])) (by simp only [trC_size]) (trC_all _ _) ?_; simp only [Act.put, List.setIfInBounds_toArray, List.set_cons_zero, List.set_cons_succ])
    | fail)
  try simp only [Exit.inBlock, Exit.then]
  refine bodyPost_ret (results_cell_row Tryz.results21 _ _ (w.heap.size) 46 (trC 0 rf0) (0, 0) _ rfl (t1.set _) Tryz.underlying46 rfl (sizeTr.trans (by rw [trC_size]))) rfl ?_
  exact ⟨rfl, below_setRow hb1 (by omega) _⟩
set_option maxRecDepth 100000 in
set_option maxHeartbeats 4000000 in
theorem grStanding_at {cp : Option Addr} {h hh e : Int} {R : Rf} {mv : Option Nat} (g : Nat) (w : World) (hg : Blk w g 131 (grC cp h R hh mv e)) : Calls Tryz.prog 21 #[.pointer (some ⟨g, 0, none⟩)] w fun x w' => x = .returned (.agg (trC h R)) ∧ Below w.heap.size w w' := by
  have hz := zero_tr
  have hb1 : Below w.heap.size w (w.alloc (.cells (trC 0 rf0) 46)) := below_new1 _ _
  have t1 : Blk (w.alloc (.cells (trC 0 rf0) 46)) w.heap.size 46 (trC 0 rf0) := Blk.new _ _ _
  have HR1 : Hid ((w.alloc (.cells (trC 0 rf0) 46)).rangeAt g 1 ((List.range 34).map (trF h R))) := gr_tree (hg.below hb1 hg.lt)
  clear hg
  go_enter Tryz.func21, Tryz.ntmps21
  go_wp2_with (first
    | (refine wpList_load_blk (by rfl) 46 _ (by rfl) (g) (1) 34 (trF h R) (by rfl) _ (by exact HR1.out) Tryz.underlying46 rfl sizeTr ?_; simp only [Act.put, List.setIfInBounds_toArray, List.set_cons_zero, List.set_cons_succ])
    | (refine wpList_store_row (by rfl) 46 _ _ (by rfl) (w.heap.size) (trC h R) (by rfl) (by rfl) 46 (_) (by exact t1) (sizeTr.trans (by rw [trC_size])) (by simp only [trC_size]) (trC_all _ _) ?_; simp only [Act.put, List.setIfInBounds_toArray, List.set_cons_zero, List.set_cons_succ])
    | fail)
  try simp only [Exit.inBlock, Exit.then]
  refine bodyPost_ret (results_cell_row Tryz.results21 _ _ (w.heap.size) 46 (trC h R) (0, 0) _ rfl (t1.set _) Tryz.underlying46 rfl (sizeTr.trans (by rw [trC_size]))) rfl ?_
  exact ⟨rfl, below_setRow hb1 (by omega) _⟩
set_option maxRecDepth 100000 in
set_option maxHeartbeats 4000000 in
theorem grHeight_at {cp : Option Addr} {h hh e : Int} {R : Rf} {mv : Option Nat} (g : Nat) (w : World) (hg : Blk w g 131 (grC cp h R hh mv e)) : Calls Tryz.prog 22 #[.pointer (some ⟨g, 0, none⟩)] w fun x w' => x = .returned (.int .i64 hh) ∧ w = w' := by
  have c35 := gr_c35 hg
  clear hg
  go_enter Tryz.func22, Tryz.ntmps22
  go_wp2_with fail
  go_ret
  exact ⟨rfl, rfl⟩
set_option maxRecDepth 100000 in
set_option maxHeartbeats 4000000 in
theorem grSet_nil (p : Int) (f : Nat → Nat) (w : World) : Calls Tryz.prog 27 #[.pointer none, .int .i64 p, .agg (va 256 (iv .u8 f))] w fun x w' => x = .returned (.int .i64 1) ∧ Below w.heap.size w w' := by
  have hW : Hid (∀ w, Calls Tryz.prog 50 #[.pointer none, .int .i64 p] w fun x w' => x = .returned (.int .i64 1) ∧ w = w') := grWrong_nil p
  have hb1 : Below w.heap.size w (w.alloc (.cells (va 256 (iv .u8 f)) 38)) := below_new1 _ _
  go_enter Tryz.func27, Tryz.ntmps27
  go_wp2_with fail
  generalize (w.alloc (.cells (va 256 (iv .u8 f)) 38)) = w1 at *
  refine (hW.out _).mono ?_
  rintro e _ ⟨rfl, rfl⟩
  go_wp2_with fail
  go_ret
  exact ⟨rfl, hb1⟩
set_option maxRecDepth 100000 in
set_option maxHeartbeats 4000000 in
theorem grLeaf_nil (p : Int) (w : World) : Calls Tryz.prog 23 #[.pointer none, .int .i64 p] w fun x w' => x = .returned (.tuple #[.agg (va 256 (iv .u8 fun _ => 0)), .int .i64 1]) ∧ Below w.heap.size w w' := by
  have hz := zero_bk
  have hW : Hid (∀ w, Calls Tryz.prog 50 #[.pointer none, .int .i64 p] w fun x w' => x = .returned (.int .i64 1) ∧ w = w') := grWrong_nil p
  have hb1 : Below w.heap.size w (w.alloc (.cells (va 256 (iv .u8 fun _ => 0)) 38)) := below_new1 _ _
  have k1 : Blk (w.alloc (.cells (va 256 (iv .u8 fun _ => 0)) 38)) w.heap.size 38 (va 256 (iv .u8 fun _ => 0)) := Blk.new _ _ _
  go_enter Tryz.func23, Tryz.ntmps23
  go_wp2_with fail
  generalize (w.alloc (.cells (va 256 (iv .u8 fun _ => 0)) 38)) = w1 at *
  refine (hW.out _).mono ?_
  rintro e _ ⟨rfl, rfl⟩
  go_wp2_with (first
    | (refine wpList_store_row (by rfl) 38 _ _ (by rfl) (w.heap.size) (va 256 (iv .u8 (fun _ => 0))) (by rfl) (by rfl) 38 _ k1 (sizeBk.trans (by rw [va_size])) (by simp only [va_size]) (iv_one _ _ _) ?_; simp only [Act.put, List.setIfInBounds_toArray, List.set_cons_zero, List.set_cons_succ])
    | fail)
  try simp only [Exit.inBlock, Exit.then]
  refine bodyPost_ret (results_row2 Tryz.results23 _ _ (w.heap.size) 38 (va 256 (iv .u8 (fun _ => 0))) (0, 0) _ rfl ((k1.set _)) Tryz.underlying38 rfl (sizeBk.trans (by rw [va_size]))) rfl ?_
  exact ⟨rfl, below_setRow hb1 (by omega) _⟩
set_option maxRecDepth 100000 in
set_option maxHeartbeats 4000000 in
theorem grStand_nil (h : Int) (R : Rf) (w : World) : Calls Tryz.prog 29 #[.pointer none, .agg (trC h R)] w fun x w' => x = .returned (.int .i64 1) ∧ Below w.heap.size w w' := by
  have hb1 : Below w.heap.size w (w.alloc (.cells (trC h R) 46)) := below_new1 _ _
  go_enter Tryz.func29, Tryz.ntmps29
  go_wp2_with fail
  generalize (w.alloc (.cells (trC h R) 46)) = w1 at *
  go_ret
  exact ⟨rfl, hb1⟩
set_option maxRecDepth 100000 in
set_option maxHeartbeats 4000000 in
theorem grLay_nil (w : World) : Calls Tryz.prog 26 #[.pointer none, .nilFunc] w fun x w' => x = .returned (.tuple #[.agg (trC 0 rf0), .slice none 0 0, .int .i64 1]) ∧ Below w.heap.size w w' := by
  have hz := zero_tr
  have hb1 : Below w.heap.size w (w.alloc (.cells (trC 0 rf0) 46)) := below_new1 _ _
  have t1 : Blk (w.alloc (.cells (trC 0 rf0) 46)) w.heap.size 46 (trC 0 rf0) := Blk.new _ _ _
  go_enter Tryz.func26, Tryz.ntmps26
  go_wp2_with (first
    | (refine wpList_buildTo (by rfl) 46 #[] (by rfl) _ rfl (trC 0 rf0) (by exact built_tr0) ?_; simp only [Act.put, List.setIfInBounds_toArray, List.set_cons_zero, List.set_cons_succ])
    | (refine wpList_store_row (by rfl) 46 _ _ (by rfl) (w.heap.size) (trC 0 rf0) (by rfl) (by rfl) 46 (_) (by exact t1) (sizeTr.trans (by rw [trC_size])) (by simp only [trC_size]) (trC_all _ _) ?_; simp only [Act.put, List.setIfInBounds_toArray, List.set_cons_zero, List.set_cons_succ])
    | fail)
  try simp only [Exit.inBlock, Exit.then]
  refine bodyPost_ret (results_row_two Tryz.results26 _ _ (w.heap.size) 46 (trC 0 rf0) _ rfl (t1.set _) Tryz.underlying46 rfl (sizeTr.trans (by rw [trC_size]))) rfl ?_
  exact ⟨rfl, below_setRow hb1 (by omega) _⟩
set_option maxRecDepth 100000 in
set_option maxHeartbeats 4000000 in
theorem grCapacity_ok (h c : Nat) (hh : h ≤ 6) (hc : 4 ^ h = c) (w : World) : Calls Tryz.prog 63 #[.int .i64 (h : Int)] w fun x w' => x = .returned (.int .i64 (c : Int)) ∧ w = w' := by
  have hC : Hid (∀ w, Calls Tryz.prog 36 #[.int .i64 (h : Int)] w fun e w' => e = .returned (.tuple #[.int .i64 (c : Int), .int .i64 0]) ∧ w = w') := capacity_ok h c hh hc
  clear hc hh
  go_enter Tryz.func63, Tryz.ntmps63
  go_wp2_with fail
  refine (hC.out _).mono ?_
  rintro e _ ⟨rfl, rfl⟩
  go_wp2_with fail
  go_ret
  exact ⟨rfl, rfl⟩
end Go.Proofs.YtjengejepcmgiaaGreat
