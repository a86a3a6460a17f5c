/- The program's contracts of a register's Was, Written and Write. -/
import Derived.Test.YtdhbjcnbdfidcaaHDkEvents
import Derived.Handy
import Derived.Test.YtdhbjcnbdfidcaaHRefPut
import Derived.BigQuiet
import Derived.Deep.QuietTactic
import Derived.Laws.MakeOwn
import Derived.Laws.OwnMore

namespace Go.Proofs.Ytdhbjcnbdfidcaa
open Go Go.RowKit
set_option linter.unusedSimpArgs false
set_option linter.unusedVariables false

/-- its blocks, the cuts' with them -/
def footC (g N : Nat) (q : QD) (b : Nat) : Prop := foot g N q b ∨ q.cu.ownBlock = some b
def MovedC (g N : Nat) (q q' : QD) (w w' : World) : Prop := Turns (footC g N q) w w' ∧ ∀ b, footC g N q' b → footC g N q b ∨ w.heap.size ≤ b
theorem Moved.cuts {g N : Nat} {q q' : QD} {w w' : World} (h : Moved g N q q' w w') (hc : q'.cu = q.cu) : MovedC g N q q' w w' := ⟨h.1.mono fun b hb => .inl hb, fun b hb => by
  rcases hb with hb | hb
  · rcases h.2 b hb with e | e
    · exact .inl (.inl e)
    · exact .inr e
  · rw [hc] at hb
    exact .inl (.inr hb)⟩
theorem MovedC.trans {g N : Nat} {p q r : QD} {w v u : World} (h : MovedC g N p q w v) (k : MovedC g N q r v u) : MovedC g N p r w u :=
  ⟨h.1.trans k.1 h.2, fun b hb => by
    rcases k.2 b hb with z | z
    · exact h.2 b z
    · exact .inr (Nat.le_trans h.1.size z)⟩
theorem infoCut : (Try.prog.info? 41).map (fun i => (i.zero, i.size, i.bytes)) = some (some (.agg #[.int .i64 0, .bool false]), 2, 16) := by kernel_rfl
theorem sizeCut : (Try.prog.info? 41).map (·.size) = some 2 := by kernel_rfl
section
variable {B g N k lg : Nat} {F : Nat → Nat} {q : QD}
set_option maxRecDepth 100000 in
set_option maxHeartbeats 4000000 in
/-- nothing happens -/
theorem cut_none (L : List (Int × Bool)) (hL : L.length ≤ 64) (e0 : Int) (f0 : Bool) (hn : e0 < q.ev ∨ 64 ≤ L.length) (w : World) (h : DiskQ w B g N F k lg q) (hc : CutsAt w B q.cu L) :
    Calls Try.prog 8 #[.pointer (some ⟨g, 0, none⟩), .agg #[.int .i64 e0, .bool f0]] w fun e w' => e = .returned (.tuple #[]) ∧ Below w.heap.size w w' := by
  obtain ⟨ca, cc, hcu⟩ := kown_slice hc
  have HQ1 : Hid (DiskQ (w.alloc (.cells #[.int .i64 e0, .bool f0] 41)) B g N F k lg q) := h.below (below_new1 _ _)
  have hbx : Blk (w.alloc (.cells #[.int .i64 e0, .bool f0] 41)) w.heap.size 41 #[.int .i64 e0, .bool f0] := Blk.new _ _ _
  have hb1 : Below w.heap.size w (w.alloc (.cells #[.int .i64 e0, .bool f0] 41)) := below_new1 _ _
  obtain ⟨E, hE⟩ : ∃ E, E = q.ev := ⟨_, rfl⟩
  have x4 : ∀ n, ((w.alloc (.cells #[.int .i64 e0, .bool f0] 41)).drewN n).cell? ⟨g, 4, none⟩ = some (.slice ca L.length cc) := fun n => by
    rw [(HQ1.out.below (dkbelow_drewN (Below.refl _ _) n)).c, ← hcu]
    rfl
  have x7 : ∀ n, ((w.alloc (.cells #[.int .i64 e0, .bool f0] 41)).drewN n).cell? ⟨g, 7, none⟩ = some (.int .i64 E) := fun n => by
    rw [(HQ1.out.below (dkbelow_drewN (Below.refl _ _) n)).c, hE]
    rfl
  have y0 : ∀ n, ((w.alloc (.cells #[.int .i64 e0, .bool f0] 41)).drewN n).cell? ⟨w.heap.size, 0, none⟩ = some (.int .i64 e0) := fun n => by
    rw [(hbx.below (dkbelow_drewN (Below.refl (w.alloc (.cells #[.int .i64 e0, .bool f0] 41)).heap.size _) n) hbx.lt).cell]
    rfl
  rw [← hE] at hn
  clear h hc hbx hE hcu
  have hl0 : (0 : Int) ≤ (L.length : Int) := by omega
  have hl1 : (L.length : Int) ≤ 64 := by omega
  by_cases h1 : e0 < E
  · have d1 : decide (e0 < E) = true := decide_eq_true h1
    go_enter Try.func8, Try.ntmps8
    go_wp2_with fail
    generalize (w.alloc (.cells #[.int .i64 e0, .bool f0] 41)) = w1 at *
    go_quiet (fail)
    go_wp2_with fail
    try simp only [Exit.inBlock, Exit.then]
    refine bodyPost_ret (results_none Try.results8 _ _ _) rfl ?_
    exact ⟨rfl, dkbelow_drewN hb1 _⟩
  · have d1 : decide (e0 < E) = false := decide_eq_false h1
    have h2 : (64 : Int) ≤ (L.length : Int) := by omega
    have d2 : decide ((64 : Int) ≤ (L.length : Int)) = true := decide_eq_true h2
    go_enter Try.func8, Try.ntmps8
    go_wp2_with fail
    generalize (w.alloc (.cells #[.int .i64 e0, .bool f0] 41)) = w1 at *
    go_quiet (fail)
    go_wp2_with fail
    try simp only [Exit.inBlock, Exit.then]
    refine bodyPost_ret (results_none Try.results8 _ _ _) rfl ?_
    exact ⟨rfl, dkbelow_drewN hb1 _⟩
set_option maxRecDepth 100000 in
set_option maxHeartbeats 4000000 in
/-- one cut more -/
theorem cut_more (L : List (Int × Bool)) (e0 : Int) (f0 : Bool) (h1 : ¬ e0 < q.ev) (hL : L.length < 64) (w : World) (hB : B ≤ w.heap.size) (h : DiskQ w B g N F k lg q) (hc : CutsAt w B q.cu L) :
    Calls Try.prog 8 #[.pointer (some ⟨g, 0, none⟩), .agg #[.int .i64 e0, .bool f0]] w fun e w' => e = .returned (.tuple #[]) ∧ ∃ v, DiskQ w' B g N F k lg { q with cu := v } ∧ CutsAt w' B v (L ++ [(e0, f0)]) ∧ MovedC g N q { q with cu := v } w w' := by
  obtain ⟨i0, hi, hz0, hz1, hz2⟩ := info_parts infoCut
  obtain ⟨ca, cc, hcu⟩ := kown_slice hc
  have HQ1 : Hid (DiskQ (w.alloc (.cells #[.int .i64 e0, .bool f0] 41)) B g N F k lg q) := h.below (below_new1 _ _)
  have hbx : Blk (w.alloc (.cells #[.int .i64 e0, .bool f0] 41)) w.heap.size 41 #[.int .i64 e0, .bool f0] := Blk.new _ _ _
  have hb1 : Below w.heap.size w (w.alloc (.cells #[.int .i64 e0, .bool f0] 41)) := below_new1 _ _
  have HC1 : Hid (CutsAt (w.alloc (.cells #[.int .i64 e0, .bool f0] 41)) B (.slice ca L.length cc) L) := by
    rw [← hcu]
    exact kown_below hc hb1
  obtain ⟨E, hE⟩ : ∃ E, E = q.ev := ⟨_, rfl⟩
  have x4 : ∀ n, ((w.alloc (.cells #[.int .i64 e0, .bool f0] 41)).drewN n).cell? ⟨g, 4, none⟩ = some (.slice ca L.length cc) := fun n => by
    rw [(HQ1.out.below (dkbelow_drewN (Below.refl _ _) n)).c, ← hcu]
    rfl
  have x7 : ∀ n, ((w.alloc (.cells #[.int .i64 e0, .bool f0] 41)).drewN n).cell? ⟨g, 7, none⟩ = some (.int .i64 E) := fun n => by
    rw [(HQ1.out.below (dkbelow_drewN (Below.refl _ _) n)).c, hE]
    rfl
  have y0 : ∀ n, ((w.alloc (.cells #[.int .i64 e0, .bool f0] 41)).drewN n).cell? ⟨w.heap.size, 0, none⟩ = some (.int .i64 e0) := fun n => by
    rw [(hbx.below (dkbelow_drewN (Below.refl (w.alloc (.cells #[.int .i64 e0, .bool f0] 41)).heap.size _) n) hbx.lt).cell]
    rfl
  rw [← hE] at h1
  have HCU : Hid (q.cu = .slice ca L.length cc) := hcu
  have HB : Hid (B ≤ w.heap.size) := hB
  have HNB : Hid (q.cu.ownBlock ≠ some w.heap.size) := fun e => by
    have := (hc.lt _ e).2
    omega
  clear h hc hE hcu hB
  have hl0 : (0 : Int) ≤ (L.length : Int) := by omega
  have h2 : ¬ (64 : Int) ≤ (L.length : Int) := by omega
  have d1 : decide (e0 < E) = false := decide_eq_false h1
  have d2 : decide ((64 : Int) ≤ (L.length : Int)) = false := decide_eq_false h2
  go_enter Try.func8, Try.ntmps8
  go_wp2_with fail
  generalize (w.alloc (.cells #[.int .i64 e0, .bool f0] 41)) = w1 at *
  go_quiet (fail)
  go_wp2_with fail
  have HQ2 : Hid (DiskQ (w1.drewN nq) B g N F k lg q) := HQ1.out.below (dkbelow_drewN (Below.refl _ _) _)
  have HC2 : Hid (CutsAt (w1.drewN nq) B (.slice ca L.length cc) L) := kown_below HC1.out (dkbelow_drewN (Below.refl _ _) _)
  have hb2 : Below w.heap.size w (w1.drewN nq) := dkbelow_drewN hb1 _
  have bx2 : Blk (w1.drewN nq) w.heap.size 41 #[.int .i64 e0, .bool f0] := hbx.below (dkbelow_drewN (Below.refl w1.heap.size w1) _) hbx.lt
  clear HQ1 HC1 hb1 hbx x4 x7 y0 d1 d2
  generalize w1.drewN nq = w2 at *
  have z4 : w2.cell? ⟨g, 4, none⟩ = some (.slice ca L.length cc) := by
    rw [HQ2.out.c, ← HCU.out]
    rfl
  have z0 : w2.cell? ⟨w.heap.size, 0, none⟩ = some (.int .i64 e0) := by rw [bx2.cell]; rfl
  have z1 : w2.cell? ⟨w.heap.size, 1, none⟩ = some (.bool f0) := by rw [bx2.cell]; rfl
  refine wp_region_partsS (fun W => W.cell? ⟨g, 4, none⟩ = some (.slice ca L.length cc) ∧ W.cell? ⟨w.heap.size, 0, none⟩ = some (.int .i64 e0) ∧ W.cell? ⟨w.heap.size, 1, none⟩ = some (.bool f0)) [([0, 1], 2, true), ([], 3, true), ([], 4, true), ([], 5, false), ([], 6, false), ([], 7, false), ([], 8, false), ([], 9, false)] [] [10] (by kernel_rfl) (by kernel_rfl) ⟨z4, z0, z1⟩ (partsI_yield ?_)
  simp only [List.cons_append, List.nil_append, List.append_nil, List.filterMap_cons, List.filterMap_nil, List.getElem?_toArray, List.getElem?_cons_zero, List.getElem?_cons_succ]
  go_wp2_with fail
  refine ⟨rfl, _, .pointer (some ⟨g, 0, none⟩), rfl, Or.inl ⟨by rfl, fun W hW => by go_simp⟩, partsI_yield ?_⟩
  simp only [Act.put, List.setIfInBounds_toArray, List.set_cons_zero, List.set_cons_succ]
  simp only [List.cons_append, List.nil_append, List.append_nil, List.filterMap_cons, List.filterMap_nil, List.getElem?_toArray, List.getElem?_cons_zero, List.getElem?_cons_succ]
  go_wp2_with fail
  refine ⟨rfl, _, .pointer (some ⟨g, 4, none⟩), rfl, Or.inl ⟨by rfl, fun W hW => by go_simp⟩, partsI_yield ?_⟩
  simp only [Act.put, List.setIfInBounds_toArray, List.set_cons_zero, List.set_cons_succ]
  simp only [List.cons_append, List.nil_append, List.append_nil, List.filterMap_cons, List.filterMap_nil, List.getElem?_toArray, List.getElem?_cons_zero, List.getElem?_cons_succ]
  go_wp2_with fail
  refine ⟨rfl, _, .slice ca L.length cc, rfl, Or.inl ⟨by rfl, fun W hW => by obtain ⟨hWa, hWb, hWc⟩ := hW; go_simp⟩, partsI_force ?_⟩
  simp only [Act.put, List.setIfInBounds_toArray, List.set_cons_zero, List.set_cons_succ]
  simp only [List.cons_append, List.nil_append, List.append_nil, List.filterMap_cons, List.filterMap_nil, List.getElem?_toArray, List.getElem?_cons_zero, List.getElem?_cons_succ]
  go_wp2_with fail
  refine ⟨rfl, ⟨z4, z0, z1⟩, partsI_force ?_⟩
  simp only [List.cons_append, List.nil_append, List.append_nil, List.filterMap_cons, List.filterMap_nil, List.getElem?_toArray, List.getElem?_cons_zero, List.getElem?_cons_succ]
  go_wp2_with fail
  have a4 : (w2.alloc (.cells #[.int .i64 e0, .bool f0] 41)).drew.cell? ⟨g, 4, none⟩ = some (.slice ca L.length cc) := by
    have := (HQ2.out.below (show Below w2.heap.size w2 (w2.alloc (.cells #[.int .i64 e0, .bool f0] 41)).drew from ((Below.refl _ _).alloc (Nat.le_refl _) _).drew)).c 4
    rw [this, ← HCU.out]
    rfl
  have a0 : (w2.alloc (.cells #[.int .i64 e0, .bool f0] 41)).drew.cell? ⟨w.heap.size, 0, none⟩ = some (.int .i64 e0) := by
    have : Blk (w2.alloc (.cells #[.int .i64 e0, .bool f0] 41)).drew w.heap.size 41 #[.int .i64 e0, .bool f0] := bx2.alloc _
    rw [this.cell]
    rfl
  have a1 : (w2.alloc (.cells #[.int .i64 e0, .bool f0] 41)).drew.cell? ⟨w.heap.size, 1, none⟩ = some (.bool f0) := by
    have : Blk (w2.alloc (.cells #[.int .i64 e0, .bool f0] 41)).drew w.heap.size 41 #[.int .i64 e0, .bool f0] := bx2.alloc _
    rw [this.cell]
    rfl
  refine ⟨rfl, ⟨a4, a0, a1⟩, partsI_force ?_⟩
  simp only [List.cons_append, List.nil_append, List.append_nil, List.filterMap_cons, List.filterMap_nil, List.getElem?_toArray, List.getElem?_cons_zero, List.getElem?_cons_succ]
  have HOWN : Hid ((w2.alloc (.cells #[.int .i64 e0, .bool f0] 41)).drew.ownsRow B 41 2 (.slice ca L.length cc) L.length (cutCells L)) := World.ownsRow.alloc (w := w2) HC2.out _
  have HX : Hid (∀ j u, [Value.int .i64 e0, .bool f0][j]? = some u → (w2.alloc (.cells #[.int .i64 e0, .bool f0] 41)).drew.cell? ((⟨w2.heap.size, 0, none⟩ : Addr).add j) = some u) := cell_two_new w2 _ _ _
  have HBB : Hid (B ≤ (w2.alloc (.cells #[.int .i64 e0, .bool f0] 41)).drew.heap.size) := by
    have h1 := hb2.size
    have h2 := HB.out
    show B ≤ (w2.alloc _).heap.size
    simp
    omega
  refine wpList_append_own_at rfl _ _ 22 rfl B 41 i0 (.agg #[.int .i64 0, .bool false]) 2 16 Try.underlying22 hi hz0 hz1 hz2 rfl (by decide) _ _ _ rfl HOWN.out ⟨w2.heap.size, 0, none⟩ 1 1 [.int .i64 e0, .bool f0] rfl rfl HX.out (fun u hu => by
    simp at hu
    rcases hu with rfl | rfl <;> rfl) (by unfold maxLen; omega) (by omega) HBB.out ?_
  intro v' w6 hrow hgr hsb
  obtain ⟨xa, xc, hxe⟩ := kown_slice hrow
  subst hxe
  have hsb : (Value.slice xa (L.length + 1) xc).ownBlock = (Value.slice ca L.length cc).ownBlock ∨ (Value.slice xa (L.length + 1) xc).ownBlock = some (w2.alloc (.cells #[.int .i64 e0, .bool f0] 41)).drew.heap.size := hsb
  have hap : (Value.slice ca L.length cc).ownBlock ≠ some g := own_ne HC2.out HQ2.out.cells (by decide)
  have hbo : (Value.slice ca L.length cc).ownBlock ≠ some w.heap.size := fun e => by
    rw [← HCU.out] at e
    exact absurd e HNB.out
  have b6 : ∀ z, z < w2.heap.size → (Value.slice ca L.length cc).ownBlock ≠ some z → w6.heap[z]? = w2.heap[z]? := fun z hz1 hz2 => by
    rw [hgr.block z (show z < (w2.alloc _).heap.size by simp; omega) (fun e => hz2 e.symm)]
    exact (heap_alloc_old _ _ hz1)
  have hB6 : Blk w6 g 84 (dcells q N k) := (b6 g HQ2.out.cells.lt hap).trans HQ2.out.cells
  have bx6 : Blk w6 w.heap.size 41 #[.int .i64 e0, .bool f0] := (b6 _ bx2.lt hbo).trans bx2
  have hvg : (Value.slice xa (L.length + 1) xc).ownBlock ≠ some g := own_ne hrow hB6 (by decide)
  have s4 : w6.cell? ⟨g, 4, none⟩ = some (.slice ca L.length cc) := by
    rw [hB6.cell, ← HCU.out]
    rfl
  have f4 : w6.frozen? ⟨g, 4, none⟩ = false := hB6.frozen 4
  have s0 : w6.cell? ⟨w.heap.size, 0, none⟩ = some (.int .i64 e0) := by rw [bx6.cell]; rfl
  have s1 : w6.cell? ⟨w.heap.size, 1, none⟩ = some (.bool f0) := by rw [bx6.cell]; rfl
  have HBd : Hid (Blk (w6.setCell ⟨g, 4, none⟩ (Value.slice xa (L.length + 1) xc)) g 84 (dcells { q with cu := Value.slice xa (L.length + 1) xc } N k)) := hB6.put 4 _
  have HQ7 : Hid (DiskQ (w6.setCell ⟨g, 4, none⟩ (Value.slice xa (L.length + 1) xc)) B g N F k lg { q with cu := Value.slice xa (L.length + 1) xc }) := HQ2.out.put3 (Nat.le_refl _) q.ev q.dd _ HBd.out fun z hf hz => by
    rw [Deep.blk_setCell_other w6 ⟨g, 4, none⟩ _ z hz]
    exact b6 z (HQ2.out.foots z hf).2 fun e => HQ2.out.cutsApart HC2.out z e hf
  have HC7 : Hid (CutsAt (w6.setCell ⟨g, 4, none⟩ (Value.slice xa (L.length + 1) xc)) B (Value.slice xa (L.length + 1) xc) (L ++ [(e0, f0)])) := by
    have e : cutCells (L ++ [(e0, f0)]) = cutCells L ++ [.int .i64 e0, .bool f0] := by simp [cutCells]
    show World.ownsRow _ _ _ _ _ _ _
    rw [e, List.length_append]
    exact own_block hrow fun z hz => Deep.blk_setCell_other w6 ⟨g, 4, none⟩ _ z fun e => hvg (by rw [← (show z = g from e)]; exact hz)
  have HM7 : Hid (MovedC g N q { q with cu := Value.slice xa (L.length + 1) xc } w (w6.setCell ⟨g, 4, none⟩ (Value.slice xa (L.length + 1) xc))) := by
    have hsz := hgr.size
    have hsz2 : w2.heap.size + 1 ≤ w6.heap.size := by
      have e : (w2.alloc (.cells #[.int .i64 e0, .bool f0] 41)).drew.heap.size = w2.heap.size + 1 := by simp
      omega
    have hw2 := hb2.size
    refine ⟨⟨hgr.os.trans hb2.os, hgr.tape.trans hb2.tape, hgr.output.trans hb2.output, ?_, fun z hz hf => ?_⟩, fun z hz => ?_⟩
    · rw [Deep.nblk_setCell]
      omega
    · rw [Deep.blk_setCell_other w6 ⟨g, 4, none⟩ _ z fun e => hf (.inl (.inl e)), b6 z (by omega) fun e => hf (.inr (by rw [HCU.out]; exact e))]
      exact hb2.block z hz
    · rcases hz with e | e
      · exact .inl (.inl e)
      · have e' : (Value.slice xa (L.length + 1) xc).ownBlock = some z := e
        rcases hsb with e2 | e2
        · exact .inl (.inr (by rw [HCU.out, ← e2]; exact e'))
        · rw [e2] at e'
          injection e' with e'
          have e3 : (w2.alloc (.cells #[.int .i64 e0, .bool f0] 41)).drew.heap.size = w2.heap.size + 1 := by simp
          exact .inr (by omega)
  clear HOWN HX HBB hrow hgr hsb b6 hB6 bx6 HBd a4 a0 a1
  go_wp2_with fail
  refine ⟨rfl, ⟨s4, s0, s1⟩, partsI_force ?_⟩
  simp only [List.cons_append, List.nil_append, List.append_nil, List.filterMap_cons, List.filterMap_nil, List.getElem?_toArray, List.getElem?_cons_zero, List.getElem?_cons_succ]
  go_wp2_with fail
  refine ⟨rfl, ⟨s4, s0, s1⟩, partsI_force ?_⟩
  simp only [List.cons_append, List.nil_append, List.append_nil, List.filterMap_cons, List.filterMap_nil, List.getElem?_toArray, List.getElem?_cons_zero, List.getElem?_cons_succ]
  go_wp2_with fail
  refine ⟨rfl, ⟨s4, s0, s1⟩, partsI_last ?_⟩
  simp only [List.cons_append, List.nil_append, List.append_nil, List.filterMap_cons, List.filterMap_nil, List.getElem?_toArray, List.getElem?_cons_zero, List.getElem?_cons_succ]
  go_wp2_with fail
  refine ⟨rfl, ?_⟩
  try simp only [Exit.inBlock, Exit.then]
  refine bodyPost_end (results_none Try.results8 _ _ _) rfl ?_
  exact ⟨rfl, _, HQ7.out, HC7.out, HM7.out⟩
end
end Go.Proofs.Ytdhbjcnbdfidcaa

namespace Go.Proofs.Ytdhbjcnbdfidcaa
open Go Go.RowKit
set_option linter.unusedSimpArgs false
set_option linter.unusedVariables false

/-- the register in block r on the disk p: the slots L in the slice v, their places in the map in block m -/
structure RegAt (w : World) (B r m : Nat) (p : Option Addr) (v : Value) (L : List Sl) : Prop where
  rB : B ≤ r
  mB : B ≤ m
  cells : Blk w r 90 #[.pointer p, v, .map (some m)]
  own : w.ownsRow B 50 34 v L.length (slL L)
  map : MapIs slV intV w m L.zipIdx
/-- its blocks -/
def rfoot (r m : Nat) (v : Value) (b : Nat) : Prop := b = r ∨ b = m ∨ v.ownBlock = some b
section
variable {w w' : World} {B r m : Nat} {p : Option Addr} {v : Value} {L : List Sl}
theorem RegAt.foots (h : RegAt w B r m p v L) : ∀ b, rfoot r m v b → B ≤ b ∧ b < w.heap.size := by
  intro b hb
  rcases hb with rfl | rfl | z
  · exact ⟨h.rB, h.cells.lt⟩
  · obtain ⟨es, cl, hg, _⟩ := h.map
    exact ⟨h.mB, (Array.getElem?_eq_some_iff.1 hg).1⟩
  · exact h.own.lt b z
theorem RegAt.kept (h : RegAt w B r m p v L) (hk : ∀ b, rfoot r m v b → w'.heap[b]? = w.heap[b]?) : RegAt w' B r m p v L := by
  refine ⟨h.rB, h.mB, (hk r (.inl rfl)).trans h.cells, own_block h.own fun b hb => hk b (.inr (.inr hb)), ?_⟩
  obtain ⟨es, cl, hg, he⟩ := h.map
  exact ⟨es, cl, (hk m (.inr (.inl rfl))).trans hg, he⟩
theorem RegAt.below (h : RegAt w B r m p v L) (hb : Below w.heap.size w w') : RegAt w' B r m p v L := h.kept fun b hf => hb.block b (h.foots b hf).2
theorem RegAt.mono (h : RegAt w B r m p v L) {B' : Nat} (hB : B' ≤ B) : RegAt w B' r m p v L := ⟨Nat.le_trans hB h.rB, Nat.le_trans hB h.mB, h.cells, kown_mono h.own hB, h.map⟩
theorem RegAt.c (h : RegAt w B r m p v L) (i : Nat) : w.cell? ⟨r, i, none⟩ = #[Value.pointer p, v, .map (some m)][i]? := h.cells.cell i
end
theorem built_reg (p : Option Addr) (m : Nat) : Try.prog.built 90 [(0, .pointer p), (2, .map (some m))] = some #[.pointer p, .slice none 0 0, .map (some m)] := by kernel_rfl
set_option maxHeartbeats 1000000 in
theorem newReg_any (p : Option Addr) (w : World) : Calls Try.prog 7 #[.pointer p] w fun e w' => ∃ r m, e = .returned (.pointer (some ⟨r, 0, none⟩)) ∧ RegAt w' w.heap.size r m p (.slice none 0 0) [] ∧ Below w.heap.size w w' := by
  have hmm := @run_makeMap Try.prog
  go_enter Try.func7, Try.ntmps7
  go_wp2_with fail
  go_ret
  have e : (w.alloc (Obj.map #[] 0)).heap.size = w.heap.size + 1 := by simp
  have b1 : Below w.heap.size w (w.alloc (Obj.map #[] 0)) := (Below.refl _ _).alloc (Nat.le_refl _) _
  refine ⟨w.heap.size + 1, w.heap.size, rfl, ⟨by omega, Nat.le_refl _, ?_, World.ownsRow_nil _ _ _ _, ⟨#[], 0, ?_, rfl⟩⟩, b1.alloc (by omega) _⟩
  · rw [← e]
    exact Blk.new _ _ _
  · rw [heap_alloc_old _ _ (by omega)]
    exact heap_alloc_new w _
set_option maxHeartbeats 1000000 in
theorem regDead_none (w : World) : Calls Try.prog 30 #[.pointer none] w fun e w' => e = .returned (.bool true) ∧ w = w' := by
  go_enter Try.func30, Try.ntmps30
  go_wp2_with fail
  go_ret
  exact ⟨rfl, rfl⟩
section
variable {B r m : Nat} {p : Option Addr} {v : Value} {L : List Sl}
set_option maxHeartbeats 1000000 in
theorem regDead_at (b : Bool) (w : World) (h : RegAt w B r m p v L) (hd : Calls Try.prog 20 #[.pointer p] w fun e w' => e = .returned (.bool b) ∧ w = w') : Calls Try.prog 30 #[.pointer (some ⟨r, 0, none⟩)] w fun e w' => e = .returned (.bool b) ∧ w = w' := by
  have c0 : w.cell? ⟨r, 0, none⟩ = some (.pointer p) := by rw [h.c]; rfl
  have HD : Hid (Calls Try.prog 20 #[.pointer p] w fun e w' => e = .returned (.bool b) ∧ w = w') := hd
  clear h hd
  go_enter Try.func30, Try.ntmps30
  go_wp2_with fail
  refine HD.out.mono ?_
  rintro e _ ⟨rfl, rfl⟩
  go_wp2_with fail
  go_ret
  exact ⟨rfl, rfl⟩
/-- the slot that the register has -/
def lastS (L : List Sl) : Sl := L.getLast?.getD sl0
theorem lastS_snoc (L : List Sl) (s : Sl) : lastS (L ++ [s]) = s := by simp [lastS]
theorem lastS_nil : lastS [] = sl0 := rfl
theorem lastS_at (L : List Sl) (h : 0 < L.length) : L[L.length - 1]? = some (lastS L) := by
  unfold lastS
  rw [List.getLast?_eq_getElem?]
  cases hq : L[L.length - 1]? with
  | none =>
    rw [List.getElem?_eq_none_iff] at hq
    omega
  | some s => rfl
/-- a slot of an own slice -/
theorem own_slot {w : World} {g cap : Nat} (h : w.ownsRow B 50 34 (.slice (some ⟨g, 0, none⟩) L.length cap) L.length (slL L)) (i : Nat) (s : Sl) (hs : L[i]? = some s) : w.rangeAt g (i * 34) ((List.range 34).map (slF s)) := fun j u hu => by
  have hi : i < L.length := by
    rcases Nat.lt_or_ge i L.length with h1 | h1
    · exact h1
    · rw [List.getElem?_eq_none h1] at hs
      cases hs
  have hj : j < 34 := by
    rcases Nat.lt_or_ge j 34 with h1 | h1
    · exact h1
    · rw [List.getElem?_eq_none (by simpa using h1)] at hu
      cases hu
  rw [h.cellAt (i * 34 + j) (by omega), slL_at L i j s hs hj]
  simpa [hj] using hu
/- CUT HERE -/
set_option maxRecDepth 100000 in
set_option maxHeartbeats 2000000 in
theorem regNow_none (w : World) (h : RegAt w B r m p v []) : Calls Try.prog 32 #[.pointer (some ⟨r, 0, none⟩)] w fun e w' => e = .returned (.agg (slC sl0)) ∧ Below w.heap.size w w' := by
  have hz := zero_slot
  obtain ⟨a, c, hv⟩ := kown_slice h.own
  have hv : v = .slice a 0 c := hv
  have r0 : Blk (w.alloc (.cells (slC sl0) 50)) w.heap.size 50 (slC sl0) := Blk.new _ _ _
  have c1 : (w.alloc (.cells (slC sl0) 50)).cell? ⟨r, 1, none⟩ = some (.slice a 0 c) := by
    rw [(h.below (below_new1 _ _)).c, hv]
    rfl
  have hb : Below w.heap.size w (w.alloc (.cells (slC sl0) 50)) := below_new1 _ _
  clear h hv
  go_enter Try.func32, Try.ntmps32
  go_wp2_with (first
    | (refine wpList_store_row (by rfl) 50 _ _ (by rfl) (w.heap.size) (slC sl0) (by rfl) (by rfl) 50 _ r0 (sizeSlot.trans (by rw [slC_size])) (by simp only [slC_size]) (slC_all _) ?_; simp only [Act.put, List.setIfInBounds_toArray, List.set_cons_zero, List.set_cons_succ])
    | fail)
  try simp only [Exit.inBlock, Exit.then]
  refine bodyPost_ret (results_cell_row Try.results32 _ _ (w.heap.size) 50 (slC sl0) (0, 0) _ rfl (r0.set _) Try.underlying50 rfl (sizeSlot.trans (by rw [slC_size]))) rfl ?_
  exact ⟨rfl, below_setRow hb (Nat.le_refl _) _⟩
set_option maxRecDepth 100000 in
set_option maxHeartbeats 4000000 in
theorem regNow_some (hL : 0 < L.length) (hL2 : L.length ≤ 4000000000000) (w : World) (h : RegAt w B r m p v L) : Calls Try.prog 32 #[.pointer (some ⟨r, 0, none⟩)] w fun e w' => e = .returned (.agg (slC (lastS L))) ∧ Below w.heap.size w w' := by
  have hz := zero_slot
  obtain ⟨g0, cap, hv, hg0, hg1⟩ := kown_form h.own hL
  have r0 : Blk (w.alloc (.cells (slC sl0) 50)) w.heap.size 50 (slC sl0) := Blk.new _ _ _
  have H1 : Hid (RegAt (w.alloc (.cells (slC sl0) 50)) B r m p v L) := h.below (below_new1 _ _)
  have c1 : (w.alloc (.cells (slC sl0) 50)).cell? ⟨r, 1, none⟩ = some (.slice (some ⟨g0, 0, none⟩) L.length cap) := by
    rw [H1.out.c, hv]
    rfl
  have HR : Hid ((w.alloc (.cells (slC sl0) 50)).rangeAt g0 ((L.length - 1) * 34) ((List.range 34).map (slF (lastS L)))) := by
    have hown := H1.out.own
    rw [hv] at hown
    exact own_slot hown _ _ (lastS_at L hL)
  have hb : Below w.heap.size w (w.alloc (.cells (slC sl0) 50)) := below_new1 _ _
  clear h hv hg0 hg1
  obtain ⟨n, hn⟩ : ∃ n, n = L.length := ⟨_, rfl⟩
  rw [← hn] at c1 HR hL hL2
  clear hn
  have h1 : ¬ ((n : Int) = 0) := by omega
  have h2 : ((n - 1 : Nat) : Int) = (n : Int) - 1 := by omega
  have h3 : (n : Int) - 1 < (n : Int) := by omega
  have h4 : (0 : Int) ≤ (n : Int) - 1 := by omega
  have h5 : ((n : Int) - 1).toNat = n - 1 := by omega
  have h6 : (1 : Int) ≤ (n : Int) := by omega
  go_enter Try.func32, Try.ntmps32
  go_wp2_with fail
  have hs : w.heap.size < (w.alloc (.cells (slC sl0) 50)).heap.size := r0.lt
  generalize (w.alloc (.cells (slC sl0) 50)) = w1 at *
  refine wp_region_partsS (fun W => W.cell? ⟨r, 1, none⟩ = some (.slice (some ⟨g0, 0, none⟩) n cap)) [([0, 4], 1, true), ([], 2, true), ([], 3, true), ([], 5, false), ([], 6, false), ([], 7, false), ([], 8, false), ([], 9, false), ([], 10, false), ([], 11, false)] [] [12] (by kernel_rfl) (by kernel_rfl) c1 (partsI_yield ?_)
  simp only [List.cons_append, List.nil_append, List.append_nil, List.filterMap_cons, List.filterMap_nil, List.getElem?_toArray, List.getElem?_cons_zero, List.getElem?_cons_succ]
  go_wp2_with fail
  refine ⟨rfl, _, .pointer (some ⟨r, 0, none⟩), rfl, Or.inl ⟨by rfl, fun W hW => by go_simp⟩, partsI_yield ?_⟩
  simp only [Act.put, List.setIfInBounds_toArray, List.set_cons_zero, List.set_cons_succ]
  simp only [List.cons_append, List.nil_append, List.append_nil, List.filterMap_cons, List.filterMap_nil, List.getElem?_toArray, List.getElem?_cons_zero, List.getElem?_cons_succ]
  go_wp2_with fail
  refine ⟨rfl, _, .pointer (some ⟨r, 1, none⟩), rfl, Or.inl ⟨by rfl, fun W hW => by go_simp⟩, partsI_yield ?_⟩
  simp only [Act.put, List.setIfInBounds_toArray, List.set_cons_zero, List.set_cons_succ]
  simp only [List.cons_append, List.nil_append, List.append_nil, List.filterMap_cons, List.filterMap_nil, List.getElem?_toArray, List.getElem?_cons_zero, List.getElem?_cons_succ]
  go_wp2_with fail
  refine ⟨rfl, _, .slice (some ⟨g0, 0, none⟩) n cap, rfl, Or.inl ⟨by rfl, fun W hW => by go_simp⟩, partsI_force ?_⟩
  simp only [Act.put, List.setIfInBounds_toArray, List.set_cons_zero, List.set_cons_succ]
  simp only [List.cons_append, List.nil_append, List.append_nil, List.filterMap_cons, List.filterMap_nil, List.getElem?_toArray, List.getElem?_cons_zero, List.getElem?_cons_succ]
  go_wp2_with fail
  refine ⟨rfl, c1, partsI_force ?_⟩
  simp only [List.cons_append, List.nil_append, List.append_nil, List.filterMap_cons, List.filterMap_nil, List.getElem?_toArray, List.getElem?_cons_zero, List.getElem?_cons_succ]
  go_wp2_with fail
  refine ⟨rfl, c1, partsI_force ?_⟩
  simp only [List.cons_append, List.nil_append, List.append_nil, List.filterMap_cons, List.filterMap_nil, List.getElem?_toArray, List.getElem?_cons_zero, List.getElem?_cons_succ]
  go_wp2_with fail
  refine ⟨rfl, c1, partsI_force ?_⟩
  simp only [List.cons_append, List.nil_append, List.append_nil, List.filterMap_cons, List.filterMap_nil, List.getElem?_toArray, List.getElem?_cons_zero, List.getElem?_cons_succ]
  go_wp2_with fail
  refine ⟨rfl, c1, partsI_force ?_⟩
  simp only [List.cons_append, List.nil_append, List.append_nil, List.filterMap_cons, List.filterMap_nil, List.getElem?_toArray, List.getElem?_cons_zero, List.getElem?_cons_succ]
  go_wp2_with fail
  refine ⟨rfl, c1, partsI_force ?_⟩
  simp only [List.cons_append, List.nil_append, List.append_nil, List.filterMap_cons, List.filterMap_nil, List.getElem?_toArray, List.getElem?_cons_zero, List.getElem?_cons_succ]
  go_wp2_with fail
  refine ⟨rfl, c1, partsI_force ?_⟩
  simp only [List.cons_append, List.nil_append, List.append_nil, List.filterMap_cons, List.filterMap_nil, List.getElem?_toArray, List.getElem?_cons_zero, List.getElem?_cons_succ]
  refine wpList_load_blk (by rfl) 50 _ (by rfl) g0 ((n - 1) * 34) 34 (slF (lastS L)) (by rfl) _ HR.out Try.underlying50 rfl sizeSlot ?_
  simp only [Act.put, List.setIfInBounds_toArray, List.set_cons_zero, List.set_cons_succ]
  go_wp2_with fail
  refine ⟨rfl, c1, partsI_last ?_⟩
  simp only [List.cons_append, List.nil_append, List.append_nil, List.filterMap_cons, List.filterMap_nil, List.getElem?_toArray, List.getElem?_cons_zero, List.getElem?_cons_succ]
  refine wpList_store_row (by rfl) 50 _ _ (by rfl) w.heap.size (slC (lastS L)) (by rfl) (by rfl) 50 (slC sl0) r0.drew (sizeSlot.trans (by rw [slC_size])) (by simp only [slC_size]) (slC_all _) ?_
  simp only [Act.put, List.setIfInBounds_toArray, List.set_cons_zero, List.set_cons_succ]
  go_wp2_with fail
  refine ⟨rfl, ?_⟩
  go_wp2_with fail
  try simp only [Exit.inBlock, Exit.then]
  refine bodyPost_ret (results_cell_row Try.results32 _ _ (w.heap.size) 50 (slC (lastS L)) (0, 0) _ rfl (r0.drew.set _) Try.underlying50 rfl (sizeSlot.trans (by rw [slC_size]))) rfl ?_
  exact ⟨rfl, below_setRow hb.drew (Nat.le_refl _) _⟩
theorem regNow_any (hL2 : L.length ≤ 4000000000000) (w : World) (h : RegAt w B r m p v L) : Calls Try.prog 32 #[.pointer (some ⟨r, 0, none⟩)] w fun e w' => e = .returned (.agg (slC (lastS L))) ∧ Below w.heap.size w w' := by
  cases L with
  | nil => exact regNow_none w h
  | cons s L => exact regNow_some (by simp) hL2 w h
end
set_option maxRecDepth 100000 in
set_option maxHeartbeats 2000000 in
theorem follows_any (a b : Sl) (ha : a.1 < 18446744073709551616) (w : World) : Calls Try.prog 31 #[.agg (slC a), .agg (slC b)] w fun e w' => e = .returned (.bool (decide (a.1 = b.1 + 1))) ∧ Below w.heap.size w w' := by
  have hb : Below w.heap.size w ((w.alloc (.cells (slC a) 50)).alloc (.cells (slC b) 50)) := below_new2 _ _ _
  have r0 : Blk ((w.alloc (.cells (slC a) 50)).alloc (.cells (slC b) 50)) w.heap.size 50 (slC a) := (Blk.new _ _ _).alloc _
  have r1 : Blk ((w.alloc (.cells (slC a) 50)).alloc (.cells (slC b) 50)) (w.heap.size + 1) 50 (slC b) := Blk.new1 _ _ _ _
  have x0 : ((w.alloc (.cells (slC a) 50)).alloc (.cells (slC b) 50)).cell? ⟨w.heap.size, 0, none⟩ = some (.int .u64 (a.1 : Int)) := by
    rw [r0.cell]
    exact va_at (slF a) (by decide)
  have x1 : ((w.alloc (.cells (slC a) 50)).alloc (.cells (slC b) 50)).cell? ⟨w.heap.size + 1, 0, none⟩ = some (.int .u64 (b.1 : Int)) := by
    rw [r1.cell]
    exact va_at (slF b) (by decide)
  obtain ⟨ac, hac⟩ : ∃ ac, ac = a.1 := ⟨_, rfl⟩
  obtain ⟨bc, hbc⟩ : ∃ bc, bc = b.1 := ⟨_, rfl⟩
  rw [← hac] at x0 ha
  rw [← hbc] at x1
  rw [← hac, ← hbc]
  generalize slC a = ca at *
  generalize slC b = cb at *
  clear r0 r1 hac hbc
  by_cases h0 : ac = 0
  · have h1 : (ac : Int) = 0 := by omega
    rw [decide_eq_false (by omega)]
    rw [h1] at x0
    go_enter Try.func31, Try.ntmps31
    go_wp2_with fail
    go_ret
    exact ⟨rfl, hb⟩
  · have h1 : ¬ (ac : Int) = 0 := by omega
    have h2 : (0 : Int) ≤ (ac : Int) - 1 := by omega
    have h3 : (1 : Int) ≤ (ac : Int) := by omega
    have h4 : (ac : Int) - 1 < 18446744073709551616 := by omega
    have hd : decide (ac = bc + 1) = decide ((ac : Int) - 1 = (bc : Int)) := decide_eq_decide.2 (by omega)
    rw [hd]
    go_enter Try.func31, Try.ntmps31
    go_wp2_with fail
    go_ret
    refine ⟨?_, hb⟩
    have e : (((ac : Int) != 0) && ((ac : Int) - 1 == (bc : Int))) = decide ((ac : Int) - 1 = (bc : Int)) := by
      rw [show ((ac : Int) != 0) = true by simpa using h1, Bool.true_and, Bool.eq_iff_iff]
      simp
    rw [← e]
    rfl
section
variable {B r m : Nat} {p : Option Addr} {v : Value} {L : List Sl}
set_option maxRecDepth 100000 in
set_option maxHeartbeats 2000000 in
theorem regRead_none (w : World) : Calls Try.prog 29 #[.pointer none] w fun e w' => e = .returned (.tuple #[.agg (slC sl0), .int .i64 4]) ∧ Below w.heap.size w w' := by
  have hz := zero_slot
  have hD : Hid (∀ w : World, Calls Try.prog 30 #[.pointer none] w fun e w' => e = .returned (.bool true) ∧ w = w') := regDead_none
  have r0 : Blk (w.alloc (.cells (slC sl0) 50)) w.heap.size 50 (slC sl0) := Blk.new _ _ _
  have hb : Below w.heap.size w (w.alloc (.cells (slC sl0) 50)) := below_new1 _ _
  go_enter Try.func29, Try.ntmps29
  go_wp2_with fail
  refine (hD.out _).mono ?_
  rintro e _ ⟨rfl, rfl⟩
  go_wp2_with (first
    | (refine wpList_store_row (by rfl) 50 _ _ (by rfl) (w.heap.size) (slC sl0) (by rfl) (by rfl) 50 _ r0 (sizeSlot.trans (by rw [slC_size])) (by simp only [slC_size]) (slC_all _) ?_; simp only [Act.put, List.setIfInBounds_toArray, List.set_cons_zero, List.set_cons_succ])
    | fail)
  try simp only [Exit.inBlock, Exit.then]
  refine bodyPost_ret (results_row2 Try.results29 _ _ (w.heap.size) 50 (slC sl0) (0, 0) _ rfl (r0.set _) Try.underlying50 rfl (sizeSlot.trans (by rw [slC_size]))) rfl ?_
  exact ⟨rfl, below_setRow hb (Nat.le_refl _) _⟩
set_option maxRecDepth 100000 in
set_option maxHeartbeats 2000000 in
theorem regRead_dead (w : World) (h : RegAt w B r m p v L) (hd : ∀ w', Below w.heap.size w w' → Calls Try.prog 20 #[.pointer p] w' fun e w'' => e = .returned (.bool true) ∧ w' = w'') : Calls Try.prog 29 #[.pointer (some ⟨r, 0, none⟩)] w fun e w' => e = .returned (.tuple #[.agg (slC sl0), .int .i64 4]) ∧ Below w.heap.size w w' := by
  have hz := zero_slot
  have hb : Below w.heap.size w (w.alloc (.cells (slC sl0) 50)) := below_new1 _ _
  have HD : Hid (Calls Try.prog 30 #[.pointer (some ⟨r, 0, none⟩)] (w.alloc (.cells (slC sl0) 50)) fun e w' => e = .returned (.bool true) ∧ (w.alloc (.cells (slC sl0) 50)) = w') := regDead_at true _ (h.below hb) (hd _ hb)
  have r0 : Blk (w.alloc (.cells (slC sl0) 50)) w.heap.size 50 (slC sl0) := Blk.new _ _ _
  clear h hd
  go_enter Try.func29, Try.ntmps29
  go_wp2_with fail
  refine HD.out.mono ?_
  rintro e _ ⟨rfl, rfl⟩
  go_wp2_with (first
    | (refine wpList_store_row (by rfl) 50 _ _ (by rfl) (w.heap.size) (slC sl0) (by rfl) (by rfl) 50 _ r0 (sizeSlot.trans (by rw [slC_size])) (by simp only [slC_size]) (slC_all _) ?_; simp only [Act.put, List.setIfInBounds_toArray, List.set_cons_zero, List.set_cons_succ])
    | fail)
  try simp only [Exit.inBlock, Exit.then]
  refine bodyPost_ret (results_row2 Try.results29 _ _ (w.heap.size) 50 (slC sl0) (0, 0) _ rfl (r0.set _) Try.underlying50 rfl (sizeSlot.trans (by rw [slC_size]))) rfl ?_
  exact ⟨rfl, below_setRow hb (Nat.le_refl _) _⟩
set_option maxRecDepth 100000 in
set_option maxHeartbeats 2000000 in
theorem regRead_at (hL2 : L.length ≤ 4000000000000) (w : World) (h : RegAt w B r m p v L) (hd : ∀ w', Below w.heap.size w w' → Calls Try.prog 20 #[.pointer p] w' fun e w'' => e = .returned (.bool false) ∧ w' = w'') : Calls Try.prog 29 #[.pointer (some ⟨r, 0, none⟩)] w fun e w' => e = .returned (.tuple #[.agg (slC (lastS L)), .int .i64 0]) ∧ Below w.heap.size w w' := by
  have hz := zero_slot
  have hb : Below w.heap.size w (w.alloc (.cells (slC sl0) 50)) := below_new1 _ _
  have HD : Hid (Calls Try.prog 30 #[.pointer (some ⟨r, 0, none⟩)] (w.alloc (.cells (slC sl0) 50)) fun e w' => e = .returned (.bool false) ∧ (w.alloc (.cells (slC sl0) 50)) = w') := regDead_at false _ (h.below hb) (hd _ hb)
  have HN : Hid (Calls Try.prog 32 #[.pointer (some ⟨r, 0, none⟩)] (w.alloc (.cells (slC sl0) 50)) fun e w' => e = .returned (.agg (slC (lastS L))) ∧ Below (w.alloc (.cells (slC sl0) 50)).heap.size (w.alloc (.cells (slC sl0) 50)) w') := regNow_any hL2 _ (h.below hb)
  have r0 : Blk (w.alloc (.cells (slC sl0) 50)) w.heap.size 50 (slC sl0) := Blk.new _ _ _
  clear h hd
  go_enter Try.func29, Try.ntmps29
  go_wp2_with fail
  refine HD.out.mono ?_
  rintro e _ ⟨rfl, rfl⟩
  go_wp2_with fail
  refine HN.out.mono ?_
  rintro e w2 ⟨rfl, hb2⟩
  have r2 := r0.below hb2 r0.lt
  have hb3 : Below w.heap.size w w2 := hb.trans (hb2.mono hb.size)
  clear HD HN hb hb2 r0
  go_wp2_with (first
    | (refine wpList_store_row (by rfl) 50 _ _ (by rfl) (w.heap.size) (slC (lastS L)) (by rfl) (by rfl) 50 _ r2 (sizeSlot.trans (by rw [slC_size])) (by simp only [slC_size]) (slC_all _) ?_; simp only [Act.put, List.setIfInBounds_toArray, List.set_cons_zero, List.set_cons_succ])
    | fail)
  try simp only [Exit.inBlock, Exit.then]
  refine bodyPost_ret (results_row2 Try.results29 _ _ (w.heap.size) 50 (slC (lastS L)) (0, 0) _ rfl (r2.set _) Try.underlying50 rfl (sizeSlot.trans (by rw [slC_size]))) rfl ?_
  exact ⟨rfl, below_setRow hb3 (Nat.le_refl _) _⟩
set_option maxHeartbeats 1000000 in
theorem swings_none (w : World) : Calls Try.prog 38 #[.pointer none] w fun e w' => e = .returned (.int .i64 0) ∧ w = w' := by
  go_enter Try.func38, Try.ntmps38
  go_wp2_with fail
  go_ret
  exact ⟨rfl, rfl⟩
set_option maxHeartbeats 1000000 in
theorem swings_at (w : World) (h : RegAt w B r m p v L) : Calls Try.prog 38 #[.pointer (some ⟨r, 0, none⟩)] w fun e w' => e = .returned (.int .i64 (L.length : Int)) ∧ w = w' := by
  obtain ⟨a, c, hv⟩ := kown_slice h.own
  have c1 : w.cell? ⟨r, 1, none⟩ = some (.slice a L.length c) := by
    rw [h.c, hv]
    rfl
  clear h hv
  go_enter Try.func38, Try.ntmps38
  go_wp2_with fail
  go_ret
  exact ⟨rfl, rfl⟩
set_option maxHeartbeats 1000000 in
theorem written_none (w : World) : Calls Try.prog 37 #[.pointer none] w fun e w' => e = .returned (.slice none 0 0) ∧ w = w' := by
  go_enter Try.func37, Try.ntmps37
  go_wp2_with fail
  go_ret
  exact ⟨rfl, rfl⟩
set_option maxHeartbeats 1000000 in
theorem was_none (s : Sl) (w : World) : Calls Try.prog 16 #[.pointer none, .agg (slC s)] w fun e w' => e = .returned (.bool false) ∧ Below w.heap.size w w' := by
  have hb : Below w.heap.size w (w.alloc (.cells (slC s) 50)) := below_new1 _ _
  go_enter Try.func16, Try.ntmps16
  go_wp2_with fail
  go_ret
  exact ⟨rfl, hb⟩
end
end Go.Proofs.Ytdhbjcnbdfidcaa

namespace Go.Proofs.Ytdhbjcnbdfidcaa
open Go Go.RowKit
set_option linter.unusedSimpArgs false
set_option linter.unusedVariables false

theorem findIn_zip (s : Sl) : ∀ (L : List Sl) (k : Nat), (findIn s (L.zipIdx k)).isSome = decide (s ∈ L)
  | [], k => by simp [findIn]
  | x :: L, k => by
    rw [List.zipIdx_cons]
    unfold findIn
    by_cases h : s = x
    · subst h
      simp
    · rw [if_neg h, findIn_zip s L (k + 1)]
      simp [h]
theorem findIn_zip_none (s : Sl) (L : List Sl) (k : Nat) (h : s ∉ L) : findIn s (L.zipIdx k) = none := by
  have := findIn_zip s L k
  rw [decide_eq_false h] at this
  exact Option.not_isSome_iff_eq_none.1 (by rw [this]; simp)
theorem findIn_zip_some (s : Sl) : ∀ (L : List Sl) (k i : Nat), findIn s (L.zipIdx k) = some i → k ≤ i ∧ L[i - k]? = some s
  | [], k, i, h => by simp [findIn] at h
  | x :: L, k, i, h => by
    rw [List.zipIdx_cons] at h
    unfold findIn at h
    by_cases hx : s = x
    · subst hx
      rw [if_pos rfl] at h
      injection h with h
      subst h
      simp
    · rw [if_neg hx] at h
      obtain ⟨h1, h2⟩ := findIn_zip_some s L (k + 1) i h
      refine ⟨by omega, ?_⟩
      rw [show i - k = (i - (k + 1)) + 1 by omega]
      simpa using h2
theorem zipIdx_snoc (L : List Sl) (s : Sl) : (L ++ [s]).zipIdx = L.zipIdx ++ [(s, L.length)] := by
  rw [List.zipIdx_append]
  simp
section
variable {B r m : Nat} {p : Option Addr} {v : Value} {L : List Sl}
theorem RegAt.look {w : World} (h : RegAt w B r m p v L) (s : Sl) (ok : Bool) : (Instr.lookup 87 (.map (some m)) (.agg (slC s)) ok).run Try.prog w = .ok (if ok then .tuple #[intV ((findIn s L.zipIdx).getD 0), .bool (decide (s ∈ L))] else intV ((findIn s L.zipIdx).getD 0)) w := by
  have := run_lookup_is Try.underlying87 slot_key zero_int h.map s ok
  rw [findIn_zip s L 0] at this
  have e1 : ((findIn s L.zipIdx).map intV).getD (.int .i64 0) = intV ((findIn s L.zipIdx).getD 0) := by
    cases findIn s L.zipIdx <;> rfl
  rw [e1] at this
  exact this
set_option maxRecDepth 100000 in
set_option maxHeartbeats 2000000 in
theorem was_at (s : Sl) (w : World) (h : RegAt w B r m p v L) : Calls Try.prog 16 #[.pointer (some ⟨r, 0, none⟩), .agg (slC s)] w fun e w' => e = .returned (.bool (decide (s ∈ L))) ∧ Below w.heap.size w w' := by
  have hb : Below w.heap.size w (w.alloc (.cells (slC s) 50)) := below_new1 _ _
  have r0 : Blk (w.alloc (.cells (slC s) 50)) w.heap.size 50 (slC s) := Blk.new _ _ _
  have H1 : RegAt (w.alloc (.cells (slC s) 50)) B r m p v L := h.below hb
  have c2 : (w.alloc (.cells (slC s) 50)).cell? ⟨r, 2, none⟩ = some (.map (some m)) := by
    rw [H1.c]
    rfl
  have hlk := (RegAt.below H1 (Below.refl _ _).drew).look s true
  simp only [if_true] at hlk
  clear h H1
  generalize intV ((findIn s L.zipIdx).getD 0) = x at *
  generalize decide (s ∈ L) = b at *
  go_enter Try.func16, Try.ntmps16
  go_wp2_with fail
  generalize (w.alloc (.cells (slC s) 50)) = w1 at *
  refine wp_region_partsS (fun W => W.cell? ⟨r, 2, none⟩ = some (.map (some m))) [([0], 1, true), ([], 2, true), ([], 3, true), ([], 4, false), ([], 5, false)] [6, 7, 8, 9, 10] [] (by kernel_rfl) (by kernel_rfl) c2 (partsI_yield ?_)
  simp only [List.cons_append, List.nil_append, List.append_nil, List.filterMap_cons, List.filterMap_nil, List.getElem?_toArray, List.getElem?_cons_zero, List.getElem?_cons_succ]
  go_wp2_with fail
  refine ⟨rfl, _, .pointer (some ⟨r, 0, none⟩), rfl, Or.inl ⟨by rfl, fun W hW => by go_simp⟩, partsI_yield ?_⟩
  simp only [Act.put, List.setIfInBounds_toArray, List.set_cons_zero, List.set_cons_succ]
  simp only [List.cons_append, List.nil_append, List.append_nil, List.filterMap_cons, List.filterMap_nil, List.getElem?_toArray, List.getElem?_cons_zero, List.getElem?_cons_succ]
  go_wp2_with fail
  refine ⟨rfl, _, .pointer (some ⟨r, 2, none⟩), rfl, Or.inl ⟨by rfl, fun W hW => by go_simp⟩, partsI_yield ?_⟩
  simp only [Act.put, List.setIfInBounds_toArray, List.set_cons_zero, List.set_cons_succ]
  simp only [List.cons_append, List.nil_append, List.append_nil, List.filterMap_cons, List.filterMap_nil, List.getElem?_toArray, List.getElem?_cons_zero, List.getElem?_cons_succ]
  go_wp2_with fail
  refine ⟨rfl, _, .map (some m), rfl, Or.inl ⟨by rfl, fun W hW => by go_simp⟩, partsI_force ?_⟩
  simp only [Act.put, List.setIfInBounds_toArray, List.set_cons_zero, List.set_cons_succ]
  simp only [List.cons_append, List.nil_append, List.append_nil, List.filterMap_cons, List.filterMap_nil, List.getElem?_toArray, List.getElem?_cons_zero, List.getElem?_cons_succ]
  refine wpList_load_rowg (by rfl) 50 _ (by rfl) w.heap.size (by rfl) 50 (slC s) (0, 0) _ r0.drew Try.underlying50 (by rfl) (sizeSlot.trans (by rw [slC_size])) ?_
  simp only [Act.put, List.setIfInBounds_toArray, List.set_cons_zero, List.set_cons_succ]
  go_wp2_with fail
  refine ⟨rfl, c2, partsI_force ?_⟩
  simp only [List.cons_append, List.nil_append, List.append_nil, List.filterMap_cons, List.filterMap_nil, List.getElem?_toArray, List.getElem?_cons_zero, List.getElem?_cons_succ]
  go_wp2_with fail
  refine ⟨rfl, c2, partsI_last ?_⟩
  simp only [List.cons_append, List.nil_append, List.append_nil, List.filterMap_cons, List.filterMap_nil, List.getElem?_toArray, List.getElem?_cons_zero, List.getElem?_cons_succ]
  go_wp2_with fail
  refine ⟨rfl, ?_⟩
  go_wp2_with fail
  go_ret
  exact ⟨rfl, hb.drew⟩
theorem nil_slots_in (d : Nat) (p : Option Addr) (n cap : Nat) (w : World) : (Op.equalIn (d + 1) 88 (.slice p n cap) (.slice none 0 0)).run Try.prog w = .ok p.isNone w := by
  cases p <;> simp [Op.equalIn, run_underlying Try.underlying88]
theorem nil_slots (p : Option Addr) (n cap : Nat) (w : World) : Sem.run Try.prog (binOp .eql 88 (.slice p n cap) (.slice none 0 0)) w = .ok (.bool p.isNone) w := by
  simp only [binOp]
  simp [show Op.equal 88 (.slice p n cap) (.slice none 0 0) = Op.equalIn (9999 + 1) 88 (.slice p n cap) (.slice none 0 0) from rfl, nil_slots_in 9999 p n cap w]
set_option maxRecDepth 100000 in
set_option maxHeartbeats 4000000 in
theorem cloneSlots_some (n b cap : Nat) (hn : n < 2199023255552) (xs : List Value) (hone : ∀ u ∈ xs, u.oneCell' = true) (w : World) (h : w.ownsRow B 50 34 (.slice (some ⟨b, 0, none⟩) n cap) n xs) :
    Calls Try.prog 45 #[.slice (some ⟨b, 0, none⟩) n cap] w fun e w' => ∃ a c, e = .returned (.slice a n c) ∧ w'.ownsRow w.heap.size 50 34 (.slice a n c) n xs ∧ Below w.heap.size w w' := by
  obtain ⟨i0, hi, hz0, hz1, hz2⟩ := info_parts infoSlot
  have hq := nil_slots (some ⟨b, 0, none⟩) n cap
  have HC : Hid (∀ j u, xs[j]? = some u → (w.alloc (.cells #[] 50)).cell? ((⟨b, 0, none⟩ : Addr).add j) = some u) := (h.alloc _).cells rfl
  have HO : Hid ((w.alloc (.cells #[] 50)).ownsRow w.heap.size 50 34 (.slice (some ⟨w.heap.size, 0, none⟩) 0 0) 0 []) := World.ownsRow_lit w #[] 0 (Nat.le_refl _) (by decide) rfl
  have hl := h.1
  go_enter Try.func45, Try.ntmps45
  go_wp2_with (first
    | (at_builtin; refine wpList_append_own_at rfl _ _ 88 rfl w.heap.size 50 i0 (slV sl0) 34 48 Try.underlying88 hi hz0 hz1 hz2 (slC_size _) (by decide) _ _ _ rfl HO.out ⟨b, 0, none⟩ n cap xs rfl hl HC.out hone (by unfold maxLen; omega) (by omega) (by simp) ?_)
    | go_in)
  intro v2 w2 hown2 hgrow2 _
  have hb2 : Below w.heap.size w w2 := ((Below.refl _ _).alloc (Nat.le_refl _) _).grown hgrow2 (by simp) (fun k hk => by simp [Value.ownBlock] at hk; omega)
  obtain ⟨va0, vc0, hve⟩ := kown_slice hown2
  subst hve
  go_wp2_with fail
  go_ret
  exact ⟨_, _, rfl, hown2, hb2⟩
set_option maxHeartbeats 2000000 in
theorem cloneSlots_nil (w : World) : Calls Try.prog 45 #[.slice none 0 0] w fun e w' => e = .returned (.slice none 0 0) ∧ w = w' := by
  have hq := nil_slots none 0 0
  go_enter Try.func45, Try.ntmps45
  go_wp2_with fail
  go_ret
  exact ⟨rfl, rfl⟩
theorem slL_one (L : List Sl) : ∀ u ∈ slL L, u.oneCell' = true := fun u hu => by
  obtain ⟨s, _, h⟩ := List.mem_flatMap.1 hu
  exact slC_one s u h
theorem cloneSlots_any (w : World) (hL : L.length < 2199023255552) (h : w.ownsRow B 50 34 v L.length (slL L)) :
    Calls Try.prog 45 #[v] w fun e w' => ∃ a c, e = .returned (.slice a L.length c) ∧ w'.ownsRow w.heap.size 50 34 (.slice a L.length c) L.length (slL L) ∧ Below w.heap.size w w' := by
  rcases h.2 with ⟨h1, h2⟩ | ⟨b, cap, cur, h1, _⟩
  · rw [h1]
    have hl : L = [] := List.length_eq_zero_iff.1 h2
    subst hl
    refine (cloneSlots_nil w).mono ?_
    rintro e _ ⟨rfl, rfl⟩
    exact ⟨none, 0, rfl, World.ownsRow_nil _ _ _ _, Below.refl _ _⟩
  · rw [h1] at h ⊢
    exact cloneSlots_some _ b cap hL _ (slL_one L) w h
set_option maxHeartbeats 2000000 in
theorem written_at (w : World) (hL : L.length < 2199023255552) (h : RegAt w B r m p v L) : Calls Try.prog 37 #[.pointer (some ⟨r, 0, none⟩)] w fun e w' => ∃ a c, e = .returned (.slice a L.length c) ∧ w'.ownsRow w.heap.size 50 34 (.slice a L.length c) L.length (slL L) ∧ Below w.heap.size w w' := by
  have c1 : w.cell? ⟨r, 1, none⟩ = some v := by
    rw [h.c]
    rfl
  have HC : Hid (Calls Try.prog 45 #[v] w fun e w' => ∃ a c, e = .returned (.slice a L.length c) ∧ w'.ownsRow w.heap.size 50 34 (.slice a L.length c) L.length (slL L) ∧ Below w.heap.size w w') := cloneSlots_any w hL h.own
  obtain ⟨a, c, hv⟩ := kown_slice h.own
  subst hv
  clear h
  go_enter Try.func37, Try.ntmps37
  go_wp2_with fail
  refine HC.out.mono ?_
  rintro e w1 ⟨a1, c1', rfl, h1, h2⟩
  go_wp2_with fail
  go_ret
  exact ⟨_, _, rfl, h1, h2⟩
end
end Go.Proofs.Ytdhbjcnbdfidcaa
