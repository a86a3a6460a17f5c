/- A cache with one entry, its disk's power cut; the statement CacheDead, called with whatever block and room: it returns true. -/
import Derived.Test.YtdniigefmlmcdabHDkEvents
import Derived.Handy
import Derived.Test.YtdniigefmlmcdabHCaNilLaw

namespace Go.Proofs.Ytdniigefmlmcdab
open Go Go.RowKit
set_option linter.unusedSimpArgs false
set_option linter.unusedVariables false

/-- its blocks, the cuts' with them -/
def footC (g N : Nat) (q : QD) (b : Nat) : Prop := foot g N q b ∨ q.cu.ownBlock = some b
def MovedC (g N : Nat) (q q' : QD) (w w' : World) : Prop := Turns (footC g N q) w w' ∧ ∀ b, footC g N q' b → footC g N q b ∨ w.heap.size ≤ b
theorem Moved.cuts {g N : Nat} {q q' : QD} {w w' : World} (h : Moved g N q q' w w') (hc : q'.cu = q.cu) : MovedC g N q q' w w' := ⟨h.1.mono fun b hb => .inl hb, fun b hb => by
  rcases hb with hb | hb
  · rcases h.2 b hb with e | e
    · exact .inl (.inl e)
    · exact .inr e
  · rw [hc] at hb
    exact .inl (.inr hb)⟩
theorem MovedC.trans {g N : Nat} {p q r : QD} {w v u : World} (h : MovedC g N p q w v) (k : MovedC g N q r v u) : MovedC g N p r w u :=
  ⟨h.1.trans k.1 h.2, fun b hb => by
    rcases k.2 b hb with z | z
    · exact h.2 b z
    · exact .inr (Nat.le_trans h.1.size z)⟩
theorem infoCut : (Try.prog.info? 42).map (fun i => (i.zero, i.size, i.bytes)) = some (some (.agg #[.int .i64 0, .bool false]), 2, 16) := by kernel_rfl
theorem sizeCut : (Try.prog.info? 42).map (·.size) = some 2 := by kernel_rfl
section
variable {B g N k lg : Nat} {F : Nat → Nat} {q : QD}
set_option maxRecDepth 100000 in
set_option maxHeartbeats 4000000 in
/-- nothing happens -/
theorem cut_none (L : List (Int × Bool)) (hL : L.length ≤ 64) (e0 : Int) (f0 : Bool) (hn : e0 < q.ev ∨ 64 ≤ L.length) (w : World) (h : DiskQ w B g N F k lg q) (hc : CutsAt w B q.cu L) :
    Calls Try.prog 8 #[.pointer (some ⟨g, 0, none⟩), .agg #[.int .i64 e0, .bool f0]] w fun e w' => e = .returned (.tuple #[]) ∧ Below w.heap.size w w' := by
  obtain ⟨ca, cc, hcu⟩ := kown_slice hc
  have HQ1 : Hid (DiskQ (w.alloc (.cells #[.int .i64 e0, .bool f0] 42)) B g N F k lg q) := h.below (below_new1 _ _)
  have hbx : Blk (w.alloc (.cells #[.int .i64 e0, .bool f0] 42)) w.heap.size 42 #[.int .i64 e0, .bool f0] := Blk.new _ _ _
  have hb1 : Below w.heap.size w (w.alloc (.cells #[.int .i64 e0, .bool f0] 42)) := below_new1 _ _
  obtain ⟨E, hE⟩ : ∃ E, E = q.ev := ⟨_, rfl⟩
  have x4 : ∀ n, ((w.alloc (.cells #[.int .i64 e0, .bool f0] 42)).drewN n).cell? ⟨g, 4, none⟩ = some (.slice ca L.length cc) := fun n => by
    rw [(HQ1.out.below (dkbelow_drewN (Below.refl _ _) n)).c, ← hcu]
    rfl
  have x7 : ∀ n, ((w.alloc (.cells #[.int .i64 e0, .bool f0] 42)).drewN n).cell? ⟨g, 7, none⟩ = some (.int .i64 E) := fun n => by
    rw [(HQ1.out.below (dkbelow_drewN (Below.refl _ _) n)).c, hE]
    rfl
  have y0 : ∀ n, ((w.alloc (.cells #[.int .i64 e0, .bool f0] 42)).drewN n).cell? ⟨w.heap.size, 0, none⟩ = some (.int .i64 e0) := fun n => by
    rw [(hbx.below (dkbelow_drewN (Below.refl (w.alloc (.cells #[.int .i64 e0, .bool f0] 42)).heap.size _) n) hbx.lt).cell]
    rfl
  rw [← hE] at hn
  clear h hc hbx hE hcu
  have hl0 : (0 : Int) ≤ (L.length : Int) := by omega
  have hl1 : (L.length : Int) ≤ 64 := by omega
  by_cases h1 : e0 < E
  · have d1 : decide (e0 < E) = true := decide_eq_true h1
    go_enter Try.func8, Try.ntmps8
    go_wp2_with fail
    generalize (w.alloc (.cells #[.int .i64 e0, .bool f0] 42)) = w1 at *
    go_quiet (fail)
    go_wp2_with fail
    try simp only [Exit.inBlock, Exit.then]
    refine bodyPost_ret (results_none Try.results8 _ _ _) rfl ?_
    exact ⟨rfl, dkbelow_drewN hb1 _⟩
  · have d1 : decide (e0 < E) = false := decide_eq_false h1
    have h2 : (64 : Int) ≤ (L.length : Int) := by omega
    have d2 : decide ((64 : Int) ≤ (L.length : Int)) = true := decide_eq_true h2
    go_enter Try.func8, Try.ntmps8
    go_wp2_with fail
    generalize (w.alloc (.cells #[.int .i64 e0, .bool f0] 42)) = w1 at *
    go_quiet (fail)
    go_wp2_with fail
    try simp only [Exit.inBlock, Exit.then]
    refine bodyPost_ret (results_none Try.results8 _ _ _) rfl ?_
    exact ⟨rfl, dkbelow_drewN hb1 _⟩
set_option maxRecDepth 100000 in
set_option maxHeartbeats 4000000 in
/-- one cut more -/
theorem cut_more (L : List (Int × Bool)) (e0 : Int) (f0 : Bool) (h1 : ¬ e0 < q.ev) (hL : L.length < 64) (w : World) (hB : B ≤ w.heap.size) (h : DiskQ w B g N F k lg q) (hc : CutsAt w B q.cu L) :
    Calls Try.prog 8 #[.pointer (some ⟨g, 0, none⟩), .agg #[.int .i64 e0, .bool f0]] w fun e w' => e = .returned (.tuple #[]) ∧ ∃ v, DiskQ w' B g N F k lg { q with cu := v } ∧ CutsAt w' B v (L ++ [(e0, f0)]) ∧ MovedC g N q { q with cu := v } w w' := by
  obtain ⟨i0, hi, hz0, hz1, hz2⟩ := info_parts infoCut
  obtain ⟨ca, cc, hcu⟩ := kown_slice hc
  have HQ1 : Hid (DiskQ (w.alloc (.cells #[.int .i64 e0, .bool f0] 42)) B g N F k lg q) := h.below (below_new1 _ _)
  have hbx : Blk (w.alloc (.cells #[.int .i64 e0, .bool f0] 42)) w.heap.size 42 #[.int .i64 e0, .bool f0] := Blk.new _ _ _
  have hb1 : Below w.heap.size w (w.alloc (.cells #[.int .i64 e0, .bool f0] 42)) := below_new1 _ _
  have HC1 : Hid (CutsAt (w.alloc (.cells #[.int .i64 e0, .bool f0] 42)) B (.slice ca L.length cc) L) := by
    rw [← hcu]
    exact kown_below hc hb1
  obtain ⟨E, hE⟩ : ∃ E, E = q.ev := ⟨_, rfl⟩
  have x4 : ∀ n, ((w.alloc (.cells #[.int .i64 e0, .bool f0] 42)).drewN n).cell? ⟨g, 4, none⟩ = some (.slice ca L.length cc) := fun n => by
    rw [(HQ1.out.below (dkbelow_drewN (Below.refl _ _) n)).c, ← hcu]
    rfl
  have x7 : ∀ n, ((w.alloc (.cells #[.int .i64 e0, .bool f0] 42)).drewN n).cell? ⟨g, 7, none⟩ = some (.int .i64 E) := fun n => by
    rw [(HQ1.out.below (dkbelow_drewN (Below.refl _ _) n)).c, hE]
    rfl
  have y0 : ∀ n, ((w.alloc (.cells #[.int .i64 e0, .bool f0] 42)).drewN n).cell? ⟨w.heap.size, 0, none⟩ = some (.int .i64 e0) := fun n => by
    rw [(hbx.below (dkbelow_drewN (Below.refl (w.alloc (.cells #[.int .i64 e0, .bool f0] 42)).heap.size _) n) hbx.lt).cell]
    rfl
  rw [← hE] at h1
  have HCU : Hid (q.cu = .slice ca L.length cc) := hcu
  have HB : Hid (B ≤ w.heap.size) := hB
  have HNB : Hid (q.cu.ownBlock ≠ some w.heap.size) := fun e => by
    have := (hc.lt _ e).2
    omega
  clear h hc hE hcu hB
  have hl0 : (0 : Int) ≤ (L.length : Int) := by omega
  have h2 : ¬ (64 : Int) ≤ (L.length : Int) := by omega
  have d1 : decide (e0 < E) = false := decide_eq_false h1
  have d2 : decide ((64 : Int) ≤ (L.length : Int)) = false := decide_eq_false h2
  go_enter Try.func8, Try.ntmps8
  go_wp2_with fail
  generalize (w.alloc (.cells #[.int .i64 e0, .bool f0] 42)) = w1 at *
  go_quiet (fail)
  go_wp2_with fail
  have HQ2 : Hid (DiskQ (w1.drewN nq) B g N F k lg q) := HQ1.out.below (dkbelow_drewN (Below.refl _ _) _)
  have HC2 : Hid (CutsAt (w1.drewN nq) B (.slice ca L.length cc) L) := kown_below HC1.out (dkbelow_drewN (Below.refl _ _) _)
  have hb2 : Below w.heap.size w (w1.drewN nq) := dkbelow_drewN hb1 _
  have bx2 : Blk (w1.drewN nq) w.heap.size 42 #[.int .i64 e0, .bool f0] := hbx.below (dkbelow_drewN (Below.refl w1.heap.size w1) _) hbx.lt
  clear HQ1 HC1 hb1 hbx x4 x7 y0 d1 d2
  generalize w1.drewN nq = w2 at *
  have z4 : w2.cell? ⟨g, 4, none⟩ = some (.slice ca L.length cc) := by
    rw [HQ2.out.c, ← HCU.out]
    rfl
  have z0 : w2.cell? ⟨w.heap.size, 0, none⟩ = some (.int .i64 e0) := by rw [bx2.cell]; rfl
  have z1 : w2.cell? ⟨w.heap.size, 1, none⟩ = some (.bool f0) := by rw [bx2.cell]; rfl
  refine wp_region_partsS (fun W => W.cell? ⟨g, 4, none⟩ = some (.slice ca L.length cc) ∧ W.cell? ⟨w.heap.size, 0, none⟩ = some (.int .i64 e0) ∧ W.cell? ⟨w.heap.size, 1, none⟩ = some (.bool f0)) [([0, 1], 2, true), ([], 3, true), ([], 4, true), ([], 5, false), ([], 6, false), ([], 7, false), ([], 8, false), ([], 9, false)] [] [10] (by kernel_rfl) (by kernel_rfl) ⟨z4, z0, z1⟩ (partsI_yield ?_)
  simp only [List.cons_append, List.nil_append, List.append_nil, List.filterMap_cons, List.filterMap_nil, List.getElem?_toArray, List.getElem?_cons_zero, List.getElem?_cons_succ]
  go_wp2_with fail
  refine ⟨rfl, _, .pointer (some ⟨g, 0, none⟩), rfl, Or.inl ⟨by rfl, fun W hW => by go_simp⟩, partsI_yield ?_⟩
  simp only [Act.put, List.setIfInBounds_toArray, List.set_cons_zero, List.set_cons_succ]
  simp only [List.cons_append, List.nil_append, List.append_nil, List.filterMap_cons, List.filterMap_nil, List.getElem?_toArray, List.getElem?_cons_zero, List.getElem?_cons_succ]
  go_wp2_with fail
  refine ⟨rfl, _, .pointer (some ⟨g, 4, none⟩), rfl, Or.inl ⟨by rfl, fun W hW => by go_simp⟩, partsI_yield ?_⟩
  simp only [Act.put, List.setIfInBounds_toArray, List.set_cons_zero, List.set_cons_succ]
  simp only [List.cons_append, List.nil_append, List.append_nil, List.filterMap_cons, List.filterMap_nil, List.getElem?_toArray, List.getElem?_cons_zero, List.getElem?_cons_succ]
  go_wp2_with fail
  refine ⟨rfl, _, .slice ca L.length cc, rfl, Or.inl ⟨by rfl, fun W hW => by obtain ⟨hWa, hWb, hWc⟩ := hW; go_simp⟩, partsI_force ?_⟩
  simp only [Act.put, List.setIfInBounds_toArray, List.set_cons_zero, List.set_cons_succ]
  simp only [List.cons_append, List.nil_append, List.append_nil, List.filterMap_cons, List.filterMap_nil, List.getElem?_toArray, List.getElem?_cons_zero, List.getElem?_cons_succ]
  go_wp2_with fail
  refine ⟨rfl, ⟨z4, z0, z1⟩, partsI_force ?_⟩
  simp only [List.cons_append, List.nil_append, List.append_nil, List.filterMap_cons, List.filterMap_nil, List.getElem?_toArray, List.getElem?_cons_zero, List.getElem?_cons_succ]
  go_wp2_with fail
  have a4 : (w2.alloc (.cells #[.int .i64 e0, .bool f0] 42)).drew.cell? ⟨g, 4, none⟩ = some (.slice ca L.length cc) := by
    have := (HQ2.out.below (show Below w2.heap.size w2 (w2.alloc (.cells #[.int .i64 e0, .bool f0] 42)).drew from ((Below.refl _ _).alloc (Nat.le_refl _) _).drew)).c 4
    rw [this, ← HCU.out]
    rfl
  have a0 : (w2.alloc (.cells #[.int .i64 e0, .bool f0] 42)).drew.cell? ⟨w.heap.size, 0, none⟩ = some (.int .i64 e0) := by
    have : Blk (w2.alloc (.cells #[.int .i64 e0, .bool f0] 42)).drew w.heap.size 42 #[.int .i64 e0, .bool f0] := bx2.alloc _
    rw [this.cell]
    rfl
  have a1 : (w2.alloc (.cells #[.int .i64 e0, .bool f0] 42)).drew.cell? ⟨w.heap.size, 1, none⟩ = some (.bool f0) := by
    have : Blk (w2.alloc (.cells #[.int .i64 e0, .bool f0] 42)).drew w.heap.size 42 #[.int .i64 e0, .bool f0] := bx2.alloc _
    rw [this.cell]
    rfl
  refine ⟨rfl, ⟨a4, a0, a1⟩, partsI_force ?_⟩
  simp only [List.cons_append, List.nil_append, List.append_nil, List.filterMap_cons, List.filterMap_nil, List.getElem?_toArray, List.getElem?_cons_zero, List.getElem?_cons_succ]
  have HOWN : Hid ((w2.alloc (.cells #[.int .i64 e0, .bool f0] 42)).drew.ownsRow B 42 2 (.slice ca L.length cc) L.length (cutCells L)) := World.ownsRow.alloc (w := w2) HC2.out _
  have HX : Hid (∀ j u, [Value.int .i64 e0, .bool f0][j]? = some u → (w2.alloc (.cells #[.int .i64 e0, .bool f0] 42)).drew.cell? ((⟨w2.heap.size, 0, none⟩ : Addr).add j) = some u) := cell_two_new w2 _ _ _
  have HBB : Hid (B ≤ (w2.alloc (.cells #[.int .i64 e0, .bool f0] 42)).drew.heap.size) := by
    have h1 := hb2.size
    have h2 := HB.out
    show B ≤ (w2.alloc _).heap.size
    simp
    omega
  refine wpList_append_own_at rfl _ _ 61 rfl B 42 i0 (.agg #[.int .i64 0, .bool false]) 2 16 Try.underlying61 hi hz0 hz1 hz2 rfl (by decide) _ _ _ rfl HOWN.out ⟨w2.heap.size, 0, none⟩ 1 1 [.int .i64 e0, .bool f0] rfl rfl HX.out (fun u hu => by
    simp at hu
    rcases hu with rfl | rfl <;> rfl) (by unfold maxLen; omega) (by omega) HBB.out ?_
  intro v' w6 hrow hgr hsb
  obtain ⟨xa, xc, hxe⟩ := kown_slice hrow
  subst hxe
  have hsb : (Value.slice xa (L.length + 1) xc).ownBlock = (Value.slice ca L.length cc).ownBlock ∨ (Value.slice xa (L.length + 1) xc).ownBlock = some (w2.alloc (.cells #[.int .i64 e0, .bool f0] 42)).drew.heap.size := hsb
  have hap : (Value.slice ca L.length cc).ownBlock ≠ some g := own_ne HC2.out HQ2.out.cells (by decide)
  have hbo : (Value.slice ca L.length cc).ownBlock ≠ some w.heap.size := fun e => by
    rw [← HCU.out] at e
    exact absurd e HNB.out
  have b6 : ∀ z, z < w2.heap.size → (Value.slice ca L.length cc).ownBlock ≠ some z → w6.heap[z]? = w2.heap[z]? := fun z hz1 hz2 => by
    rw [hgr.block z (show z < (w2.alloc _).heap.size by simp; omega) (fun e => hz2 e.symm)]
    exact (heap_alloc_old _ _ hz1)
  have hB6 : Blk w6 g 64 (dcells q N k) := (b6 g HQ2.out.cells.lt hap).trans HQ2.out.cells
  have bx6 : Blk w6 w.heap.size 42 #[.int .i64 e0, .bool f0] := (b6 _ bx2.lt hbo).trans bx2
  have hvg : (Value.slice xa (L.length + 1) xc).ownBlock ≠ some g := own_ne hrow hB6 (by decide)
  have s4 : w6.cell? ⟨g, 4, none⟩ = some (.slice ca L.length cc) := by
    rw [hB6.cell, ← HCU.out]
    rfl
  have f4 : w6.frozen? ⟨g, 4, none⟩ = false := hB6.frozen 4
  have s0 : w6.cell? ⟨w.heap.size, 0, none⟩ = some (.int .i64 e0) := by rw [bx6.cell]; rfl
  have s1 : w6.cell? ⟨w.heap.size, 1, none⟩ = some (.bool f0) := by rw [bx6.cell]; rfl
  have HBd : Hid (Blk (w6.setCell ⟨g, 4, none⟩ (Value.slice xa (L.length + 1) xc)) g 64 (dcells { q with cu := Value.slice xa (L.length + 1) xc } N k)) := hB6.put 4 _
  have HQ7 : Hid (DiskQ (w6.setCell ⟨g, 4, none⟩ (Value.slice xa (L.length + 1) xc)) B g N F k lg { q with cu := Value.slice xa (L.length + 1) xc }) := HQ2.out.put3 (Nat.le_refl _) q.ev q.dd _ HBd.out fun z hf hz => by
    rw [Deep.blk_setCell_other w6 ⟨g, 4, none⟩ _ z hz]
    exact b6 z (HQ2.out.foots z hf).2 fun e => HQ2.out.cutsApart HC2.out z e hf
  have HC7 : Hid (CutsAt (w6.setCell ⟨g, 4, none⟩ (Value.slice xa (L.length + 1) xc)) B (Value.slice xa (L.length + 1) xc) (L ++ [(e0, f0)])) := by
    have e : cutCells (L ++ [(e0, f0)]) = cutCells L ++ [.int .i64 e0, .bool f0] := by simp [cutCells]
    show World.ownsRow _ _ _ _ _ _ _
    rw [e, List.length_append]
    exact own_block hrow fun z hz => Deep.blk_setCell_other w6 ⟨g, 4, none⟩ _ z fun e => hvg (by rw [← (show z = g from e)]; exact hz)
  have HM7 : Hid (MovedC g N q { q with cu := Value.slice xa (L.length + 1) xc } w (w6.setCell ⟨g, 4, none⟩ (Value.slice xa (L.length + 1) xc))) := by
    have hsz := hgr.size
    have hsz2 : w2.heap.size + 1 ≤ w6.heap.size := by
      have e : (w2.alloc (.cells #[.int .i64 e0, .bool f0] 42)).drew.heap.size = w2.heap.size + 1 := by simp
      omega
    have hw2 := hb2.size
    refine ⟨⟨hgr.os.trans hb2.os, hgr.tape.trans hb2.tape, hgr.output.trans hb2.output, ?_, fun z hz hf => ?_⟩, fun z hz => ?_⟩
    · rw [Deep.nblk_setCell]
      omega
    · rw [Deep.blk_setCell_other w6 ⟨g, 4, none⟩ _ z fun e => hf (.inl (.inl e)), b6 z (by omega) fun e => hf (.inr (by rw [HCU.out]; exact e))]
      exact hb2.block z hz
    · rcases hz with e | e
      · exact .inl (.inl e)
      · have e' : (Value.slice xa (L.length + 1) xc).ownBlock = some z := e
        rcases hsb with e2 | e2
        · exact .inl (.inr (by rw [HCU.out, ← e2]; exact e'))
        · rw [e2] at e'
          injection e' with e'
          have e3 : (w2.alloc (.cells #[.int .i64 e0, .bool f0] 42)).drew.heap.size = w2.heap.size + 1 := by simp
          exact .inr (by omega)
  clear HOWN HX HBB hrow hgr hsb b6 hB6 bx6 HBd a4 a0 a1
  go_wp2_with fail
  refine ⟨rfl, ⟨s4, s0, s1⟩, partsI_force ?_⟩
  simp only [List.cons_append, List.nil_append, List.append_nil, List.filterMap_cons, List.filterMap_nil, List.getElem?_toArray, List.getElem?_cons_zero, List.getElem?_cons_succ]
  go_wp2_with fail
  refine ⟨rfl, ⟨s4, s0, s1⟩, partsI_force ?_⟩
  simp only [List.cons_append, List.nil_append, List.append_nil, List.filterMap_cons, List.filterMap_nil, List.getElem?_toArray, List.getElem?_cons_zero, List.getElem?_cons_succ]
  go_wp2_with fail
  refine ⟨rfl, ⟨s4, s0, s1⟩, partsI_last ?_⟩
  simp only [List.cons_append, List.nil_append, List.append_nil, List.filterMap_cons, List.filterMap_nil, List.getElem?_toArray, List.getElem?_cons_zero, List.getElem?_cons_succ]
  go_wp2_with fail
  refine ⟨rfl, ?_⟩
  try simp only [Exit.inBlock, Exit.then]
  refine bodyPost_end (results_none Try.results8 _ _ _) rfl ?_
  exact ⟨rfl, _, HQ7.out, HC7.out, HM7.out⟩
end
end Go.Proofs.Ytdniigefmlmcdab

namespace Go.Proofs.Ytdniigefmlmcdab
open Go Go.RowKit
set_option linter.unusedSimpArgs false
set_option linter.unusedVariables false

section
variable {B g kk lg c m b n : Nat} {F : Nat → Nat} {q : QD} {k : Rf} {f : Nat → Nat} {h : Int}
theorem dsCut (hq : Quiet q n) (w : World) (hB : B ≤ w.heap.size) (hs : DS w B g F kk lg q c m b k f h) : Calls Try.prog 8 #[.pointer (some ⟨g, 0, none⟩), .agg #[.int .i64 q.ev, .bool false]] w fun e w' => e = .returned (.tuple #[]) ∧ ∃ q', DS w' B g F kk lg q' c m b k f h ∧ QuietC q'.cu false q' n ∧ CutsAt w' B q'.cu [(q'.ev, false)] ∧ Turns (foot g 16 q) w w' ∧ ∀ x, foot g 16 q' x → foot g 16 q x := by
  obtain ⟨a1, a2, a3, a4, a5, a6⟩ := hq
  have hc : CutsAt w B q.cu [] := by
    rw [a3]
    exact World.ownsRow_nil _ _ _ _
  refine (cut_more [] q.ev false (Int.lt_irrefl _) (by decide) w hB hs.disk hc).mono ?_
  rintro e w' ⟨rfl, v, h1, h2, h3⟩
  have hT : Turns (foot g 16 q) w w' := h3.1.mono fun x hx => by
    rcases hx with z | z
    · exact z
    · rw [a3] at z
      cases z
  refine ⟨rfl, _, ⟨h1, hT.blk hs.ca fun z => (hs.ap _ z).1 rfl, hT.blk hs.en fun z => (hs.ap _ z).2.2 rfl, hs.mp.of (hT.block m hs.mp.lt fun z => (hs.ap _ z).2.1 rfl), hs.ap⟩, ⟨a1, a2, rfl, a4, a5, a6⟩, h2, hT, fun x hx => hx⟩
theorem dsEvent (hq : QuietC q.cu false q n) (hn : n < 1000) (hlg : lg < 1000) (w : World) (hB : B ≤ w.heap.size) (hs : DS w B g F kk lg q c m b k f h) (hc : CutsAt w B q.cu [(q.ev, false)]) : Calls Try.prog 10 #[.pointer (some ⟨g, 0, none⟩)] w fun e w' => e = .returned (.tuple #[.bool false, .int .i64 4]) ∧ ∃ q' lg', DS w' B g F kk lg' q' c m b k f h ∧ q'.dd = true ∧ Turns (foot g 16 q) w w' ∧ ∀ x, foot g 16 q' x → foot g 16 q x ∨ w.heap.size ≤ x := by
  have ha : ahB q [(q.ev, false)] = true := by simp [ahB]
  refine (event_c [(q.ev, false)] (by simp) hq (by omega) (by omega) w hB hs.disk hc).mono ?_
  rintro e w' ⟨h1, q', lg', h2, h3, h4, _, _⟩
  rw [ha] at h1 h3
  refine ⟨h1, q', lg', ⟨h2, h4.1.blk hs.ca fun z => (hs.ap _ z).1 rfl, h4.1.blk hs.en fun z => (hs.ap _ z).2.2 rfl, hs.mp.of (h4.1.block m hs.mp.lt fun z => (hs.ap _ z).2.1 rfl), fun x hx => ?_⟩, h3.dd, h4.1, h4.2⟩
  rcases h4.2 x hx with z | z
  · exact hs.ap x z
  · have h5 := hs.ca.lt
    have h6 := hs.en.lt
    have h7 := hs.mp.lt
    omega
end
theorem awakeHas {W : World} {B g kk lg c m b : Nat} {F : Nat → Nat} {q : QD} {f : Nat → Nat} (X : Vector Nat 32) (hs : DS W B g F kk lg q c m b (3, X) f 1) : Calls Try.prog 13 #[.pointer (some ⟨c, 0, none⟩), .agg (rfC (3, X))] W fun e w' => e = .returned (.bool true) ∧ Below W.heap.size W w' := by
  have := caHas_at (3, X) [((3, X), b)] W hs.ca hs.mp
  rw [show (findIn (3, X) [((3, X), b)]).isSome = true by simp [findIn]] at this
  exact this
theorem dead_put (f : Nat → Nat) (X : Vector Nat 32) (hX : X = dgB f) : ∀ (B g c m : Nat) (q : QD) (w : World), Quiet q 0 → B ≤ w.heap.size → DiskQ w B g 16 (fun _ => 0) 0 0 q → ¬ foot g 16 q c → ¬ foot g 16 q m → Blk w c 75 (caC (some ⟨g, 0, none⟩) none 4 m none none 0 0 0 0) → MapIs rfV ptV w m [] → Calls Try.prog 6 #[.pointer (some ⟨c, 0, none⟩), .int .u32 3, .agg (va 256 (iv .u8 f))] w fun e w' => e = .returned (.tuple #[.agg (rfC (3, X)), .int .i64 0]) ∧ ∃ b q', DS w' B g (putAt (fun _ => 0) (3 * 256) 256 f) 1 1 q' c m b (3, X) f 0 ∧ Quiet q' 1 ∧ Turns (cafoot g 16 q c m) w w' ∧ w.heap.size ≤ b := fun B g c m q w hq hB hd hnc hnm hg hm => by
  subst hX
  refine (caPut_first (room := 4) (cn := 0) (by decide) (by decide) 3 (by decide) (by decide) (by decide) f (by decide) (by decide) hq w hB hd hnc hnm hg hm).mono ?_
  rintro e w' ⟨h1, b, q', h2, h3, h4, h5, h6, h7, h8, _, h10⟩
  exact ⟨h1, b, q', ⟨h6, h3, h4, h5, h10⟩, h7, h8, h2⟩
set_option maxRecDepth 100000 in
set_option maxHeartbeats 16000000 in
theorem cacheDeadLaw (f : Nat → Nat) (room : Int) (w : World) : Calls Try.prog 3 #[.agg (va 256 (iv .u8 f)), .int .i64 room] w fun e w' => e = .returned (.bool true) ∧ Below w.heap.size w w' := by
  obtain ⟨i0, hi, hz0, hz1, hz2⟩ := info_parts infoRefA
  obtain ⟨X, hX⟩ : ∃ X, X = dgB f := ⟨_, rfl⟩
  have hP : Hid (∀ (B g c m : Nat) (q : QD) (w : World), Quiet q 0 → B ≤ w.heap.size → DiskQ w B g 16 (fun _ => 0) 0 0 q → ¬ foot g 16 q c → ¬ foot g 16 q m → Blk w c 75 (caC (some ⟨g, 0, none⟩) none 4 m none none 0 0 0 0) → MapIs rfV ptV w m [] → Calls Try.prog 6 #[.pointer (some ⟨c, 0, none⟩), .int .u32 3, .agg (va 256 (iv .u8 f))] w fun e w' => e = .returned (.tuple #[.agg (rfC (3, X)), .int .i64 0]) ∧ ∃ b q', DS w' B g (putAt (fun _ => 0) (3 * 256) 256 f) 1 1 q' c m b (3, X) f 0 ∧ Quiet q' 1 ∧ Turns (cafoot g 16 q c m) w w' ∧ w.heap.size ≤ b) := dead_put f X hX
  clear hX
  have hz := zero_bk
  have hzr := zero_ref
  have hN : Hid (∀ w : World, Calls Try.prog 4 #[.int .i64 16] w fun e w' => ∃ g q, e = .returned (.tuple #[.pointer (some ⟨g, 0, none⟩), .int .i64 0]) ∧ DiskQ w' w.heap.size g 16 (fun _ => 0) 0 0 q ∧ Quiet q 0 ∧ Below w.heap.size w w') := fun w => diskNew_any 16 (by decide) (by decide) w
  have hC : Hid (∀ (g : Nat) (w : World), Calls Try.prog 5 #[.pointer (some ⟨g, 0, none⟩), .pointer none, .int .i64 4] w fun e w' => ∃ c m, e = .returned (.tuple #[.pointer (some ⟨c, 0, none⟩), .int .i64 0]) ∧ (w.heap.size ≤ c ∧ w.heap.size ≤ m) ∧ Blk w' c 75 (caC (some ⟨g, 0, none⟩) none 4 m none none 0 0 0 0) ∧ MapIs rfV ptV w' m [] ∧ Below w.heap.size w w') := fun g w => caNew_ok g none 4 (by decide) (by decide) w
  have hAw : Hid (∀ w : World, Calls Try.prog 7 #[] w fun e w' => e = .returned (.bool true) ∧ Below w.heap.size w w') := awake8_any
  have hbt4 : Hid (Try.prog.built 35 [(0, .int .u32 4)] = some (rfC (4, Vector.replicate 32 0))) := built_ref1 4
  have hG2 : Hid (∀ (s : Nat) (w : World), Blk w s 35 (rfC rf0 ++ rfC (3, X)) → Calls Try.prog 12 #[.pointer none, .slice (some ⟨s, 0, none⟩) 2 2] w fun e w' => e = .returned (.tuple #[.slice none 0 0, .int .i64 1, .int .i64 4]) ∧ Below w.heap.size w w') := fun s w h => getAll_nil2 (3, X) (fun e => by have := congrArg Prod.fst e; simp [rf0] at this) s w h
  have hG1 : Hid (∀ (s : Nat) (w : World), Blk w s 35 (rfC rf0) → Calls Try.prog 12 #[.pointer none, .slice (some ⟨s, 0, none⟩) 1 1] w fun e w' => ∃ a cap, e = .returned (.tuple #[.slice a 1 cap, .int .i64 0, .int .i64 0]) ∧ Below w.heap.size w w') := getAll_nil1
  have hSn : Hid (∀ w : World, Calls Try.prog 11 #[.pointer none] w fun e w' => e = .returned (.tuple #[.slice none 0 0, .int .i64 4]) ∧ w = w') := sweep_nil
  have hSh : Hid (∀ w : World, Calls Try.prog 14 #[.pointer none, .int .i64 room] w fun e w' => e = .returned (.int .i64 1) ∧ w = w') := caShrink_nil room
  have hRm : Hid (∀ w : World, Calls Try.prog 15 #[.pointer none] w fun e w' => e = .returned (.int .i64 0) ∧ w = w') := caRoom_nil
  have l0 : Blk (w.alloc (.cells (va 256 (iv .u8 f)) 23)) w.heap.size 23 (va 256 (iv .u8 f)) := Blk.new _ _ _
  have hb0 : Below w.heap.size w (w.alloc (.cells (va 256 (iv .u8 f)) 23)) := below_new1 _ _
  go_enter Try.func3, Try.ntmps3
  go_wp2_with fail
  generalize (w.alloc (.cells (va 256 (iv .u8 f)) 23)) = v0 at *
  refine (hN.out _).mono ?_
  rintro e v1 ⟨g, q, rfl, hd1, hq1, hb⟩
  have HD1 : Hid (DiskQ v1 v0.heap.size g 16 (fun _ => 0) 0 0 q) := hd1
  have HQ1 : Hid (Quiet q 0) := hq1
  have l1 := l0.below hb l0.lt
  have hb1 : Below w.heap.size w v1 := hb0.trans (hb.mono hb0.size)
  have HB0 : Hid (w.heap.size ≤ v0.heap.size ∧ v0.heap.size ≤ v1.heap.size) := ⟨hb0.size, hb.size⟩
  clear hd1 hq1 hb l0 hb0
  go_wp2_with fail
  refine (hC.out _ _).mono ?_
  rintro e v2 ⟨c, m, rfl, hcm, hg2, hm2, hb⟩
  have HG2 : Hid (Blk v2 c 75 (caC (some ⟨g, 0, none⟩) none 4 m none none 0 0 0 0)) := hg2
  have HM2 : Hid (MapIs rfV ptV v2 m []) := hm2
  have HD2 : Hid (DiskQ v2 v0.heap.size g 16 (fun _ => 0) 0 0 q) := HD1.out.below hb
  have HCM : Hid (v1.heap.size ≤ c ∧ v1.heap.size ≤ m) := hcm
  have HNF : Hid (¬ foot g 16 q c ∧ ¬ foot g 16 q m) := ⟨fun z => by have := (HD1.out.foots _ z).2; have := hcm.1; omega, fun z => by have := (HD1.out.foots _ z).2; have := hcm.2; omega⟩
  have l2 := l1.below hb l1.lt
  have hb2 : Below w.heap.size w v2 := hb1.trans (hb.mono hb1.size)
  have HS2 : Hid (v0.heap.size ≤ v2.heap.size) := Nat.le_trans HB0.out.2 hb.size
  clear hg2 hm2 hcm hb l1 hb1 HD1
  go_wp2_with (first
    | (refine wpList_load_row (by rfl) 23 _ (by rfl) (w.heap.size) (by rfl) 23 (va 256 (iv .u8 f)) (0, 0) _ l2 Try.underlying23 (by rfl) (sizeBk.trans (by rw [va_size])) ?_; simp only [Act.put, List.setIfInBounds_toArray, List.set_cons_zero, List.set_cons_succ])
    | fail)
  refine (hP.out _ g c m q v2 HQ1.out HS2.out HD2.out HNF.out.1 HNF.out.2 HG2.out HM2.out).mono ?_
  rintro e v3 ⟨rfl, b, q3, hs3, hq3, ht3, hb3⟩
  have hlow : Below w.heap.size v2 v3 := ht3.below hb2.size fun z hz => by
    have h1 := HB0.out
    have h2 := HCM.out
    rcases hz with u | u | u
    · exact Nat.le_trans h1.1 (HD2.out.foots z u).1
    · omega
    · omega
  have hb3' : Below w.heap.size w v3 := hb2.trans hlow
  have HBB : Hid (w.heap.size ≤ b) := Nat.le_trans hb2.size hb3
  generalize hF1 : putAt (fun _ => 0) (3 * 256) 256 f = F1 at *
  clear hF1
  have x3 := Blk.new v3 35 (rfC rf0)
  have x4 := x3.set (rfC (3, X))
  have hb : Below v3.heap.size v3 ((v3.alloc (.cells (rfC rf0) 35)).setRow v3.heap.size (rfC (3, X))) := below_setRow (below_new1 _ _) (Nat.le_refl _) _
  have HS4 : Hid (DS ((v3.alloc (.cells (rfC rf0) 35)).setRow v3.heap.size (rfC (3, X))) v0.heap.size g F1 1 1 q3 c m b (3, X) f 0) := hs3.below hb
  have hb4 : Below w.heap.size w ((v3.alloc (.cells (rfC rf0) 35)).setRow v3.heap.size (rfC (3, X))) := hb3'.trans (hb.mono hb3'.size)
  have HQ3 : Hid (Quiet q3 1) := hq3
  have HX3 : Hid (∀ z, foot g 16 q3 z → z ≠ v3.heap.size) := fun z hz => Nat.ne_of_lt (hs3.disk.foots z hz).2
  have HFO : Hid (∀ z, foot g 16 q3 z → w.heap.size ≤ z) := fun z hz => Nat.le_trans HB0.out.1 (hs3.disk.foots z hz).1
  have HCX : Hid (c ≠ v3.heap.size ∧ b ≠ v3.heap.size) := ⟨Nat.ne_of_lt hs3.ca.lt, Nat.ne_of_lt hs3.en.lt⟩
  have HS3 : Hid (v0.heap.size ≤ v3.heap.size) := Nat.le_trans HS2.out (hlow.size)
  clear hs3 hq3 ht3 hb3 hlow hb HG2 HM2 HD2 HQ1 hP hb2 hb3' l2
  go_wp2_with (first
    | (refine wpList_store_row (by rfl) 35 _ _ (by rfl) (v3.heap.size) (rfC (3, X)) (by rfl) (by rfl) 35 (_) (by exact x3) (slSizeRef.trans (by rw [rfC_size])) (by simp only [rfC_size]) (rfC_all _) ?_; simp only [Act.put, List.setIfInBounds_toArray, List.set_cons_zero, List.set_cons_succ])
    | fail)
  clear x3
  generalize ((v3.alloc (.cells (rfC rf0) 35)).setRow v3.heap.size (rfC (3, X))) = v4 at *
  generalize v3.heap.size = x at *
  refine (hAw.out _).mono ?_
  rintro e v5 ⟨rfl, hb⟩
  have x5 := x4.below hb x4.lt
  have HS5 : Hid (DS v5 v0.heap.size g F1 1 1 q3 c m b (3, X) f 0) := HS4.out.below hb
  have hb5 : Below w.heap.size w v5 := hb4.trans (hb.mono hb4.size)
  have HZ5 : Hid (v0.heap.size ≤ v5.heap.size) := by
    have h1 := HS3.out
    have h2 := x5.lt
    show _ ≤ _
    omega
  clear hb x4 HS4 hb4
  go_wp2_with fail
  refine (events_c v5 HS5.out.disk).mono ?_
  rintro e _ ⟨rfl, rfl⟩
  go_wp2_with fail
  refine (dsCut HQ3.out v5 HZ5.out HS5.out).mono ?_
  rintro e v6 ⟨rfl, q6, hs6, hq6, hc6, ht6, hf6⟩
  have x6 := ht6.blk x5 (fun z => HX3.out x z rfl)
  have HS6 : Hid (DS v6 v0.heap.size g F1 1 1 q6 c m b (3, X) f 0) := hs6
  have HQ6 : Hid (QuietC q6.cu false q6 1) := hq6
  have HC6 : Hid (CutsAt v6 v0.heap.size q6.cu [(q6.ev, false)]) := hc6
  have hb6 : Below w.heap.size w v6 := hb5.trans (ht6.below hb5.size fun z hz => HFO.out z hz)
  have HX6 : Hid (¬ foot g 16 q6 x) := fun z => HX3.out x (hf6 x z) rfl
  have HF6 : Hid (∀ z, foot g 16 q6 z → w.heap.size ≤ z) := fun z hz => HFO.out z (hf6 z hz)
  have HZ6 : Hid (v0.heap.size ≤ v6.heap.size) := Nat.le_trans HZ5.out ht6.size
  clear hs6 hq6 hc6 ht6 hf6 x5 HS5 HQ3 hb5 HX3 HFO
  go_wp2_with fail
  refine (dsEvent HQ6.out (by decide) (by decide) v6 HZ6.out HS6.out HC6.out).mono ?_
  rintro e v7 ⟨rfl, q7, lg7, hs7, hd7, ht7, hf7⟩
  have x7 := ht7.blk x6 (fun z => HX6.out z)
  have HS7 : Hid (DS v7 v0.heap.size g F1 1 lg7 q7 c m b (3, X) f 0) := hs7
  have HD7 : Hid (q7.dd = true) := hd7
  have hb7 : Below w.heap.size w v7 := hb6.trans (ht7.below hb6.size fun z hz => HF6.out z hz)
  clear hs7 hd7 ht7 hf7 x6 HS6 HQ6 HC6 hb6 HF6 HX6
  go_wp2_with fail
  refine (sweep_dead (3, X) (by show (3 : Nat) ≠ 0; decide) (by show 3 < 16; decide) (by decide) f HD7.out v7 HS7.out.disk HS7.out.ca HS7.out.en HS7.out.mp).mono ?_
  rintro e v8 ⟨rfl, hb⟩
  have x8 := x7.below hb x7.lt
  have HS8 : Hid (DS v8 v0.heap.size g F1 1 lg7 q7 c m b (3, X) f 0) := HS7.out.below hb
  have hb8 : Below w.heap.size w v8 := hb7.trans (hb.mono hb7.size)
  clear hb x7 HS7 hb7
  have y9 := Blk.new v8 35 (rfC (3, X) ++ rfC (4, Vector.replicate 32 0))
  have hb : Below v8.heap.size v8 (v8.alloc (.cells (rfC (3, X) ++ rfC (4, Vector.replicate 32 0)) 35)) := below_new1 _ _
  have x9 := x8.below hb x8.lt
  have HS9 : Hid (DS (v8.alloc (.cells (rfC (3, X) ++ rfC (4, Vector.replicate 32 0)) 35)) v0.heap.size g F1 1 lg7 q7 c m b (3, X) f 0) := HS8.out.below hb
  have hb9 : Below w.heap.size w (v8.alloc (.cells (rfC (3, X) ++ rfC (4, Vector.replicate 32 0)) 35)) := hb8.trans (hb.mono hb8.size)
  clear hb HS8
  go_wp2_with (first
    | (refine wpList_load_rowg (by rfl) 35 _ (by rfl) (x) (by rfl) 35 (rfC (3, X)) (0, 0) _ (by exact x8) Try.underlying35 (by rfl) (slSizeRef.trans (by rw [rfC_size])) ?_; simp only [Act.put, List.setIfInBounds_toArray, List.set_cons_zero, List.set_cons_succ])
    | (refine ca_build1 (by rfl) 35 _ (by rfl) (.int .u32 4) (by rfl) (rfC (4, Vector.replicate 32 0)) (by exact hbt4.out) ?_; simp only [Act.put, List.setIfInBounds_toArray, List.set_cons_zero, List.set_cons_succ])
    | (refine ca_buildTwo (by rfl) 45 35 _ _ (by rfl) (rfC (3, X)) (rfC (4, Vector.replicate 32 0)) (by rfl) (by rfl) i0 _ 33 Try.underlying45 hi hz0 hz1 (rfC_size _) (rfC_size _) (by decide) (by decide) ?_; simp only [Act.put, List.setIfInBounds_toArray, List.set_cons_zero, List.set_cons_succ])
    | fail)
  clear x8 hb8
  generalize (v8.alloc (.cells (rfC (3, X) ++ rfC (4, Vector.replicate 32 0)) 35)) = v9 at *
  refine (getAll_c (k := (3, X)) (by show (3 : Nat) ≠ 0; decide) (4, Vector.replicate 32 0) (by show (4 : Nat) ≠ 0; decide) (by show 4 < 16; decide) (fun e => by have := congrArg Prod.fst e; simp at this) HD7.out v8.heap.size v9 HS9.out y9).mono ?_
  rintro e va ⟨rfl, hsa, hta⟩
  have xa := hta.blk x9 (fun z => by have := HCX.out; rcases z with z | z <;> omega)
  have HSa : Hid (DS va v0.heap.size g F1 1 lg7 q7 c m b (3, X) f 1) := hsa
  have hba : Below w.heap.size w va := hb9.trans (hta.below hb9.size fun z hz => by
    have h1 := HCM.out
    have h2 := HBB.out
    have h3 := HB0.out
    rcases hz with u | u <;> omega)
  clear hsa hta x9 y9 HS9 hb9
  go_wp2_with (first
    | (refine wpList_load_rowg (by rfl) 35 _ (by rfl) (x) (by rfl) 35 (rfC (3, X)) (0, 0) _ (by exact xa) Try.underlying35 (by rfl) (slSizeRef.trans (by rw [rfC_size])) ?_; simp only [Act.put, List.setIfInBounds_toArray, List.set_cons_zero, List.set_cons_succ])
    | fail)
  refine (awakeHas X HSa.out).mono ?_
  rintro e vb ⟨rfl, hb⟩
  have xb := xa.below hb xa.lt
  have hbb : Below w.heap.size w vb := hba.trans (hb.mono hba.size)
  clear hb xa hba HSa
  go_wp2_with fail
  refine (hSn.out _).mono ?_
  rintro e _ ⟨rfl, rfl⟩
  have yc := Blk.new vb 35 (rfC rf0 ++ rfC (3, X))
  have hbc : Below w.heap.size w (vb.alloc (.cells (rfC rf0 ++ rfC (3, X)) 35)) := hbb.alloc hbb.size _
  go_wp2_with (first
    | (refine wpList_load_rowg (by rfl) 35 _ (by rfl) (x) (by rfl) 35 (rfC (3, X)) (0, 0) _ (by exact xb) Try.underlying35 (by rfl) (slSizeRef.trans (by rw [rfC_size])) ?_; simp only [Act.put, List.setIfInBounds_toArray, List.set_cons_zero, List.set_cons_succ])
    | (refine ca_buildTwo (by rfl) 45 35 _ _ (by rfl) (rfC rf0) (rfC (3, X)) (by rfl) (by rfl) i0 _ 33 Try.underlying45 hi hz0 hz1 (rfC_size _) (rfC_size _) (by decide) (by decide) ?_; simp only [Act.put, List.setIfInBounds_toArray, List.set_cons_zero, List.set_cons_succ])
    | fail)
  clear xb hbb
  generalize (vb.alloc (.cells (rfC rf0 ++ rfC (3, X)) 35)) = vc at *
  refine (hG2.out _ _ yc).mono ?_
  rintro e vd ⟨rfl, hb⟩
  have hbd : Below w.heap.size w vd := hbc.trans (hb.mono hbc.size)
  clear hb yc hbc
  have ye := Blk.new vd 35 (rfC rf0)
  have hbe : Below w.heap.size w (vd.alloc (.cells (rfC rf0) 35)) := hbd.alloc hbd.size _
  go_wp2_with (first
    | (refine wpList_build1 (by rfl) 45 35 _ (by rfl) (rfC rf0) (by rfl) i0 _ 33 Try.underlying45 hi hz0 hz1 (rfC_size _) (by decide) (by decide) ?_; simp only [Act.put, List.setIfInBounds_toArray, List.set_cons_zero, List.set_cons_succ])
    | fail)
  clear hbd
  generalize (vd.alloc (.cells (rfC rf0) 35)) = ve at *
  refine (hG1.out _ _ ye).mono ?_
  rintro e vf ⟨a, cap, rfl, hb⟩
  have hbf : Below w.heap.size w vf := hbe.trans (hb.mono hbe.size)
  clear hb ye hbe
  go_wp2_with fail
  refine (hSh.out _).mono ?_
  rintro e _ ⟨rfl, rfl⟩
  go_wp2_with fail
  refine (hRm.out _).mono ?_
  rintro e _ ⟨rfl, rfl⟩
  go_wp2_with fail
  go_ret
  exact ⟨rfl, hbf⟩
end Go.Proofs.Ytdniigefmlmcdab
