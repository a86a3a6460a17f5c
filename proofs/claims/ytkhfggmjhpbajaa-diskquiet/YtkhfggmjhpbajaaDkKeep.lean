/- What a block held from a raw step on, kept: the program's contract of keep, at a step that was not kept before. -/
import Derived.Test.YtkhfggmjhpbajaaDkFns
import Derived.Test.YtkhfggmjhpbajaaSegsS
import Derived.Test.YtkhfggmjhpbajaaBlkGroups
import Derived.Handy
namespace Go.Proofs.Ytkhfggmjhpbajaa
open Go Go.RowKit
set_option linter.unusedSimpArgs false
set_option linter.unusedVariables false

theorem vbK (b : Nat → Nat) : bK (blkD b) = .agg (va 256 (iv .u8 b)) := bK_blkD b
theorem own_grown {w w' : World} {o : Option Nat} (h : w.grownBy w' o) : Turns (fun z => o = some z) w w' := ⟨h.os, h.tape, h.output, h.size, fun b hb hn => h.block b hb fun e => hn e.symm⟩
set_option maxRecDepth 100000 in
set_option maxHeartbeats 8000000 in
theorem keep_new (B r step at0 : Nat) (sv : Value) (G : List (List Nat)) (ss : List Value) (l : List ((Int × Int) × Vector Nat 256)) (b : Nat → Nat) (hat : at0 < G.length) (hGl : G.length ≤ 8192) (hlen : (G.getD at0 []).length ≤ 1099511627776) (hn : findIn ((step : Int), (at0 : Int)) l = none)
    (w : World) (hB : B ≤ w.heap.size) (hM : MapIs momK bK w r l) (hG : GrpAt w B sv G ss) :
    Calls Try.prog 53 #[.agg #[.map (some r), sv], .int .i64 (step : Int), .int .i64 (at0 : Int), .agg (va 256 (iv .u8 b))] w fun e w' => e = .returned (.tuple #[]) ∧ ∃ s', MapIs momK bK w' r (l ++ [(((step : Int), (at0 : Int)), blkD b)]) ∧ GrpAt w' B sv (G.set at0 (G.getD at0 [] ++ [step])) (ss.set at0 s') ∧ (s'.ownBlock = (ss.getD at0 undef).ownBlock ∨ ∃ k, s'.ownBlock = some k ∧ w.heap.size ≤ k) ∧ Turns (fun z => z = r ∨ sv.ownBlock = some z ∨ (ss.getD at0 undef).ownBlock = some z) w w' := by
  have hz := zero_bk
  obtain ⟨i0, hi, hz0, hz1, hz2⟩ := info_parts infoInt
  obtain ⟨gv, c, rfl, hgv, hgvl⟩ := kown_form hG.row (show 0 < G.length by omega)
  have hrl : r < w.heap.size := by
    obtain ⟨es, cl, hg, _⟩ := hM
    exact (Array.getElem?_eq_some_iff.1 hg).1
  have j0 : (0 : Int) ≤ (at0 : Int) := by omega
  have j1 : (at0 : Int) < (G.length : Int) := by omega
  have hb2 : Below w.heap.size w (((w.alloc (.cells #[.map (some r), .slice (some ⟨gv, 0, none⟩) G.length c] 83)).alloc (.cells (va 256 (iv .u8 b)) 55)).alloc (.cells #[.int .i64 (step : Int), .int .i64 (at0 : Int)] 117)) := below_new3 _ _ _ _
  have hlk := run_lookup_is (P := Try.prog) Try.underlying80 mom_key zero_bk (hM.below hb2 hrl) ((step : Int), (at0 : Int)) true
  rw [hn] at hlk
  have hlk2 : Sem.run Try.prog (Instr.lookup 80 (.map (some r)) (.agg #[.int .i64 (step : Int), .int .i64 (at0 : Int)]) true) (((w.alloc (.cells #[.map (some r), .slice (some ⟨gv, 0, none⟩) G.length c] 83)).alloc (.cells (va 256 (iv .u8 b)) 55)).alloc (.cells #[.int .i64 (step : Int), .int .i64 (at0 : Int)] 117)) = .ok (.tuple #[.agg (va 256 (iv .u8 fun _ => 0)), .bool false]) (((w.alloc (.cells #[.map (some r), .slice (some ⟨gv, 0, none⟩) G.length c] 83)).alloc (.cells (va 256 (iv .u8 b)) 55)).alloc (.cells #[.int .i64 (step : Int), .int .i64 (at0 : Int)] 117)) := hlk
  have r3 : Blk ((((w.alloc (.cells #[.map (some r), .slice (some ⟨gv, 0, none⟩) G.length c] 83)).alloc (.cells (va 256 (iv .u8 b)) 55)).alloc (.cells #[.int .i64 (step : Int), .int .i64 (at0 : Int)] 117)).alloc (.cells (va 256 (iv .u8 fun _ => 0)) 55)) (w.heap.size + 3) 55 (va 256 (iv .u8 fun _ => 0)) := by
    have := Blk.new (((w.alloc (.cells #[.map (some r), .slice (some ⟨gv, 0, none⟩) G.length c] 83)).alloc (.cells (va 256 (iv .u8 b)) 55)).alloc (.cells #[.int .i64 (step : Int), .int .i64 (at0 : Int)] 117)) 55 (va 256 (iv .u8 fun _ => 0))
    rwa [show (((w.alloc (.cells #[.map (some r), .slice (some ⟨gv, 0, none⟩) G.length c] 83)).alloc (.cells (va 256 (iv .u8 b)) 55)).alloc (.cells #[.int .i64 (step : Int), .int .i64 (at0 : Int)] 117)).heap.size = w.heap.size + 3 by simp] at this
  have k0 : Blk (((w.alloc (.cells #[.map (some r), .slice (some ⟨gv, 0, none⟩) G.length c] 83)).alloc (.cells (va 256 (iv .u8 b)) 55)).alloc (.cells #[.int .i64 (step : Int), .int .i64 (at0 : Int)] 117)) w.heap.size 83 #[.map (some r), .slice (some ⟨gv, 0, none⟩) G.length c] := ((Blk.new _ _ _).alloc _).alloc _
  have k1 : Blk (((w.alloc (.cells #[.map (some r), .slice (some ⟨gv, 0, none⟩) G.length c] 83)).alloc (.cells (va 256 (iv .u8 b)) 55)).alloc (.cells #[.int .i64 (step : Int), .int .i64 (at0 : Int)] 117)) (w.heap.size + 1) 55 (va 256 (iv .u8 b)) := (Blk.new1 _ _ _ _).alloc _
  have k2 : Blk (((w.alloc (.cells #[.map (some r), .slice (some ⟨gv, 0, none⟩) G.length c] 83)).alloc (.cells (va 256 (iv .u8 b)) 55)).alloc (.cells #[.int .i64 (step : Int), .int .i64 (at0 : Int)] 117)) (w.heap.size + 2) 117 #[.int .i64 (step : Int), .int .i64 (at0 : Int)] := Blk.new2 _ _ _ _ _
  have hs2 : (((w.alloc (.cells #[.map (some r), .slice (some ⟨gv, 0, none⟩) G.length c] 83)).alloc (.cells (va 256 (iv .u8 b)) 55)).alloc (.cells #[.int .i64 (step : Int), .int .i64 (at0 : Int)] 117)).heap.size = w.heap.size + 3 := by simp
  clear hlk
  go_enter Try.func53, Try.ntmps53
  go_wp2_with (first
    | (refine wpList_store_row (by rfl) 55 _ _ (by rfl) (w.heap.size + 3) (va 256 (iv .u8 (fun _ => 0))) (by rfl) (by rfl) 55 _ r3 (sizeBk.trans (by rw [va_size])) (by simp only [va_size]) (iv_one _ _ _) ?_; simp only [Act.put, List.setIfInBounds_toArray, List.set_cons_zero, List.set_cons_succ])
    | fail)
  have hb3 : Below w.heap.size w (((((w.alloc (.cells #[.map (some r), .slice (some ⟨gv, 0, none⟩) G.length c] 83)).alloc (.cells (va 256 (iv .u8 b)) 55)).alloc (.cells #[.int .i64 (step : Int), .int .i64 (at0 : Int)] 117)).alloc (.cells (va 256 (iv .u8 fun _ => 0)) 55)).setRow (w.heap.size + 3) (va 256 (iv .u8 fun _ => 0))) := below_setRow (hb2.alloc (by omega) _) (by omega) _
  have m0 : Blk (((((w.alloc (.cells #[.map (some r), .slice (some ⟨gv, 0, none⟩) G.length c] 83)).alloc (.cells (va 256 (iv .u8 b)) 55)).alloc (.cells #[.int .i64 (step : Int), .int .i64 (at0 : Int)] 117)).alloc (.cells (va 256 (iv .u8 fun _ => 0)) 55)).setRow (w.heap.size + 3) (va 256 (iv .u8 fun _ => 0))) w.heap.size 83 #[.map (some r), .slice (some ⟨gv, 0, none⟩) G.length c] := (k0.alloc _).other _ (by omega)
  have m1 : Blk (((((w.alloc (.cells #[.map (some r), .slice (some ⟨gv, 0, none⟩) G.length c] 83)).alloc (.cells (va 256 (iv .u8 b)) 55)).alloc (.cells #[.int .i64 (step : Int), .int .i64 (at0 : Int)] 117)).alloc (.cells (va 256 (iv .u8 fun _ => 0)) 55)).setRow (w.heap.size + 3) (va 256 (iv .u8 fun _ => 0))) (w.heap.size + 1) 55 (va 256 (iv .u8 b)) := (k1.alloc _).other _ (by omega)
  have m2 : Blk (((((w.alloc (.cells #[.map (some r), .slice (some ⟨gv, 0, none⟩) G.length c] 83)).alloc (.cells (va 256 (iv .u8 b)) 55)).alloc (.cells #[.int .i64 (step : Int), .int .i64 (at0 : Int)] 117)).alloc (.cells (va 256 (iv .u8 fun _ => 0)) 55)).setRow (w.heap.size + 3) (va 256 (iv .u8 fun _ => 0))) (w.heap.size + 2) 117 #[.int .i64 (step : Int), .int .i64 (at0 : Int)] := (k2.alloc _).other _ (by omega)
  clear k0 k1 k2 hlk2 hb2 r3 hs2
  generalize ((((w.alloc (.cells #[.map (some r), .slice (some ⟨gv, 0, none⟩) G.length c] 83)).alloc (.cells (va 256 (iv .u8 b)) 55)).alloc (.cells #[.int .i64 (step : Int), .int .i64 (at0 : Int)] 117)).alloc (.cells (va 256 (iv .u8 fun _ => 0)) 55)).setRow (w.heap.size + 3) (va 256 (iv .u8 fun _ => 0)) = w3 at *
  have hG3 := hG.below hb3
  have hM3 := hM.below hb3 hrl
  have hsz3 : w.heap.size ≤ w3.heap.size := hb3.size
  obtain ⟨S, hS0⟩ : ∃ S, S = ss.getD at0 undef := ⟨_, rfl⟩
  obtain ⟨Gj, hGj⟩ : ∃ Gj, Gj = G.getD at0 [] := ⟨_, rfl⟩
  have hsl := hG.len
  have hcell : w3.cell? ⟨gv, at0, none⟩ = some S := by
    rw [hG3.row.cellAt (g := gv) at0 (by omega), hS0]
    simp [List.getD, hsl, hat]
  have hE := hG3.each at0 hat
  rw [← hS0, ← hGj] at hE
  have HSv : Hid (S = ss.getD at0 undef) := hS0
  have HGJ : Hid (Gj = G.getD at0 []) := hGj
  have HEACH : Hid (w3.ownsRow B 3 1 S Gj.length (intL Gj)) := hE
  rw [← hGj] at hlen
  have HOWN : Hid ((w3.alloc (.cells #[.int .i64 (step : Int)] 3)).drew.ownsRow B 3 1 S Gj.length (intL Gj)) := World.ownsRow.alloc (w := w3) hE _
  have hSb : ∀ x, S.ownBlock = some x → B ≤ x ∧ x < w3.heap.size := hE.lt
  have HG3 : Hid (GrpAt w3 B (.slice (some ⟨gv, 0, none⟩) G.length c) G ss) := hG3
  have HM3 : Hid (MapIs momK bK w3 r l) := hM3
  have d1 : w3.cell? ⟨w.heap.size, 1, none⟩ = some (.slice (some ⟨gv, 0, none⟩) G.length c) := by rw [m0.cell]; rfl
  have HG : Hid (GrpAt w B (.slice (some ⟨gv, 0, none⟩) G.length c) G ss) := hG
  clear hS0 hGj hE hG3 hM3 hG
  refine wp_region_partsS (fun W => W.cell? ⟨w.heap.size, 1, none⟩ = some (.slice (some ⟨gv, 0, none⟩) G.length c) ∧ W.cell? ⟨gv, at0, none⟩ = some S) [([2, 5, 8], 0, true), ([], 1, true), ([], 3, true), ([], 4, true), ([6], 7, true), ([], 9, false), ([], 10, false)] [] [11, 12] (by kernel_rfl) (by kernel_rfl) ⟨d1, hcell⟩ (partsI_yield ?_)
  simp only [List.cons_append, List.nil_append, List.append_nil, List.filterMap_cons, List.filterMap_nil, List.getElem?_toArray, List.getElem?_cons_zero, List.getElem?_cons_succ]
  go_wp2_with fail
  refine ⟨rfl, _, .pointer (some ⟨w.heap.size, 1, none⟩), rfl, Or.inl ⟨by rfl, fun W hW => by go_simp⟩, partsI_yield ?_⟩
  simp only [Act.put, List.setIfInBounds_toArray, List.set_cons_zero, List.set_cons_succ]
  simp only [List.cons_append, List.nil_append, List.append_nil, List.filterMap_cons, List.filterMap_nil, List.getElem?_toArray, List.getElem?_cons_zero, List.getElem?_cons_succ]
  go_wp2_with fail
  refine ⟨rfl, _, .slice (some ⟨gv, 0, none⟩) G.length c, rfl, Or.inl ⟨by rfl, fun W hW => by obtain ⟨hW1, hW2⟩ := hW; go_simp⟩, partsI_yield ?_⟩
  simp only [Act.put, List.setIfInBounds_toArray, List.set_cons_zero, List.set_cons_succ]
  simp only [List.cons_append, List.nil_append, List.append_nil, List.filterMap_cons, List.filterMap_nil, List.getElem?_toArray, List.getElem?_cons_zero, List.getElem?_cons_succ]
  go_wp2_with fail
  refine ⟨rfl, _, .pointer (some ⟨w.heap.size, 1, none⟩), rfl, Or.inl ⟨by rfl, fun W hW => by go_simp⟩, partsI_yield ?_⟩
  simp only [Act.put, List.setIfInBounds_toArray, List.set_cons_zero, List.set_cons_succ]
  simp only [List.cons_append, List.nil_append, List.append_nil, List.filterMap_cons, List.filterMap_nil, List.getElem?_toArray, List.getElem?_cons_zero, List.getElem?_cons_succ]
  go_wp2_with fail
  refine ⟨rfl, _, .slice (some ⟨gv, 0, none⟩) G.length c, rfl, Or.inl ⟨by rfl, fun W hW => by obtain ⟨hW1, hW2⟩ := hW; go_simp⟩, partsI_yield ?_⟩
  simp only [Act.put, List.setIfInBounds_toArray, List.set_cons_zero, List.set_cons_succ]
  simp only [List.cons_append, List.nil_append, List.append_nil, List.filterMap_cons, List.filterMap_nil, List.getElem?_toArray, List.getElem?_cons_zero, List.getElem?_cons_succ]
  go_wp2_with fail
  refine ⟨rfl, _, S, rfl, Or.inl ⟨by rfl, fun W hW => by obtain ⟨hW1, hW2⟩ := hW; go_simp⟩, partsI_force ?_⟩
  simp only [Act.put, List.setIfInBounds_toArray, List.set_cons_zero, List.set_cons_succ]
  simp only [List.cons_append, List.nil_append, List.append_nil, List.filterMap_cons, List.filterMap_nil, List.getElem?_toArray, List.getElem?_cons_zero, List.getElem?_cons_succ]
  go_wp2_with fail
  have a0 : Blk (w3.alloc (.cells #[.int .i64 (step : Int)] 3)).drew w.heap.size 83 #[.map (some r), .slice (some ⟨gv, 0, none⟩) G.length c] := m0.alloc _
  have hGa : GrpAt (w3.alloc (.cells #[.int .i64 (step : Int)] 3)).drew B (.slice (some ⟨gv, 0, none⟩) G.length c) G ss := HG3.out.below (Below.drew (Below.alloc (Below.refl _ w3) (Nat.le_refl _) _))
  have ca : (w3.alloc (.cells #[.int .i64 (step : Int)] 3)).drew.cell? ⟨gv, at0, none⟩ = some S := by
    rw [hGa.row.cellAt (g := gv) at0 (by omega), HSv.out]
    simp [List.getD, hsl, hat]
  refine ⟨rfl, ⟨by rw [a0.cell]; rfl, ca⟩, partsI_force ?_⟩
  simp only [List.cons_append, List.nil_append, List.append_nil, List.filterMap_cons, List.filterMap_nil, List.getElem?_toArray, List.getElem?_cons_zero, List.getElem?_cons_succ]
  refine wpList_append_own_at rfl _ _ 71 rfl B 3 i0 (.int .i64 0) 1 8 Try.underlying71 hi hz0 hz1 hz2 rfl (by decide) _ _ _ rfl HOWN.out ⟨w3.heap.size, 0, none⟩ 1 1 [.int .i64 (step : Int)] rfl rfl (cell_one_new _ _ _) (fun x hx => by simp at hx; subst hx; rfl) (by unfold maxLen; omega) (by omega) (by simp; omega) ?_
  intro s' w4 hrow hgr hsb
  obtain ⟨sa, sc, rfl⟩ := kown_slice hrow
  have hSne : S.ownBlock ≠ some gv := fun qq => own_own HEACH.out HG3.out.row (by decide) qq rfl
  have hrow4 := hGa.row.kept hgr (.inr fun qq => hSne qq.symm)
  have c4 : w4.cell? ⟨gv, at0, none⟩ = some S := by
    have := hrow4.cellAt (g := gv) at0 (by omega)
    rw [this, HSv.out]
    simp [List.getD, hsl, hat]
  have f4 : w4.frozen? ⟨gv, at0, none⟩ = false := by
    rcases hrow4.2 with ⟨hn, _⟩ | ⟨g', cap', cur, hv, _, hg, _⟩
    · cases hn
    · injection hv with hv1
      injection hv1 with hv1
      injection hv1 with hv1
      subst hv1
      exact Blk.frozen (show Blk w4 gv 71 cur from hg) at0
  have b4 : ∀ z, z < w3.heap.size → S.ownBlock ≠ some z → w4.heap[z]? = w3.heap[z]? := fun z hz1 hz2 => by
    rw [hgr.block z (by simp; omega) (fun e => hz2 e.symm)]
    exact (heap_alloc_old _ _ hz1)
  have n0 : S.ownBlock ≠ some w.heap.size := own_ne HEACH.out m0 (by decide)
  have n1 : S.ownBlock ≠ some (w.heap.size + 1) := own_ne HEACH.out m1 (by decide)
  have n2 : S.ownBlock ≠ some (w.heap.size + 2) := own_ne HEACH.out m2 (by decide)
  have p0 : Blk w4 w.heap.size 83 #[.map (some r), .slice (some ⟨gv, 0, none⟩) G.length c] := (b4 _ m0.lt n0).trans m0
  have p1 : Blk w4 (w.heap.size + 1) 55 (va 256 (iv .u8 b)) := (b4 _ m1.lt n1).trans m1
  have p2 : Blk w4 (w.heap.size + 2) 117 #[.int .i64 (step : Int), .int .i64 (at0 : Int)] := (b4 _ m2.lt n2).trans m2
  go_wp2_with fail
  refine ⟨rfl, ⟨by rw [p0.cell]; rfl, c4⟩, partsI_last ?_⟩
  simp only [List.cons_append, List.nil_append, List.append_nil, List.filterMap_cons, List.filterMap_nil, List.getElem?_toArray, List.getElem?_cons_zero, List.getElem?_cons_succ]
  go_wp2_with fail
  refine ⟨rfl, ?_⟩
  have q0 : Blk (w4.setCell ⟨gv, at0, none⟩ (.slice sa (Gj.length + 1) sc)) w.heap.size 83 #[.map (some r), .slice (some ⟨gv, 0, none⟩) G.length c] := p0.put_other _ _ (by omega)
  have q1 : Blk (w4.setCell ⟨gv, at0, none⟩ (.slice sa (Gj.length + 1) sc)) (w.heap.size + 1) 55 (va 256 (iv .u8 b)) := p1.put_other _ _ (by omega)
  have q2 : Blk (w4.setCell ⟨gv, at0, none⟩ (.slice sa (Gj.length + 1) sc)) (w.heap.size + 2) 117 #[.int .i64 (step : Int), .int .i64 (at0 : Int)] := p2.put_other _ _ (by omega)
  have HGP : Hid (GrpAt (w4.setCell ⟨gv, at0, none⟩ (.slice sa (Gj.length + 1) sc)) B (.slice (some ⟨gv, 0, none⟩) G.length c) (G.set at0 (G.getD at0 [] ++ [step])) (ss.set at0 (.slice sa (Gj.length + 1) sc))) := by
    refine hGa.push hat ?_ ?_ ?_
    · rw [← HGJ.out]
      exact hrow
    · rw [← HSv.out]
      exact hgr
    · rw [← HSv.out]
      rcases hsb with h1 | h1
      · exact .inl h1
      · exact .inr ⟨_, h1, Nat.le_refl _⟩
  have hrS : S.ownBlock ≠ some r := by
    obtain ⟨es, cl, hg, _⟩ := HM3.out
    exact own_map HEACH.out hg
  have hrg : r ≠ gv := fun e => by
    obtain ⟨es, cl, hg, _⟩ := HM3.out
    exact own_map HG3.out.row hg (by rw [e]; rfl)
  have HT5 : Hid (Turns (fun z => z = r ∨ gv = z ∨ S.ownBlock = some z) w (w4.setCell ⟨gv, at0, none⟩ (.slice sa (Gj.length + 1) sc))) := by
    refine ⟨hgr.os.trans hb3.os, hgr.tape.trans hb3.tape, hgr.output.trans hb3.output, ?_, fun z hz hn => ?_⟩
    · rw [Deep.nblk_setCell]
      have := hgr.size
      simp at this
      omega
    · have h1 : z ≠ gv := fun e => hn (.inr (.inl e.symm))
      have h2 : S.ownBlock ≠ some z := fun e => hn (.inr (.inr e))
      rw [Deep.blk_setCell_other w4 ⟨gv, at0, none⟩ _ z h1, b4 z (by omega) h2]
      exact hb3.block z hz
  have hM5 : MapIs momK bK (w4.setCell ⟨gv, at0, none⟩ (.slice sa (Gj.length + 1) sc)) r l := by
    obtain ⟨es, cl, hg, he⟩ := HM3.out
    refine ⟨es, cl, ?_, he⟩
    rw [Deep.blk_setCell_other w4 ⟨gv, at0, none⟩ _ r hrg, b4 r (by omega) hrS]
    exact hg
  have HSB : Hid ((Value.slice sa (Gj.length + 1) sc).ownBlock = S.ownBlock ∨ ∃ k, (Value.slice sa (Gj.length + 1) sc).ownBlock = some k ∧ w.heap.size ≤ k) := by
    rcases hsb with h1 | h1
    · exact .inl h1
    · exact .inr ⟨_, h1, by show w.heap.size ≤ (w3.alloc _).heap.size; simp; omega⟩
  clear hGa ca HOWN hrow hgr hsb hrow4 c4 f4 b4 n0 n1 n2 p0 p1 p2 a0 HEACH
  generalize w4.setCell ⟨gv, at0, none⟩ (.slice sa (Gj.length + 1) sc) = w5 at *
  obtain ⟨w6, hup, hM6, hk6⟩ := run_update_is (P := Try.prog) Try.underlying80 mom_key hM5 ((step : Int), (at0 : Int)) (blkD b) hn
  have hup2 : Sem.run Try.prog (Instr.mapUpdate 80 (.map (some r)) (.agg #[.int .i64 (step : Int), .int .i64 (at0 : Int)]) (.agg (va 256 (iv .u8 b)))) w5 = .ok () w6 := by
    rw [← vbK]
    exact hup
  have x0 : w5.cell? ⟨w.heap.size, 0, none⟩ = some (.map (some r)) := by rw [q0.cell]; rfl
  have y0 : w5.cell? ⟨w.heap.size + 2, 0, none⟩ = some (.int .i64 (step : Int)) := by rw [q2.cell]; rfl
  have y1 : w5.cell? ⟨w.heap.size + 2, 1, none⟩ = some (.int .i64 (at0 : Int)) := by rw [q2.cell]; rfl
  clear hup
  go_wp2_with (first
    | (refine wpList_load_row (by rfl) 55 _ (by rfl) (w.heap.size + 1) (by rfl) 55 (va 256 (iv .u8 b)) (0, 0) _ q1 Try.underlying55 (by rfl) (sizeBk.trans (by rw [va_size])) ?_; simp only [Act.put, List.setIfInBounds_toArray, List.set_cons_zero, List.set_cons_succ])
    | fail)
  refine bodyPost_end (results_none Try.results53 _ _ _) rfl ?_
  have hkg : ∀ {v : Value} {e m : Nat} {xs : List Value}, w5.ownsRow B e 1 v m xs → w6.ownsRow B e 1 v m xs := fun hh => own_block hh fun z hz => hk6.2 z (fun e => by
    obtain ⟨es, cl, hg, _⟩ := hM5
    exact own_map hh hg (e ▸ hz)) (hh.lt z hz).2
  refine ⟨rfl, _, hM6, ⟨hkg HGP.out.row, fun j hj => hkg (HGP.out.each j hj), HGP.out.apart⟩, ?_, ?_⟩
  · rw [← HSv.out]
    exact HSB.out
  · rw [← HSv.out]
    have hT6 : Turns (fun z => z = r) w5 w6 := ⟨hk6.1.os, hk6.1.tape, hk6.1.output, hk6.1.size, fun z hz hn => hk6.2 z hn hz⟩
    refine (HT5.out.trans hT6 fun z hz => .inl (.inl hz)).mono fun z hz => ?_
    rcases hz with h1 | h1 | h1
    · exact .inl h1
    · exact .inr (.inl (by rw [h1]; rfl))
    · exact .inr (.inr h1)
end Go.Proofs.Ytkhfggmjhpbajaa
