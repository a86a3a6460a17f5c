/- A block of a quiet disk read: the program's contract of Read. -/
import Derived.Test.YtkhfggmjhpbajaaDkWrite
import Derived.Handy
namespace Go.Proofs.Ytkhfggmjhpbajaa
open Go Go.RowKit
set_option linter.unusedSimpArgs false
set_option linter.unusedVariables false

section
variable {B g N k lg : Nat} {F : Nat → Nat} {q : QD}
set_option maxRecDepth 100000 in
set_option maxHeartbeats 8000000 in
theorem read_q (hq : Quiet q k) (at0 : Nat) (hat : at0 < N) (hN : N ≤ 8192) (hk : k < 549755813888) (hlg : lg < 137438953472) (w : World) (hB : B ≤ w.heap.size) (h : DiskQ w B g N F k lg q) :
    Calls Try.prog 22 #[.pointer (some ⟨g, 0, none⟩), .int .i64 (at0 : Int)] w fun e w' => e = .returned (.tuple #[.agg (va 256 (iv .u8 (fun j => F (at0 * 256 + j)))), .int .i64 0]) ∧ ∃ q', DiskQ w' B g N F (k + 1) (lg + 1) q' ∧ Quiet q' (k + 1) ∧ Moved g N q q' w w' := by
  have hz := zero_bk
  obtain ⟨i0, hi, hz0, hz1, hz2⟩ := info_parts infoRaw
  have j0 : (0 : Int) ≤ (at0 : Int) := by omega
  have j1 : (at0 : Int) < (N : Int) := by omega
  have HQt : Hid (Quiet q k) := hq
  have r1 : Blk (w.alloc (.cells (va 256 (iv .u8 fun _ => 0)) 55)) w.heap.size 55 (va 256 (iv .u8 fun _ => 0)) := Blk.new _ _ _
  have hb1 : Below w.heap.size w (w.alloc (.cells (va 256 (iv .u8 fun _ => 0)) 55)) := below_new1 _ _
  have HQ1 : Hid (DiskQ (w.alloc (.cells (va 256 (iv .u8 fun _ => 0)) 55)) B g N F k lg q) := h.below hb1
  have HM1 : Hid (Moved g N q q w (w.alloc (.cells (va 256 (iv .u8 fun _ => 0)) 55))) := .of_below hb1
  have HF : Hid (∀ z, foot g N q z → z < w.heap.size) := fun z hz => (h.foots z hz).2
  have HW : Hid (B ≤ w.heap.size) := hB
  clear h hb1 hB hq
  go_enter Try.func22, Try.ntmps22
  go_wp2_with fail
  have hs1 : w.heap.size < (w.alloc (.cells (va 256 (iv .u8 fun _ => 0)) 55)).heap.size := r1.lt
  generalize (w.alloc (.cells (va 256 (iv .u8 fun _ => 0)) 55)) = w1 at *
  refine (begin_q HQt.out.dd HQt.out.pl at0 hat (by omega) w1 HQ1.out).mono ?_
  rintro e w2 ⟨rfl, hq2, hm2⟩
  have HQ2 : Hid (DiskQ w2 B g N F (k + 1) lg q) := hq2
  have HM2 : Hid (Moved g N q q w1 w2) := hm2
  have r2 : Blk w2 w.heap.size 55 (va 256 (iv .u8 fun _ => 0)) := (hm2.1.block _ r1.lt fun e => by have := HF.out _ e; omega).trans r1
  have HQt2 : Hid (Quiet q (k + 1)) := by
    obtain ⟨a1, a2, a3, a4, a5, a6⟩ := HQt.out
    exact ⟨a1, a2, a3, a4, by omega, a6⟩
  clear hq2 hm2 HQ1 r1
  go_wp2_with fail
  have d8 : w2.cell? ⟨g, 8, none⟩ = some q.lv := by rw [HQ2.out.c]; rfl
  have d0 : w2.cell? ⟨g, 0, none⟩ = some (.slice (some ⟨q.gn, 0, none⟩) N N) := by rw [HQ2.out.c]; rfl
  have HLD : Hid (∀ W, Blk W q.gn 55 (va (N * 256) (iv .u8 F)) → (loadCellsFrom ⟨q.gn, at0 * 256, none⟩ 0 256 #[]).run Try.prog W = .ok (va 256 (iv .u8 (fun j => F (at0 * 256 + j)))) W) := fun W hW => hW.loadMid (P := Try.prog) (o := at0 * 256) (n := 256) (by omega)
  have hld := HLD.out w2 HQ2.out.now
  have hld2 := HLD.out w2.drew HQ2.out.now
  refine wp_region_partsS (fun W => W.cell? ⟨g, 8, none⟩ = some q.lv) [([0, 1, 5, 6, 10], 2, true), ([], 3, true), ([], 4, true), ([], 7, false), ([], 8, false), ([], 9, false), ([11], 12, false), ([], 13, false), ([], 14, false), ([], 15, false), ([], 16, false), ([], 17, false)] [] [18] (by kernel_rfl) (by kernel_rfl) d8 (partsI_yield ?_)
  simp only [List.cons_append, List.nil_append, List.append_nil, List.filterMap_cons, List.filterMap_nil, List.getElem?_toArray, List.getElem?_cons_zero, List.getElem?_cons_succ]
  go_wp2_with fail
  refine ⟨rfl, _, .pointer (some ⟨g, 0, none⟩), rfl, Or.inl ⟨by rfl, fun W hW => by go_simp⟩, partsI_yield ?_⟩
  simp only [Act.put, List.setIfInBounds_toArray, List.set_cons_zero, List.set_cons_succ]
  simp only [List.cons_append, List.nil_append, List.append_nil, List.filterMap_cons, List.filterMap_nil, List.getElem?_toArray, List.getElem?_cons_zero, List.getElem?_cons_succ]
  go_wp2_with fail
  refine ⟨rfl, _, .pointer (some ⟨g, 8, none⟩), rfl, Or.inl ⟨by rfl, fun W hW => by go_simp⟩, partsI_yield ?_⟩
  simp only [Act.put, List.setIfInBounds_toArray, List.set_cons_zero, List.set_cons_succ]
  simp only [List.cons_append, List.nil_append, List.append_nil, List.filterMap_cons, List.filterMap_nil, List.getElem?_toArray, List.getElem?_cons_zero, List.getElem?_cons_succ]
  go_wp2_with fail
  refine ⟨rfl, _, q.lv, rfl, Or.inl ⟨by rfl, fun W hW => by go_simp⟩, partsI_force ?_⟩
  simp only [Act.put, List.setIfInBounds_toArray, List.set_cons_zero, List.set_cons_succ]
  simp only [List.cons_append, List.nil_append, List.append_nil, List.filterMap_cons, List.filterMap_nil, List.getElem?_toArray, List.getElem?_cons_zero, List.getElem?_cons_succ]
  go_wp2_with fail
  refine ⟨rfl, d8, partsI_force ?_⟩
  simp only [List.cons_append, List.nil_append, List.append_nil, List.filterMap_cons, List.filterMap_nil, List.getElem?_toArray, List.getElem?_cons_zero, List.getElem?_cons_succ]
  go_wp2_with fail
  refine ⟨rfl, d8, partsI_force ?_⟩
  simp only [List.cons_append, List.nil_append, List.append_nil, List.filterMap_cons, List.filterMap_nil, List.getElem?_toArray, List.getElem?_cons_zero, List.getElem?_cons_succ]
  go_wp2_with fail
  refine ⟨rfl, d8, partsI_force ?_⟩
  simp only [List.cons_append, List.nil_append, List.append_nil, List.filterMap_cons, List.filterMap_nil, List.getElem?_toArray, List.getElem?_cons_zero, List.getElem?_cons_succ]
  go_wp2_with fail
  refine wpList_load_blk (by rfl) 55 _ (by rfl) q.gn (at0 * 256) 256 (iv .u8 (fun j => F (at0 * 256 + j))) (by rfl) _ (HQ2.out.now.drew.range (at0 * 256) 256 (by omega)) Try.underlying55 rfl sizeBk ?_
  simp only [Act.put, List.setIfInBounds_toArray, List.set_cons_zero, List.set_cons_succ]
  go_wp2_with fail
  refine ⟨rfl, d8, partsI_force ?_⟩
  simp only [List.cons_append, List.nil_append, List.append_nil, List.filterMap_cons, List.filterMap_nil, List.getElem?_toArray, List.getElem?_cons_zero, List.getElem?_cons_succ]
  refine wpList_build3 rfl 69 _ _ _ rfl (.int .i64 1) (.int .i64 (at0 : Int)) (.agg (va 256 (iv .u8 (fun j => F (at0 * 256 + j))))) rfl rfl rfl (va 258 (rawF 1 (at0 : Int) fun j => F (at0 * 256 + j))) (built_raw 1 (at0 : Int) (fun j => F (at0 * 256 + j))) ?_
  simp only [Act.put, List.setIfInBounds_toArray, List.set_cons_zero, List.set_cons_succ]
  go_wp2_with fail
  refine ⟨rfl, d8, partsI_force ?_⟩
  simp only [List.cons_append, List.nil_append, List.append_nil, List.filterMap_cons, List.filterMap_nil, List.getElem?_toArray, List.getElem?_cons_zero, List.getElem?_cons_succ]
  refine wpList_build1 rfl 46 69 _ rfl (va 258 (rawF 1 (at0 : Int) fun j => F (at0 * 256 + j))) rfl i0 (.agg (va 258 (rawF 0 0 fun _ => 0))) 258 Try.underlying46 hi hz0 hz1 (va_size _ _) (by decide) (by decide) ?_
  simp only [Act.put, List.setIfInBounds_toArray, List.set_cons_zero, List.set_cons_succ]
  go_wp2_with fail
  have d86 : (w2.drew.alloc (.cells (va 258 (rawF 1 (at0 : Int) fun j => F (at0 * 256 + j))) 69)).cell? ⟨g, 8, none⟩ = some q.lv := by rw [(HQ2.out.cells.drew.alloc _).cell]; rfl
  refine ⟨rfl, d86, partsI_force ?_⟩
  simp only [List.cons_append, List.nil_append, List.append_nil, List.filterMap_cons, List.filterMap_nil, List.getElem?_toArray, List.getElem?_cons_zero, List.getElem?_cons_succ]
  have HOWN : Hid ((w2.drew.alloc (.cells (va 258 (rawF 1 (at0 : Int) fun j => F (at0 * 256 + j))) 69)).ownsRow B 69 258 q.lv lg q.xs) := World.ownsRow.alloc (w := w2.drew) HQ2.out.log _
  have HC : Hid (∀ j u, (va 258 (rawF 1 (at0 : Int) fun j => F (at0 * 256 + j))).toList[j]? = some u → (w2.drew.alloc (.cells (va 258 (rawF 1 (at0 : Int) fun j => F (at0 * 256 + j))) 69)).cell? ((⟨w2.drew.heap.size, 0, none⟩ : Addr).add j) = some u) := cells_new w2.drew _ _
  have HBB : Hid (B ≤ (w2.drew.alloc (.cells (va 258 (rawF 1 (at0 : Int) fun j => F (at0 * 256 + j))) 69)).heap.size) := by
    have h1 := HM2.out.1.size
    have h2 := HW.out
    show B ≤ _
    rw [show (w2.drew.alloc (.cells (va 258 (rawF 1 (at0 : Int) fun j => F (at0 * 256 + j))) 69)).heap.size = w2.heap.size + 1 by simp]
    omega
  refine wpList_append_own_at rfl _ _ 46 rfl B 69 i0 (.agg (va 258 (rawF 0 0 fun _ => 0))) 258 272 Try.underlying46 hi hz0 hz1 hz2 (va_size _ _) (by decide) _ _ _ rfl HOWN.out ⟨w2.drew.heap.size, 0, none⟩ 1 1 (va 258 (rawF 1 (at0 : Int) (fun j => F (at0 * 256 + j)))).toList rfl (by rw [Array.length_toList, va_size]) HC.out (raw_one _ _ _) (by unfold maxLen; omega) (by omega) HBB.out ?_
  intro v' w6 hrow hgr hsb
  obtain ⟨xa, xc, hxe⟩ := kown_slice hrow
  subst hxe
  obtain ⟨hB6, hq6, hm6⟩ := (HQ2.out.below (Below.refl _ _).drew).logged (va 258 (rawF 1 (at0 : Int) fun j => F (at0 * 256 + j))) hrow hgr hsb
  have HQ6 : Hid (DiskQ (w6.setCell ⟨g, 8, none⟩ (Value.slice xa (lg + 1) xc)) B g N F (k + 1) (lg + 1) { q with lv := (Value.slice xa (lg + 1) xc), xs := q.xs ++ (va 258 (rawF 1 (at0 : Int) fun j => F (at0 * 256 + j))).toList }) := hq6
  have HM6 : Hid (Moved g N q { q with lv := (Value.slice xa (lg + 1) xc), xs := q.xs ++ (va 258 (rawF 1 (at0 : Int) fun j => F (at0 * 256 + j))).toList } w1 (w6.setCell ⟨g, 8, none⟩ (Value.slice xa (lg + 1) xc))) := HM2.out.trans (Moved.trans (.of_below (Below.refl _ _).drew) hm6)
  have HQt6 : Hid (Quiet { q with lv := (Value.slice xa (lg + 1) xc), xs := q.xs ++ (va 258 (rawF 1 (at0 : Int) fun j => F (at0 * 256 + j))).toList } (k + 1)) := by
    obtain ⟨a1, a2, a3, a4, a5, a6⟩ := HQt2.out
    exact ⟨a1, a2, a3, a4, a5, fun u hu => by
      rcases List.mem_append.1 hu with h1 | h1
      · exact a6 u h1
      · exact raw_one _ _ _ u h1⟩
  have d8c : w6.cell? ⟨g, 8, none⟩ = some q.lv := by rw [hB6.cell]; rfl
  have f8c : w6.frozen? ⟨g, 8, none⟩ = false := hB6.frozen 8
  have hlr : q.lv.ownBlock ≠ some w.heap.size := fun e => by
    have := HF.out _ (.inr (.inr (.inr (.inr (.inl e)))))
    omega
  have r7 : Blk (w6.setCell ⟨g, 8, none⟩ (Value.slice xa (lg + 1) xc)) w.heap.size 55 (va 256 (iv .u8 fun _ => 0)) := by
    refine Blk.put_other ?_ _ _ fun e => ?_
    · exact (hgr.block _ (r2.drew.alloc (.cells (va 258 (rawF 1 (at0 : Int) fun j => F (at0 * 256 + j))) 69)).lt fun e => hlr e.symm).trans (r2.drew.alloc _)
    · have := HF.out _ (.inl e)
      omega
  clear hq6 hm6 HOWN HC HBB hrow hgr hsb d86 r2
  go_wp2_with fail
  refine ⟨rfl, d8c, partsI_force ?_⟩
  simp only [List.cons_append, List.nil_append, List.append_nil, List.filterMap_cons, List.filterMap_nil, List.getElem?_toArray, List.getElem?_cons_zero, List.getElem?_cons_succ]
  go_wp2_with fail
  refine ⟨rfl, d8c, partsI_force ?_⟩
  simp only [List.cons_append, List.nil_append, List.append_nil, List.filterMap_cons, List.filterMap_nil, List.getElem?_toArray, List.getElem?_cons_zero, List.getElem?_cons_succ]
  go_wp2_with fail
  refine ⟨rfl, d8c, partsI_last ?_⟩
  simp only [List.cons_append, List.nil_append, List.append_nil, List.filterMap_cons, List.filterMap_nil, List.getElem?_toArray, List.getElem?_cons_zero, List.getElem?_cons_succ]
  go_wp2_with fail
  refine ⟨rfl, ?_⟩
  clear hB6 d8c f8c HQ2 hld hld2 d8 d0
  generalize (w6.setCell ⟨g, 8, none⟩ (Value.slice xa (lg + 1) xc)) = w7 at *
  have e0 : w7.cell? ⟨g, 0, none⟩ = some (.slice (some ⟨q.gn, 0, none⟩) N N) := by rw [HQ6.out.c]; rfl
  go_wp2_with (first
    | (refine wpList_load_blk (by rfl) 55 _ (by rfl) q.gn (at0 * 256) 256 (iv .u8 (fun j => F (at0 * 256 + j))) (by rfl) _ (HQ6.out.now.range (at0 * 256) 256 (by omega)) Try.underlying55 rfl sizeBk ?_; simp only [Act.put, List.setIfInBounds_toArray, List.set_cons_zero, List.set_cons_succ])
    | (refine wpList_store_row (by rfl) 55 _ _ (by rfl) (w.heap.size) (va 256 (iv .u8 (fun j => F (at0 * 256 + j)))) (by rfl) (by rfl) 55 _ r7 (sizeBk.trans (by rw [va_size])) (by simp only [va_size]) (iv_one _ _ _) ?_; simp only [Act.put, List.setIfInBounds_toArray, List.set_cons_zero, List.set_cons_succ])
    | fail)
  try simp only [Exit.inBlock, Exit.then]
  refine bodyPost_ret (results_row2 Try.results22 _ _ (w.heap.size) 55 (va 256 (iv .u8 (fun j => F (at0 * 256 + j)))) (0, 0) _ rfl ((r7.set _)) Try.underlying55 rfl (sizeBk.trans (by rw [va_size]))) rfl ?_
  have HM7 : Hid (Moved g N q { q with lv := (Value.slice xa (lg + 1) xc), xs := q.xs ++ (va 258 (rawF 1 (at0 : Int) fun j => F (at0 * 256 + j))).toList } w w7) := HM1.out.trans HM6.out
  refine ⟨rfl, _, HQ6.out.kept fun z hz => setRow_other w7 w.heap.size z _ fun e => ?_, HQt6.out, ⟨HM7.out.1.os, HM7.out.1.tape, HM7.out.1.output, ?_, fun z hz hf => (setRow_other w7 w.heap.size z _ (by omega)).trans (HM7.out.1.block z hz hf)⟩, HM7.out.2⟩
  · rcases HM6.out.2 z hz with h1 | h1
    · have := HF.out _ h1
      omega
    · omega
  · rw [setRow_size]
    exact HM7.out.1.size
end
end Go.Proofs.Ytkhfggmjhpbajaa
