/- Inodes as they change: the first number that is free, the first inode made, an inode in use. -/
import Derived.Test.YtbcgpiocigjkoaaGreatHInsFns
import Derived.Handy
import Derived.Deep.MidRow

namespace Go.Proofs.YtbcgpiocigjkoaaGreat
open Go Go.RowKit
set_option linter.unusedSimpArgs false
set_option linter.unusedVariables false
section
variable {x : Nat} {cp : Option Addr} {h : Int} {R : Rf} {high top : Int} {mf ml mc : Nat} {L : List ((Int × Int × Int) × (Nat → Hd))}
theorem look_four {w : World} (H : MapIs pkV ftV w mf L) (k : Int × Int × Int) (q : Nat → Hd) (b : Bool) (h1 : ((findIn k L).map ftV).getD (ftV ft00) = ftV q) (h2 : (findIn k L).isSome = b) : (Instr.lookup 109 (.map (some mf)) (pkV k) true).run Tryz.prog w = .ok (.tuple #[.agg (ftC q), .bool b]) w := by
  have := run_lookup_is Tryz.underlying109 pk_key (z := ftV ft00) (fun w => zero_ft w) H k true
  rw [h1, h2] at this
  exact this
set_option maxRecDepth 100000 in
set_option maxHeartbeats 4000000 in
theorem four_hit (leaf : Int) (q : Nat → Hd) (w : World) (hx : Blk w x 113 (ixC cp h R high top mf ml mc)) (hm : MapIs pkV ftV w mf L) (hl1 : ((findIn (0, 0, leaf) L).map ftV).getD (ftV ft00) = ftV q) (hl2 : (findIn (0, 0, leaf) L).isSome = true) : Calls Tryz.prog 41 #[.pointer (some ⟨x, 0, none⟩), .int .i64 leaf] w fun e w' => e = .returned (.tuple #[.agg (ftC q), .int .i64 0]) ∧ Below w.heap.size w w' := by
  have hz := zero_ft
  have HLK : Hid (∀ W, MapIs pkV ftV W mf L → (Instr.lookup 109 (.map (some mf)) (.agg #[.int .i64 0, .int .i64 0, .int .i64 leaf]) true).run Tryz.prog W = .ok (.tuple #[.agg (ftC q), .bool true]) W) := fun W hW => look_four hW _ q true hl1 hl2
  have hb1 : Below w.heap.size w (w.alloc (.cells (ftC ft00) 126)) := below_new1 _ _
  have r1 : Blk (w.alloc (.cells (ftC ft00) 126)) w.heap.size 126 (ftC ft00) := Blk.new _ _ _
  have HX1 : Hid (Blk (w.alloc (.cells (ftC ft00) 126)) x 113 (ixC cp h R high top mf ml mc)) := hx.below hb1 hx.lt
  have HM1 : Hid (MapIs pkV ftV (w.alloc (.cells (ftC ft00) 126)) mf L ∧ mf < w.heap.size) := ⟨hm.below hb1 (mapLt hm), (mapLt hm)⟩
  have HXL : Hid (x < w.heap.size) := hx.lt


  clear hx hm hl1 hl2
  go_enter Tryz.func41, Tryz.ntmps41
  go_wp2_with fail
  generalize (w.alloc (.cells (ftC ft00) 126)) = w1 at *
  refine (leafAt_any 0 leaf w1).mono ?_
  rintro e w2 ⟨rfl, hb2⟩
  unfold pkV
  have W2 : Below w2.heap.size w2 (w2.alloc (.cells #[.int .i64 0, .int .i64 0, .int .i64 leaf] 155)) := below_new1 _ _
  have p3 : Blk (w2.alloc (.cells #[.int .i64 0, .int .i64 0, .int .i64 leaf] 155)) w2.heap.size 155 #[.int .i64 0, .int .i64 0, .int .i64 leaf] := Blk.new _ _ _
  have hb23 : Below w1.heap.size w1 (w2.alloc (.cells #[.int .i64 0, .int .i64 0, .int .i64 leaf] 155)) := hb2.trans (W2.mono hb2.size)
  have x3 := HX1.out.below hb23 HX1.out.lt
  have m3 := HM1.out.1.below hb23 (mapLt HM1.out.1)
  have r3 := r1.below hb23 r1.lt
  have HB3 : Hid (Below w.heap.size w (w2.alloc (.cells #[.int .i64 0, .int .i64 0, .int .i64 leaf] 155)) ∧ w.heap.size < (w2.alloc (.cells #[.int .i64 0, .int .i64 0, .int .i64 leaf] 155)).heap.size) := ⟨hb1.trans (hb23.mono hb1.size), r3.lt⟩
  clear hb2 W2 hb23 hb1 HX1 HM1 r1
  go_wp2_with fail
  generalize (w2.alloc (.cells #[.int .i64 0, .int .i64 0, .int .i64 leaf] 155)) = w3 at *
  have hS0 : Blk w3.drew x 113 (ixC cp h R high top mf ml mc) ∧ Blk w3.drew w2.heap.size 155 #[.int .i64 0, .int .i64 0, .int .i64 leaf] ∧ MapIs pkV ftV w3.drew mf L := ⟨x3, p3, m3⟩
  have r3d : Blk w3.drew w.heap.size 126 (ftC ft00) := r3
  have HB3d : Hid (Below w.heap.size w w3.drew ∧ w.heap.size < w3.drew.heap.size) := ⟨HB3.out.1.drew, HB3.out.2⟩
  have X3d : Blk w3.drew x 113 (ixC cp h R high top mf ml mc) := x3
  clear x3 p3 m3 r3 HB3
  refine wp_region_partsS (fun W => Blk W x 113 (ixC cp h R high top mf ml mc) ∧ Blk W w2.heap.size 155 #[.int .i64 0, .int .i64 0, .int .i64 leaf] ∧ MapIs pkV ftV W mf L) [([0], 1, true), ([], 2, true), ([], 3, true), ([], 4, true), ([], 5, true), ([6, 7, 8], 9, false), ([], 10, false)] [11] [] (by kernel_rfl) (by kernel_rfl) hS0 (partsI_yield ?_)
  generalize w3.drew = w4 at *
  have q4 : Blk (w4.alloc (.cells (ftC ft00) 126)) w4.heap.size 126 (ftC ft00) := Blk.new _ _ _
  have q5 := q4.set (ftC q)
  have hb5 : Below w4.heap.size w4 ((w4.alloc (.cells (ftC ft00) 126)).setRow w4.heap.size (ftC q)) := below_setRow (below_new1 _ _) (Nat.le_refl _) _
  have r5 := r3d.below hb5 r3d.lt
  have X5 := X3d.below hb5 X3d.lt
  have c35 := ix_c35 X5
  have HB5 : Hid (Below w.heap.size w ((w4.alloc (.cells (ftC ft00) 126)).setRow w4.heap.size (ftC q))) := HB3d.out.1.trans (hb5.mono HB3d.out.1.size)
  have hS1 : Blk (w4.alloc (.cells (ftC ft00) 126)) x 113 (ixC cp h R high top mf ml mc) ∧ Blk (w4.alloc (.cells (ftC ft00) 126)) w2.heap.size 155 #[.int .i64 0, .int .i64 0, .int .i64 leaf] ∧ MapIs pkV ftV (w4.alloc (.cells (ftC ft00) 126)) mf L := ⟨hS0.1.alloc _, hS0.2.1.alloc _, hS0.2.2.below (below_new1 _ _) (mapLt hS0.2.2)⟩
  have hS2 : Blk ((w4.alloc (.cells (ftC ft00) 126)).setRow w4.heap.size (ftC q)) x 113 (ixC cp h R high top mf ml mc) ∧ Blk ((w4.alloc (.cells (ftC ft00) 126)).setRow w4.heap.size (ftC q)) w2.heap.size 155 #[.int .i64 0, .int .i64 0, .int .i64 leaf] ∧ MapIs pkV ftV ((w4.alloc (.cells (ftC ft00) 126)).setRow w4.heap.size (ftC q)) mf L := ⟨hS0.1.below hb5 hS0.1.lt, hS0.2.1.below hb5 hS0.2.1.lt, hS0.2.2.below hb5 (mapLt hS0.2.2)⟩
  clear X3d X5 hb5
  simp only [List.cons_append, List.nil_append, List.append_nil, List.filterMap_cons, List.filterMap_nil, List.getElem?_toArray, List.getElem?_cons_zero, List.getElem?_cons_succ]
  go_wp2_with fail
  refine ⟨rfl, _, .pointer (some ⟨x, 0, none⟩), rfl, Or.inl ⟨by rfl, fun W hW => by go_simp⟩, partsI_yield ?_⟩
  simp only [Act.put, List.setIfInBounds_toArray, List.set_cons_zero, List.set_cons_succ]
  simp only [List.cons_append, List.nil_append, List.append_nil, List.filterMap_cons, List.filterMap_nil, List.getElem?_toArray, List.getElem?_cons_zero, List.getElem?_cons_succ]
  go_wp2_with fail
  refine ⟨rfl, _, .pointer (some ⟨x, 37, none⟩), rfl, Or.inl ⟨by rfl, fun W hW => by go_simp⟩, partsI_yield ?_⟩
  simp only [Act.put, List.setIfInBounds_toArray, List.set_cons_zero, List.set_cons_succ]
  simp only [List.cons_append, List.nil_append, List.append_nil, List.filterMap_cons, List.filterMap_nil, List.getElem?_toArray, List.getElem?_cons_zero, List.getElem?_cons_succ]
  go_wp2_with fail
  refine ⟨rfl, _, .map (some mf), rfl, Or.inl ⟨by rfl, fun W hW => by have hW1 := ix_c37 hW.1; go_simp⟩, partsI_yield ?_⟩
  simp only [Act.put, List.setIfInBounds_toArray, List.set_cons_zero, List.set_cons_succ]
  simp only [List.cons_append, List.nil_append, List.append_nil, List.filterMap_cons, List.filterMap_nil, List.getElem?_toArray, List.getElem?_cons_zero, List.getElem?_cons_succ]
  go_wp2_with fail
  refine ⟨rfl, _, .agg #[.int .i64 0, .int .i64 0, .int .i64 leaf], rfl, Or.inl ⟨by rfl, fun W hW => by have hW0 : W.cell? ⟨w2.heap.size, 0, none⟩ = some (.int .i64 0) := (hW.2.1.cell 0).trans rfl; have hW1 : W.cell? ⟨w2.heap.size, 1, none⟩ = some (.int .i64 0) := (hW.2.1.cell 1).trans rfl; have hW2 : W.cell? ⟨w2.heap.size, 2, none⟩ = some (.int .i64 leaf) := (hW.2.1.cell 2).trans rfl; go_simp⟩, partsI_yield ?_⟩
  simp only [Act.put, List.setIfInBounds_toArray, List.set_cons_zero, List.set_cons_succ]
  simp only [List.cons_append, List.nil_append, List.append_nil, List.filterMap_cons, List.filterMap_nil, List.getElem?_toArray, List.getElem?_cons_zero, List.getElem?_cons_succ]
  go_wp2_with fail
  refine ⟨rfl, _, .tuple #[.agg (ftC q), .bool true], rfl, Or.inl ⟨by rfl, fun W hW => by have hW1 := HLK.out W hW.2.2; go_simp⟩, partsI_force ?_⟩
  simp only [Act.put, List.setIfInBounds_toArray, List.set_cons_zero, List.set_cons_succ]
  simp only [List.cons_append, List.nil_append, List.append_nil, List.filterMap_cons, List.filterMap_nil, List.getElem?_toArray, List.getElem?_cons_zero, List.getElem?_cons_succ]
  go_wp2_with fail
  refine ⟨rfl, hS1, partsI_force ?_⟩
  simp only [List.cons_append, List.nil_append, List.append_nil, List.filterMap_cons, List.filterMap_nil, List.getElem?_toArray, List.getElem?_cons_zero, List.getElem?_cons_succ]
  (refine wpList_store_row (by rfl) 126 _ _ (by rfl) (w4.heap.size) (ftC q) (by rfl) (by rfl) 126 (ftC ft00) (by exact q4) (sizeFt.trans (by rw [ftC_size])) (by simp only [ftC_size]) (ftC_all _) ?_; simp only [Act.put, List.setIfInBounds_toArray, List.set_cons_zero, List.set_cons_succ])
  go_wp2_with fail
  refine ⟨rfl, hS2, partsI_last ?_⟩
  simp only [List.cons_append, List.nil_append, List.append_nil, List.filterMap_cons, List.filterMap_nil, List.getElem?_toArray, List.getElem?_cons_zero, List.getElem?_cons_succ]
  go_wp2_with fail
  refine ⟨rfl, ?_⟩
  clear hS0 hS1 hS2 HLK q4
  generalize ((w4.alloc (.cells (ftC ft00) 126)).setRow w4.heap.size (ftC q)) = w5 at *
  go_wp2_with (first
    | (refine wpList_load_rowg (by rfl) 126 _ (by rfl) (w4.heap.size) (by rfl) 126 (ftC q) (0, 0) _ (by exact q5) Tryz.underlying126 (by rfl) (sizeFt.trans (by rw [ftC_size])) ?_; simp only [Act.put, List.setIfInBounds_toArray, List.set_cons_zero, List.set_cons_succ])
    | (refine wpList_store_row (by rfl) 126 _ _ (by rfl) (w.heap.size) (ftC q) (by rfl) (by rfl) 126 (_) (by exact r5) (sizeFt.trans (by rw [ftC_size])) (by simp only [ftC_size]) (ftC_all _) ?_; simp only [Act.put, List.setIfInBounds_toArray, List.set_cons_zero, List.set_cons_succ])
    | fail)
  try simp only [Exit.inBlock, Exit.then]
  refine bodyPost_ret (results_row2 Tryz.results41 _ _ (w.heap.size) 126 (ftC q) (0, 0) _ rfl (r5.set _) Tryz.underlying126 rfl (sizeFt.trans (by rw [ftC_size]))) rfl ?_
  exact ⟨rfl, below_setRow HB5.out (Nat.le_refl _) _⟩
set_option maxRecDepth 100000 in
set_option maxHeartbeats 4000000 in
theorem four_new (leaf : Int) (hh0 : 0 ≤ high) (hh1 : high ≤ 4096) (hlf : (high + 3) / 4 ≤ leaf) (q : Nat → Hd) (w : World) (hx : Blk w x 113 (ixC cp h R high top mf ml mc)) (hm : MapIs pkV ftV w mf L) (hl1 : ((findIn (0, 0, leaf) L).map ftV).getD (ftV ft00) = ftV q) (hl2 : (findIn (0, 0, leaf) L).isSome = false) : Calls Tryz.prog 41 #[.pointer (some ⟨x, 0, none⟩), .int .i64 leaf] w fun e w' => e = .returned (.tuple #[.agg (ftC q), .int .i64 0]) ∧ Below w.heap.size w w' := by
  have hz := zero_ft
  have HLK : Hid (∀ W, MapIs pkV ftV W mf L → (Instr.lookup 109 (.map (some mf)) (.agg #[.int .i64 0, .int .i64 0, .int .i64 leaf]) true).run Tryz.prog W = .ok (.tuple #[.agg (ftC q), .bool false]) W) := fun W hW => look_four hW _ q false hl1 hl2
  have hb1 : Below w.heap.size w (w.alloc (.cells (ftC ft00) 126)) := below_new1 _ _
  have r1 : Blk (w.alloc (.cells (ftC ft00) 126)) w.heap.size 126 (ftC ft00) := Blk.new _ _ _
  have HX1 : Hid (Blk (w.alloc (.cells (ftC ft00) 126)) x 113 (ixC cp h R high top mf ml mc)) := hx.below hb1 hx.lt
  have HM1 : Hid (MapIs pkV ftV (w.alloc (.cells (ftC ft00) 126)) mf L ∧ mf < w.heap.size) := ⟨hm.below hb1 (mapLt hm), (mapLt hm)⟩
  have HXL : Hid (x < w.heap.size) := hx.lt
  have HLT : Hid (∀ w : World, Calls Tryz.prog 40 #[.int .i64 high] w fun e w2 => e = .returned (.int .i64 ((high + 3) / 4)) ∧ w2 = w) := leavesTo_any high hh0 hh1
  have hge : (high + 3) / 4 ≤ leaf := hlf
  clear hx hm hl1 hl2
  go_enter Tryz.func41, Tryz.ntmps41
  go_wp2_with fail
  generalize (w.alloc (.cells (ftC ft00) 126)) = w1 at *
  refine (leafAt_any 0 leaf w1).mono ?_
  rintro e w2 ⟨rfl, hb2⟩
  unfold pkV
  have W2 : Below w2.heap.size w2 (w2.alloc (.cells #[.int .i64 0, .int .i64 0, .int .i64 leaf] 155)) := below_new1 _ _
  have p3 : Blk (w2.alloc (.cells #[.int .i64 0, .int .i64 0, .int .i64 leaf] 155)) w2.heap.size 155 #[.int .i64 0, .int .i64 0, .int .i64 leaf] := Blk.new _ _ _
  have hb23 : Below w1.heap.size w1 (w2.alloc (.cells #[.int .i64 0, .int .i64 0, .int .i64 leaf] 155)) := hb2.trans (W2.mono hb2.size)
  have x3 := HX1.out.below hb23 HX1.out.lt
  have m3 := HM1.out.1.below hb23 (mapLt HM1.out.1)
  have r3 := r1.below hb23 r1.lt
  have HB3 : Hid (Below w.heap.size w (w2.alloc (.cells #[.int .i64 0, .int .i64 0, .int .i64 leaf] 155)) ∧ w.heap.size < (w2.alloc (.cells #[.int .i64 0, .int .i64 0, .int .i64 leaf] 155)).heap.size) := ⟨hb1.trans (hb23.mono hb1.size), r3.lt⟩
  clear hb2 W2 hb23 hb1 HX1 HM1 r1
  go_wp2_with fail
  generalize (w2.alloc (.cells #[.int .i64 0, .int .i64 0, .int .i64 leaf] 155)) = w3 at *
  have hS0 : Blk w3.drew x 113 (ixC cp h R high top mf ml mc) ∧ Blk w3.drew w2.heap.size 155 #[.int .i64 0, .int .i64 0, .int .i64 leaf] ∧ MapIs pkV ftV w3.drew mf L := ⟨x3, p3, m3⟩
  have r3d : Blk w3.drew w.heap.size 126 (ftC ft00) := r3
  have HB3d : Hid (Below w.heap.size w w3.drew ∧ w.heap.size < w3.drew.heap.size) := ⟨HB3.out.1.drew, HB3.out.2⟩
  have X3d : Blk w3.drew x 113 (ixC cp h R high top mf ml mc) := x3
  clear x3 p3 m3 r3 HB3
  refine wp_region_partsS (fun W => Blk W x 113 (ixC cp h R high top mf ml mc) ∧ Blk W w2.heap.size 155 #[.int .i64 0, .int .i64 0, .int .i64 leaf] ∧ MapIs pkV ftV W mf L) [([0], 1, true), ([], 2, true), ([], 3, true), ([], 4, true), ([], 5, true), ([6, 7, 8], 9, false), ([], 10, false)] [11] [] (by kernel_rfl) (by kernel_rfl) hS0 (partsI_yield ?_)
  generalize w3.drew = w4 at *
  have q4 : Blk (w4.alloc (.cells (ftC ft00) 126)) w4.heap.size 126 (ftC ft00) := Blk.new _ _ _
  have q5 := q4.set (ftC q)
  have hb5 : Below w4.heap.size w4 ((w4.alloc (.cells (ftC ft00) 126)).setRow w4.heap.size (ftC q)) := below_setRow (below_new1 _ _) (Nat.le_refl _) _
  have r5 := r3d.below hb5 r3d.lt
  have X5 := X3d.below hb5 X3d.lt
  have c35 := ix_c35 X5
  have HB5 : Hid (Below w.heap.size w ((w4.alloc (.cells (ftC ft00) 126)).setRow w4.heap.size (ftC q))) := HB3d.out.1.trans (hb5.mono HB3d.out.1.size)
  have hS1 : Blk (w4.alloc (.cells (ftC ft00) 126)) x 113 (ixC cp h R high top mf ml mc) ∧ Blk (w4.alloc (.cells (ftC ft00) 126)) w2.heap.size 155 #[.int .i64 0, .int .i64 0, .int .i64 leaf] ∧ MapIs pkV ftV (w4.alloc (.cells (ftC ft00) 126)) mf L := ⟨hS0.1.alloc _, hS0.2.1.alloc _, hS0.2.2.below (below_new1 _ _) (mapLt hS0.2.2)⟩
  have hS2 : Blk ((w4.alloc (.cells (ftC ft00) 126)).setRow w4.heap.size (ftC q)) x 113 (ixC cp h R high top mf ml mc) ∧ Blk ((w4.alloc (.cells (ftC ft00) 126)).setRow w4.heap.size (ftC q)) w2.heap.size 155 #[.int .i64 0, .int .i64 0, .int .i64 leaf] ∧ MapIs pkV ftV ((w4.alloc (.cells (ftC ft00) 126)).setRow w4.heap.size (ftC q)) mf L := ⟨hS0.1.below hb5 hS0.1.lt, hS0.2.1.below hb5 hS0.2.1.lt, hS0.2.2.below hb5 (mapLt hS0.2.2)⟩
  clear X3d X5 hb5
  simp only [List.cons_append, List.nil_append, List.append_nil, List.filterMap_cons, List.filterMap_nil, List.getElem?_toArray, List.getElem?_cons_zero, List.getElem?_cons_succ]
  go_wp2_with fail
  refine ⟨rfl, _, .pointer (some ⟨x, 0, none⟩), rfl, Or.inl ⟨by rfl, fun W hW => by go_simp⟩, partsI_yield ?_⟩
  simp only [Act.put, List.setIfInBounds_toArray, List.set_cons_zero, List.set_cons_succ]
  simp only [List.cons_append, List.nil_append, List.append_nil, List.filterMap_cons, List.filterMap_nil, List.getElem?_toArray, List.getElem?_cons_zero, List.getElem?_cons_succ]
  go_wp2_with fail
  refine ⟨rfl, _, .pointer (some ⟨x, 37, none⟩), rfl, Or.inl ⟨by rfl, fun W hW => by go_simp⟩, partsI_yield ?_⟩
  simp only [Act.put, List.setIfInBounds_toArray, List.set_cons_zero, List.set_cons_succ]
  simp only [List.cons_append, List.nil_append, List.append_nil, List.filterMap_cons, List.filterMap_nil, List.getElem?_toArray, List.getElem?_cons_zero, List.getElem?_cons_succ]
  go_wp2_with fail
  refine ⟨rfl, _, .map (some mf), rfl, Or.inl ⟨by rfl, fun W hW => by have hW1 := ix_c37 hW.1; go_simp⟩, partsI_yield ?_⟩
  simp only [Act.put, List.setIfInBounds_toArray, List.set_cons_zero, List.set_cons_succ]
  simp only [List.cons_append, List.nil_append, List.append_nil, List.filterMap_cons, List.filterMap_nil, List.getElem?_toArray, List.getElem?_cons_zero, List.getElem?_cons_succ]
  go_wp2_with fail
  refine ⟨rfl, _, .agg #[.int .i64 0, .int .i64 0, .int .i64 leaf], rfl, Or.inl ⟨by rfl, fun W hW => by have hW0 : W.cell? ⟨w2.heap.size, 0, none⟩ = some (.int .i64 0) := (hW.2.1.cell 0).trans rfl; have hW1 : W.cell? ⟨w2.heap.size, 1, none⟩ = some (.int .i64 0) := (hW.2.1.cell 1).trans rfl; have hW2 : W.cell? ⟨w2.heap.size, 2, none⟩ = some (.int .i64 leaf) := (hW.2.1.cell 2).trans rfl; go_simp⟩, partsI_yield ?_⟩
  simp only [Act.put, List.setIfInBounds_toArray, List.set_cons_zero, List.set_cons_succ]
  simp only [List.cons_append, List.nil_append, List.append_nil, List.filterMap_cons, List.filterMap_nil, List.getElem?_toArray, List.getElem?_cons_zero, List.getElem?_cons_succ]
  go_wp2_with fail
  refine ⟨rfl, _, .tuple #[.agg (ftC q), .bool false], rfl, Or.inl ⟨by rfl, fun W hW => by have hW1 := HLK.out W hW.2.2; go_simp⟩, partsI_force ?_⟩
  simp only [Act.put, List.setIfInBounds_toArray, List.set_cons_zero, List.set_cons_succ]
  simp only [List.cons_append, List.nil_append, List.append_nil, List.filterMap_cons, List.filterMap_nil, List.getElem?_toArray, List.getElem?_cons_zero, List.getElem?_cons_succ]
  go_wp2_with fail
  refine ⟨rfl, hS1, partsI_force ?_⟩
  simp only [List.cons_append, List.nil_append, List.append_nil, List.filterMap_cons, List.filterMap_nil, List.getElem?_toArray, List.getElem?_cons_zero, List.getElem?_cons_succ]
  (refine wpList_store_row (by rfl) 126 _ _ (by rfl) (w4.heap.size) (ftC q) (by rfl) (by rfl) 126 (ftC ft00) (by exact q4) (sizeFt.trans (by rw [ftC_size])) (by simp only [ftC_size]) (ftC_all _) ?_; simp only [Act.put, List.setIfInBounds_toArray, List.set_cons_zero, List.set_cons_succ])
  go_wp2_with fail
  refine ⟨rfl, hS2, partsI_last ?_⟩
  simp only [List.cons_append, List.nil_append, List.append_nil, List.filterMap_cons, List.filterMap_nil, List.getElem?_toArray, List.getElem?_cons_zero, List.getElem?_cons_succ]
  go_wp2_with fail
  refine ⟨rfl, ?_⟩
  clear hS0 hS1 hS2 HLK q4
  generalize ((w4.alloc (.cells (ftC ft00) 126)).setRow w4.heap.size (ftC q)) = w5 at *
  go_wp2_with fail
  refine (HLT.out _).mono ?_
  rintro e _ ⟨rfl, rfl⟩
  go_wp2_with (first
    | (refine wpList_load_rowg (by rfl) 126 _ (by rfl) (w4.heap.size) (by rfl) 126 (ftC q) (0, 0) _ (by exact q5) Tryz.underlying126 (by rfl) (sizeFt.trans (by rw [ftC_size])) ?_; simp only [Act.put, List.setIfInBounds_toArray, List.set_cons_zero, List.set_cons_succ])
    | (refine wpList_store_row (by rfl) 126 _ _ (by rfl) (w.heap.size) (ftC q) (by rfl) (by rfl) 126 (_) (by exact r5) (sizeFt.trans (by rw [ftC_size])) (by simp only [ftC_size]) (ftC_all _) ?_; simp only [Act.put, List.setIfInBounds_toArray, List.set_cons_zero, List.set_cons_succ])
    | fail)
  try simp only [Exit.inBlock, Exit.then]
  refine bodyPost_ret (results_row2 Tryz.results41 _ _ (w.heap.size) 126 (ftC q) (0, 0) _ rfl (r5.set _) Tryz.underlying126 rfl (sizeFt.trans (by rw [ftC_size]))) rfl ?_
  exact ⟨rfl, below_setRow HB5.out (Nat.le_refl _) _⟩
end
end Go.Proofs.YtbcgpiocigjkoaaGreat

namespace Go.Proofs.YtbcgpiocigjkoaaGreat
open Go Go.RowKit
set_option linter.unusedSimpArgs false
set_option linter.unusedVariables false
theorem ftF_at (q : Nat → Hd) (i j : Nat) (hj : j < 45) : ftF q (i * 45 + j) = hdF (q i) j := by
  unfold ftF
  rw [show (i * 45 + j) / 45 = i by omega, show (i * 45 + j) % 45 = j by omega]
theorem ft_extract (q : Nat → Hd) (i : Nat) (hi : i < 4) : (ftC q).extract (i * 45) (i * 45 + 45) = hdC (q i) := by
  unfold ftC hdC
  rw [va_extract 180 (i * 45) 45 _ (by omega)]
  exact va_congr fun j hj => ftF_at q i j hj
theorem run_index_ft (q : Nat → Hd) (k : Nat) (hk : k < 4) (w : World) : (Instr.index 126 (.agg (ftC q)) (.int .i64 (k : Int))).run Tryz.prog w = .ok (.agg (hdC (q k))) w := by
  have hp := part_agg 117 45 _ Tryz.underlying117 rfl sizeHd (ftC q) (hdC (q k)) (k * 45) (ft_extract q k hk) w
  have hz := size_at 117 45 sizeHd w
  have h1 : (k : Int) < 4 := by omega
  simp [Instr.index, asIntOf, run_underlying Tryz.underlying126, h1, hz, hp]
  intro h
  omega
theorem ft_range {w : World} {b t : Nat} {q : Nat → Hd} (H : Blk w b t (ftC q)) (i : Nat) (hi : i < 4) : w.rangeAt b (i * 45) ((List.range 45).map (hdF (q i))) := by
  have := Blk.range (n := 180) (f := ftF q) H (i * 45) 45 (by omega)
  rw [show ((List.range 45).map fun j => ftF q (i * 45 + j)) = (List.range 45).map (hdF (q i)) from List.map_congr_left fun j hj => ftF_at q i j (List.mem_range.1 hj)] at this
  exact this
/-- one of the four another one -/
def ftU (q : Nat → Hd) (i : Nat) (x : Hd) : Nat → Hd := fun j => if j = i then x else q j
theorem ft_put {w : World} {b t : Nat} {q : Nat → Hd} (H : Blk w b t (ftC q)) (i : Nat) (hi : i < 4) (x : Hd) : Blk (w.setCells b (i * 45) (hdC x).toList) b t (ftC (ftU q i x)) := by
  have := Blk.cells_put (n := 180) (hdC x).toList (i * 45) w (ftF q) H
  rw [show va 180 (over (ftF q) (i * 45) (hdC x).toList) = ftC (ftU q i x) from va_congr fun k hk => ?_] at this
  · exact this
  · unfold over hdC
    rw [va_toList]
    simp only [List.length_map, List.length_range]
    by_cases hj : i * 45 ≤ k ∧ k < i * 45 + 45
    · rw [if_pos hj, List.getD_eq_getElem?_getD, List.getElem?_map, List.getElem?_range (by omega)]
      unfold ftF ftU
      rw [if_pos (by omega), show k % 45 = k - i * 45 by omega]
      rfl
    · rw [if_neg hj]
      unfold ftF ftU
      rw [if_neg (by omega)]
section
variable {x : Nat} {cp : Option Addr} {h : Int} {R : Rf} {high top : Int} {mf ml mc : Nat} {L : List ((Int × Int × Int) × (Nat → Hd))}
theorem look_four1 {w : World} (H : MapIs pkV ftV w mf L) (k : Int × Int × Int) (hn : findIn k L = none) : (Instr.lookup 109 (.map (some mf)) (pkV k) false).run Tryz.prog w = .ok (.agg (ftC ft00)) w := by
  have := run_lookup_is Tryz.underlying109 pk_key (z := ftV ft00) (fun w => zero_ft w) H k false
  rw [hn] at this
  exact this
set_option maxRecDepth 100000 in
set_option maxHeartbeats 4000000 in
theorem put_new (n : Int) (h1 : 1 ≤ n) (h2 : n ≤ 4096) (y : Hd) (w : World) (hx : Blk w x 113 (ixC cp h R high top mf ml mc)) (hm : MapIs pkV ftV w mf L) (hne : x ≠ mf) (hn : findIn (0, 0, (n - 1) / 4) L = none) : Calls Tryz.prog 47 #[.pointer (some ⟨x, 0, none⟩), .int .i64 n, .agg (hdC y)] w fun e w' => e = .returned (.tuple #[]) ∧ MapIs pkV ftV w' mf (L ++ [((0, 0, (n - 1) / 4), ftU ft00 ((n - 1) % 4).toNat y)]) ∧ Keeps mf w w' := by
  have hz := zero_ft
  have HPL := place_any n ⟨by omega, by omega⟩ (w.alloc (.cells (hdC y) 117))
  rw [if_pos ⟨h1, h2⟩] at HPL
  have HLK : Hid (∀ W, MapIs pkV ftV W mf L → (Instr.lookup 109 (.map (some mf)) (.agg #[.int .i64 0, .int .i64 0, .int .i64 ((n - 1) / 4)]) false).run Tryz.prog W = .ok (.agg (ftC ft00)) W) := fun W hW => look_four1 hW _ hn
  obtain ⟨pn, hpn, hp4⟩ : ∃ pn : Nat, (n - 1) % 4 = (pn : Int) ∧ pn < 4 := ⟨((n - 1) % 4).toNat, by omega, by omega⟩
  rw [hpn] at HPL ⊢
  have hpt : ((pn : Int)).toNat = pn := rfl
  rw [hpt]
  have HUP : Hid (∀ W, MapIs pkV ftV W mf L → ∃ W', (Instr.mapUpdate 109 (.map (some mf)) (.agg #[.int .i64 0, .int .i64 0, .int .i64 ((n - 1) / 4)]) (.agg (ftC (ftU ft00 pn y)))).run Tryz.prog W = .ok () W' ∧ MapIs pkV ftV W' mf (L ++ [((0, 0, (n - 1) / 4), ftU ft00 pn y)]) ∧ Keeps mf W W') := fun W hW => run_update_is Tryz.underlying109 pk_key hW (0, 0, (n - 1) / 4) (ftU ft00 pn y) hn
  have hb1 : Below w.heap.size w (w.alloc (.cells (hdC y) 117)) := below_new1 _ _
  have r1 : Blk (w.alloc (.cells (hdC y) 117)) w.heap.size 117 (hdC y) := Blk.new _ _ _
  have HX1 : Hid (Blk (w.alloc (.cells (hdC y) 117)) x 113 (ixC cp h R high top mf ml mc)) := hx.below hb1 hx.lt
  have HM1 : Hid (MapIs pkV ftV (w.alloc (.cells (hdC y) 117)) mf L) := hm.below hb1 (mapLt hm)
  have HML : Hid (mf < w.heap.size ∧ x < w.heap.size ∧ x ≠ mf) := ⟨mapLt hm, hx.lt, hne⟩
  have p0 : (0 : Int) ≤ (pn : Int) := by omega
  have p1 : (pn : Int) < 4 := by omega
  clear hx hm hn hpt hpn h1 h2
  go_enter Tryz.func47, Tryz.ntmps47
  go_wp2_with fail
  generalize (w.alloc (.cells (hdC y) 117)) = w1 at *
  refine HPL.mono ?_
  rintro e _ ⟨rfl, rfl⟩
  go_wp2_with fail
  refine (leafAt_any 0 ((n - 1) / 4) _).mono ?_
  rintro e w2 ⟨rfl, hb2⟩
  unfold pkV
  have W2 : Below w2.heap.size w2 (w2.alloc (.cells #[.int .i64 0, .int .i64 0, .int .i64 ((n - 1) / 4)] 155)) := below_new1 _ _
  have p3 : Blk (w2.alloc (.cells #[.int .i64 0, .int .i64 0, .int .i64 ((n - 1) / 4)] 155)) w2.heap.size 155 #[.int .i64 0, .int .i64 0, .int .i64 ((n - 1) / 4)] := Blk.new _ _ _
  have hb23 := hb2.trans (W2.mono hb2.size)
  have x3 := HX1.out.below hb23 HX1.out.lt
  have m3 := HM1.out.below hb23 (mapLt HM1.out)
  have r3 := r1.below hb23 r1.lt
  have HB3 : Hid (Below w.heap.size w (w2.alloc (.cells #[.int .i64 0, .int .i64 0, .int .i64 ((n - 1) / 4)] 155)) ∧ w.heap.size < (w2.alloc (.cells #[.int .i64 0, .int .i64 0, .int .i64 ((n - 1) / 4)] 155)).heap.size) := ⟨hb1.trans (hb23.mono hb1.size), r3.lt⟩
  clear hb2 W2 hb23 hb1 HX1 HM1 r1 HPL
  go_wp2_with fail
  generalize (w2.alloc (.cells #[.int .i64 0, .int .i64 0, .int .i64 ((n - 1) / 4)] 155)) = w3 at *
  have hS0 : Blk w3.drew x 113 (ixC cp h R high top mf ml mc) ∧ Blk w3.drew w2.heap.size 155 #[.int .i64 0, .int .i64 0, .int .i64 ((n - 1) / 4)] ∧ MapIs pkV ftV w3.drew mf L := ⟨x3, p3, m3⟩
  have r3d : Blk w3.drew w.heap.size 117 (hdC y) := r3
  have HB3d : Hid (Below w.heap.size w w3.drew ∧ w.heap.size < w3.drew.heap.size) := ⟨HB3.out.1.drew, HB3.out.2⟩
  clear x3 p3 m3 r3 HB3
  refine wp_region_partsS (fun W => Blk W x 113 (ixC cp h R high top mf ml mc) ∧ Blk W w2.heap.size 155 #[.int .i64 0, .int .i64 0, .int .i64 ((n - 1) / 4)] ∧ MapIs pkV ftV W mf L) [([0], 1, true), ([], 2, true), ([], 3, true), ([], 4, true), ([], 5, true), ([], 6, false), ([], 7, false)] [] [] (by kernel_rfl) (by kernel_rfl) hS0 (partsI_yield ?_)
  generalize w3.drew = w4 at *
  have q4 : Blk (w4.alloc (.cells (ftC ft00) 126)) w4.heap.size 126 (ftC ft00) := Blk.new _ _ _
  have q5 := q4.set (ftC ft00)
  have hb5 : Below w4.heap.size w4 ((w4.alloc (.cells (ftC ft00) 126)).setRow w4.heap.size (ftC ft00)) := below_setRow (below_new1 _ _) (Nat.le_refl _) _
  have r5 := r3d.below hb5 r3d.lt
  have HB5 : Hid (Below w.heap.size w ((w4.alloc (.cells (ftC ft00) 126)).setRow w4.heap.size (ftC ft00))) := HB3d.out.1.trans (hb5.mono HB3d.out.1.size)
  have hS1 : Blk (w4.alloc (.cells (ftC ft00) 126)) x 113 (ixC cp h R high top mf ml mc) ∧ Blk (w4.alloc (.cells (ftC ft00) 126)) w2.heap.size 155 #[.int .i64 0, .int .i64 0, .int .i64 ((n - 1) / 4)] ∧ MapIs pkV ftV (w4.alloc (.cells (ftC ft00) 126)) mf L := ⟨hS0.1.alloc _, hS0.2.1.alloc _, hS0.2.2.below (below_new1 _ _) (mapLt hS0.2.2)⟩
  have hS2 : Blk ((w4.alloc (.cells (ftC ft00) 126)).setRow w4.heap.size (ftC ft00)) x 113 (ixC cp h R high top mf ml mc) ∧ Blk ((w4.alloc (.cells (ftC ft00) 126)).setRow w4.heap.size (ftC ft00)) w2.heap.size 155 #[.int .i64 0, .int .i64 0, .int .i64 ((n - 1) / 4)] ∧ MapIs pkV ftV ((w4.alloc (.cells (ftC ft00) 126)).setRow w4.heap.size (ftC ft00)) mf L := ⟨hS0.1.below hb5 hS0.1.lt, hS0.2.1.below hb5 hS0.2.1.lt, hS0.2.2.below hb5 (mapLt hS0.2.2)⟩
  have HS2 : Hid (Blk ((w4.alloc (.cells (ftC ft00) 126)).setRow w4.heap.size (ftC ft00)) x 113 (ixC cp h R high top mf ml mc) ∧ Blk ((w4.alloc (.cells (ftC ft00) 126)).setRow w4.heap.size (ftC ft00)) w2.heap.size 155 #[.int .i64 0, .int .i64 0, .int .i64 ((n - 1) / 4)] ∧ MapIs pkV ftV ((w4.alloc (.cells (ftC ft00) 126)).setRow w4.heap.size (ftC ft00)) mf L) := hS2
  clear hb5
  simp only [List.cons_append, List.nil_append, List.append_nil, List.filterMap_cons, List.filterMap_nil, List.getElem?_toArray, List.getElem?_cons_zero, List.getElem?_cons_succ]
  go_wp2_with fail
  refine ⟨rfl, _, .pointer (some ⟨x, 0, none⟩), rfl, Or.inl ⟨by rfl, fun W hW => by go_simp⟩, partsI_yield ?_⟩
  simp only [Act.put, List.setIfInBounds_toArray, List.set_cons_zero, List.set_cons_succ]
  simp only [List.cons_append, List.nil_append, List.append_nil, List.filterMap_cons, List.filterMap_nil, List.getElem?_toArray, List.getElem?_cons_zero, List.getElem?_cons_succ]
  go_wp2_with fail
  refine ⟨rfl, _, .pointer (some ⟨x, 37, none⟩), rfl, Or.inl ⟨by rfl, fun W hW => by go_simp⟩, partsI_yield ?_⟩
  simp only [Act.put, List.setIfInBounds_toArray, List.set_cons_zero, List.set_cons_succ]
  simp only [List.cons_append, List.nil_append, List.append_nil, List.filterMap_cons, List.filterMap_nil, List.getElem?_toArray, List.getElem?_cons_zero, List.getElem?_cons_succ]
  go_wp2_with fail
  refine ⟨rfl, _, .map (some mf), rfl, Or.inl ⟨by rfl, fun W hW => by have hW1 := ix_c37 hW.1; go_simp⟩, partsI_yield ?_⟩
  simp only [Act.put, List.setIfInBounds_toArray, List.set_cons_zero, List.set_cons_succ]
  simp only [List.cons_append, List.nil_append, List.append_nil, List.filterMap_cons, List.filterMap_nil, List.getElem?_toArray, List.getElem?_cons_zero, List.getElem?_cons_succ]
  go_wp2_with fail
  refine ⟨rfl, _, .agg #[.int .i64 0, .int .i64 0, .int .i64 ((n - 1) / 4)], rfl, Or.inl ⟨by rfl, fun W hW => by have hW0 : W.cell? ⟨w2.heap.size, 0, none⟩ = some (.int .i64 0) := (hW.2.1.cell 0).trans rfl; have hW1 : W.cell? ⟨w2.heap.size, 1, none⟩ = some (.int .i64 0) := (hW.2.1.cell 1).trans rfl; have hW2 : W.cell? ⟨w2.heap.size, 2, none⟩ = some (.int .i64 ((n - 1) / 4)) := (hW.2.1.cell 2).trans rfl; go_simp⟩, partsI_yield ?_⟩
  simp only [Act.put, List.setIfInBounds_toArray, List.set_cons_zero, List.set_cons_succ]
  simp only [List.cons_append, List.nil_append, List.append_nil, List.filterMap_cons, List.filterMap_nil, List.getElem?_toArray, List.getElem?_cons_zero, List.getElem?_cons_succ]
  go_wp2_with fail
  refine ⟨rfl, _, .agg (ftC ft00), rfl, Or.inl ⟨by rfl, fun W hW => by have hW1 := HLK.out W hW.2.2; go_simp⟩, partsI_force ?_⟩
  simp only [Act.put, List.setIfInBounds_toArray, List.set_cons_zero, List.set_cons_succ]
  simp only [List.cons_append, List.nil_append, List.append_nil, List.filterMap_cons, List.filterMap_nil, List.getElem?_toArray, List.getElem?_cons_zero, List.getElem?_cons_succ]
  go_wp2_with fail
  refine ⟨rfl, hS1, partsI_force ?_⟩
  simp only [List.cons_append, List.nil_append, List.append_nil, List.filterMap_cons, List.filterMap_nil, List.getElem?_toArray, List.getElem?_cons_zero, List.getElem?_cons_succ]
  (refine wpList_store_row (by rfl) 126 _ _ (by rfl) (w4.heap.size) (ftC ft00) (by rfl) (by rfl) 126 (ftC ft00) (by exact q4) (sizeFt.trans (by rw [ftC_size])) (by simp only [ftC_size]) (ftC_all _) ?_; simp only [Act.put, List.setIfInBounds_toArray, List.set_cons_zero, List.set_cons_succ])
  go_wp2_with fail
  refine ⟨rfl, hS2, partsI_last ?_⟩
  simp only [List.cons_append, List.nil_append, List.append_nil, List.filterMap_cons, List.filterMap_nil, List.getElem?_toArray, List.getElem?_cons_zero, List.getElem?_cons_succ]
  refine ⟨rfl, ?_⟩
  have HW4 : Hid (w.heap.size < w4.heap.size) := HB3d.out.2
  have HP4 : Hid (w2.heap.size < w4.heap.size ∧ mf < w4.heap.size ∧ x < w4.heap.size) := ⟨hS0.2.1.lt, mapLt hS0.2.2, hS0.1.lt⟩
  clear hS0 hS1 hS2 HLK q4 HB3d r3d
  generalize ((w4.alloc (.cells (ftC ft00) 126)).setRow w4.heap.size (ftC ft00)) = w5 at *
  have htr : w5.there w4.heap.size (pn * 45) (hdC y).size := by
    rw [hdC_size]
    exact q5.there (pn * 45) 45 (by rw [ftC_size]; omega)
  have q6 := ft_put q5 pn hp4 y
  have hb6 : Below w4.heap.size w5 (w5.setCells w4.heap.size (pn * 45) (hdC y).toList) := below_setCells (Nat.le_refl _) _ _ _ (Below.refl _ _)
  have S6 : Blk (w5.setCells w4.heap.size (pn * 45) (hdC y).toList) x 113 (ixC cp h R high top mf ml mc) ∧ Blk (w5.setCells w4.heap.size (pn * 45) (hdC y).toList) w2.heap.size 155 #[.int .i64 0, .int .i64 0, .int .i64 ((n - 1) / 4)] ∧ MapIs pkV ftV (w5.setCells w4.heap.size (pn * 45) (hdC y).toList) mf L := ⟨HS2.out.1.below hb6 HP4.out.2.2, HS2.out.2.1.below hb6 HP4.out.1, HS2.out.2.2.below hb6 HP4.out.2.1⟩
  have HB6 : Hid (Below w.heap.size w (w5.setCells w4.heap.size (pn * 45) (hdC y).toList)) := HB5.out.trans (hb6.mono (Nat.le_of_lt HW4.out))
  clear hb6 HS2 HB5
  go_wp2_with (first
    | (refine wpList_load_rowg (by rfl) 117 _ (by rfl) (w.heap.size) (by rfl) 117 (hdC y) (0, 0) _ (by exact r5) Tryz.underlying117 (by rfl) (sizeHd.trans (by rw [hdC_size])) ?_; simp only [Act.put, List.setIfInBounds_toArray, List.set_cons_zero, List.set_cons_succ])
    | (refine wpList_store_mid (by rfl) 117 _ _ (by rfl) w4.heap.size (pn * 45) (hdC y) (by rfl) (by rfl) (by exact htr) (by rw [hdC_size]; exact sizeHd) (hdC_all _) ?_; simp only [Act.put, List.setIfInBounds_toArray, List.set_cons_zero, List.set_cons_succ])
    | fail)
  clear htr r5 q5
  generalize (w5.setCells w4.heap.size (pn * 45) (hdC y).toList) = w6 at *
  have q6d : Blk w6.drew w4.heap.size 126 (ftC (ftU ft00 pn y)) := q6
  have hS6 : Blk w6.drew x 113 (ixC cp h R high top mf ml mc) ∧ Blk w6.drew w2.heap.size 155 #[.int .i64 0, .int .i64 0, .int .i64 ((n - 1) / 4)] ∧ MapIs pkV ftV w6.drew mf L := S6
  have HB6d : Hid (Below w.heap.size w w6.drew) := HB6.out.drew
  clear q6 S6 HB6
  refine wp_region_partsS (fun W => Blk W x 113 (ixC cp h R high top mf ml mc) ∧ Blk W w2.heap.size 155 #[.int .i64 0, .int .i64 0, .int .i64 ((n - 1) / 4)] ∧ MapIs pkV ftV W mf L) [([0], 1, true), ([], 2, true), ([], 3, true), ([], 4, true), ([], 5, false)] [] [6] (by kernel_rfl) (by kernel_rfl) hS6 (partsI_yield ?_)
  generalize w6.drew = w7 at *
  obtain ⟨w8, hup, hm8, hk8⟩ := HUP.out w7 hS6.2.2
  have HE : Hid (MapIs pkV ftV w8 mf (L ++ [((0, 0, (n - 1) / 4), ftU ft00 pn y)]) ∧ Keeps mf w w8) := ⟨hm8, (Keeps.of HB6d.out (Nat.le_of_lt HML.out.1)).trans hk8⟩
  clear hm8 hk8
  simp only [List.cons_append, List.nil_append, List.append_nil, List.filterMap_cons, List.filterMap_nil, List.getElem?_toArray, List.getElem?_cons_zero, List.getElem?_cons_succ]
  go_wp2_with fail
  refine ⟨rfl, _, .pointer (some ⟨x, 0, none⟩), rfl, Or.inl ⟨by rfl, fun W hW => by go_simp⟩, partsI_yield ?_⟩
  simp only [Act.put, List.setIfInBounds_toArray, List.set_cons_zero, List.set_cons_succ]
  simp only [List.cons_append, List.nil_append, List.append_nil, List.filterMap_cons, List.filterMap_nil, List.getElem?_toArray, List.getElem?_cons_zero, List.getElem?_cons_succ]
  go_wp2_with fail
  refine ⟨rfl, _, .pointer (some ⟨x, 37, none⟩), rfl, Or.inl ⟨by rfl, fun W hW => by go_simp⟩, partsI_yield ?_⟩
  simp only [Act.put, List.setIfInBounds_toArray, List.set_cons_zero, List.set_cons_succ]
  simp only [List.cons_append, List.nil_append, List.append_nil, List.filterMap_cons, List.filterMap_nil, List.getElem?_toArray, List.getElem?_cons_zero, List.getElem?_cons_succ]
  go_wp2_with fail
  refine ⟨rfl, _, .map (some mf), rfl, Or.inl ⟨by rfl, fun W hW => by have hW1 := ix_c37 hW.1; go_simp⟩, partsI_yield ?_⟩
  simp only [Act.put, List.setIfInBounds_toArray, List.set_cons_zero, List.set_cons_succ]
  simp only [List.cons_append, List.nil_append, List.append_nil, List.filterMap_cons, List.filterMap_nil, List.getElem?_toArray, List.getElem?_cons_zero, List.getElem?_cons_succ]
  go_wp2_with fail
  refine ⟨rfl, _, .agg #[.int .i64 0, .int .i64 0, .int .i64 ((n - 1) / 4)], rfl, Or.inl ⟨by rfl, fun W hW => by have hW0 : W.cell? ⟨w2.heap.size, 0, none⟩ = some (.int .i64 0) := (hW.2.1.cell 0).trans rfl; have hW1 : W.cell? ⟨w2.heap.size, 1, none⟩ = some (.int .i64 0) := (hW.2.1.cell 1).trans rfl; have hW2 : W.cell? ⟨w2.heap.size, 2, none⟩ = some (.int .i64 ((n - 1) / 4)) := (hW.2.1.cell 2).trans rfl; go_simp⟩, partsI_force ?_⟩
  simp only [Act.put, List.setIfInBounds_toArray, List.set_cons_zero, List.set_cons_succ]
  simp only [List.cons_append, List.nil_append, List.append_nil, List.filterMap_cons, List.filterMap_nil, List.getElem?_toArray, List.getElem?_cons_zero, List.getElem?_cons_succ]
  (refine wpList_load_rowg (by rfl) 126 _ (by rfl) (w4.heap.size) (by rfl) 126 (ftC (ftU ft00 pn y)) (0, 0) _ (by exact q6d) Tryz.underlying126 (by rfl) (sizeFt.trans (by rw [ftC_size])) ?_; simp only [Act.put, List.setIfInBounds_toArray, List.set_cons_zero, List.set_cons_succ])
  go_wp2_with fail
  refine ⟨rfl, hS6, partsI_last ?_⟩
  simp only [List.cons_append, List.nil_append, List.append_nil, List.filterMap_cons, List.filterMap_nil, List.getElem?_toArray, List.getElem?_cons_zero, List.getElem?_cons_succ]
  go_wp2_with fail
  refine ⟨rfl, ?_⟩
  go_wp2_with fail
  first
    | refine bodyPost_end (results_none Tryz.results47 _ _ _) rfl ?_
    | refine bodyPost_ret (results_none Tryz.results47 _ _ _) rfl ?_
  exact ⟨rfl, HE.out.1, HE.out.2⟩
end
end Go.Proofs.YtbcgpiocigjkoaaGreat

namespace Go.Proofs.YtbcgpiocigjkoaaGreat
open Go Go.RowKit
set_option linter.unusedSimpArgs false
set_option linter.unusedVariables false
theorem res_tct {P : Program} {fn : Func} {p u v : Tmp} {ty : TypeId} (h : fn.results = #[.tmp u, .cell p ty, .tmp v]) (tmps : Array Value) (w : World) (g : Nat) (t : TypeId) (cs : Array Value) (fr : Nat × Nat) (d : TypeDesc)
    (hp : tmps.getD p undef = .pointer (some ⟨g, 0, none⟩)) (hg : w.heap[g]? = some (.cells cs t fr))
    (hu : P.underlying ty = some d) (hd : (match d with | .struct _ | .array _ _ => true | _ => false) = true) (hi : (P.info? ty).map (·.size) = some cs.size) :
    (results fn tmps).run P w = .ok (.tuple #[tmps.getD u undef, .agg cs, tmps.getD v undef]) w := by
  have hp' : tmps[p]?.getD undef = .pointer (some ⟨g, 0, none⟩) := by simpa using hp
  simp [results, h, hp', asAddr, run_loadVar_row w g t ty cs fr d hg hu hd hi]
section
variable {x : Nat} {cp : Option Addr} {h : Int} {R : Rf} {high top : Int} {mf ml mc : Nat} {L : List ((Int × Int × Int) × (Nat → Hd))}
set_option maxRecDepth 100000 in
set_option maxHeartbeats 4000000 in
theorem free_first (q : Nat → Hd) (hq : (q 0).k = 0) (w : World) (HF : ∀ V, Below w.heap.size w V → Calls Tryz.prog 41 #[.pointer (some ⟨x, 0, none⟩), .int .i64 0] V fun e w' => e = .returned (.tuple #[.agg (ftC q), .int .i64 0]) ∧ Below V.heap.size V w') : Calls Tryz.prog 46 #[.pointer (some ⟨x, 0, none⟩)] w fun e w' => e = .returned (.tuple #[.int .i64 1, .agg (hdC (q 0)), .int .i64 0]) ∧ Below w.heap.size w w' := by
  have hz := zero_ft
  have hz2 := zero_hd
  have hb1 : Below w.heap.size w (w.alloc (.cells (hdC hd00) 117)) := below_new1 _ _
  have r1 : Blk (w.alloc (.cells (hdC hd00) 117)) w.heap.size 117 (hdC hd00) := Blk.new _ _ _
  have HFF : Hid (∀ V, Below w.heap.size w V → Calls Tryz.prog 41 #[.pointer (some ⟨x, 0, none⟩), .int .i64 0] V fun e w' => e = .returned (.tuple #[.agg (ftC q), .int .i64 0]) ∧ Below V.heap.size V w') := HF
  have HLT : Hid (∀ w : World, Calls Tryz.prog 40 #[.int .i64 4096] w fun e w2 => e = .returned (.int .i64 1024) ∧ w2 = w) := leavesTo_any 4096 (by decide) (by decide)
  have HNU : Hid (∀ w : World, Calls Tryz.prog 43 #[.int .i64 0, .int .i64 0] w fun e w2 => e = .returned (.int .i64 1) ∧ w2 = w) := numberAt_any 0 0 (by decide) (by decide) (by decide) (by decide)
  have hix : ∀ w, (Instr.index 126 (.agg (ftC q)) (.int .i64 0)).run Tryz.prog w = .ok (.agg (hdC (q 0))) w := fun w => run_index_ft q 0 (by decide) w
  have HIU : Hid (∀ w : World, Calls Tryz.prog 42 #[.agg (hdC (q 0))] w fun e w' => e = .returned (.bool false) ∧ Below w.heap.size w w') := fun w => by
    have := inUse_any (q 0) w
    rw [hq] at this
    exact this
  clear HF hq
  go_enter Tryz.func46, Tryz.ntmps46
  go_wp2_with fail
  refine (HLT.out _).mono ?_
  rintro e _ ⟨rfl, rfl⟩
  clear HLT
  go_wp2_with fail
  refine wp_loop_rounds 1 ?_
  rw [rounds_succ]
  have HF1 := HFF.out _ hb1
  generalize (w.alloc (.cells (hdC hd00) 117)) = w1 at *
  go_wp2_with fail
  refine HF1.mono ?_
  rintro e w2 ⟨rfl, hb2⟩
  have hb12 := hb1.trans (hb2.mono hb1.size)
  have r2 := r1.below hb2 r1.lt
  clear HF1 HFF hb2 hb1 r1
  have f3 : Blk (w2.alloc (.cells (ftC ft00) 126)) w2.heap.size 126 (ftC ft00) := Blk.new _ _ _
  have f3' := f3.set (ftC q)
  have hb23 : Below w2.heap.size w2 ((w2.alloc (.cells (ftC ft00) 126)).setRow w2.heap.size (ftC q)) := below_setRow (below_new1 _ _) (Nat.le_refl _) _
  have r3 := r2.below hb23 r2.lt
  have HB3 : Hid (Below w.heap.size w ((w2.alloc (.cells (ftC ft00) 126)).setRow w2.heap.size (ftC q))) := hb12.trans (hb23.mono hb12.size)
  clear hb12 hb23 r2
  go_wp2_with (first
    | (refine wpList_store_row (by rfl) 126 _ _ (by rfl) (w2.heap.size) (ftC q) (by rfl) (by rfl) 126 (ftC ft00) (by exact f3) (sizeFt.trans (by rw [ftC_size])) (by simp only [ftC_size]) (ftC_all _) ?_; simp only [Act.put, List.setIfInBounds_toArray, List.set_cons_zero, List.set_cons_succ])
    | (refine wpList_load_rowg (by rfl) 126 _ (by rfl) (w2.heap.size) (by rfl) 126 (ftC q) (0, 0) _ (by exact f3') Tryz.underlying126 (by rfl) (sizeFt.trans (by rw [ftC_size])) ?_; simp only [Act.put, List.setIfInBounds_toArray, List.set_cons_zero, List.set_cons_succ])
    | fail)
  clear f3
  generalize ((w2.alloc (.cells (ftC ft00) 126)).setRow w2.heap.size (ftC q)) = w3 at *
  refine wp_loop_rounds 1 ?_
  rw [rounds_succ]
  have q4 : Blk (w3.alloc (.cells (hdC hd00) 117)) w3.heap.size 117 (hdC hd00) := Blk.new _ _ _
  have q4' := q4.set (hdC (q 0))
  have hb34 : Below w3.heap.size w3 ((w3.alloc (.cells (hdC hd00) 117)).setRow w3.heap.size (hdC (q 0))) := below_setRow (below_new1 _ _) (Nat.le_refl _) _
  have r4 := r3.below hb34 r3.lt
  have HB4 : Hid (Below w.heap.size w ((w3.alloc (.cells (hdC hd00) 117)).setRow w3.heap.size (hdC (q 0)))) := HB3.out.trans (hb34.mono HB3.out.size)
  have HW3 : Hid (w.heap.size < w3.heap.size) := r3.lt
  clear hb34 r3 HB3 f3'
  go_wp2_with (first
    | (refine wpList_store_row (by rfl) 117 _ _ (by rfl) (w3.heap.size) (hdC (q 0)) (by rfl) (by rfl) 117 (hdC hd00) (by exact q4) (sizeHd.trans (by rw [hdC_size])) (by simp only [hdC_size]) (hdC_all _) ?_; simp only [Act.put, List.setIfInBounds_toArray, List.set_cons_zero, List.set_cons_succ])
    | (refine wpList_load_rowg (by rfl) 117 _ (by rfl) (w3.heap.size) (by rfl) 117 (hdC (q 0)) (0, 0) _ (by exact q4') Tryz.underlying117 (by rfl) (sizeHd.trans (by rw [hdC_size])) ?_; simp only [Act.put, List.setIfInBounds_toArray, List.set_cons_zero, List.set_cons_succ])
    | fail)
  generalize ((w3.alloc (.cells (hdC hd00) 117)).setRow w3.heap.size (hdC (q 0))) = w4 at *
  refine (HIU.out w4).mono ?_
  rintro e w5 ⟨rfl, hb5⟩
  have q5 := q4'.below hb5 q4'.lt
  have r5 := r4.below hb5 r4.lt
  have HB5 : Hid (Below w.heap.size w w5) := HB4.out.trans (hb5.mono HB4.out.size)
  clear q4 q4' r4 hb5 HB4 HIU hix
  go_wp2_with fail
  have q5d : Blk w5.drew w3.heap.size 117 (hdC (q 0)) := q5
  have r5d : Blk w5.drew w.heap.size 117 (hdC hd00) := r5
  have HB5d : Hid (Below w.heap.size w w5.drew ∧ w.heap.size < w3.heap.size) := ⟨HB5.out.drew, HW3.out⟩
  clear q5 r5 HB5
  refine wp_region_partsS (fun W => Blk W w3.heap.size 117 (hdC (q 0))) [([0, 1], 3, true), ([], 2, false), ([], 4, false), ([], 5, false)] [6] [] (by kernel_rfl) (by kernel_rfl) q5d (partsI_yield ?_)
  generalize w5.drew = w6 at *
  simp only [List.cons_append, List.nil_append, List.append_nil, List.filterMap_cons, List.filterMap_nil, List.getElem?_toArray, List.getElem?_cons_zero, List.getElem?_cons_succ]
  go_wp2_with fail
  refine ⟨rfl, _, .agg (hdC (q 0)), rfl, kyields_load (by rfl) 117 _ (by rfl) w3.heap.size 45 (hdF (q 0)) (by rfl) _ 117 (fun W hW => hW) Tryz.underlying117 rfl sizeHd, partsI_force ?_⟩
  simp only [Act.put, List.setIfInBounds_toArray, List.set_cons_zero, List.set_cons_succ]
  simp only [List.cons_append, List.nil_append, List.append_nil, List.filterMap_cons, List.filterMap_nil, List.getElem?_toArray, List.getElem?_cons_zero, List.getElem?_cons_succ]
  go_wp2_with fail
  refine (HNU.out _).mono ?_
  rintro e _ ⟨rfl, rfl⟩
  go_wp2_with fail
  refine ⟨rfl, q5d, partsI_force ?_⟩
  simp only [List.cons_append, List.nil_append, List.append_nil, List.filterMap_cons, List.filterMap_nil, List.getElem?_toArray, List.getElem?_cons_zero, List.getElem?_cons_succ]
  go_wp2_with fail
  refine ⟨rfl, q5d, partsI_force ?_⟩
  simp only [List.cons_append, List.nil_append, List.append_nil, List.filterMap_cons, List.filterMap_nil, List.getElem?_toArray, List.getElem?_cons_zero, List.getElem?_cons_succ]
  (refine wpList_store_row (by rfl) 117 _ _ (by rfl) (w.heap.size) (hdC (q 0)) (by rfl) (by rfl) 117 (hdC hd00) (by exact r5d) (sizeHd.trans (by rw [hdC_size])) (by simp only [hdC_size]) (hdC_all _) ?_; simp only [Act.put, List.setIfInBounds_toArray, List.set_cons_zero, List.set_cons_succ])
  go_wp2_with fail
  refine ⟨rfl, (q5d.other _ (by have := HB5d.out.2; omega)), partsI_last ?_⟩
  simp only [List.cons_append, List.nil_append, List.append_nil, List.filterMap_cons, List.filterMap_nil, List.getElem?_toArray, List.getElem?_cons_zero, List.getElem?_cons_succ]
  go_wp2_with fail
  refine ⟨rfl, ?_⟩
  go_wp2_with fail
  try simp only [Exit.inBlock, Exit.then]
  refine bodyPost_ret (res_tct Tryz.results46 _ _ (w.heap.size) 117 (hdC (q 0)) (0, 0) _ rfl (r5d.set _) Tryz.underlying117 rfl (sizeHd.trans (by rw [hdC_size]))) rfl ?_
  exact ⟨rfl, below_setRow HB5d.out.1 (Nat.le_refl _) _⟩
end
end Go.Proofs.YtbcgpiocigjkoaaGreat
