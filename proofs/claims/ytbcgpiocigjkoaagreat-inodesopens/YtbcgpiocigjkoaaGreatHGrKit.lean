/- Grown trees: what they have in the memory; nil ones; their heights and standing trees. -/
import Derived.Test.YtbcgpiocigjkoaaGreatHInsPut
import Derived.Deep.MidRow
import Derived.Handy
import Derived.Deep.DeepCutAuto
import Derived.Deep.Cut
import Derived.Test.YtbcgpiocigjkoaaGreatHIoChk
import Derived.Test.YtbcgpiocigjkoaaGreatHCollKit
import Derived.Test.YtbcgpiocigjkoaaGreatHOrders
import Derived.Deep.RegionWith
import Derived.Deep.DrawnRows
import Derived.Deep.RegionLaw
import Derived.Deep.Heap
import Derived.BigQuiet
import Derived.Deep.QuietTactic
import Derived.Shelf.SlIterI.Nil
import Derived.Shelf.SortM.Plain
import Derived.Shelf.SortM.SortNone
import Derived.Test.YtbcgpiocigjkoaaGreatProg
import Derived.WideKeyElems
import Derived.Test.YtbcgpiocigjkoaaGreatHBlkKey
import Derived.Lib.SlBytesConst
import Derived.ArgAppend
import Derived.Shelf.Spec.SlicesGrow
import Derived.Lib.AppendZerosOnto
import Derived.Lib.Walk

namespace Go.Proofs.YtbcgpiocigjkoaaGreat
open Go Go.RowKit
set_option linter.unusedSimpArgs false
set_option linter.unusedVariables false
theorem res_tct {P : Program} {fn : Func} {p u v : Tmp} {ty : TypeId} (h : fn.results = #[.tmp u, .cell p ty, .tmp v]) (tmps : Array Value) (w : World) (g : Nat) (t : TypeId) (cs : Array Value) (fr : Nat × Nat) (d : TypeDesc)
    (hp : tmps.getD p undef = .pointer (some ⟨g, 0, none⟩)) (hg : w.heap[g]? = some (.cells cs t fr))
    (hu : P.underlying ty = some d) (hd : (match d with | .struct _ | .array _ _ => true | _ => false) = true) (hi : (P.info? ty).map (·.size) = some cs.size) :
    (results fn tmps).run P w = .ok (.tuple #[tmps.getD u undef, .agg cs, tmps.getD v undef]) w := by
  have hp' : tmps[p]?.getD undef = .pointer (some ⟨g, 0, none⟩) := by simpa using hp
  simp [results, h, hp', asAddr, run_loadVar_row w g t ty cs fr d hg hu hd hi]
section
variable {x : Nat} {cp : Option Addr} {h : Int} {R : Rf} {high top : Int} {mf ml mc : Nat} {L : List ((Int × Int × Int) × (Nat → Hd))}
set_option maxRecDepth 100000 in
set_option maxHeartbeats 4000000 in
theorem free_first (q : Nat → Hd) (hq : (q 0).k = 0) (w : World) (HF : ∀ V, Below w.heap.size w V → Calls Tryz.prog 41 #[.pointer (some ⟨x, 0, none⟩), .int .i64 0] V fun e w' => e = .returned (.tuple #[.agg (ftC q), .int .i64 0]) ∧ Below V.heap.size V w') : Calls Tryz.prog 46 #[.pointer (some ⟨x, 0, none⟩)] w fun e w' => e = .returned (.tuple #[.int .i64 1, .agg (hdC (q 0)), .int .i64 0]) ∧ Below w.heap.size w w' := by
  have hz := zero_ft
  have hz2 := zero_hd
  have hb1 : Below w.heap.size w (w.alloc (.cells (hdC hd00) 117)) := below_new1 _ _
  have r1 : Blk (w.alloc (.cells (hdC hd00) 117)) w.heap.size 117 (hdC hd00) := Blk.new _ _ _
  have HFF : Hid (∀ V, Below w.heap.size w V → Calls Tryz.prog 41 #[.pointer (some ⟨x, 0, none⟩), .int .i64 0] V fun e w' => e = .returned (.tuple #[.agg (ftC q), .int .i64 0]) ∧ Below V.heap.size V w') := HF
  have HLT : Hid (∀ w : World, Calls Tryz.prog 40 #[.int .i64 4096] w fun e w2 => e = .returned (.int .i64 1024) ∧ w2 = w) := leavesTo_any 4096 (by decide) (by decide)
  have HNU : Hid (∀ w : World, Calls Tryz.prog 43 #[.int .i64 0, .int .i64 0] w fun e w2 => e = .returned (.int .i64 1) ∧ w2 = w) := numberAt_any 0 0 (by decide) (by decide) (by decide) (by decide)
  have hix : ∀ w, (Instr.index 126 (.agg (ftC q)) (.int .i64 0)).run Tryz.prog w = .ok (.agg (hdC (q 0))) w := fun w => run_index_ft q 0 (by decide) w
  have HIU : Hid (∀ w : World, Calls Tryz.prog 42 #[.agg (hdC (q 0))] w fun e w' => e = .returned (.bool false) ∧ Below w.heap.size w w') := fun w => by
    have := inUse_any (q 0) w
    rw [hq] at this
    exact this
  clear HF hq
  go_enter Tryz.func46, Tryz.ntmps46
  go_wp2_with fail
  refine (HLT.out _).mono ?_
  rintro e _ ⟨rfl, rfl⟩
  clear HLT
  go_wp2_with fail
  refine wp_loop_rounds 1 ?_
  rw [rounds_succ]
  have HF1 := HFF.out _ hb1
  generalize (w.alloc (.cells (hdC hd00) 117)) = w1 at *
  go_wp2_with fail
  refine HF1.mono ?_
  rintro e w2 ⟨rfl, hb2⟩
  have hb12 := hb1.trans (hb2.mono hb1.size)
  have r2 := r1.below hb2 r1.lt
  clear HF1 HFF hb2 hb1 r1
  have f3 : Blk (w2.alloc (.cells (ftC ft00) 126)) w2.heap.size 126 (ftC ft00) := Blk.new _ _ _
  have f3' := f3.set (ftC q)
  have hb23 : Below w2.heap.size w2 ((w2.alloc (.cells (ftC ft00) 126)).setRow w2.heap.size (ftC q)) := below_setRow (below_new1 _ _) (Nat.le_refl _) _
  have r3 := r2.below hb23 r2.lt
  have HB3 : Hid (Below w.heap.size w ((w2.alloc (.cells (ftC ft00) 126)).setRow w2.heap.size (ftC q))) := hb12.trans (hb23.mono hb12.size)
  clear hb12 hb23 r2
  go_wp2_with (first
    | (refine wpList_store_row (by rfl) 126 _ _ (by rfl) (w2.heap.size) (ftC q) (by rfl) (by rfl) 126 (ftC ft00) (by exact f3) (sizeFt.trans (by rw [ftC_size])) (by simp only [ftC_size]) (ftC_all _) ?_; simp only [Act.put, List.setIfInBounds_toArray, List.set_cons_zero, List.set_cons_succ])
    | (refine wpList_load_rowg (by rfl) 126 _ (by rfl) (w2.heap.size) (by rfl) 126 (ftC q) (0, 0) _ (by exact f3') Tryz.underlying126 (by rfl) (sizeFt.trans (by rw [ftC_size])) ?_; simp only [Act.put, List.setIfInBounds_toArray, List.set_cons_zero, List.set_cons_succ])
    | fail)
  clear f3
  generalize ((w2.alloc (.cells (ftC ft00) 126)).setRow w2.heap.size (ftC q)) = w3 at *
  refine wp_loop_rounds 1 ?_
  rw [rounds_succ]
  have q4 : Blk (w3.alloc (.cells (hdC hd00) 117)) w3.heap.size 117 (hdC hd00) := Blk.new _ _ _
  have q4' := q4.set (hdC (q 0))
  have hb34 : Below w3.heap.size w3 ((w3.alloc (.cells (hdC hd00) 117)).setRow w3.heap.size (hdC (q 0))) := below_setRow (below_new1 _ _) (Nat.le_refl _) _
  have r4 := r3.below hb34 r3.lt
  have HB4 : Hid (Below w.heap.size w ((w3.alloc (.cells (hdC hd00) 117)).setRow w3.heap.size (hdC (q 0)))) := HB3.out.trans (hb34.mono HB3.out.size)
  have HW3 : Hid (w.heap.size < w3.heap.size) := r3.lt
  clear hb34 r3 HB3 f3'
  go_wp2_with (first
    | (refine wpList_store_row (by rfl) 117 _ _ (by rfl) (w3.heap.size) (hdC (q 0)) (by rfl) (by rfl) 117 (hdC hd00) (by exact q4) (sizeHd.trans (by rw [hdC_size])) (by simp only [hdC_size]) (hdC_all _) ?_; simp only [Act.put, List.setIfInBounds_toArray, List.set_cons_zero, List.set_cons_succ])
    | (refine wpList_load_rowg (by rfl) 117 _ (by rfl) (w3.heap.size) (by rfl) 117 (hdC (q 0)) (0, 0) _ (by exact q4') Tryz.underlying117 (by rfl) (sizeHd.trans (by rw [hdC_size])) ?_; simp only [Act.put, List.setIfInBounds_toArray, List.set_cons_zero, List.set_cons_succ])
    | fail)
  generalize ((w3.alloc (.cells (hdC hd00) 117)).setRow w3.heap.size (hdC (q 0))) = w4 at *
  refine (HIU.out w4).mono ?_
  rintro e w5 ⟨rfl, hb5⟩
  have q5 := q4'.below hb5 q4'.lt
  have r5 := r4.below hb5 r4.lt
  have HB5 : Hid (Below w.heap.size w w5) := HB4.out.trans (hb5.mono HB4.out.size)
  clear q4 q4' r4 hb5 HB4 HIU hix
  go_wp2_with fail
  have q5d : Blk w5.drew w3.heap.size 117 (hdC (q 0)) := q5
  have r5d : Blk w5.drew w.heap.size 117 (hdC hd00) := r5
  have HB5d : Hid (Below w.heap.size w w5.drew ∧ w.heap.size < w3.heap.size) := ⟨HB5.out.drew, HW3.out⟩
  clear q5 r5 HB5
  refine wp_region_partsS (fun W => Blk W w3.heap.size 117 (hdC (q 0))) [([0, 1], 3, true), ([], 2, false), ([], 4, false), ([], 5, false)] [6] [] (by kernel_rfl) (by kernel_rfl) q5d (partsI_yield ?_)
  generalize w5.drew = w6 at *
  simp only [List.cons_append, List.nil_append, List.append_nil, List.filterMap_cons, List.filterMap_nil, List.getElem?_toArray, List.getElem?_cons_zero, List.getElem?_cons_succ]
  go_wp2_with fail
  refine ⟨rfl, _, .agg (hdC (q 0)), rfl, kyields_load (by rfl) 117 _ (by rfl) w3.heap.size 45 (hdF (q 0)) (by rfl) _ 117 (fun W hW => hW) Tryz.underlying117 rfl sizeHd, partsI_force ?_⟩
  simp only [Act.put, List.setIfInBounds_toArray, List.set_cons_zero, List.set_cons_succ]
  simp only [List.cons_append, List.nil_append, List.append_nil, List.filterMap_cons, List.filterMap_nil, List.getElem?_toArray, List.getElem?_cons_zero, List.getElem?_cons_succ]
  go_wp2_with fail
  refine (HNU.out _).mono ?_
  rintro e _ ⟨rfl, rfl⟩
  go_wp2_with fail
  refine ⟨rfl, q5d, partsI_force ?_⟩
  simp only [List.cons_append, List.nil_append, List.append_nil, List.filterMap_cons, List.filterMap_nil, List.getElem?_toArray, List.getElem?_cons_zero, List.getElem?_cons_succ]
  go_wp2_with fail
  refine ⟨rfl, q5d, partsI_force ?_⟩
  simp only [List.cons_append, List.nil_append, List.append_nil, List.filterMap_cons, List.filterMap_nil, List.getElem?_toArray, List.getElem?_cons_zero, List.getElem?_cons_succ]
  (refine wpList_store_row (by rfl) 117 _ _ (by rfl) (w.heap.size) (hdC (q 0)) (by rfl) (by rfl) 117 (hdC hd00) (by exact r5d) (sizeHd.trans (by rw [hdC_size])) (by simp only [hdC_size]) (hdC_all _) ?_; simp only [Act.put, List.setIfInBounds_toArray, List.set_cons_zero, List.set_cons_succ])
  go_wp2_with fail
  refine ⟨rfl, (q5d.other _ (by have := HB5d.out.2; omega)), partsI_last ?_⟩
  simp only [List.cons_append, List.nil_append, List.append_nil, List.filterMap_cons, List.filterMap_nil, List.getElem?_toArray, List.getElem?_cons_zero, List.getElem?_cons_succ]
  go_wp2_with fail
  refine ⟨rfl, ?_⟩
  go_wp2_with fail
  try simp only [Exit.inBlock, Exit.then]
  refine bodyPost_ret (res_tct Tryz.results46 _ _ (w.heap.size) 117 (hdC (q 0)) (0, 0) _ rfl (r5d.set _) Tryz.underlying117 rfl (sizeHd.trans (by rw [hdC_size]))) rfl ?_
  exact ⟨rfl, below_setRow HB5d.out.1 (Nat.le_refl _) _⟩
end
end Go.Proofs.YtbcgpiocigjkoaaGreat

namespace Go.Proofs.YtbcgpiocigjkoaaGreat
open Go Go.RowKit
set_option linter.unusedSimpArgs false
set_option linter.unusedVariables false
section
variable {x : Nat} {cp : Option Addr} {h : Int} {R : Rf} {high top : Int} {mf ml mc : Nat} {L : List ((Int × Int × Int) × (Nat → Hd))}
/-- an inode with what it is now -/
def hdN (y : Hd) (n k l s : Int) (t : Nat) : Hd := ⟨y.o, n, k, l, s, t, y.left, y.set⟩
theorem hd_putNow {w : World} {b t : Nat} {y : Hd} (H : Blk w b t (hdC y)) (n k l s : Int) (u : Nat) : Blk (w.setCells b 38 [.int .i64 n, .int .i64 k, .int .i64 l, .int .i64 s, .int .u64 ((u : Nat) : Int)]) b t (hdC (hdN y n k l s u)) := by
  have := Blk.cells_put (n := 45) [.int .i64 n, .int .i64 k, .int .i64 l, .int .i64 s, .int .u64 ((u : Nat) : Int)] 38 w (hdF y) H
  rw [show va 45 (over (hdF y) 38 [.int .i64 n, .int .i64 k, .int .i64 l, .int .i64 s, .int .u64 ((u : Nat) : Int)]) = hdC (hdN y n k l s u) from va_congr fun i hi => ?_] at this
  · exact this
  · unfold over
    by_cases hj : 38 ≤ i ∧ i < 38 + [Value.int .i64 n, .int .i64 k, .int .i64 l, .int .i64 s, .int .u64 ((u : Nat) : Int)].length
    · rw [if_pos hj]
      have hj2 : i < 43 := hj.2
      unfold hdF nwF hdN
      rw [if_neg (by omega), if_pos hj2]
      obtain ⟨d, rfl⟩ : ∃ d, i = 38 + d := ⟨i - 38, by omega⟩
      rw [show 38 + d - 38 = d by omega]
      match d, (show d < 5 by omega) with
      | 0, _ => rfl
      | 1, _ => rfl
      | 2, _ => rfl
      | 3, _ => rfl
      | 4, _ => rfl
    · rw [if_neg hj]
      have hj2 : ¬ (38 ≤ i ∧ i < 43) := hj
      unfold hdF hdN
      by_cases h1 : i < 38
      · rw [if_pos h1, if_pos h1]
      · have h2 : ¬ i < 43 := fun h => hj2 ⟨by omega, h⟩
        rw [if_neg h1, if_neg h1, if_neg h2, if_neg h2]
set_option maxRecDepth 100000 in
set_option maxHeartbeats 4000000 in
theorem make_first (st : Nat) (w : World) (hne : x ≠ mf) (hx : Blk w x 113 (ixC cp h R high top mf ml mc)) (hm : MapIs pkV ftV w mf []) (hh : high = 0) (ht : top = 0) : Calls Tryz.prog 17 #[.pointer (some ⟨x, 0, none⟩), .int .i64 1, .int .u64 ((st : Nat) : Int)] w fun e w' => e = .returned (.tuple #[.int .i64 1, .int .i64 0]) ∧ Blk w' x 113 (ixC cp h R high 1 mf ml mc) ∧ MapIs pkV ftV w' mf [((0, 0, 0), ftU ft00 0 (hdN hd00 1 1 1 0 st))] ∧ (∀ B, B ≤ x → B ≤ mf → B ≤ w.heap.size → Below B w w') ∧ ∀ k, k < w.heap.size → k ≠ x → k ≠ mf → w'.heap[k]? = w.heap[k]? := by
  subst hh ht
  have hz2 := zero_hd
  have HFR : Hid (Calls Tryz.prog 46 #[.pointer (some ⟨x, 0, none⟩)] w fun e w' => e = .returned (.tuple #[.int .i64 1, .agg (hdC hd00), .int .i64 0]) ∧ Below w.heap.size w w') := free_first ft00 rfl w fun V hV => four_new 0 (by decide) (by decide) (by decide) ft00 V (hx.below hV hx.lt) (hm.below hV (mapLt hm)) rfl rfl
  have HPU : Hid (∀ V, Blk V x 113 (ixC cp h R 0 0 mf ml mc) → MapIs pkV ftV V mf [] → Calls Tryz.prog 47 #[.pointer (some ⟨x, 0, none⟩), .int .i64 1, .agg (hdC (hdN hd00 1 1 1 0 st))] V fun e w' => e = .returned (.tuple #[]) ∧ MapIs pkV ftV w' mf [((0, 0, 0), ftU ft00 0 (hdN hd00 1 1 1 0 st))] ∧ Keeps mf V w') := fun V h1 h2 => put_new 1 (by decide) (by decide) _ V h1 h2 hne rfl
  have HX : Hid (Blk w x 113 (ixC cp h R 0 0 mf ml mc) ∧ MapIs pkV ftV w mf []) := ⟨hx, hm⟩
  have HNE : Hid (x ≠ mf ∧ x < w.heap.size ∧ mf < w.heap.size) := ⟨hne, hx.lt, mapLt hm⟩
  clear hx hm hne
  go_enter Tryz.func17, Tryz.ntmps17
  · skip
    go_wp2_with fail
    refine HFR.out.mono ?_
    rintro e w2 ⟨rfl, hb2⟩
    have HX2 : Hid (Blk w2 x 113 (ixC cp h R 0 0 mf ml mc) ∧ MapIs pkV ftV w2 mf [] ∧ Below w.heap.size w w2) := ⟨HX.out.1.below hb2 HX.out.1.lt, HX.out.2.below hb2 (mapLt HX.out.2), hb2⟩
    have q3 : Blk (w2.alloc (.cells (hdC hd00) 117)) w2.heap.size 117 (hdC hd00) := Blk.new _ _ _
    have q3' := q3.set (hdC hd00)
    have hb3 : Below w2.heap.size w2 ((w2.alloc (.cells (hdC hd00) 117)).setRow w2.heap.size (hdC hd00)) := below_setRow (below_new1 _ _) (Nat.le_refl _) _
    have HB3 : Hid (Below w2.heap.size w2 ((w2.alloc (.cells (hdC hd00) 117)).setRow w2.heap.size (hdC hd00))) := hb3
    clear hb2 HFR HX hb3
    go_upto_region 6 with (first
      | (refine wpList_store_row (by rfl) 117 _ _ (by rfl) (w2.heap.size) (hdC hd00) (by rfl) (by rfl) 117 (hdC hd00) (by exact q3) (sizeHd.trans (by rw [hdC_size])) (by simp only [hdC_size]) (hdC_all _) ?_; simp only [Act.put, List.setIfInBounds_toArray, List.set_cons_zero, List.set_cons_succ])
      | fail)
    clear q3
    generalize ((w2.alloc (.cells (hdC hd00) 117)).setRow w2.heap.size (hdC hd00)) = w3 at *
    have c38 : w3.cell? ⟨w2.heap.size, 38, none⟩ = some (.int .i64 0) := q3'.cv (n := 45) (by decide)
    have f38 : w3.frozen? ⟨w2.heap.size, 38, none⟩ = false := q3'.frozen 38
    have c39 : w3.cell? ⟨w2.heap.size, 39, none⟩ = some (.int .i64 0) := q3'.cv (n := 45) (by decide)
    have f39 : w3.frozen? ⟨w2.heap.size, 39, none⟩ = false := q3'.frozen 39
    have c40 : w3.cell? ⟨w2.heap.size, 40, none⟩ = some (.int .i64 0) := q3'.cv (n := 45) (by decide)
    have f40 : w3.frozen? ⟨w2.heap.size, 40, none⟩ = false := q3'.frozen 40
    have c41 : w3.cell? ⟨w2.heap.size, 41, none⟩ = some (.int .i64 0) := q3'.cv (n := 45) (by decide)
    have f41 : w3.frozen? ⟨w2.heap.size, 41, none⟩ = false := q3'.frozen 41
    have c42 : w3.cell? ⟨w2.heap.size, 42, none⟩ = some (.int .u64 0) := q3'.cv (n := 45) (by decide)
    have f42 : w3.frozen? ⟨w2.heap.size, 42, none⟩ = false := q3'.frozen 42
    have q4 : Hid (Blk (((((w3.setCell ⟨w2.heap.size, 38, none⟩ (.int .i64 1)).setCell ⟨w2.heap.size, 39, none⟩ (.int .i64 1)).setCell ⟨w2.heap.size, 40, none⟩ (.int .i64 1)).setCell ⟨w2.heap.size, 41, none⟩ (.int .i64 0)).setCell ⟨w2.heap.size, 42, none⟩ (.int .u64 ((st : Nat) : Int))) w2.heap.size 117 (hdC (hdN hd00 1 1 1 0 st))) := hd_putNow q3' 1 1 1 0 st
    have HX4 : Hid (Blk (((((w3.setCell ⟨w2.heap.size, 38, none⟩ (.int .i64 1)).setCell ⟨w2.heap.size, 39, none⟩ (.int .i64 1)).setCell ⟨w2.heap.size, 40, none⟩ (.int .i64 1)).setCell ⟨w2.heap.size, 41, none⟩ (.int .i64 0)).setCell ⟨w2.heap.size, 42, none⟩ (.int .u64 ((st : Nat) : Int))) x 113 (ixC cp h R 0 0 mf ml mc) ∧ MapIs pkV ftV (((((w3.setCell ⟨w2.heap.size, 38, none⟩ (.int .i64 1)).setCell ⟨w2.heap.size, 39, none⟩ (.int .i64 1)).setCell ⟨w2.heap.size, 40, none⟩ (.int .i64 1)).setCell ⟨w2.heap.size, 41, none⟩ (.int .i64 0)).setCell ⟨w2.heap.size, 42, none⟩ (.int .u64 ((st : Nat) : Int))) mf [] ∧ Below w.heap.size w (((((w3.setCell ⟨w2.heap.size, 38, none⟩ (.int .i64 1)).setCell ⟨w2.heap.size, 39, none⟩ (.int .i64 1)).setCell ⟨w2.heap.size, 40, none⟩ (.int .i64 1)).setCell ⟨w2.heap.size, 41, none⟩ (.int .i64 0)).setCell ⟨w2.heap.size, 42, none⟩ (.int .u64 ((st : Nat) : Int)))) := by
      have hb4 : Below w2.heap.size w2 (((((w3.setCell ⟨w2.heap.size, 38, none⟩ (.int .i64 1)).setCell ⟨w2.heap.size, 39, none⟩ (.int .i64 1)).setCell ⟨w2.heap.size, 40, none⟩ (.int .i64 1)).setCell ⟨w2.heap.size, 41, none⟩ (.int .i64 0)).setCell ⟨w2.heap.size, 42, none⟩ (.int .u64 ((st : Nat) : Int))) := below_setCells (Nat.le_refl _) [.int .i64 1, .int .i64 1, .int .i64 1, .int .i64 0, .int .u64 ((st : Nat) : Int)] 38 _ HB3.out
      exact ⟨HX2.out.1.below hb4 HX2.out.1.lt, HX2.out.2.1.below hb4 (mapLt HX2.out.2.1), HX2.out.2.2.trans (hb4.mono HX2.out.2.2.size)⟩
    clear q3' HX2 HB3
    go_wp2_with (first
      | (refine wpList_load_rowg (by rfl) 117 _ (by rfl) (w2.heap.size) (by rfl) 117 (hdC (hdN hd00 1 1 1 0 st)) (0, 0) _ (by exact q4.out) Tryz.underlying117 (by rfl) (sizeHd.trans (by rw [hdC_size])) ?_; simp only [Act.put, List.setIfInBounds_toArray, List.set_cons_zero, List.set_cons_succ])
      | fail)
    refine (HPU.out _ HX4.out.1 HX4.out.2.1).mono ?_
    rintro e w5 ⟨rfl, hm5, hk5⟩
    have x5 := hk5.blk HX4.out.1 HNE.out.1
    have d36 := ix_c36 x5
    have e36 : w5.frozen? ⟨x, 36, none⟩ = false := x5.frozen 36
    have hx6 : Blk (w5.setCell ⟨x, 36, none⟩ (.int .i64 1)) x 113 (ixC cp h R 0 1 mf ml mc) := by
      have := x5.put 36 (.int .i64 1)
      rw [ix_top] at this
      exact this
    have HE : Hid (Blk (w5.setCell ⟨x, 36, none⟩ (.int .i64 1)) x 113 (ixC cp h R 0 1 mf ml mc) ∧ MapIs pkV ftV (w5.setCell ⟨x, 36, none⟩ (.int .i64 1)) mf [((0, 0, 0), ftU ft00 0 (hdN hd00 1 1 1 0 st))] ∧ (∀ B, B ≤ x → B ≤ mf → B ≤ w.heap.size → Below B w (w5.setCell ⟨x, 36, none⟩ (.int .i64 1))) ∧ ∀ k, k < w.heap.size → k ≠ x → k ≠ mf → (w5.setCell ⟨x, 36, none⟩ (.int .i64 1)).heap[k]? = w.heap[k]?) := by
      refine ⟨hx6, ?_, fun B h0 h1 h2 => ((HX4.out.2.2.mono h2).trans (hk5.1.mono h1)).setCell h0 _, fun k h1 h2 h3 => ?_⟩
      rotate_left
      · rw [Below.heap_setCell _ _ _ _ h2, hk5.2 k h3 (Nat.lt_of_lt_of_le h1 HX4.out.2.2.size)]
        exact HX4.out.2.2.block k h1
      obtain ⟨es, clock, hg, he⟩ := hm5
      exact ⟨es, clock, by rw [← hg]; exact Below.heap_setCell _ _ _ _ (Ne.symm HNE.out.1), he⟩
    clear hm5 hk5 HX4 q4 x5 hx6 c38 c39 c40 c41 c42 f38 f39 f40 f41 f42
    go_wp2_with fail
    go_ret2
    exact ⟨rfl, HE.out.1, HE.out.2.1, HE.out.2.2.1, HE.out.2.2.2⟩
set_option maxRecDepth 100000 in
set_option maxHeartbeats 4000000 in
theorem used_ok (n : Int) (h1 : 1 ≤ n) (h2 : n ≤ 4096) (q : Nat → Hd) (hq : (q ((n - 1) % 4).toNat).k ≠ 0) (w : World) (HF : ∀ V, Below w.heap.size w V → Calls Tryz.prog 41 #[.pointer (some ⟨x, 0, none⟩), .int .i64 ((n - 1) / 4)] V fun e w' => e = .returned (.tuple #[.agg (ftC q), .int .i64 0]) ∧ Below V.heap.size V w') : Calls Tryz.prog 35 #[.pointer (some ⟨x, 0, none⟩), .int .i64 n] w fun e w' => e = .returned (.tuple #[.agg (hdC (q ((n - 1) % 4).toNat)), .int .i64 0]) ∧ Below w.heap.size w w' := by
  have hz := zero_ft
  have hz2 := zero_hd
  have HWR := wrong_ok x n h1 h2
  have HPL : Hid (∀ V : World, Calls Tryz.prog 75 #[.int .i64 n] V fun e w' => e = .returned (.tuple #[.int .i64 ((n - 1) / 4), .int .i64 ((n - 1) % 4), .int .i64 0]) ∧ w' = V) := fun V => by
    have := place_any n ⟨by omega, by omega⟩ V
    rw [if_pos ⟨h1, h2⟩] at this
    exact this
  obtain ⟨pn, hpn, hp4⟩ : ∃ pn : Nat, (n - 1) % 4 = (pn : Int) ∧ pn < 4 := ⟨((n - 1) % 4).toNat, by omega, by omega⟩
  rw [hpn] at HPL hq ⊢
  have hpt : ((pn : Int)).toNat = pn := rfl
  rw [hpt] at hq ⊢
  have HWW : Hid (∀ w : World, Calls Tryz.prog 60 #[.pointer (some ⟨x, 0, none⟩), .int .i64 n] w fun e w' => e = .returned (.int .i64 0) ∧ w' = w) := HWR
  have HFF : Hid (∀ V, Below w.heap.size w V → Calls Tryz.prog 41 #[.pointer (some ⟨x, 0, none⟩), .int .i64 ((n - 1) / 4)] V fun e w' => e = .returned (.tuple #[.agg (ftC q), .int .i64 0]) ∧ Below V.heap.size V w') := HF
  have hb1 : Below w.heap.size w (w.alloc (.cells (hdC hd00) 117)) := below_new1 _ _
  have r1 : Blk (w.alloc (.cells (hdC hd00) 117)) w.heap.size 117 (hdC hd00) := Blk.new _ _ _
  have HIU : Hid (∀ w : World, Calls Tryz.prog 42 #[.agg (hdC (q pn))] w fun e w' => e = .returned (.bool true) ∧ Below w.heap.size w w') := fun w => by
    have := inUse_any (q pn) w
    rw [show ((q pn).k != 0) = true by simp [hq]] at this
    exact this
  have p0 : (0 : Int) ≤ (pn : Int) := by omega
  have p1 : (pn : Int) < 4 := by omega
  clear HF HWR hq hpn hpt h1 h2
  go_enter Tryz.func35, Tryz.ntmps35
  go_wp2_with fail
  have HF1 := HFF.out _ hb1
  generalize (w.alloc (.cells (hdC hd00) 117)) = w1 at *
  refine (HWW.out w1).mono ?_
  rintro e _ ⟨rfl, rfl⟩
  go_wp2_with fail
  refine (HPL.out _).mono ?_
  rintro e _ ⟨rfl, rfl⟩
  go_wp2_with fail
  refine HF1.mono ?_
  rintro e w2 ⟨rfl, hb2⟩
  have hb12 := hb1.trans (hb2.mono hb1.size)
  have r2 := r1.below hb2 r1.lt
  clear HF1 HFF hb2 hb1 r1 HWW HPL
  have f3 : Blk (w2.alloc (.cells (ftC ft00) 126)) w2.heap.size 126 (ftC ft00) := Blk.new _ _ _
  have f3' := f3.set (ftC q)
  have hb23 : Below w2.heap.size w2 ((w2.alloc (.cells (ftC ft00) 126)).setRow w2.heap.size (ftC q)) := below_setRow (below_new1 _ _) (Nat.le_refl _) _
  have r3 := r2.below hb23 r2.lt
  have HB3 : Hid (Below w.heap.size w ((w2.alloc (.cells (ftC ft00) 126)).setRow w2.heap.size (ftC q))) := hb12.trans (hb23.mono hb12.size)
  have HR3 : Hid (((w2.alloc (.cells (ftC ft00) 126)).setRow w2.heap.size (ftC q)).rangeAt w2.heap.size (pn * 45) ((List.range 45).map (hdF (q pn)))) := ft_range f3' pn hp4
  clear hb12 hb23 r2
  go_wp2_with (first
    | (refine wpList_store_row (by rfl) 126 _ _ (by rfl) (w2.heap.size) (ftC q) (by rfl) (by rfl) 126 (ftC ft00) (by exact f3) (sizeFt.trans (by rw [ftC_size])) (by simp only [ftC_size]) (ftC_all _) ?_; simp only [Act.put, List.setIfInBounds_toArray, List.set_cons_zero, List.set_cons_succ])
    | (refine wpList_load_blk (by rfl) 117 _ (by rfl) (w2.heap.size) (pn * 45) 45 (hdF (q pn)) (by rfl) _ (by exact HR3.out) Tryz.underlying117 rfl sizeHd ?_; simp only [Act.put, List.setIfInBounds_toArray, List.set_cons_zero, List.set_cons_succ])
    | fail)
  clear f3
  generalize ((w2.alloc (.cells (ftC ft00) 126)).setRow w2.heap.size (ftC q)) = w3 at *
  refine (HIU.out w3).mono ?_
  rintro e w4 ⟨rfl, hb4⟩
  have f4 := f3'.below hb4 f3'.lt
  have r4 := r3.below hb4 r3.lt
  have HR4 : Hid (w4.rangeAt w2.heap.size (pn * 45) ((List.range 45).map (hdF (q pn)))) := ft_range f4 pn hp4
  have HB4 : Hid (Below w.heap.size w w4) := HB3.out.trans (hb4.mono HB3.out.size)
  clear hb4 HB3 HR3 r3 f3' f4
  go_wp2_with (first
    | (refine wpList_load_blk (by rfl) 117 _ (by rfl) (w2.heap.size) (pn * 45) 45 (hdF (q pn)) (by rfl) _ (by exact HR4.out) Tryz.underlying117 rfl sizeHd ?_; simp only [Act.put, List.setIfInBounds_toArray, List.set_cons_zero, List.set_cons_succ])
    | (refine wpList_store_row (by rfl) 117 _ _ (by rfl) (w.heap.size) (hdC (q pn)) (by rfl) (by rfl) 117 (_) (by exact r4) (sizeHd.trans (by rw [hdC_size])) (by simp only [hdC_size]) (hdC_all _) ?_; simp only [Act.put, List.setIfInBounds_toArray, List.set_cons_zero, List.set_cons_succ])
    | fail)
  try simp only [Exit.inBlock, Exit.then]
  refine bodyPost_ret (results_row2 Tryz.results35 _ _ (w.heap.size) 117 (hdC (q pn)) (0, 0) _ rfl (r4.set _) Tryz.underlying117 rfl (sizeHd.trans (by rw [hdC_size]))) rfl ?_
  exact ⟨rfl, below_setRow HB4.out (Nat.le_refl _) _⟩
end
end Go.Proofs.YtbcgpiocigjkoaaGreat

namespace Go.Proofs.YtbcgpiocigjkoaaGreat
open Go Go.RowKit
set_option linter.unusedSimpArgs false
set_option linter.unusedVariables false

/-- may a tree be? -/
def trOk (h : Int) (R : Rf) : Prop := rOk R = true ∧ 0 ≤ h ∧ h ≤ 6
instance (h : Int) (R : Rf) : Decidable (trOk h R) := by unfold trOk; infer_instance
set_option maxRecDepth 100000 in
set_option maxHeartbeats 4000000 in
theorem right_ref (h : Int) (R : Rf) (hR : R.1 < 4294967296) (hD : okD R.2) (hok : rOk R = true) (y : Bool) (hy : ∀ w, Calls Tryz.prog 143 #[.int .i64 h] w fun e w1 => e = .returned (.bool y) ∧ w = w1) (w : World) : Calls Tryz.prog 161 #[.agg (trC h R)] w fun x w' => x = .returned (.bool y) ∧ Below w.heap.size w w' := by
  have hz := zero_ref
  have hEn : Hid (∀ w, Calls Tryz.prog 149 #[.agg (rfC R)] w fun e w' => e = .returned (.string (strN (encR R) 36)) ∧ Below w.heap.size w w') := encR_any R hD
  have hDe : Hid (∀ w, Calls Tryz.prog 206 #[.string (strN (encR R) 36), .int .i64 0] w fun e w' => e = .returned (.tuple #[.agg (rfC R), .bool true]) ∧ Below w.heap.size w w') := fun w => by
    have h1 := decodeR_good (strN (encR R) 36) 0 (by rw [strN_size]; unfold maxLen; decide) (by rw [strN_size]; decide) w
    rw [decR_of (strN (encR R) 36) 0 R hR (fun j hj => by rw [Nat.zero_add]; exact strN_at (encR R) 36 j hj (encR_lt R hD j hj))] at h1
    simp only [hok, if_true, Bool.false_eq_true, if_false] at h1
    exact h1
  have hsz : (strN (encR R) 36).size = 36 := strN_size _ _
  have hb1 : Below w.heap.size w (w.alloc (.cells (trC h R) 28)) := below_new1 _ _
  have t1 : Blk (w.alloc (.cells (trC h R) 28)) w.heap.size 28 (trC h R) := Blk.new _ _ _
  have HR1 : Hid ((w.alloc (.cells (trC h R) 28)).rangeAt w.heap.size 1 ((List.range 33).map (rfF R.1 R.2))) := tr_range t1
  clear hok hD hR
  generalize strN (encR R) 36 = sv at *
  go_enter Tryz.func161, Tryz.ntmps161
  go_wp2_with (first
    | (refine wpList_load_blk (by rfl) 26 _ (by rfl) (w.heap.size) (1) 33 (rfF R.1 R.2) (by rfl) _ (by exact HR1.out) Tryz.underlying26 rfl tsizeRef ?_; simp only [Act.put, List.setIfInBounds_toArray, List.set_cons_zero, List.set_cons_succ])
    | fail)
  generalize (w.alloc (.cells (trC h R) 28)) = w1 at *
  refine (hEn.out w1).mono ?_
  rintro x w2 ⟨rfl, hb2⟩
  have t2 := t1.below hb2 t1.lt
  have hb12 : Below w.heap.size w w2 := hb1.trans (hb2.mono hb1.size)
  clear HR1 hb2 t1 hb1
  go_wp2_with fail
  refine (hDe.out w2).mono ?_
  rintro x w3 ⟨rfl, hb3⟩
  have t3 := t2.below hb3 t2.lt
  have hb13 : Below w.heap.size w w3 := hb12.trans (hb3.mono hb12.size)
  have q0 := Blk.new w3 26 (rfC rf0)
  have hb4 : Below w3.heap.size w3 ((w3.alloc (.cells (rfC rf0) 26)).setRow w3.heap.size (rfC R)) := below_setRow (below_new1 _ _) (Nat.le_refl _) _
  have t4 := t3.below hb4 t3.lt
  have z4 : ((w3.alloc (.cells (rfC rf0) 26)).setRow w3.heap.size (rfC R)).cell? ⟨w.heap.size, 0, none⟩ = some (.int .i64 h) := (t4.cell 0).trans (va_at (trF h R) (by decide))
  have hb14 : Below w.heap.size w ((w3.alloc (.cells (rfC rf0) 26)).setRow w3.heap.size (rfC R)) := hb13.trans (hb4.mono hb13.size)
  clear hb4 hb13 hb12 hb3 t2 t3 t4
  go_wp2_with (first
    | (refine wpList_store_row (by rfl) 26 _ _ (by rfl) (w3.heap.size) (rfC R) (by rfl) (by rfl) 26 (_) (by exact q0) (tsizeRef.trans (by rw [rfC_size])) (by simp only [rfC_size]) (rfC_all _) ?_; simp only [Act.put, List.setIfInBounds_toArray, List.set_cons_zero, List.set_cons_succ])
    | fail)
  clear q0
  generalize ((w3.alloc (.cells (rfC rf0) 26)).setRow w3.heap.size (rfC R)) = w4 at *
  refine (hy w4).mono ?_
  rintro x _ ⟨rfl, rfl⟩
  go_wp2_with fail
  go_ret
  exact ⟨rfl, hb14⟩
set_option maxRecDepth 100000 in
set_option maxHeartbeats 4000000 in
theorem right_noref (h : Int) (R : Rf) (hR : R.1 < 4294967296) (hD : okD R.2) (hok : rOk R = false) (w : World) : Calls Tryz.prog 161 #[.agg (trC h R)] w fun x w' => x = .returned (.bool false) ∧ Below w.heap.size w w' := by
  have hz := zero_ref
  have hEn : Hid (∀ w, Calls Tryz.prog 149 #[.agg (rfC R)] w fun e w' => e = .returned (.string (strN (encR R) 36)) ∧ Below w.heap.size w w') := encR_any R hD
  have hDe : Hid (∀ w, Calls Tryz.prog 206 #[.string (strN (encR R) 36), .int .i64 0] w fun e w' => e = .returned (.tuple #[.agg (rfC rf0), .bool false]) ∧ Below w.heap.size w w') := fun w => by
    have h1 := decodeR_good (strN (encR R) 36) 0 (by rw [strN_size]; unfold maxLen; decide) (by rw [strN_size]; decide) w
    rw [decR_of (strN (encR R) 36) 0 R hR (fun j hj => by rw [Nat.zero_add]; exact strN_at (encR R) 36 j hj (encR_lt R hD j hj))] at h1
    simp only [hok, if_true, Bool.false_eq_true, if_false] at h1
    exact h1
  have hsz : (strN (encR R) 36).size = 36 := strN_size _ _
  have hb1 : Below w.heap.size w (w.alloc (.cells (trC h R) 28)) := below_new1 _ _
  have t1 : Blk (w.alloc (.cells (trC h R) 28)) w.heap.size 28 (trC h R) := Blk.new _ _ _
  have HR1 : Hid ((w.alloc (.cells (trC h R) 28)).rangeAt w.heap.size 1 ((List.range 33).map (rfF R.1 R.2))) := tr_range t1
  clear hok hD hR
  generalize strN (encR R) 36 = sv at *
  go_enter Tryz.func161, Tryz.ntmps161
  go_wp2_with (first
    | (refine wpList_load_blk (by rfl) 26 _ (by rfl) (w.heap.size) (1) 33 (rfF R.1 R.2) (by rfl) _ (by exact HR1.out) Tryz.underlying26 rfl tsizeRef ?_; simp only [Act.put, List.setIfInBounds_toArray, List.set_cons_zero, List.set_cons_succ])
    | fail)
  generalize (w.alloc (.cells (trC h R) 28)) = w1 at *
  refine (hEn.out w1).mono ?_
  rintro x w2 ⟨rfl, hb2⟩
  have t2 := t1.below hb2 t1.lt
  have hb12 : Below w.heap.size w w2 := hb1.trans (hb2.mono hb1.size)
  clear HR1 hb2 t1 hb1
  go_wp2_with fail
  refine (hDe.out w2).mono ?_
  rintro x w3 ⟨rfl, hb3⟩
  have t3 := t2.below hb3 t2.lt
  have hb13 : Below w.heap.size w w3 := hb12.trans (hb3.mono hb12.size)
  have q0 := Blk.new w3 26 (rfC rf0)
  have hb4 : Below w3.heap.size w3 ((w3.alloc (.cells (rfC rf0) 26)).setRow w3.heap.size (rfC rf0)) := below_setRow (below_new1 _ _) (Nat.le_refl _) _
  have t4 := t3.below hb4 t3.lt
  have z4 : ((w3.alloc (.cells (rfC rf0) 26)).setRow w3.heap.size (rfC rf0)).cell? ⟨w.heap.size, 0, none⟩ = some (.int .i64 h) := (t4.cell 0).trans (va_at (trF h R) (by decide))
  have hb14 : Below w.heap.size w ((w3.alloc (.cells (rfC rf0) 26)).setRow w3.heap.size (rfC rf0)) := hb13.trans (hb4.mono hb13.size)
  clear hb4 hb13 hb12 hb3 t2 t3 t4
  go_wp2_with (first
    | (refine wpList_store_row (by rfl) 26 _ _ (by rfl) (w3.heap.size) (rfC rf0) (by rfl) (by rfl) 26 (_) (by exact q0) (tsizeRef.trans (by rw [rfC_size])) (by simp only [rfC_size]) (rfC_all _) ?_; simp only [Act.put, List.setIfInBounds_toArray, List.set_cons_zero, List.set_cons_succ])
    | fail)
  go_ret
  exact ⟨rfl, hb14⟩
theorem tright_any (h : Int) (R : Rf) (hR : R.1 < 4294967296) (hD : okD R.2) (w : World) : Calls Tryz.prog 161 #[.agg (trC h R)] w fun x w' => x = .returned (.bool (decide (trOk h R))) ∧ Below w.heap.size w w' := by
  cases hok : rOk R with
  | false =>
    rw [decide_eq_false (fun u : trOk h R => by rw [u.1] at hok; cases hok)]
    exact right_noref h R hR hD hok w
  | true =>
    by_cases hh : 0 ≤ h ∧ h ≤ 6
    · rw [decide_eq_true (show trOk h R from ⟨hok, hh⟩)]
      obtain ⟨n, rfl⟩ : ∃ n : Nat, h = (n : Int) := ⟨h.toNat, by omega⟩
      exact right_ref _ R hR hD hok true (fun w => mayBe_yes n (by omega) w) w
    · rw [decide_eq_false (fun u : trOk h R => hh u.2)]
      exact right_ref h R hR hD hok false (fun w => mayBe_no h (by omega) w) w
set_option maxRecDepth 100000 in
set_option maxHeartbeats 4000000 in
theorem wayTo_arg (h : Int) (R : Rf) (hR : R.1 < 4294967296) (hD : okD R.2) (hok : ¬ trOk h R) (l p : Int) (w : World) : Calls Tryz.prog 136 #[.agg (trC h R), .int .i64 l, .int .i64 p] w fun x w' => x = .returned (.tuple #[.slice none 0 0, .int .i64 1]) ∧ Below w.heap.size w w' := by
  have hRi : Hid (∀ w, Calls Tryz.prog 161 #[.agg (trC h R)] w fun x w' => x = .returned (.bool false) ∧ Below w.heap.size w w') := fun w => by
    have := tright_any h R hR hD w
    rw [decide_eq_false hok] at this
    exact this
  have hb1 : Below w.heap.size w (w.alloc (.cells (trC h R) 28)) := below_new1 _ _
  have t1 : Blk (w.alloc (.cells (trC h R) 28)) w.heap.size 28 (trC h R) := Blk.new _ _ _
  go_enter Tryz.func136, Tryz.ntmps136
  go_wp2_with (first
    | (refine wpList_load_rowg (by rfl) 28 _ (by rfl) (w.heap.size) (by rfl) 28 (trC h R) (0, 0) _ (by exact t1) Tryz.underlying28 (by rfl) (sizeTr.trans (by rw [trC_size])) ?_; simp only [Act.put, List.setIfInBounds_toArray, List.set_cons_zero, List.set_cons_succ])
    | fail)
  generalize (w.alloc (.cells (trC h R) 28)) = w1 at *
  refine (hRi.out w1).mono ?_
  rintro x w2 ⟨rfl, hb2⟩
  have t2 := t1.below hb2 t1.lt
  have z2 : w2.cell? ⟨w.heap.size, 0, none⟩ = some (.int .i64 h) := (t2.cell 0).trans (va_at (trF h R) (by decide))
  have hb12 : Below w.heap.size w w2 := hb1.trans (hb2.mono hb1.size)
  clear t1 t2 hb2 hb1
  go_wp2_with fail
  go_ret2
  exact ⟨rfl, hb12⟩
set_option maxRecDepth 100000 in
set_option maxHeartbeats 4000000 in
theorem wayTo_ok (h : Int) (R : Rf) (hR : R.1 < 4294967296) (hD : okD R.2) (hok : trOk h R) (l : Int) (q : Nat) (p : Int) (hpq : p = (q : Int)) (hl : 0 ≤ l ∧ l ≤ h) (n : Nat) (hn : h - l = (n : Int)) (hp : q < 4 ^ n) (w : World) : Calls Tryz.prog 136 #[.agg (trC h R), .int .i64 l, .int .i64 p] w fun x w' => ∃ b, x = .returned (.tuple #[.slice (some ⟨b, 0, none⟩) n n, .int .i64 0]) ∧ w.heap.size ≤ b ∧ Blk w' b 3 (va n (iv .i64 (wayN n q))) ∧ Below w.heap.size w w' := by
  have hRi : Hid (∀ w, Calls Tryz.prog 161 #[.agg (trC h R)] w fun x w' => x = .returned (.bool true) ∧ Below w.heap.size w w') := fun w => by
    have := tright_any h R hR hD w
    rw [decide_eq_true hok] at this
    exact this
  have hb1 : Below w.heap.size w (w.alloc (.cells (trC h R) 28)) := below_new1 _ _
  have t1 : Blk (w.alloc (.cells (trC h R) 28)) w.heap.size 28 (trC h R) := Blk.new _ _ _
  have hl0 : ¬ l < 0 := by omega
  have d1 : decide (l < 0) = false := decide_eq_false hl0
  have hl1 : ¬ h < l := by omega
  have d2 : decide (h < l) = false := decide_eq_false hl1
  have hw1 : IntKind.i64.wrap (h - l) = h - l := by
    have := hok.2
    rw [IntKind.wrap_i64]
    omega
  have hw2 : wrap64 (h - l) = h - l := by
    rw [← IntWalk.i64_left]
    exact hw1
  obtain ⟨b1, b2, b3⟩ := hok
  subst hpq
  go_enter Tryz.func136, Tryz.ntmps136
  go_wp2_with (first
    | (refine wpList_load_rowg (by rfl) 28 _ (by rfl) (w.heap.size) (by rfl) 28 (trC h R) (0, 0) _ (by exact t1) Tryz.underlying28 (by rfl) (sizeTr.trans (by rw [trC_size])) ?_; simp only [Act.put, List.setIfInBounds_toArray, List.set_cons_zero, List.set_cons_succ])
    | fail)
  generalize (w.alloc (.cells (trC h R) 28)) = w1 at *
  refine (hRi.out w1).mono ?_
  rintro x w2 ⟨rfl, hb2⟩
  have t2 := t1.below hb2 t1.lt
  have z2 : w2.cell? ⟨w.heap.size, 0, none⟩ = some (.int .i64 h) := (t2.cell 0).trans (va_at (trF h R) (by decide))
  have hb12 : Below w.heap.size w w2 := hb1.trans (hb2.mono hb1.size)
  clear t1 t2 hb2 hb1
  go_wp2_with fail
  refine (way_ok n q (by omega) hp w2).mono ?_
  rintro x w3 ⟨rfl, b3', hb3⟩
  go_wp2_with fail
  go_ret2
  exact ⟨_, rfl, hb12.size, b3', hb12.trans (hb3.mono hb12.size)⟩
section
variable {B g N c m room i : Nat} {F : Nat → Nat} {U : Nat → Prop}
set_option maxRecDepth 100000 in
set_option maxHeartbeats 4000000 in
theorem ref_no (h : Int) (R : Rf) (l p er : Int) (her : er ≠ 0) (hWT : ∀ w, Calls Tryz.prog 136 #[.agg (trC h R), .int .i64 l, .int .i64 p] w fun x w' => x = .returned (.tuple #[.slice none 0 0, .int .i64 er]) ∧ Below w.heap.size w w') (cp : Option Addr) (w : World) : Calls Tryz.prog 102 #[.pointer cp, .agg (trC h R), .int .i64 l, .int .i64 p] w fun x w' => x = .returned (.tuple #[.agg (rfC rf0), .int .i64 er]) ∧ Below w.heap.size w w' := by
  have hz := zero_ref
  have hb1 : Below w.heap.size w ((w.alloc (.cells (trC h R) 28)).alloc (.cells (rfC rf0) 26)) := below_new2 _ _ _
  have t1 : Blk ((w.alloc (.cells (trC h R) 28)).alloc (.cells (rfC rf0) 26)) w.heap.size 28 (trC h R) := (Blk.new _ _ _).alloc _
  have r1 : Blk ((w.alloc (.cells (trC h R) 28)).alloc (.cells (rfC rf0) 26)) (w.heap.size + 1) 26 (rfC rf0) := Blk.new1 _ _ _ _
  have hne2 : (er != 0) = true := by simp [her]
  have hne3 : decide (er = 0) = false := decide_eq_false her
  have HW : Hid (∀ w, Calls Tryz.prog 136 #[.agg (trC h R), .int .i64 l, .int .i64 p] w fun x w' => x = .returned (.tuple #[.slice none 0 0, .int .i64 er]) ∧ Below w.heap.size w w') := hWT
  clear hWT
  go_enter Tryz.func102, Tryz.ntmps102
  go_wp2_with (first
    | (refine wpList_load_rowg (by rfl) 28 _ (by rfl) (w.heap.size) (by rfl) 28 (trC h R) (0, 0) _ (by exact t1) Tryz.underlying28 (by rfl) (sizeTr.trans (by rw [trC_size])) ?_; simp only [Act.put, List.setIfInBounds_toArray, List.set_cons_zero, List.set_cons_succ])
    | fail)
  generalize ((w.alloc (.cells (trC h R) 28)).alloc (.cells (rfC rf0) 26)) = w1 at *
  refine (HW.out w1).mono ?_
  rintro x w2 ⟨rfl, hb2⟩
  have r2 := r1.below hb2 r1.lt
  have hb12 : Below w.heap.size w w2 := hb1.trans (hb2.mono hb1.size)
  clear t1 r1 hb2 hb1
  go_wp2_with (first
    | (refine wpList_store_row (by rfl) 26 _ _ (by rfl) (w.heap.size + 1) (rfC rf0) (by rfl) (by rfl) 26 (_) (by exact r2) (tsizeRef.trans (by rw [rfC_size])) (by simp only [rfC_size]) (rfC_all _) ?_; simp only [Act.put, List.setIfInBounds_toArray, List.set_cons_zero, List.set_cons_succ])
    | fail)
  try simp only [Exit.inBlock, Exit.then]
  refine bodyPost_ret (results_row2 Tryz.results102 _ _ (w.heap.size + 1) 26 (rfC rf0) (0, 0) _ rfl (r2.set _) Tryz.underlying26 rfl (tsizeRef.trans (by rw [rfC_size]))) rfl ?_
  exact ⟨rfl, below_setRow hb12 (by omega) _⟩
end
end Go.Proofs.YtbcgpiocigjkoaaGreat

namespace Go.Proofs.YtbcgpiocigjkoaaGreat
open Go Go.RowKit
set_option linter.unusedSimpArgs false
set_option linter.unusedVariables false

/-- a block of an image in the memory -/
def RngB (W : World) (b o : Nat) (f : Nat → Nat) : Prop := W.rangeAt b o ((List.range 256).map (iv .u8 f))
theorem RngB.below {w w' : World} {B b o : Nat} {f : Nat → Nat} (h : RngB w b o f) (hb : Below B w w') (hB : b < B) : RngB w' b o f := range_below h hb hB
section
variable {F : Nat → Nat} {N : Nat}
end
end Go.Proofs.YtbcgpiocigjkoaaGreat

namespace Go.Proofs.YtbcgpiocigjkoaaGreat
open Go Go.RowKit Go.Maps Go.Sort Go.Shelf Go.Proofs
set_option linter.unusedSimpArgs false
set_option linter.unusedVariables false

/-- a map with the key 0 alone -/
def OneM (w : World) (r : Nat) (v : Value) : Prop := ∃ c, w.heap[r]? = some (.map #[{ key := .int .i64 0, val := v, born := c }] (c + 1))
theorem OneM.lt {w : World} {r : Nat} {v : Value} (h : OneM w r v) : r < w.heap.size := by
  obtain ⟨c, h⟩ := h
  exact (Array.getElem?_eq_some_iff.1 h).1
theorem OneM.keep {w w' : World} {r : Nat} {v : Value} (h : OneM w r v) (hb : w'.heap[r]? = w.heap[r]?) : OneM w' r v := by
  obtain ⟨c, h⟩ := h
  exact ⟨c, hb.trans h⟩
theorem OneM.below {w w' : World} {r B : Nat} {v : Value} (h : OneM w r v) (hb : Below B w w') (hr : r < B) : OneM w' r v := h.keep (hb.block r hr)
end Go.Proofs.YtbcgpiocigjkoaaGreat

namespace Go.Proofs.YtbcgpiocigjkoaaGreat
open Go Go.RowKit
set_option linter.unusedSimpArgs false
set_option linter.unusedVariables false

theorem gr_build1 {P : Program} {ops : Array Oper} {rest : List Oper} {o : Oper} {a : Act} {w : World} {Q : Exit → Act → World → Prop} (hg : o.guard = none) (t : TypeId) (i : Nat) (x : Operand) (ho : o.op = .build t #[(i, x)]) (vx : Value) (hx : a.eval x = vx)
    (cells : Array Value) (hf : P.built t [(i, vx)] = some cells) (h : wpList P ops Q rest (a.put o.dst (.agg cells)) w) : wpList P ops Q (o :: rest) a w := by
  refine wpList_buildTo hg t _ ho o.dst rfl cells ?_ h
  have e : (Array.map (fun (x : Nat × Operand) => match x with | (i, x) => (i, a.eval x)) #[(i, x)]).toList = [(i, vx)] := by simp [hx]
  rw [e]
  exact hf
section
variable {w : World} {b t : Nat} {th fr : Bool} {f : Nat → Nat}
end
section
variable {w : World} {g t m : Nat} {cp : Option Addr}
end
end Go.Proofs.YtbcgpiocigjkoaaGreat

namespace Go.Proofs.YtbcgpiocigjkoaaGreat
open Go Go.RowKit
set_option linter.unusedSimpArgs false
set_option linter.unusedVariables false

/-- a grown tree's cells: the cache, the standing tree, the height, the map, the end -/
def grF (cp : Option Addr) (h : Int) (R : Rf) (hh : Int) (mv : Option Nat) (e : Int) : Nat → Value := fun i => if i = 0 then .pointer cp else if i < 35 then trF h R (i - 1) else if i = 35 then .int .i64 hh else if i = 36 then .map mv else .int .i64 e
def grC (cp : Option Addr) (h : Int) (R : Rf) (hh : Int) (mv : Option Nat) (e : Int) : Array Value := va 38 (grF cp h R hh mv e)
theorem grC_size (cp : Option Addr) (h : Int) (R : Rf) (hh : Int) (mv : Option Nat) (e : Int) : (grC cp h R hh mv e).size = 38 := va_size _ _
theorem built_gr1 (cp : Option Addr) : Tryz.prog.built 160 [(0, .pointer cp)] = some (grC cp 0 rf0 0 none 0) := by kernel_rfl
theorem built_tr0 : Tryz.prog.built 28 [] = some (trC 0 rf0) := by kernel_rfl
section
variable {w : World} {b t : Nat} {cp : Option Addr} {h hh e : Int} {R : Rf} {mv : Option Nat}
theorem gr_c0 (H : Blk w b t (grC cp h R hh mv e)) : w.cell? ⟨b, 0, none⟩ = some (.pointer cp) := H.cv (n := 38) (by decide)
theorem gr_c35 (H : Blk w b t (grC cp h R hh mv e)) : w.cell? ⟨b, 35, none⟩ = some (.int .i64 hh) := H.cv (n := 38) (by decide)
theorem gr_c36 (H : Blk w b t (grC cp h R hh mv e)) : w.cell? ⟨b, 36, none⟩ = some (.map mv) := H.cv (n := 38) (by decide)
theorem gr_c37 (H : Blk w b t (grC cp h R hh mv e)) : w.cell? ⟨b, 37, none⟩ = some (.int .i64 e) := H.cv (n := 38) (by decide)
theorem gr_putTree (H : Blk w b t (grC cp h R hh mv e)) (h' : Int) (R' : Rf) : Blk (w.setCells b 1 (trC h' R').toList) b t (grC cp h' R' hh mv e) := by
  have := Blk.cells_put (n := 38) (trC h' R').toList 1 w (grF cp h R hh mv e) H
  rw [show va 38 (over (grF cp h R hh mv e) 1 (trC h' R').toList) = grC cp h' R' hh mv e from va_congr fun i hi => ?_] at this
  · exact this
  · unfold over trC
    rw [va_toList]
    simp only [List.length_map, List.length_range]
    by_cases hj : 1 ≤ i ∧ i < 1 + 34
    · rw [if_pos hj, List.getD_eq_getElem?_getD, List.getElem?_map, List.getElem?_range (by omega)]
      unfold grF
      rw [if_neg (by omega), if_pos (by omega)]
      rfl
    · rw [if_neg hj]
      unfold grF
      by_cases h0 : i = 0
      · rw [if_pos h0, if_pos h0]
      · have h1 : ¬ i < 35 := by omega
        rw [if_neg h0, if_neg h0, if_neg h1, if_neg h1]
theorem gr_putHeight (H : Blk w b t (grC cp h R hh mv e)) (x : Int) : Blk (w.setCell ⟨b, 35, none⟩ (.int .i64 x)) b t (grC cp h R x mv e) := by
  have := H.put 35 (.int .i64 x)
  rw [show (grC cp h R hh mv e).setIfInBounds 35 (.int .i64 x) = grC cp h R x mv e from ?_] at this
  · exact this
  · unfold grC
    rw [va_set]
    refine va_congr fun i hi => ?_
    unfold upd grF
    by_cases hj : i = 35
    · subst hj
      rfl
    · rw [if_neg hj]
      by_cases h0 : i = 0
      · rw [if_pos h0, if_pos h0]
      · rw [if_neg h0, if_neg h0]
        by_cases h1 : i < 35
        · rw [if_pos h1, if_pos h1]
        · rw [if_neg h1, if_neg h1]
          by_cases h2 : i = 35
          · first | exact absurd h2 hj | rw [if_pos h2, if_pos h2]
          · rw [if_neg h2, if_neg h2]
            all_goals by_cases h3 : i = 36
            all_goals first | exact absurd h3 hj | rw [if_pos h3, if_pos h3] | exact absurd (show i = 37 by omega) hj | rw [if_neg h3, if_neg h3]
theorem gr_putMap (H : Blk w b t (grC cp h R hh mv e)) (x : Option Nat) : Blk (w.setCell ⟨b, 36, none⟩ (.map x)) b t (grC cp h R hh x e) := by
  have := H.put 36 (.map x)
  rw [show (grC cp h R hh mv e).setIfInBounds 36 (.map x) = grC cp h R hh x e from ?_] at this
  · exact this
  · unfold grC
    rw [va_set]
    refine va_congr fun i hi => ?_
    unfold upd grF
    by_cases hj : i = 36
    · subst hj
      rfl
    · rw [if_neg hj]
      by_cases h0 : i = 0
      · rw [if_pos h0, if_pos h0]
      · rw [if_neg h0, if_neg h0]
        by_cases h1 : i < 35
        · rw [if_pos h1, if_pos h1]
        · rw [if_neg h1, if_neg h1]
          by_cases h2 : i = 35
          · first | exact absurd h2 hj | rw [if_pos h2, if_pos h2]
          · rw [if_neg h2, if_neg h2]
            all_goals by_cases h3 : i = 36
            all_goals first | exact absurd h3 hj | rw [if_pos h3, if_pos h3] | exact absurd (show i = 37 by omega) hj | rw [if_neg h3, if_neg h3]
theorem gr_putEnd (H : Blk w b t (grC cp h R hh mv e)) (x : Int) : Blk (w.setCell ⟨b, 37, none⟩ (.int .i64 x)) b t (grC cp h R hh mv x) := by
  have := H.put 37 (.int .i64 x)
  rw [show (grC cp h R hh mv e).setIfInBounds 37 (.int .i64 x) = grC cp h R hh mv x from ?_] at this
  · exact this
  · unfold grC
    rw [va_set]
    refine va_congr fun i hi => ?_
    unfold upd grF
    by_cases hj : i = 37
    · subst hj
      rfl
    · rw [if_neg hj]
      by_cases h0 : i = 0
      · rw [if_pos h0, if_pos h0]
      · rw [if_neg h0, if_neg h0]
        by_cases h1 : i < 35
        · rw [if_pos h1, if_pos h1]
        · rw [if_neg h1, if_neg h1]
          by_cases h2 : i = 35
          · first | exact absurd h2 hj | rw [if_pos h2, if_pos h2]
          · rw [if_neg h2, if_neg h2]
            all_goals by_cases h3 : i = 36
            all_goals first | exact absurd h3 hj | rw [if_pos h3, if_pos h3] | exact absurd (show i = 37 by omega) hj | rw [if_neg h3, if_neg h3]
end
set_option maxRecDepth 100000 in
set_option maxHeartbeats 4000000 in
theorem grCapacity_ok (h c : Nat) (hh : h ≤ 6) (hc : 4 ^ h = c) (w : World) : Calls Tryz.prog 103 #[.int .i64 (h : Int)] w fun x w' => x = .returned (.int .i64 (c : Int)) ∧ w = w' := by
  have hC : Hid (∀ w, Calls Tryz.prog 106 #[.int .i64 (h : Int)] w fun e w' => e = .returned (.tuple #[.int .i64 (c : Int), .int .i64 0]) ∧ w = w') := capacity_ok h c hh hc
  clear hc hh
  go_enter Tryz.func103, Tryz.ntmps103
  go_wp2_with fail
  refine (hC.out _).mono ?_
  rintro e _ ⟨rfl, rfl⟩
  go_wp2_with fail
  go_ret
  exact ⟨rfl, rfl⟩
end Go.Proofs.YtbcgpiocigjkoaaGreat
