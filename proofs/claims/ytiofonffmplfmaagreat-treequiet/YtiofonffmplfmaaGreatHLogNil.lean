/- A nil log: the program's contracts. -/
import Derived.Test.YtiofonffmplfmaaGreatHDkWrite
import Derived.Handy
import Derived.Laws.MakeOwn
import Derived.Laws.OwnMore
import Derived.Test.YtiofonffmplfmaaGreatHRefRoundEven

namespace Go.Proofs.YtiofonffmplfmaaGreat
theorem sgLHLogNil : (∀ (α : Type) (a : α) (l r : List α), (a :: l) ++ r = a :: (l ++ r)) ∧ (∀ (α : Type) (l : List α), [] ++ l = l) ∧ (∀ (α : Type) (l : List α), l ++ [] = l) ∧ (∀ (α β : Type) (f : α → Option β) (a : α) (l : List α), (a :: l).filterMap f = match f a with | none => l.filterMap f | some b => b :: l.filterMap f) ∧ (∀ (α β : Type) (f : α → Option β), [].filterMap f = []) ∧ (∀ (α : Type) (l : List α) (i : Nat), l.toArray[i]? = l[i]?) ∧ (∀ (α : Type) (a : α) (l : List α), (a :: l)[0]? = some a) ∧ (∀ (α : Type) (a : α) (l : List α) (i : Nat), (a :: l)[i + 1]? = l[i]?) :=
  ⟨fun _ _ _ _ => List.cons_append, fun _ _ => List.nil_append _, fun _ _ => List.append_nil _, fun _ _ _ _ _ => List.filterMap_cons, fun _ _ _ => List.filterMap_nil, fun _ _ _ => List.getElem?_toArray, fun _ _ _ => List.getElem?_cons_zero, fun _ _ _ _ => List.getElem?_cons_succ⟩
theorem sgPHLogNil : (∀ (α : Type) (l : List α) (i : Nat) (a : α), l.toArray.setIfInBounds i a = (l.set i a).toArray) ∧ (∀ (α : Type) (a b : α) (l : List α), (a :: l).set 0 b = b :: l) ∧ (∀ (α : Type) (a b : α) (l : List α) (i : Nat), (a :: l).set (i + 1) b = a :: l.set i b) :=
  ⟨fun _ _ _ _ => List.setIfInBounds_toArray _ _ _, fun _ _ _ _ => List.set_cons_zero, fun _ _ _ _ _ => List.set_cons_succ⟩
end Go.Proofs.YtiofonffmplfmaaGreat
namespace Go.Proofs.YtiofonffmplfmaaGreat
open Go Go.RowKit
set_option linter.unusedSimpArgs false
set_option linter.unusedVariables false

section
variable {B g N k lg : Nat} {F : Nat → Nat} {q : QD}
set_option maxRecDepth 100000 in
set_option maxHeartbeats 8000000 in
theorem read_ge {cv : Value} {m : Nat} (hq : QuietC cv false q m) (at0 : Nat) (hat : at0 < N) (hN : N ≤ 8192) (hk : k < 549755813888) (hlg : lg < 137438953472) (w : World) (hB : B ≤ w.heap.size) (h : DiskQ w B g N F k lg q) :
    Calls Tryz.prog 73 #[.pointer (some ⟨g, 0, none⟩), .int .i64 (at0 : Int)] w fun e w' => e = .returned (.tuple #[.agg (va 256 (iv .u8 (fun j => F (at0 * 256 + j)))), .int .i64 0]) ∧ ∃ q', DiskQ w' B g N F (k + 1) (lg + 1) q' ∧ QuietC cv false q' m ∧ Moved g N q q' w w' ∧ q'.ev = q.ev := by
  have hz := zero_bk
  obtain ⟨i0, hi, hz0, hz1, hz2⟩ := info_parts infoRaw
  have j0 : (0 : Int) ≤ (at0 : Int) := by omega
  have j1 : (at0 : Int) < (N : Int) := by omega
  have HQt : Hid (QuietC cv false q m) := hq
  have r1 : Blk (w.alloc (.cells (va 256 (iv .u8 fun _ => 0)) 52)) w.heap.size 52 (va 256 (iv .u8 fun _ => 0)) := Blk.new _ _ _
  have hb1 : Below w.heap.size w (w.alloc (.cells (va 256 (iv .u8 fun _ => 0)) 52)) := below_new1 _ _
  have HQ1 : Hid (DiskQ (w.alloc (.cells (va 256 (iv .u8 fun _ => 0)) 52)) B g N F k lg q) := h.below hb1
  have HM1 : Hid (Moved g N q q w (w.alloc (.cells (va 256 (iv .u8 fun _ => 0)) 52))) := .of_below hb1
  have HF : Hid (∀ z, foot g N q z → z < w.heap.size) := fun z hz => (h.foots z hz).2
  have HW : Hid (B ≤ w.heap.size) := hB
  clear h hb1 hB hq
  go_enter Tryz.func73, Tryz.ntmps73
  go_wp2_with fail
  have hs1 : w.heap.size < (w.alloc (.cells (va 256 (iv .u8 fun _ => 0)) 52)).heap.size := r1.lt
  generalize (w.alloc (.cells (va 256 (iv .u8 fun _ => 0)) 52)) = w1 at *
  refine (begin_q HQt.out.dd HQt.out.pl at0 hat (by omega) w1 HQ1.out).mono ?_
  rintro e w2 ⟨rfl, hq2, hm2⟩
  have HQ2 : Hid (DiskQ w2 B g N F (k + 1) lg q) := hq2
  have HM2 : Hid (Moved g N q q w1 w2) := hm2
  have r2 : Blk w2 w.heap.size 52 (va 256 (iv .u8 fun _ => 0)) := (hm2.1.block _ r1.lt fun e => by have := HF.out _ e; omega).trans r1
  have HQt2 : Hid (QuietC cv false q m) := by
    obtain ⟨a1, a2, a3, a4, a5, a6⟩ := HQt.out
    exact ⟨a1, a2, a3, a4, a5, a6⟩
  clear hq2 hm2 HQ1 r1
  go_wp2_with fail
  have d8 : w2.cell? ⟨g, 8, none⟩ = some q.lv := by rw [HQ2.out.c]; rfl
  have d0 : w2.cell? ⟨g, 0, none⟩ = some (.slice (some ⟨q.gn, 0, none⟩) N N) := by rw [HQ2.out.c]; rfl
  have HLD : Hid (∀ W, Blk W q.gn 52 (va (N * 256) (iv .u8 F)) → (loadCellsFrom ⟨q.gn, at0 * 256, none⟩ 0 256 #[]).run Tryz.prog W = .ok (va 256 (iv .u8 (fun j => F (at0 * 256 + j)))) W) := fun W hW => hW.loadMid (P := Tryz.prog) (o := at0 * 256) (n := 256) (by omega)
  have hld := HLD.out w2 HQ2.out.now
  have hld2 := HLD.out w2.drew HQ2.out.now
  refine wp_region_partsS (fun W => W.cell? ⟨g, 8, none⟩ = some q.lv) [([0, 1, 5, 6, 10], 2, true), ([], 3, true), ([], 4, true), ([], 7, false), ([], 8, false), ([], 9, false), ([11], 12, false), ([], 13, false), ([], 14, false), ([], 15, false), ([], 16, false), ([], 17, false)] [] [18] (by kernel_rfl) (by kernel_rfl) d8 (partsI_yield ?_)
  simp only [sgLHLogNil]
  go_wp2_with fail
  refine ⟨rfl, _, .pointer (some ⟨g, 0, none⟩), rfl, Or.inl ⟨by rfl, fun W hW => by go_simp⟩, partsI_yield ?_⟩
  simp only [Act.put, sgPHLogNil]
  simp only [sgLHLogNil]
  go_wp2_with fail
  refine ⟨rfl, _, .pointer (some ⟨g, 8, none⟩), rfl, Or.inl ⟨by rfl, fun W hW => by go_simp⟩, partsI_yield ?_⟩
  simp only [Act.put, sgPHLogNil]
  simp only [sgLHLogNil]
  go_wp2_with fail
  refine ⟨rfl, _, q.lv, rfl, Or.inl ⟨by rfl, fun W hW => by go_simp⟩, partsI_force ?_⟩
  simp only [Act.put, sgPHLogNil]
  simp only [sgLHLogNil]
  go_wp2_with fail
  refine ⟨rfl, d8, partsI_force ?_⟩
  simp only [sgLHLogNil]
  go_wp2_with fail
  refine ⟨rfl, d8, partsI_force ?_⟩
  simp only [sgLHLogNil]
  go_wp2_with fail
  refine ⟨rfl, d8, partsI_force ?_⟩
  simp only [sgLHLogNil]
  go_wp2_with fail
  refine wpList_load_blk (by rfl) 52 _ (by rfl) q.gn (at0 * 256) 256 (iv .u8 (fun j => F (at0 * 256 + j))) (by rfl) _ (HQ2.out.now.drew.range (at0 * 256) 256 (by omega)) Tryz.underlying52 rfl sizeBk ?_
  simp only [Act.put, sgPHLogNil]
  go_wp2_with fail
  refine ⟨rfl, d8, partsI_force ?_⟩
  simp only [sgLHLogNil]
  refine wpList_build3 rfl 194 _ _ _ rfl (.int .i64 1) (.int .i64 (at0 : Int)) (.agg (va 256 (iv .u8 (fun j => F (at0 * 256 + j))))) rfl rfl rfl (va 258 (rawF 1 (at0 : Int) fun j => F (at0 * 256 + j))) (built_raw 1 (at0 : Int) (fun j => F (at0 * 256 + j))) ?_
  simp only [Act.put, sgPHLogNil]
  go_wp2_with fail
  refine ⟨rfl, d8, partsI_force ?_⟩
  simp only [sgLHLogNil]
  refine wpList_build1 rfl 120 194 _ rfl (va 258 (rawF 1 (at0 : Int) fun j => F (at0 * 256 + j))) rfl i0 (.agg (va 258 (rawF 0 0 fun _ => 0))) 258 Tryz.underlying120 hi hz0 hz1 (va_size _ _) (by decide) (by decide) ?_
  simp only [Act.put, sgPHLogNil]
  go_wp2_with fail
  have d86 : (w2.drew.alloc (.cells (va 258 (rawF 1 (at0 : Int) fun j => F (at0 * 256 + j))) 194)).cell? ⟨g, 8, none⟩ = some q.lv := by rw [(HQ2.out.cells.drew.alloc _).cell]; rfl
  refine ⟨rfl, d86, partsI_force ?_⟩
  simp only [sgLHLogNil]
  have HOWN : Hid ((w2.drew.alloc (.cells (va 258 (rawF 1 (at0 : Int) fun j => F (at0 * 256 + j))) 194)).ownsRow B 194 258 q.lv lg q.xs) := World.ownsRow.alloc (w := w2.drew) HQ2.out.log _
  have HC : Hid (∀ j u, (va 258 (rawF 1 (at0 : Int) fun j => F (at0 * 256 + j))).toList[j]? = some u → (w2.drew.alloc (.cells (va 258 (rawF 1 (at0 : Int) fun j => F (at0 * 256 + j))) 194)).cell? ((⟨w2.drew.heap.size, 0, none⟩ : Addr).add j) = some u) := cells_new w2.drew _ _
  have HBB : Hid (B ≤ (w2.drew.alloc (.cells (va 258 (rawF 1 (at0 : Int) fun j => F (at0 * 256 + j))) 194)).heap.size) := by
    have h1 := HM2.out.1.size
    have h2 := HW.out
    show B ≤ _
    rw [show (w2.drew.alloc (.cells (va 258 (rawF 1 (at0 : Int) fun j => F (at0 * 256 + j))) 194)).heap.size = w2.heap.size + 1 by simp]
    omega
  refine wpList_append_own_at rfl _ _ 120 rfl B 194 i0 (.agg (va 258 (rawF 0 0 fun _ => 0))) 258 272 Tryz.underlying120 hi hz0 hz1 hz2 (va_size _ _) (by decide) _ _ _ rfl HOWN.out ⟨w2.drew.heap.size, 0, none⟩ 1 1 (va 258 (rawF 1 (at0 : Int) (fun j => F (at0 * 256 + j)))).toList rfl (by rw [Array.length_toList, va_size]) HC.out (raw_one _ _ _) (by unfold maxLen; omega) (by omega) HBB.out ?_
  intro v' w6 hrow hgr hsb
  obtain ⟨xa, xc, hxe⟩ := kown_slice hrow
  subst hxe
  obtain ⟨hB6, hq6, hm6⟩ := (HQ2.out.below (Below.refl _ _).drew).logged (va 258 (rawF 1 (at0 : Int) fun j => F (at0 * 256 + j))) hrow hgr hsb
  have HQ6 : Hid (DiskQ (w6.setCell ⟨g, 8, none⟩ (Value.slice xa (lg + 1) xc)) B g N F (k + 1) (lg + 1) { q with lv := (Value.slice xa (lg + 1) xc), xs := q.xs ++ (va 258 (rawF 1 (at0 : Int) fun j => F (at0 * 256 + j))).toList }) := hq6
  have HM6 : Hid (Moved g N q { q with lv := (Value.slice xa (lg + 1) xc), xs := q.xs ++ (va 258 (rawF 1 (at0 : Int) fun j => F (at0 * 256 + j))).toList } w1 (w6.setCell ⟨g, 8, none⟩ (Value.slice xa (lg + 1) xc))) := HM2.out.trans (Moved.trans (.of_below (Below.refl _ _).drew) hm6)
  have HQt6 : Hid (QuietC cv false { q with lv := (Value.slice xa (lg + 1) xc), xs := q.xs ++ (va 258 (rawF 1 (at0 : Int) fun j => F (at0 * 256 + j))).toList } m) := by
    obtain ⟨a1, a2, a3, a4, a5, a6⟩ := HQt2.out
    exact ⟨a1, a2, a3, a4, a5, fun u hu => by
      rcases List.mem_append.1 hu with h1 | h1
      · exact a6 u h1
      · exact raw_one _ _ _ u h1⟩
  have d8c : w6.cell? ⟨g, 8, none⟩ = some q.lv := by rw [hB6.cell]; rfl
  have f8c : w6.frozen? ⟨g, 8, none⟩ = false := hB6.frozen 8
  have hlr : q.lv.ownBlock ≠ some w.heap.size := fun e => by
    have := HF.out _ (.inr (.inr (.inr (.inr (.inl e)))))
    omega
  have r7 : Blk (w6.setCell ⟨g, 8, none⟩ (Value.slice xa (lg + 1) xc)) w.heap.size 52 (va 256 (iv .u8 fun _ => 0)) := by
    refine Blk.put_other ?_ _ _ fun e => ?_
    · exact (hgr.block _ (r2.drew.alloc (.cells (va 258 (rawF 1 (at0 : Int) fun j => F (at0 * 256 + j))) 194)).lt fun e => hlr e.symm).trans (r2.drew.alloc _)
    · have := HF.out _ (.inl e)
      omega
  clear hq6 hm6 HOWN HC HBB hrow hgr hsb d86 r2
  go_wp2_with fail
  refine ⟨rfl, d8c, partsI_force ?_⟩
  simp only [sgLHLogNil]
  go_wp2_with fail
  refine ⟨rfl, d8c, partsI_force ?_⟩
  simp only [sgLHLogNil]
  go_wp2_with fail
  refine ⟨rfl, d8c, partsI_last ?_⟩
  simp only [sgLHLogNil]
  go_wp2_with fail
  refine ⟨rfl, ?_⟩
  clear hB6 d8c f8c HQ2 hld hld2 d8 d0
  generalize (w6.setCell ⟨g, 8, none⟩ (Value.slice xa (lg + 1) xc)) = w7 at *
  have e0 : w7.cell? ⟨g, 0, none⟩ = some (.slice (some ⟨q.gn, 0, none⟩) N N) := by rw [HQ6.out.c]; rfl
  go_wp2_with (first
    | (refine wpList_load_blk (by rfl) 52 _ (by rfl) q.gn (at0 * 256) 256 (iv .u8 (fun j => F (at0 * 256 + j))) (by rfl) _ (HQ6.out.now.range (at0 * 256) 256 (by omega)) Tryz.underlying52 rfl sizeBk ?_; simp only [Act.put, sgPHLogNil])
    | (refine wpList_store_row (by rfl) 52 _ _ (by rfl) (w.heap.size) (va 256 (iv .u8 (fun j => F (at0 * 256 + j)))) (by rfl) (by rfl) 52 _ r7 (sizeBk.trans (by rw [va_size])) (by simp only [va_size]) (iv_one _ _ _) ?_; simp only [Act.put, sgPHLogNil])
    | fail)
  try simp only [Exit.inBlock, Exit.then]
  refine bodyPost_ret (results_row2 Tryz.results73 _ _ (w.heap.size) 52 (va 256 (iv .u8 (fun j => F (at0 * 256 + j)))) (0, 0) _ rfl ((r7.set _)) Tryz.underlying52 rfl (sizeBk.trans (by rw [va_size]))) rfl ?_
  have HM7 : Hid (Moved g N q { q with lv := (Value.slice xa (lg + 1) xc), xs := q.xs ++ (va 258 (rawF 1 (at0 : Int) fun j => F (at0 * 256 + j))).toList } w w7) := HM1.out.trans HM6.out
  refine ⟨rfl, _, HQ6.out.kept fun z hz => setRow_other w7 w.heap.size z _ fun e => ?_, HQt6.out, ⟨⟨HM7.out.1.os, HM7.out.1.tape, HM7.out.1.output, ?_, fun z hz hf => (setRow_other w7 w.heap.size z _ (by omega)).trans (HM7.out.1.block z hz hf)⟩, HM7.out.2⟩, rfl⟩
  · rcases HM6.out.2 z hz with h1 | h1
    · have := HF.out _ h1
      omega
    · omega
  · rw [setRow_size]
    exact HM7.out.1.size
theorem read_g {cv : Value} {m : Nat} (hq : QuietC cv false q m) (at0 : Nat) (hat : at0 < N) (hN : N ≤ 8192) (hk : k < 549755813888) (hlg : lg < 137438953472) (w : World) (hB : B ≤ w.heap.size) (h : DiskQ w B g N F k lg q) :
    Calls Tryz.prog 73 #[.pointer (some ⟨g, 0, none⟩), .int .i64 (at0 : Int)] w fun e w' => e = .returned (.tuple #[.agg (va 256 (iv .u8 (fun j => F (at0 * 256 + j)))), .int .i64 0]) ∧ ∃ q', DiskQ w' B g N F (k + 1) (lg + 1) q' ∧ QuietC cv false q' m ∧ Moved g N q q' w w' :=
  (read_ge hq at0 hat hN hk hlg w hB h).mono fun e w' ⟨h1, q', h2, h3, h4, _⟩ => ⟨h1, q', h2, h3, h4⟩
theorem read_q {cv : Value} (hq : QuietC cv false q k) (at0 : Nat) (hat : at0 < N) (hN : N ≤ 8192) (hk : k < 549755813888) (hlg : lg < 137438953472) (w : World) (hB : B ≤ w.heap.size) (h : DiskQ w B g N F k lg q) :
    Calls Tryz.prog 73 #[.pointer (some ⟨g, 0, none⟩), .int .i64 (at0 : Int)] w fun e w' => e = .returned (.tuple #[.agg (va 256 (iv .u8 (fun j => F (at0 * 256 + j)))), .int .i64 0]) ∧ ∃ q', DiskQ w' B g N F (k + 1) (lg + 1) q' ∧ QuietC cv false q' (k + 1) ∧ Moved g N q q' w w' :=
  (read_g hq at0 hat hN hk hlg w hB h).mono fun e w' ⟨h1, q', h2, h3, h4⟩ => ⟨h1, q', h2, h3.mono (Nat.le_succ _), h4⟩
end
end Go.Proofs.YtiofonffmplfmaaGreat

namespace Go.Proofs.YtiofonffmplfmaaGreat
open Go Go.RowKit
set_option linter.unusedSimpArgs false
set_option linter.unusedVariables false

theorem made_one (v : Value) (n : Nat) : madeCells #[v] n = va n fun _ => v := by
  refine va_ext (size_madeCells _ _) fun i hi => ?_
  unfold madeCells
  simp [hi, Nat.mod_one]
theorem made_const (z : Array Value) (v : Value) (m : Nat) (hz : z.size = m) (hm : 0 < m) (h : ∀ j, j < m → z[j]? = some v) (n : Nat) : madeCells z n = va n fun _ => v := by
  refine va_ext (size_madeCells _ _) fun i hi => ?_
  unfold madeCells
  rw [Array.getElem?_map, Array.getElem?_range, if_pos hi, Option.map_some, getElem!_def, hz, h _ (Nat.mod_lt _ hm)]
theorem made_bks (n : Nat) : madeCells (va 256 (iv .u8 fun _ => 0)) (n * 256) = va (n * 256) (iv .u8 fun _ => 0) :=
  made_const _ _ 256 (va_size _ _) (by decide) (fun j hj => va_at (iv .u8 fun _ => 0) hj) _
theorem make_bks (n : Nat) (hn : n ≤ 8192) (w : World) : (Instr.makeSlice 37 (.int .i64 (n : Int)) (.int .i64 (n : Int))).run Tryz.prog w = .ok (.slice (some ⟨w.heap.size, 0, none⟩) n n) (w.alloc (.cells (va (n * 256) (iv .u8 fun _ => 0)) 52)) := by
  obtain ⟨i0, hi, hz0, hz1, hz2⟩ := info_parts infoBk
  have := run_make (P := Tryz.prog) w 37 52 i0 (.agg (va 256 (iv .u8 fun _ => 0))) Tryz.underlying37 hi hz0 .i64 .i64 (n : Int) (n : Int) (by omega) (Int.le_refl _) (by rw [hz2]; omega) (by omega)
  rw [hz1] at this
  simp only [Int.toNat_natCast, Value.cells, made_bks] at this
  exact this
theorem make_ints (n : Nat) (hn : n ≤ 8192) (w : World) : (Instr.makeSlice 23 (.int .i64 (n : Int)) (.int .i64 (n : Int))).run Tryz.prog w = .ok (.slice (some ⟨w.heap.size, 0, none⟩) n n) (w.alloc (.cells (va n fun _ => .int .i64 0) 3)) := by
  obtain ⟨i0, hi, hz0, hz1, hz2⟩ := info_parts infoInt
  have := run_make (P := Tryz.prog) w 23 3 i0 (.int .i64 0) Tryz.underlying23 hi hz0 .i64 .i64 (n : Int) (n : Int) (by omega) (Int.le_refl _) (by rw [hz2]; omega) (by omega)
  rw [hz1] at this
  simp only [Int.toNat_natCast, Value.cells, made_one, Nat.mul_one] at this
  exact this
theorem make_rows (n : Nat) (hn : n ≤ 8192) (w : World) : (Instr.makeSlice 114 (.int .i64 (n : Int)) (.int .i64 (n : Int))).run Tryz.prog w = .ok (.slice (some ⟨w.heap.size, 0, none⟩) n n) (w.alloc (.cells (va n fun _ => .slice none 0 0) 23)) := by
  obtain ⟨i0, hi, hz0, hz1, hz2⟩ := info_parts infoInts
  have := run_make (P := Tryz.prog) w 114 23 i0 (.slice none 0 0) Tryz.underlying114 hi hz0 .i64 .i64 (n : Int) (n : Int) (by omega) (Int.le_refl _) (by rw [hz2]; omega) (by omega)
  rw [hz1] at this
  simp only [Int.toNat_natCast, Value.cells, made_one, Nat.mul_one] at this
  exact this
theorem own_made {w : World} {g t n size : Nat} {f : Nat → Value} (h : Blk w g t (va (n * size) f)) (hn : n ≤ 8192) (B : Nat) (hB : B ≤ g) : w.ownsRow B t size (.slice (some ⟨g, 0, none⟩) n n) n ((List.range (n * size)).map f) :=
  ⟨by simp, .inr ⟨g, n, _, rfl, hB, h, Nat.le_refl _, by unfold maxLen; omega, by rw [va_size], by rw [va_toList, List.take_of_length_le (by simp)]⟩⟩
set_option maxRecDepth 100000 in
set_option maxHeartbeats 2000000 in
theorem newPast_any (n : Nat) (hn : n ≤ 8192) (w : World) : Calls Tryz.prog 42 #[.int .i64 (n : Int)] w fun e w' => ∃ r gs, e = .returned (.agg #[.map (some r), .slice (some ⟨gs, 0, none⟩) n n]) ∧ w.heap.size ≤ r ∧ MapIs (α := Int × Int) (β := Vector Nat 256) momK bK w' r [] ∧ GrpAt w' w.heap.size (.slice (some ⟨gs, 0, none⟩) n n) (List.replicate n []) (List.replicate n (.slice none 0 0)) ∧ Below w.heap.size w w' := by
  have hmm := @run_makeMap Tryz.prog
  have hmk := make_rows n hn
  go_enter Tryz.func42, Tryz.ntmps42
  go_wp2_with fail
  have k0 : Blk (((w.alloc (.cells #[.map (some (w.heap.size + 1)), .slice (some ⟨w.heap.size + 1 + 1, 0, none⟩) n n] 116)).alloc (.map #[] 0)).alloc (.cells (va n fun _ => .slice none 0 0) 23)) w.heap.size 116 #[.map (some (w.heap.size + 1)), .slice (some ⟨w.heap.size + 1 + 1, 0, none⟩) n n] := ((Blk.new _ _ _).alloc _).alloc _
  have k2 : Blk (((w.alloc (.cells #[.map (some (w.heap.size + 1)), .slice (some ⟨w.heap.size + 1 + 1, 0, none⟩) n n] 116)).alloc (.map #[] 0)).alloc (.cells (va n fun _ => .slice none 0 0) 23)) (w.heap.size + 2) 23 (va n fun _ => .slice none 0 0) := Blk.new2 _ _ _ _ _
  have hb := below_new3 w (.cells #[.map (some (w.heap.size + 1)), .slice (some ⟨w.heap.size + 1 + 1, 0, none⟩) n n] 116) (.map #[] 0) (.cells (va n fun _ => .slice none 0 0) 23)
  have hm : MapIs (α := Int × Int) (β := Vector Nat 256) momK bK (((w.alloc (.cells #[.map (some (w.heap.size + 1)), .slice (some ⟨w.heap.size + 1 + 1, 0, none⟩) n n] 116)).alloc (.map #[] 0)).alloc (.cells (va n fun _ => .slice none 0 0) 23)) (w.heap.size + 1) [] := by
    refine ⟨#[], 0, ?_, rfl⟩
    rw [heap_alloc_old _ _ (by simp)]
    have := heap_alloc_new (w.alloc (.cells #[.map (some (w.heap.size + 1)), .slice (some ⟨w.heap.size + 1 + 1, 0, none⟩) n n] 116)) (.map #[] 0)
    rwa [show (w.alloc (.cells #[.map (some (w.heap.size + 1)), .slice (some ⟨w.heap.size + 1 + 1, 0, none⟩) n n] 116)).heap.size = w.heap.size + 1 by simp] at this
  generalize (((w.alloc (.cells #[.map (some (w.heap.size + 1)), .slice (some ⟨w.heap.size + 1 + 1, 0, none⟩) n n] 116)).alloc (.map #[] 0)).alloc (.cells (va n fun _ => .slice none 0 0) 23)) = w1 at *
  refine bodyPost_ret (results_cell_row Tryz.results42 _ _ w.heap.size 116 #[.map (some (w.heap.size + 1)), .slice (some ⟨w.heap.size + 1 + 1, 0, none⟩) n n] (0, 0) _ rfl k0 Tryz.underlying116 rfl (by kernel_rfl)) rfl ?_
  have h2 : Blk w1 (w.heap.size + 2) 23 (va (n * 1) fun _ => .slice none 0 0) := by rw [Nat.mul_one]; exact k2
  have hrow := own_made h2 hn w.heap.size (by omega)
  have hrep : (List.range (n * 1)).map (fun _ => Value.slice none 0 0) = List.replicate n (.slice none 0 0) := by
    rw [Nat.mul_one]
    apply List.ext_getElem?
    intro i
    simp [List.getElem?_replicate]
    by_cases hi : i < n <;> simp [hi]
  rw [hrep] at hrow
  have hG : ∀ j, (List.replicate n ([] : List Nat)).getD j [] = [] := fun j => by
    simp only [List.getD_eq_getElem?_getD, List.getElem?_replicate]
    split <;> rfl
  refine ⟨_, _, rfl, by omega, hm, ⟨by rw [List.length_replicate]; exact hrow, fun j hj => ?_, fun i j _ hi hj z hz => ?_⟩, hb⟩
  · rw [hG j]
    rw [List.length_replicate] at hj
    have e : (List.replicate n (Value.slice none 0 0)).getD j undef = .slice none 0 0 := by
      simp [List.getD_eq_getElem?_getD, List.getElem?_replicate, hj]
    rw [e]
    exact World.ownsRow_nil _ _ _ _
  · rw [List.length_replicate] at hi
    have e : (List.replicate n (Value.slice none 0 0)).getD i undef = .slice none 0 0 := by
      simp [List.getD_eq_getElem?_getD, List.getElem?_replicate, hi]
    rw [e] at hz
    cases hz
/-- the three things that a new disk is made of; each is there still when more is made -/
def New1 (B n gn : Nat) (W : World) : Prop := B ≤ gn ∧ Blk W gn 52 (va (n * 256) (iv .u8 fun _ => 0))
def New3 (B n r gs : Nat) (W : World) : Prop := B ≤ r ∧ MapIs (α := Int × Int) (β := Vector Nat 256) momK bK W r [] ∧ GrpAt W B (.slice (some ⟨gs, 0, none⟩) n n) (List.replicate n []) (List.replicate n (.slice none 0 0))
def New5 (B n gw : Nat) (W : World) : Prop := B ≤ gw ∧ Blk W gw 3 (va n fun _ => .int .i64 0)
section
variable {B n a r : Nat} {W W' : World}
theorem New1.below (h : New1 B n a W) (hb : Below W.heap.size W W') : New1 B n a W' := ⟨h.1, h.2.below hb h.2.lt⟩
theorem New5.below (h : New5 B n a W) (hb : Below W.heap.size W W') : New5 B n a W' := ⟨h.1, h.2.below hb h.2.lt⟩
theorem New3.below (h : New3 B n r a W) (hb : Below W.heap.size W W') : New3 B n r a W' := by
  refine ⟨h.1, ?_, h.2.2.below hb⟩
  obtain ⟨es, cl, hg, he⟩ := h.2.1
  exact ⟨es, cl, (hb.block r (Array.getElem?_eq_some_iff.1 hg).1).trans hg, he⟩
end
theorem New3.mono {B B' n r gs : Nat} {W : World} (h : New3 B' n r gs W) (hB : B ≤ B') : New3 B n r gs W := ⟨Nat.le_trans hB h.1, h.2.1, ⟨kown_mono h.2.2.row hB, fun j hj => kown_mono (h.2.2.each j hj) hB, h.2.2.apart⟩⟩
def newQD (n gn r gs gw : Nat) : QD := ⟨gn, r, .slice (some ⟨gs, 0, none⟩) n n, .map none, .slice none 0 0, false, 0, .slice none 0 0, .slice (some ⟨gw, 0, none⟩) n n, [], List.replicate n [], List.replicate n (.slice none 0 0), [], (List.range n).map fun _ => .int .i64 0⟩
theorem newQD_disk {B n gn r gs gw g : Nat} {W : World} (hn : n ≤ 8192) (h1 : New1 B n gn W) (h3 : New3 B n r gs W) (h5 : New5 B n gw W) (hB : B ≤ g) (hg : Blk W g 122 (dcells (newQD n gn r gs gw) n 0)) : DiskQ W B g n (fun _ => 0) 0 0 (newQD n gn r gs gw) := by
  have hw5 : Blk W gw 3 (va (n * 1) fun _ => .int .i64 0) := by rw [Nat.mul_one]; exact h5.2
  have hr5 := own_made hw5 hn B h5.1
  rw [Nat.mul_one] at hr5
  refine ⟨hB, hg, h1.1, h1.2, h3.1, h3.2.1, (fun p hp => by cases hp), h3.2.2, List.length_replicate, fun j => ?_, World.ownsRow_nil _ _ _ _, hr5, fun j hj => ⟨0, by simp [newQD, hj]⟩, fun j hj z hz => ?_⟩
  · have : (List.replicate n ([] : List Nat)).getD j [] = [] := by
      simp only [List.getD_eq_getElem?_getD, List.getElem?_replicate]
      split <;> rfl
    show ((List.replicate n ([] : List Nat)).getD j []).length ≤ 0 + 1
    rw [this]
    decide
  · have e : (List.replicate n (Value.slice none 0 0)).getD j undef = .slice none 0 0 := by
      simp [List.getD_eq_getElem?_getD, List.getElem?_replicate, hj]
    have hz' : ((List.replicate n (Value.slice none 0 0)).getD j undef).ownBlock = some z := hz
    rw [e] at hz'
    cases hz'
theorem newQD_G (n gn r gs gw : Nat) (j : Nat) : (newQD n gn r gs gw).G.getD j [] = [] := by
  show (List.replicate n ([] : List Nat)).getD j [] = []
  simp only [List.getD_eq_getElem?_getD, List.getElem?_replicate]
  split <;> rfl
theorem quiet_new (n gn r gs gw : Nat) : Quiet (newQD n gn r gs gw) 0 := ⟨rfl, rfl, rfl, Int.le_refl _, Int.le_refl _, fun u hu => by cases hu⟩
theorem treeS_three {P : Program} {ops : Array Oper} {Q : Exit → Act → World → Prop} {S : World → Prop} {n : Nat} {listed : Array Bool} {a : Act} {w : World} (i j l : Nat) (hr : (Region.ready .any ops listed == [i, j, l]) = true)
    (h : wpList P ops (Strict fun _ a' w' => S w' ∧ wpTreeS P ops Q S n (listed.setIfInBounds i true) a' w') ([i].filterMap fun i => ops[i]?) a w)
    (h2 : wpList P ops (Strict fun _ a' w' => S w' ∧ wpTreeS P ops Q S n (listed.setIfInBounds j true) a' w') ([j].filterMap fun i => ops[i]?) a w)
    (h3 : wpList P ops (Strict fun _ a' w' => S w' ∧ wpTreeS P ops Q S n (listed.setIfInBounds l true) a' w') ([l].filterMap fun i => ops[i]?) a w) : wpTreeS P ops Q S (n + 1) listed a w :=
  treeS_step [i, j, l] hr fun k hk => by
    have : k = i ∨ k = j ∨ k = l := by simpa using hk
    rcases this with rfl | rfl | rfl
    · exact h
    · exact h2
    · exact h3
set_option maxRecDepth 100000 in
set_option maxHeartbeats 8000000 in
theorem diskNew_new (n : Nat) (h16 : 16 ≤ n) (hn : n ≤ 8192) (w : World) : Calls Tryz.prog 22 #[.int .i64 (n : Int)] w fun e w' => ∃ g q, e = .returned (.tuple #[.pointer (some ⟨g, 0, none⟩), .int .i64 0]) ∧ DiskQ w' w.heap.size g n (fun _ => 0) 0 0 q ∧ Quiet q 0 ∧ Below w.heap.size w w' ∧ q.l = [] ∧ ∀ j, q.G.getD j [] = [] := by
  have hm1 := make_bks n hn
  have hm5 := make_ints n hn
  have hP : Hid (∀ w : World, Calls Tryz.prog 42 #[.int .i64 (n : Int)] w fun e w' => ∃ r gs, e = .returned (.agg #[.map (some r), .slice (some ⟨gs, 0, none⟩) n n]) ∧ New3 w.heap.size n r gs w' ∧ Below w.heap.size w w') := fun w => (newPast_any n hn w).mono fun e w' ⟨r, gs, h1, h2, h3, h4, h5⟩ => ⟨r, gs, h1, ⟨h2, h3, h4⟩, h5⟩
  have j0 : (16 : Int) ≤ (n : Int) := by omega
  have j1 : (n : Int) ≤ 8192 := by omega
  go_enter Tryz.func22, Tryz.ntmps22
  go_wp2_with fail
  refine wp_region_tree [] [0, 2, 4] w.heap.size (by kernel_rfl) (by kernel_rfl) (fun _ hx => nomatch hx) ?_
  simp only [sgLHLogNil]
  have b0 : Below w.heap.size w w.drew := (Below.refl _ _).drew
  go_wp2_with fail
  generalize w.drew = v0 at *
  refine ⟨rfl, treeS_three 1 3 5 (by kernel_rfl) ?_ ?_ ?_⟩
  · simp only [sgLHLogNil]
    go_wp2_with fail
    have x10 : New1 w.heap.size n v0.heap.size (v0.alloc (.cells (va (n * 256) (iv .u8 fun _ => 0)) 52)) := ⟨b0.size, Blk.new _ _ _⟩
    have b1 : Below w.heap.size w (v0.alloc (.cells (va (n * 256) (iv .u8 fun _ => 0)) 52)) := b0.alloc b0.size _
    generalize (v0.alloc (.cells (va (n * 256) (iv .u8 fun _ => 0)) 52)) = v1 at *
    refine ⟨rfl, b1, treeS_two 3 5 (by kernel_rfl) ?_ ?_⟩
    · simp only [sgLHLogNil]
      go_wp2_with fail
      refine (hP.out _).mono ?_
      rintro e v2 ⟨r, gs, rfl, h3, hb3⟩
      have x31 := h3.mono b1.size
      have x11 := x10.below hb3
      have b2 : Below w.heap.size w v2 := b1.trans (hb3.mono b1.size)
      clear h3 hb3 x10
      go_wp2_with fail
      refine ⟨rfl, b2, treeS_one 5 (by kernel_rfl) ?_⟩
      · simp only [sgLHLogNil]
        go_wp2_with fail
        have x52 : New5 w.heap.size n v2.heap.size (v2.alloc (.cells (va n fun _ => .int .i64 0) 3)) := ⟨b2.size, Blk.new _ _ _⟩
        have x12 := x11.below (below_new1 v2 (.cells (va n fun _ => .int .i64 0) 3))
        have x32 := x31.below (below_new1 v2 (.cells (va n fun _ => .int .i64 0) 3))
        have b3 : Below w.heap.size w (v2.alloc (.cells (va n fun _ => .int .i64 0) 3)) := b2.alloc b2.size _
        clear x11 x31
        generalize (v2.alloc (.cells (va n fun _ => .int .i64 0) 3)) = v3 at *
        refine ⟨rfl, b3, treeS_one 6 (by kernel_rfl) ?_⟩
        simp only [sgLHLogNil]
        go_wp2_with fail
        refine ⟨rfl, b3, treeS_one 7 (by kernel_rfl) ?_⟩
        simp only [sgLHLogNil]
        go_wp2_with fail
        refine ⟨rfl, b3.alloc b3.size _, treeS_one 8 (by kernel_rfl) ?_⟩
        simp only [sgLHLogNil]
        go_wp2_with fail
        refine ⟨rfl, b3.alloc b3.size _, treeS_one 9 (by kernel_rfl) ?_⟩
        simp only [sgLHLogNil]
        go_wp2_with fail
        refine ⟨rfl, b3.alloc b3.size _, treeS_last ?_⟩
        refine ⟨rfl, ?_⟩
        go_wp2_with fail
        try simp only [Exit.inBlock, Exit.then]
        refine bodyPost_ret (results_tmp2 Tryz.results22 _ _ _) rfl ?_
        exact ⟨_, _, rfl, newQD_disk hn (x12.below (below_new1 _ _)) (x32.below (below_new1 _ _)) (x52.below (below_new1 _ _)) b3.size (Blk.new _ _ _), quiet_new _ _ _ _ _, b3.alloc b3.size _, rfl, newQD_G _ _ _ _ _⟩
    · simp only [sgLHLogNil]
      go_wp2_with fail
      have x51 : New5 w.heap.size n v1.heap.size (v1.alloc (.cells (va n fun _ => .int .i64 0) 3)) := ⟨b1.size, Blk.new _ _ _⟩
      have x11 := x10.below (below_new1 v1 (.cells (va n fun _ => .int .i64 0) 3))
      have b2 : Below w.heap.size w (v1.alloc (.cells (va n fun _ => .int .i64 0) 3)) := b1.alloc b1.size _
      clear x10
      generalize (v1.alloc (.cells (va n fun _ => .int .i64 0) 3)) = v2 at *
      refine ⟨rfl, b2, treeS_one 3 (by kernel_rfl) ?_⟩
      · simp only [sgLHLogNil]
        go_wp2_with fail
        refine (hP.out _).mono ?_
        rintro e v3 ⟨r, gs, rfl, h3, hb3⟩
        have x32 := h3.mono b2.size
        have x12 := x11.below hb3
        have x52 := x51.below hb3
        have b3 : Below w.heap.size w v3 := b2.trans (hb3.mono b2.size)
        clear h3 hb3 x11 x51
        go_wp2_with fail
        refine ⟨rfl, b3, treeS_one 6 (by kernel_rfl) ?_⟩
        simp only [sgLHLogNil]
        go_wp2_with fail
        refine ⟨rfl, b3, treeS_one 7 (by kernel_rfl) ?_⟩
        simp only [sgLHLogNil]
        go_wp2_with fail
        refine ⟨rfl, b3.alloc b3.size _, treeS_one 8 (by kernel_rfl) ?_⟩
        simp only [sgLHLogNil]
        go_wp2_with fail
        refine ⟨rfl, b3.alloc b3.size _, treeS_one 9 (by kernel_rfl) ?_⟩
        simp only [sgLHLogNil]
        go_wp2_with fail
        refine ⟨rfl, b3.alloc b3.size _, treeS_last ?_⟩
        refine ⟨rfl, ?_⟩
        go_wp2_with fail
        try simp only [Exit.inBlock, Exit.then]
        refine bodyPost_ret (results_tmp2 Tryz.results22 _ _ _) rfl ?_
        exact ⟨_, _, rfl, newQD_disk hn (x12.below (below_new1 _ _)) (x32.below (below_new1 _ _)) (x52.below (below_new1 _ _)) b3.size (Blk.new _ _ _), quiet_new _ _ _ _ _, b3.alloc b3.size _, rfl, newQD_G _ _ _ _ _⟩
  · simp only [sgLHLogNil]
    go_wp2_with fail
    refine (hP.out _).mono ?_
    rintro e v1 ⟨r, gs, rfl, h3, hb3⟩
    have x30 := h3.mono b0.size
    have b1 : Below w.heap.size w v1 := b0.trans (hb3.mono b0.size)
    clear h3 hb3
    go_wp2_with fail
    refine ⟨rfl, b1, treeS_two 1 5 (by kernel_rfl) ?_ ?_⟩
    · simp only [sgLHLogNil]
      go_wp2_with fail
      have x11 : New1 w.heap.size n v1.heap.size (v1.alloc (.cells (va (n * 256) (iv .u8 fun _ => 0)) 52)) := ⟨b1.size, Blk.new _ _ _⟩
      have x31 := x30.below (below_new1 v1 (.cells (va (n * 256) (iv .u8 fun _ => 0)) 52))
      have b2 : Below w.heap.size w (v1.alloc (.cells (va (n * 256) (iv .u8 fun _ => 0)) 52)) := b1.alloc b1.size _
      clear x30
      generalize (v1.alloc (.cells (va (n * 256) (iv .u8 fun _ => 0)) 52)) = v2 at *
      refine ⟨rfl, b2, treeS_one 5 (by kernel_rfl) ?_⟩
      · simp only [sgLHLogNil]
        go_wp2_with fail
        have x52 : New5 w.heap.size n v2.heap.size (v2.alloc (.cells (va n fun _ => .int .i64 0) 3)) := ⟨b2.size, Blk.new _ _ _⟩
        have x32 := x31.below (below_new1 v2 (.cells (va n fun _ => .int .i64 0) 3))
        have x12 := x11.below (below_new1 v2 (.cells (va n fun _ => .int .i64 0) 3))
        have b3 : Below w.heap.size w (v2.alloc (.cells (va n fun _ => .int .i64 0) 3)) := b2.alloc b2.size _
        clear x31 x11
        generalize (v2.alloc (.cells (va n fun _ => .int .i64 0) 3)) = v3 at *
        refine ⟨rfl, b3, treeS_one 6 (by kernel_rfl) ?_⟩
        simp only [sgLHLogNil]
        go_wp2_with fail
        refine ⟨rfl, b3, treeS_one 7 (by kernel_rfl) ?_⟩
        simp only [sgLHLogNil]
        go_wp2_with fail
        refine ⟨rfl, b3.alloc b3.size _, treeS_one 8 (by kernel_rfl) ?_⟩
        simp only [sgLHLogNil]
        go_wp2_with fail
        refine ⟨rfl, b3.alloc b3.size _, treeS_one 9 (by kernel_rfl) ?_⟩
        simp only [sgLHLogNil]
        go_wp2_with fail
        refine ⟨rfl, b3.alloc b3.size _, treeS_last ?_⟩
        refine ⟨rfl, ?_⟩
        go_wp2_with fail
        try simp only [Exit.inBlock, Exit.then]
        refine bodyPost_ret (results_tmp2 Tryz.results22 _ _ _) rfl ?_
        exact ⟨_, _, rfl, newQD_disk hn (x12.below (below_new1 _ _)) (x32.below (below_new1 _ _)) (x52.below (below_new1 _ _)) b3.size (Blk.new _ _ _), quiet_new _ _ _ _ _, b3.alloc b3.size _, rfl, newQD_G _ _ _ _ _⟩
    · simp only [sgLHLogNil]
      go_wp2_with fail
      have x51 : New5 w.heap.size n v1.heap.size (v1.alloc (.cells (va n fun _ => .int .i64 0) 3)) := ⟨b1.size, Blk.new _ _ _⟩
      have x31 := x30.below (below_new1 v1 (.cells (va n fun _ => .int .i64 0) 3))
      have b2 : Below w.heap.size w (v1.alloc (.cells (va n fun _ => .int .i64 0) 3)) := b1.alloc b1.size _
      clear x30
      generalize (v1.alloc (.cells (va n fun _ => .int .i64 0) 3)) = v2 at *
      refine ⟨rfl, b2, treeS_one 1 (by kernel_rfl) ?_⟩
      · simp only [sgLHLogNil]
        go_wp2_with fail
        have x12 : New1 w.heap.size n v2.heap.size (v2.alloc (.cells (va (n * 256) (iv .u8 fun _ => 0)) 52)) := ⟨b2.size, Blk.new _ _ _⟩
        have x32 := x31.below (below_new1 v2 (.cells (va (n * 256) (iv .u8 fun _ => 0)) 52))
        have x52 := x51.below (below_new1 v2 (.cells (va (n * 256) (iv .u8 fun _ => 0)) 52))
        have b3 : Below w.heap.size w (v2.alloc (.cells (va (n * 256) (iv .u8 fun _ => 0)) 52)) := b2.alloc b2.size _
        clear x31 x51
        generalize (v2.alloc (.cells (va (n * 256) (iv .u8 fun _ => 0)) 52)) = v3 at *
        refine ⟨rfl, b3, treeS_one 6 (by kernel_rfl) ?_⟩
        simp only [sgLHLogNil]
        go_wp2_with fail
        refine ⟨rfl, b3, treeS_one 7 (by kernel_rfl) ?_⟩
        simp only [sgLHLogNil]
        go_wp2_with fail
        refine ⟨rfl, b3.alloc b3.size _, treeS_one 8 (by kernel_rfl) ?_⟩
        simp only [sgLHLogNil]
        go_wp2_with fail
        refine ⟨rfl, b3.alloc b3.size _, treeS_one 9 (by kernel_rfl) ?_⟩
        simp only [sgLHLogNil]
        go_wp2_with fail
        refine ⟨rfl, b3.alloc b3.size _, treeS_last ?_⟩
        refine ⟨rfl, ?_⟩
        go_wp2_with fail
        try simp only [Exit.inBlock, Exit.then]
        refine bodyPost_ret (results_tmp2 Tryz.results22 _ _ _) rfl ?_
        exact ⟨_, _, rfl, newQD_disk hn (x12.below (below_new1 _ _)) (x32.below (below_new1 _ _)) (x52.below (below_new1 _ _)) b3.size (Blk.new _ _ _), quiet_new _ _ _ _ _, b3.alloc b3.size _, rfl, newQD_G _ _ _ _ _⟩
  · simp only [sgLHLogNil]
    go_wp2_with fail
    have x50 : New5 w.heap.size n v0.heap.size (v0.alloc (.cells (va n fun _ => .int .i64 0) 3)) := ⟨b0.size, Blk.new _ _ _⟩
    have b1 : Below w.heap.size w (v0.alloc (.cells (va n fun _ => .int .i64 0) 3)) := b0.alloc b0.size _
    generalize (v0.alloc (.cells (va n fun _ => .int .i64 0) 3)) = v1 at *
    refine ⟨rfl, b1, treeS_two 1 3 (by kernel_rfl) ?_ ?_⟩
    · simp only [sgLHLogNil]
      go_wp2_with fail
      have x11 : New1 w.heap.size n v1.heap.size (v1.alloc (.cells (va (n * 256) (iv .u8 fun _ => 0)) 52)) := ⟨b1.size, Blk.new _ _ _⟩
      have x51 := x50.below (below_new1 v1 (.cells (va (n * 256) (iv .u8 fun _ => 0)) 52))
      have b2 : Below w.heap.size w (v1.alloc (.cells (va (n * 256) (iv .u8 fun _ => 0)) 52)) := b1.alloc b1.size _
      clear x50
      generalize (v1.alloc (.cells (va (n * 256) (iv .u8 fun _ => 0)) 52)) = v2 at *
      refine ⟨rfl, b2, treeS_one 3 (by kernel_rfl) ?_⟩
      · simp only [sgLHLogNil]
        go_wp2_with fail
        refine (hP.out _).mono ?_
        rintro e v3 ⟨r, gs, rfl, h3, hb3⟩
        have x32 := h3.mono b2.size
        have x52 := x51.below hb3
        have x12 := x11.below hb3
        have b3 : Below w.heap.size w v3 := b2.trans (hb3.mono b2.size)
        clear h3 hb3 x51 x11
        go_wp2_with fail
        refine ⟨rfl, b3, treeS_one 6 (by kernel_rfl) ?_⟩
        simp only [sgLHLogNil]
        go_wp2_with fail
        refine ⟨rfl, b3, treeS_one 7 (by kernel_rfl) ?_⟩
        simp only [sgLHLogNil]
        go_wp2_with fail
        refine ⟨rfl, b3.alloc b3.size _, treeS_one 8 (by kernel_rfl) ?_⟩
        simp only [sgLHLogNil]
        go_wp2_with fail
        refine ⟨rfl, b3.alloc b3.size _, treeS_one 9 (by kernel_rfl) ?_⟩
        simp only [sgLHLogNil]
        go_wp2_with fail
        refine ⟨rfl, b3.alloc b3.size _, treeS_last ?_⟩
        refine ⟨rfl, ?_⟩
        go_wp2_with fail
        try simp only [Exit.inBlock, Exit.then]
        refine bodyPost_ret (results_tmp2 Tryz.results22 _ _ _) rfl ?_
        exact ⟨_, _, rfl, newQD_disk hn (x12.below (below_new1 _ _)) (x32.below (below_new1 _ _)) (x52.below (below_new1 _ _)) b3.size (Blk.new _ _ _), quiet_new _ _ _ _ _, b3.alloc b3.size _, rfl, newQD_G _ _ _ _ _⟩
    · simp only [sgLHLogNil]
      go_wp2_with fail
      refine (hP.out _).mono ?_
      rintro e v2 ⟨r, gs, rfl, h3, hb3⟩
      have x31 := h3.mono b1.size
      have x51 := x50.below hb3
      have b2 : Below w.heap.size w v2 := b1.trans (hb3.mono b1.size)
      clear h3 hb3 x50
      go_wp2_with fail
      refine ⟨rfl, b2, treeS_one 1 (by kernel_rfl) ?_⟩
      · simp only [sgLHLogNil]
        go_wp2_with fail
        have x12 : New1 w.heap.size n v2.heap.size (v2.alloc (.cells (va (n * 256) (iv .u8 fun _ => 0)) 52)) := ⟨b2.size, Blk.new _ _ _⟩
        have x52 := x51.below (below_new1 v2 (.cells (va (n * 256) (iv .u8 fun _ => 0)) 52))
        have x32 := x31.below (below_new1 v2 (.cells (va (n * 256) (iv .u8 fun _ => 0)) 52))
        have b3 : Below w.heap.size w (v2.alloc (.cells (va (n * 256) (iv .u8 fun _ => 0)) 52)) := b2.alloc b2.size _
        clear x51 x31
        generalize (v2.alloc (.cells (va (n * 256) (iv .u8 fun _ => 0)) 52)) = v3 at *
        refine ⟨rfl, b3, treeS_one 6 (by kernel_rfl) ?_⟩
        simp only [sgLHLogNil]
        go_wp2_with fail
        refine ⟨rfl, b3, treeS_one 7 (by kernel_rfl) ?_⟩
        simp only [sgLHLogNil]
        go_wp2_with fail
        refine ⟨rfl, b3.alloc b3.size _, treeS_one 8 (by kernel_rfl) ?_⟩
        simp only [sgLHLogNil]
        go_wp2_with fail
        refine ⟨rfl, b3.alloc b3.size _, treeS_one 9 (by kernel_rfl) ?_⟩
        simp only [sgLHLogNil]
        go_wp2_with fail
        refine ⟨rfl, b3.alloc b3.size _, treeS_last ?_⟩
        refine ⟨rfl, ?_⟩
        go_wp2_with fail
        try simp only [Exit.inBlock, Exit.then]
        refine bodyPost_ret (results_tmp2 Tryz.results22 _ _ _) rfl ?_
        exact ⟨_, _, rfl, newQD_disk hn (x12.below (below_new1 _ _)) (x32.below (below_new1 _ _)) (x52.below (below_new1 _ _)) b3.size (Blk.new _ _ _), quiet_new _ _ _ _ _, b3.alloc b3.size _, rfl, newQD_G _ _ _ _ _⟩
end Go.Proofs.YtiofonffmplfmaaGreat

namespace Go.Proofs.YtiofonffmplfmaaGreat
open Go Go.RowKit
set_option linter.unusedSimpArgs false
set_option linter.unusedVariables false

/-- a block whose first byte is 7 -/
def f7 : Nat → Nat := fun j => if j = 0 then 7 else 0
end Go.Proofs.YtiofonffmplfmaaGreat

namespace Go.Proofs.YtiofonffmplfmaaGreat
open Go.RowKit
set_option linter.unusedSimpArgs false
set_option linter.unusedVariables false

set_option maxRecDepth 100000 in
set_option maxHeartbeats 4000000 in
theorem logOf_nil (tag : Nat) (ht : tag < 256) (s : ByteArray) (hs : s.size ≤ 140737488351232) (w : World) :
    Calls Tryz.prog 103 #[.pointer none, .int .u8 (tag : Int), .string s] w fun e w' => e = .returned (.agg (va 32 (iv .u8 (sumOf (tag, s))))) ∧ Below w.heap.size w w' := by
  have hO : Hid (∀ w : World, Calls Tryz.prog 109 #[.int .u8 (tag : Int), .string s] w fun e w' => e = .returned (.agg (va 32 (iv .u8 (sumOf (tag, s))))) ∧ Below w.heap.size w w') := fun w => of_any tag ht s hs w
  generalize sumOf (tag, s) = x at *
  clear hs
  have r0 : Blk (w.alloc (.cells #[.int .u8 0, .int .u8 0, .int .u8 0, .int .u8 0, .int .u8 0, .int .u8 0, .int .u8 0, .int .u8 0, .int .u8 0, .int .u8 0, .int .u8 0, .int .u8 0, .int .u8 0, .int .u8 0, .int .u8 0, .int .u8 0, .int .u8 0, .int .u8 0, .int .u8 0, .int .u8 0, .int .u8 0, .int .u8 0, .int .u8 0, .int .u8 0, .int .u8 0, .int .u8 0, .int .u8 0, .int .u8 0, .int .u8 0, .int .u8 0, .int .u8 0, .int .u8 0] 41)) w.heap.size 41 (va 32 (iv .u8 fun _ => 0)) := Blk.new _ _ _
  have b0 : Below w.heap.size w (w.alloc (.cells #[.int .u8 0, .int .u8 0, .int .u8 0, .int .u8 0, .int .u8 0, .int .u8 0, .int .u8 0, .int .u8 0, .int .u8 0, .int .u8 0, .int .u8 0, .int .u8 0, .int .u8 0, .int .u8 0, .int .u8 0, .int .u8 0, .int .u8 0, .int .u8 0, .int .u8 0, .int .u8 0, .int .u8 0, .int .u8 0, .int .u8 0, .int .u8 0, .int .u8 0, .int .u8 0, .int .u8 0, .int .u8 0, .int .u8 0, .int .u8 0, .int .u8 0, .int .u8 0] 41)) := (Below.refl _ _).alloc (Nat.le_refl _) _
  go_enter Tryz.func103, Tryz.ntmps103
  go_wp2_with fail
  refine (hO.out _).mono ?_
  rintro e w1 ⟨rfl, hb1⟩
  have r1 := r0.below hb1 r0.lt
  have b1 : Below w.heap.size w w1 := b0.trans (hb1.mono b0.size)
  clear hb1 r0 b0
  go_wp2_with (first
    | (refine wpList_store_row (by rfl) 41 _ _ (by rfl) w.heap.size (va 32 (iv .u8 x)) (by rfl) (by rfl) 41 _ r1 (sizeSum.trans (by rw [va_size])) (by rw [va_size, va_size]) (iv_one _ _ _) ?_; simp only [Act.put, sgPHLogNil])
    | fail)
  try simp only [Exit.inBlock, Exit.then]
  refine bodyPost_ret (results_cell_row Tryz.results103 _ _ w.heap.size 41 (va 32 (iv .u8 x)) (0, 0) _ rfl (r1.set _) Tryz.underlying41 rfl (sizeSum.trans (by rw [va_size]))) rfl ?_
  exact ⟨rfl, below_setRow b1 (Nat.le_refl _) _⟩
end Go.Proofs.YtiofonffmplfmaaGreat
