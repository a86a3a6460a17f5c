/- A cache of however many entries on a quiet disk, without a log: Get. -/
import Derived.Test.YtojbgggkfahkfaaGreatHLogOf
import Derived.Test.YtojbgggkfahkfaaGreatHCaKit
import Derived.Handy
import Derived.Test.YtojbgggkfahkfaaGreatHInsFns
import Derived.Lib.SliceRun
import Derived.Test.YtojbgggkfahkfaaGreatHSegsS
import Derived.Test.YtojbgggkfahkfaaGreatHDkWrite
import Derived.Deep.DeepCutAuto
import Derived.Deep.Cut
import Derived.Test.YtojbgggkfahkfaaGreatHInsMap

namespace Go.Proofs.YtojbgggkfahkfaaGreat
open Go Go.RowKit
set_option linter.unusedSimpArgs false
set_option linter.unusedVariables false
/-- one leaf another one -/
def dU (D : Nat → Nat → Nat → Nat) (n p : Nat) (f : Nat → Nat) : Nat → Nat → Nat → Nat := fun m q => if m = n ∧ q = p then f else D m q
/-- an inode one of whose leaves was set -/
def hdS (y : Hd) : Hd := ⟨y.o, y.n, y.k, y.l, y.s, y.t, y.left, true⟩
theorem hd_putSet {w : World} {b t : Nat} {y : Hd} (H : Blk w b t (hdC y)) : Blk (w.setCell ⟨b, 44, none⟩ (.bool true)) b t (hdC (hdS y)) := by
  have := H.put 44 (.bool true)
  rw [show (hdC y).setIfInBounds 44 (.bool true) = hdC (hdS y) from ?_] at this
  · exact this
  · unfold hdC
    rw [va_set]
    refine va_congr fun i hi => ?_
    unfold upd hdF
    by_cases e : i = 44
    · subst e
      rfl
    · rw [if_neg e]
      by_cases h1 : i < 38
      · rw [if_pos h1, if_pos h1]
        rfl
      · rw [if_neg h1, if_neg h1]
        by_cases h2 : i < 43
        · rw [if_pos h2, if_pos h2]
          rfl
        · rw [if_neg h2, if_neg h2, if_pos (by omega), if_pos (by omega)]
          rfl
theorem hd_c44 {w : World} {b t : Nat} {y : Hd} (H : Blk w b t (hdC y)) : w.cell? ⟨b, 44, none⟩ = some (.bool y.set) := H.cv (n := 45) (by decide)
/-- nothing is taken away of an empty map -/
theorem del_empty {W : World} {mc : Nat} (n : Int) (h : ∃ c, W.heap[mc]? = some (.map #[] c)) (ty : TypeId) : (Builtin.delete_ #[85, 3] ty #[.map (some mc), .int .i64 n]).run Tryz.prog W = .ok (.tuple #[]) W := by
  obtain ⟨c, hc⟩ := h
  have hgo : (getObj mc).run Tryz.prog W = .ok (.map #[] c) W := by simp [getObj, Sem.run, hc]
  have hso : (setObj mc (.map #[] c)).run Tryz.prog W = .ok () W := by
    have hl := (Array.getElem?_eq_some_iff.1 hc).1
    have e : W.heap.setIfInBounds mc (.map #[] c) = W.heap := by
      apply Array.ext_getElem?
      intro i
      rw [Array.getElem?_setIfInBounds]
      by_cases hi : mc = i
      · subst hi
        rw [if_pos rfl, if_pos hl, hc]
      · rw [if_neg hi]
    simp [setObj, Sem.run, hc, e]
  have hck : (Instr.checkKey true 10000 3 (.int .i64 n)).run Tryz.prog W = .ok () W := by
    rw [show (10000 : Nat) = 9999 + 1 from rfl, Instr.checkKey]
    simp [run_underlying Tryz.underlying3]
  simp [Builtin.delete_, run_underlying Tryz.underlying85, hgo, hck, Instr.findKey, run_underlying Tryz.underlying3, Instr.findNow, hso, Result.andThen]
section
variable {w w' : World} {x mf ml mc : Nat} {cp : Option Addr} {top : Int} {H : Nat → Hd} {D : Nat → Nat → Nat → Nat}
set_option maxRecDepth 100000 in
set_option maxHeartbeats 8000000 in
theorem IM.set (h : IM w x mf ml mc cp top H D) (n p b : Nat) (y : Hd) (hy : y.n = (n : Int)) (f : Nat → Nat) (hB : Blk w b 79 (hdC y)) (hb : b ≠ x ∧ b ≠ mf ∧ b ≠ ml ∧ b ≠ mc) : Calls Tryz.prog 82 #[.pointer (some ⟨x, 0, none⟩), .pointer (some ⟨b, 0, none⟩), .int .i64 (p : Int), .agg (va 256 (iv .u8 f))] w fun e w' => e = .returned (.tuple #[]) ∧ IM w' x mf ml mc cp top H (dU D n p f) ∧ Blk w' b 79 (hdC (hdS y)) ∧ Turns (fun z => z = ml ∨ z = b) w w' := by
  obtain ⟨M, m1, m2⟩ := h.lm
  have HUP : Hid (∀ W, MapFn pkV bvV W ml M → ∃ W', (Instr.mapUpdate 84 (.map (some ml)) (.agg #[.int .i64 (n : Int), .int .i64 0, .int .i64 (p : Int)]) (.agg (va 256 (iv .u8 f)))).run Tryz.prog W = .ok () W' ∧ MapFn pkV bvV W' ml (fun k => if k = ((n : Int), 0, (p : Int)) then some f else M k) ∧ Keeps ml W W') := fun W hW => hW.put Tryz.underlying84 pk_key ((n : Int), 0, (p : Int)) (pk_bits _) f
  have HM2 : Hid (∀ n p j : Nat, j < 256 → (match M ((n : Int), 0, (p : Int)) with | some f => f j | none => 0) = D n p j) := m2
  have hb1 : Below w.heap.size w (w.alloc (.cells (va 256 (iv .u8 f)) 94)) := below_new1 _ _
  have q1 : Blk (w.alloc (.cells (va 256 (iv .u8 f)) 94)) w.heap.size 94 (va 256 (iv .u8 f)) := Blk.new _ _ _
  have hS1 : Blk (w.alloc (.cells (va 256 (iv .u8 f)) 94)) x 87 (ixC cp 0 rf0 0 top mf ml mc) ∧ Blk (w.alloc (.cells (va 256 (iv .u8 f)) 94)) b 79 (hdC y) ∧ MapFn pkV bvV (w.alloc (.cells (va 256 (iv .u8 f)) 94)) ml M ∧ Blk (w.alloc (.cells (va 256 (iv .u8 f)) 94)) w.heap.size 94 (va 256 (iv .u8 f)) := ⟨h.ix.below hb1 h.ix.lt, hB.below hb1 hB.lt, m1.below hb1 m1.lt, q1⟩
  have HLA : Hid (∀ w : World, Calls Tryz.prog 55 #[.int .i64 (n : Int), .int .i64 (p : Int)] w fun e w' => e = .returned (.agg #[.int .i64 (n : Int), .int .i64 0, .int .i64 (p : Int)]) ∧ Below w.heap.size w w') := leafAt_any (n : Int) (p : Int)
  have HY : Hid (y.n = (n : Int)) := hy
  have HI : Hid (IM w x mf ml mc cp top H D ∧ (b ≠ x ∧ b ≠ mf ∧ b ≠ ml ∧ b ≠ mc) ∧ b < w.heap.size) := ⟨h, hb, hB.lt⟩
  clear h m1 m2 hy hB hb q1
  go_enter Tryz.func82, Tryz.ntmps82
  go_wp2_with fail
  generalize (w.alloc (.cells (va 256 (iv .u8 f)) 94)) = w1 at *
  have hS0 : Blk w1.drew x 87 (ixC cp 0 rf0 0 top mf ml mc) ∧ Blk w1.drew b 79 (hdC y) ∧ MapFn pkV bvV w1.drew ml M ∧ Blk w1.drew w.heap.size 94 (va 256 (iv .u8 f)) := hS1
  have hwd : Below w.heap.size w w1.drew := hb1.drew
  clear hS1 hb1
  refine wp_region_partsS (fun W => Blk W x 87 (ixC cp 0 rf0 0 top mf ml mc) ∧ Blk W b 79 (hdC y) ∧ MapFn pkV bvV W ml M ∧ Blk W w.heap.size 94 (va 256 (iv .u8 f))) [([0, 4, 9], 1, true), ([], 2, true), ([], 3, true), ([], 5, true), ([], 6, true), ([], 7, true), ([], 8, true), ([], 11, true), ([], 10, false)] [] [12] (by kernel_rfl) (by kernel_rfl) hS0 (partsI_yield ?_)
  generalize w1.drew = w2 at *
  simp only [List.cons_append, List.nil_append, List.append_nil, List.filterMap_cons, List.filterMap_nil, List.getElem?_toArray, List.getElem?_cons_zero, List.getElem?_cons_succ]
  go_wp2_with fail
  refine ⟨rfl, _, .pointer (some ⟨x, 0, none⟩), rfl, Or.inl ⟨by rfl, fun W hW => by go_simp⟩, partsI_yield ?_⟩
  simp only [Act.put, List.setIfInBounds_toArray, List.set_cons_zero, List.set_cons_succ]
  simp only [List.cons_append, List.nil_append, List.append_nil, List.filterMap_cons, List.filterMap_nil, List.getElem?_toArray, List.getElem?_cons_zero, List.getElem?_cons_succ]
  go_wp2_with fail
  refine ⟨rfl, _, .pointer (some ⟨x, 38, none⟩), rfl, Or.inl ⟨by rfl, fun W hW => by go_simp⟩, partsI_yield ?_⟩
  simp only [Act.put, List.setIfInBounds_toArray, List.set_cons_zero, List.set_cons_succ]
  simp only [List.cons_append, List.nil_append, List.append_nil, List.filterMap_cons, List.filterMap_nil, List.getElem?_toArray, List.getElem?_cons_zero, List.getElem?_cons_succ]
  go_wp2_with fail
  refine ⟨rfl, _, .map (some ml), rfl, Or.inl ⟨by rfl, fun W hW => by have hW1 := ix_c38 hW.1; go_simp⟩, partsI_yield ?_⟩
  simp only [Act.put, List.setIfInBounds_toArray, List.set_cons_zero, List.set_cons_succ]
  simp only [List.cons_append, List.nil_append, List.append_nil, List.filterMap_cons, List.filterMap_nil, List.getElem?_toArray, List.getElem?_cons_zero, List.getElem?_cons_succ]
  go_wp2_with fail
  refine ⟨rfl, _, .pointer (some ⟨b, 0, none⟩), rfl, Or.inl ⟨by rfl, fun W hW => by go_simp⟩, partsI_yield ?_⟩
  simp only [Act.put, List.setIfInBounds_toArray, List.set_cons_zero, List.set_cons_succ]
  simp only [List.cons_append, List.nil_append, List.append_nil, List.filterMap_cons, List.filterMap_nil, List.getElem?_toArray, List.getElem?_cons_zero, List.getElem?_cons_succ]
  go_wp2_with fail
  refine ⟨rfl, _, .pointer (some ⟨b, 38, none⟩), rfl, Or.inl ⟨by rfl, fun W hW => by go_simp⟩, partsI_yield ?_⟩
  simp only [Act.put, List.setIfInBounds_toArray, List.set_cons_zero, List.set_cons_succ]
  simp only [List.cons_append, List.nil_append, List.append_nil, List.filterMap_cons, List.filterMap_nil, List.getElem?_toArray, List.getElem?_cons_zero, List.getElem?_cons_succ]
  go_wp2_with fail
  refine ⟨rfl, _, .pointer (some ⟨b, 38, none⟩), rfl, Or.inl ⟨by rfl, fun W hW => by go_simp⟩, partsI_yield ?_⟩
  simp only [Act.put, List.setIfInBounds_toArray, List.set_cons_zero, List.set_cons_succ]
  simp only [List.cons_append, List.nil_append, List.append_nil, List.filterMap_cons, List.filterMap_nil, List.getElem?_toArray, List.getElem?_cons_zero, List.getElem?_cons_succ]
  go_wp2_with fail
  refine ⟨rfl, _, .int .i64 (n : Int), rfl, Or.inl ⟨by rfl, fun W hW => by have hW1 := (hd_c38 hW.2.1).trans (by rw [HY.out]); go_simp⟩, partsI_yield ?_⟩
  simp only [Act.put, List.setIfInBounds_toArray, List.set_cons_zero, List.set_cons_succ]
  simp only [List.cons_append, List.nil_append, List.append_nil, List.filterMap_cons, List.filterMap_nil, List.getElem?_toArray, List.getElem?_cons_zero, List.getElem?_cons_succ]
  go_wp2_with fail
  refine ⟨rfl, _, .agg (va 256 (iv .u8 f)), rfl, kyields_load (by rfl) 94 _ (by rfl) w.heap.size 256 (iv .u8 f) (by rfl) _ 94 (fun W hW => hW.2.2.2) Tryz.underlying94 rfl sizeBk, partsI_force ?_⟩
  simp only [Act.put, List.setIfInBounds_toArray, List.set_cons_zero, List.set_cons_succ]
  simp only [List.cons_append, List.nil_append, List.append_nil, List.filterMap_cons, List.filterMap_nil, List.getElem?_toArray, List.getElem?_cons_zero, List.getElem?_cons_succ]
  go_wp2_with fail
  refine (HLA.out _).mono ?_
  rintro e w3 ⟨rfl, hb3⟩
  have S3 : Blk w3 x 87 (ixC cp 0 rf0 0 top mf ml mc) ∧ Blk w3 b 79 (hdC y) ∧ MapFn pkV bvV w3 ml M ∧ Blk w3 w.heap.size 94 (va 256 (iv .u8 f)) := ⟨hS0.1.below hb3 hS0.1.lt, hS0.2.1.below hb3 hS0.2.1.lt, hS0.2.2.1.below hb3 hS0.2.2.1.lt, hS0.2.2.2.below hb3 hS0.2.2.2.lt⟩
  go_wp2_with fail
  refine ⟨rfl, S3, partsI_last ?_⟩
  simp only [List.cons_append, List.nil_append, List.append_nil, List.filterMap_cons, List.filterMap_nil, List.getElem?_toArray, List.getElem?_cons_zero, List.getElem?_cons_succ]
  obtain ⟨w4, hup, hm4, hk4⟩ := HUP.out w3 S3.2.2.1
  have hb23 := hwd.trans (hb3.mono hwd.size)
  have nb := HI.out.2.1
  have nn := HI.out.1.ne
  have x4 := hk4.blk S3.1 nn.2.1
  have y4 := hk4.blk S3.2.1 nb.2.2.1
  have HM4 : Hid (MapFn pkV bvV w4 ml (fun k => if k = ((n : Int), 0, (p : Int)) then some f else M k) ∧ Below w.heap.size w w3 ∧ Keeps ml w3 w4) := ⟨hm4, hb23, hk4⟩
  clear hm4 hk4 hb3 hb23 S3 hS0 hwd
  go_wp2_with fail
  refine ⟨rfl, ?_⟩
  have c44 := hd_c44 y4
  have f44 : w4.frozen? ⟨b, 44, none⟩ = false := y4.frozen 44
  have y5 := hd_putSet y4
  have x5 : Blk (w4.setCell ⟨b, 44, none⟩ (.bool true)) x 87 (ixC cp 0 rf0 0 top mf ml mc) := x4.put_other 44 (.bool true) (Ne.symm nb.1)
  have HK5 : Hid (∀ k, k < w.heap.size → k ≠ ml → k ≠ b → (w4.setCell ⟨b, 44, none⟩ (.bool true)).heap[k]? = w.heap[k]?) := fun k h1 h2 h3 => by
    rw [Below.heap_setCell _ _ _ _ h3, HM4.out.2.2.2 k h2 (Nat.lt_of_lt_of_le h1 HM4.out.2.1.size)]
    exact HM4.out.2.1.block k h1
  have HC5 : Hid (∃ c, (w4.setCell ⟨b, 44, none⟩ (.bool true)).heap[mc]? = some (.map #[] c)) := by
    obtain ⟨c, hc⟩ := HI.out.1.cm
    exact ⟨c, (HK5.out mc HI.out.1.lts.2.2.2 (Ne.symm nn.2.2.2.2.2) (Ne.symm nb.2.2.2)).trans hc⟩
  have HT5 : Hid (Turns (fun z => z = ml ∨ z = b) w (w4.setCell ⟨b, 44, none⟩ (.bool true))) := by
    have t3 := HM4.out.2.1
    have t4 := HM4.out.2.2.1
    have t5 : Below b w4 (w4.setCell ⟨b, 44, none⟩ (.bool true)) := (Below.refl b w4).setCell (p := ⟨b, 44, none⟩) (Nat.le_refl _) _
    exact ⟨t5.os.trans (t4.os.trans t3.os), t5.tape.trans (t4.tape.trans t3.tape), t5.output.trans (t4.output.trans t3.output), Nat.le_trans t3.size (Nat.le_trans t4.size t5.size), fun k hk hn => HK5.out k hk (fun e => hn (.inl e)) (fun e => hn (.inr e))⟩
  have HM5 : Hid (MapFn pkV bvV (w4.setCell ⟨b, 44, none⟩ (.bool true)) ml (fun k => if k = ((n : Int), 0, (p : Int)) then some f else M k)) := HM4.out.1.keep (Below.heap_setCell _ _ _ _ (Ne.symm nb.2.2.1))
  clear x4 y4
  go_upto_region 3 with fail
  clear c44 f44
  generalize (w4.setCell ⟨b, 44, none⟩ (.bool true)) = w5 at *
  have S5 : Blk w5.drew x 87 (ixC cp 0 rf0 0 top mf ml mc) ∧ Blk w5.drew b 79 (hdC (hdS y)) := ⟨x5, y5⟩
  have HDE : Hid (∀ ty, (Builtin.delete_ #[85, 3] ty #[.map (some mc), .int .i64 (n : Int)]).run Tryz.prog w5.drew = .ok (.tuple #[]) w5.drew) := fun ty => del_empty (W := w5.drew) (n : Int) HC5.out ty
  have hde := HDE.out
  have HE : Hid (IM w5.drew x mf ml mc cp top H (dU D n p f) ∧ Blk w5.drew b 79 (hdC (hdS y)) ∧ Turns (fun z => z = ml ∨ z = b) w w5.drew) := by
    refine ⟨⟨x5, ?_, ⟨_, HM5.out, fun m q j hj => ?_⟩, HC5.out, nn⟩, y5, ⟨HT5.out.1, HT5.out.2, HT5.out.3, HT5.out.4, HT5.out.5⟩⟩
    · obtain ⟨M', g1, g2⟩ := HI.out.1.fm
      exact ⟨M', g1.keep (HK5.out mf HI.out.1.lts.2.1 nn.2.2.2.1 (Ne.symm nb.2.1)), g2⟩
    · unfold dU
      by_cases e : m = n ∧ q = p
      · rw [if_pos e, if_pos (by rw [e.1, e.2])]
      · rw [if_neg e, if_neg (fun c => e (by
          injection c with c1 c2
          injection c2 with c2 c3
          exact ⟨by omega, by omega⟩))]
        exact HM2.out m q j hj
  clear HDE HM5 HC5 HT5 HK5 HM4
  refine wp_region_partsS (fun W => Blk W x 87 (ixC cp 0 rf0 0 top mf ml mc) ∧ Blk W b 79 (hdC (hdS y))) [([0, 4], 1, true), ([], 2, true), ([], 3, true), ([], 5, false), ([], 6, false), ([], 7, false), ([], 8, false)] [] [9] (by kernel_rfl) (by kernel_rfl) S5 (partsI_yield ?_)
  generalize w5.drew = w6 at *
  simp only [List.cons_append, List.nil_append, List.append_nil, List.filterMap_cons, List.filterMap_nil, List.getElem?_toArray, List.getElem?_cons_zero, List.getElem?_cons_succ]
  go_wp2_with fail
  refine ⟨rfl, _, .pointer (some ⟨x, 0, none⟩), rfl, Or.inl ⟨by rfl, fun W hW => by go_simp⟩, partsI_yield ?_⟩
  simp only [Act.put, List.setIfInBounds_toArray, List.set_cons_zero, List.set_cons_succ]
  simp only [List.cons_append, List.nil_append, List.append_nil, List.filterMap_cons, List.filterMap_nil, List.getElem?_toArray, List.getElem?_cons_zero, List.getElem?_cons_succ]
  go_wp2_with fail
  refine ⟨rfl, _, .pointer (some ⟨x, 39, none⟩), rfl, Or.inl ⟨by rfl, fun W hW => by go_simp⟩, partsI_yield ?_⟩
  simp only [Act.put, List.setIfInBounds_toArray, List.set_cons_zero, List.set_cons_succ]
  simp only [List.cons_append, List.nil_append, List.append_nil, List.filterMap_cons, List.filterMap_nil, List.getElem?_toArray, List.getElem?_cons_zero, List.getElem?_cons_succ]
  go_wp2_with fail
  refine ⟨rfl, _, .map (some mc), rfl, Or.inl ⟨by rfl, fun W hW => by have hW1 := ix_c39 hW.1; go_simp⟩, partsI_force ?_⟩
  simp only [Act.put, List.setIfInBounds_toArray, List.set_cons_zero, List.set_cons_succ]
  simp only [List.cons_append, List.nil_append, List.append_nil, List.filterMap_cons, List.filterMap_nil, List.getElem?_toArray, List.getElem?_cons_zero, List.getElem?_cons_succ]
  go_wp2_with fail
  refine ⟨rfl, S5, partsI_force ?_⟩
  simp only [List.cons_append, List.nil_append, List.append_nil, List.filterMap_cons, List.filterMap_nil, List.getElem?_toArray, List.getElem?_cons_zero, List.getElem?_cons_succ]
  go_wp2_with fail
  refine ⟨rfl, S5, partsI_force ?_⟩
  simp only [List.cons_append, List.nil_append, List.append_nil, List.filterMap_cons, List.filterMap_nil, List.getElem?_toArray, List.getElem?_cons_zero, List.getElem?_cons_succ]
  go_wp2_with fail
  refine ⟨rfl, S5, partsI_force ?_⟩
  simp only [List.cons_append, List.nil_append, List.append_nil, List.filterMap_cons, List.filterMap_nil, List.getElem?_toArray, List.getElem?_cons_zero, List.getElem?_cons_succ]
  have e38 := (hd_c38 S5.2).trans (show some (Value.int .i64 y.n) = some (.int .i64 (n : Int)) by rw [HY.out])
  go_wp2_with fail
  refine ⟨rfl, S5, partsI_last ?_⟩
  simp only [List.cons_append, List.nil_append, List.append_nil, List.filterMap_cons, List.filterMap_nil, List.getElem?_toArray, List.getElem?_cons_zero, List.getElem?_cons_succ]
  go_wp2_with fail
  refine ⟨rfl, ?_⟩
  go_wp2_with fail
  first
    | refine bodyPost_end (results_none Tryz.results82 _ _ _) rfl ?_
    | refine bodyPost_ret (results_none Tryz.results82 _ _ _) rfl ?_
  exact ⟨rfl, HE.out.1, HE.out.2.1, HE.out.2.2⟩
end
end Go.Proofs.YtojbgggkfahkfaaGreat

namespace Go.Proofs.YtojbgggkfahkfaaGreat
open Go Go.RowKit
set_option linter.unusedSimpArgs false
set_option linter.unusedVariables false
section
variable {w w' : World} {x mf ml mc : Nat} {cp : Option Addr} {top : Int} {H : Nat → Hd} {D : Nat → Nat → Nat → Nat}
theorem Turns.bel {S : Nat → Prop} {w w' : World} (h : Below w.heap.size w w') : Turns S w w' := ⟨h.os, h.tape, h.output, h.size, fun k hk _ => h.block k hk⟩
theorem Turns.tr {S : Nat → Prop} {a b c : World} (h : Turns S a b) (k : Turns S b c) : Turns S a c := ⟨k.os.trans h.os, k.tape.trans h.tape, k.output.trans h.output, Nat.le_trans h.size k.size, fun z hz hn => (k.block z (Nat.lt_of_lt_of_le hz h.size) hn).trans (h.block z hz hn)⟩
theorem Turns.wider {S T : Nat → Prop} {w w' : World} (h : Turns S w w') (e : ∀ z, z < w.heap.size → S z → T z) : Turns T w w' := ⟨h.os, h.tape, h.output, h.size, fun k hk hn => h.block k hk fun hs => hn (e k hk hs)⟩
theorem Turns.keeps {r : Nat} {w w' : World} (h : Keeps r w w') : Turns (fun z => z = r) w w' := ⟨h.1.os, h.1.tape, h.1.output, h.1.size, fun k hk hn => h.2 k hn hk⟩
set_option maxRecDepth 100000 in
set_option maxHeartbeats 8000000 in
theorem IM.changeResize (h : IM w x mf ml mc cp top H D) (n : Nat) (h1 : 1 ≤ n) (h2 : n ≤ 4096) (hk : (H n).k ≠ 0) (v0 v1 v2 : Value) (y : Hd) (D' : Nat → Nat → Nat → Nat) (HC : ∀ V b, Below w.heap.size w V → IM V x mf ml mc cp top H D → Blk V b 79 (hdC (H n)) → w.heap.size ≤ b → Calls Tryz.prog 68 #[.pointer (some ⟨b, 0, none⟩), v0, v1, v2] V fun e w' => e = .returned (.int .i64 0) ∧ IM w' x mf ml mc cp top H D' ∧ Blk w' b 79 (hdC y) ∧ Turns (fun z => z = ml ∨ z = b) V w') : Calls Tryz.prog 67 #[.pointer (some ⟨x, 0, none⟩), .int .i64 (n : Int), .func (.func 68) #[] #[v0, v1, v2]] w fun e w' => e = .returned (.int .i64 0) ∧ IM w' x mf ml mc cp top (hU H n y) D' ∧ Turns (fun z => z = ml ∨ z = mf) w w' := by
  have hz2 := zero_hd
  have HU := h.used n h1 h2 hk
  have HPU : Hid (∀ V, IM V x mf ml mc cp top H D' → Calls Tryz.prog 28 #[.pointer (some ⟨x, 0, none⟩), .int .i64 (n : Int), .agg (hdC y)] V fun e w' => e = .returned (.tuple #[]) ∧ IM w' x mf ml mc cp top (hU H n y) D' ∧ Keeps mf V w') := fun V hV => hV.put n h1 h2 y
  have HI : Hid (IM w x mf ml mc cp top H D) := h
  have HCC : Hid (∀ V b, Below w.heap.size w V → IM V x mf ml mc cp top H D → Blk V b 79 (hdC (H n)) → w.heap.size ≤ b → Calls Tryz.prog 68 #[.pointer (some ⟨b, 0, none⟩), v0, v1, v2] V fun e w' => e = .returned (.int .i64 0) ∧ IM w' x mf ml mc cp top H D' ∧ Blk w' b 79 (hdC y) ∧ Turns (fun z => z = ml ∨ z = b) V w') := HC

  clear h hk HC h1 h2
  go_enter Tryz.func67, Tryz.ntmps67
  go_wp2_with fail
  refine HU.mono ?_
  rintro e w1 ⟨rfl, hb1⟩
  have q2 : Blk (w1.alloc (.cells (hdC hd00) 79)) w1.heap.size 79 (hdC hd00) := Blk.new _ _ _
  have q2' := q2.set (hdC (H n))
  have hb2 : Below w1.heap.size w1 ((w1.alloc (.cells (hdC hd00) 79)).setRow w1.heap.size (hdC (H n))) := below_setRow (below_new1 _ _) (Nat.le_refl _) _
  have hb12 := hb1.trans (hb2.mono hb1.size)
  have HC2 := HCC.out _ w1.heap.size hb12 (HI.out.below hb12) q2' hb1.size
  have HB : Hid (Below w.heap.size w ((w1.alloc (.cells (hdC hd00) 79)).setRow w1.heap.size (hdC (H n))) ∧ w.heap.size ≤ w1.heap.size) := ⟨hb12, hb1.size⟩
  clear HU HCC hb1 hb2 hb12 q2'
  go_wp2_with (first
    | (refine wpList_store_row (by rfl) 79 _ _ (by rfl) (w1.heap.size) (hdC (H n)) (by rfl) (by rfl) 79 (hdC hd00) (by exact q2) (sizeHd.trans (by rw [hdC_size])) (by simp only [hdC_size]) (hdC_all _) ?_; simp only [Act.put, List.setIfInBounds_toArray, List.set_cons_zero, List.set_cons_succ])
    | fail)
  clear q2
  generalize ((w1.alloc (.cells (hdC hd00) 79)).setRow w1.heap.size (hdC (H n))) = w2 at *
  generalize w1.heap.size = bh at *
  refine HC2.mono ?_
  rintro e w3 ⟨rfl, hI3, q3, ht3⟩
  have HI3 : Hid (IM w3 x mf ml mc cp top H D' ∧ Turns (fun z => z = ml ∨ z = bh) w2 w3) := ⟨hI3, ht3⟩
  clear HC2 hI3 ht3
  go_wp2_with (first
    | (refine wpList_load_rowg (by rfl) 79 _ (by rfl) (bh) (by rfl) 79 (hdC y) (0, 0) _ (by exact q3) Tryz.underlying79 (by rfl) (sizeHd.trans (by rw [hdC_size])) ?_; simp only [Act.put, List.setIfInBounds_toArray, List.set_cons_zero, List.set_cons_succ])
    | fail)
  refine (HPU.out w3 HI3.out.1).mono ?_
  rintro e w4 ⟨rfl, hI4, hk4⟩
  have HE : Hid (IM w4 x mf ml mc cp top (hU H n y) D' ∧ Turns (fun z => z = ml ∨ z = mf) w w4) := ⟨hI4, by
    have t1 : Turns (fun z => z = ml ∨ z = mf) w w3 := by
      have a := HI3.out.2
      have c := HB.out.1
      exact ⟨a.os.trans c.os, a.tape.trans c.tape, a.output.trans c.output, Nat.le_trans c.size a.size, fun z hz hn => (a.block z (Nat.lt_of_lt_of_le hz c.size) (fun hs => by
        rcases hs with hs | hs
        · exact hn (.inl hs)
        · have := HB.out.2
          omega)).trans (c.block z hz)⟩
    exact t1.tr ((Turns.keeps hk4).wider fun z _ hz => .inr hz)⟩
  clear hI4 hk4 HPU q3
  go_wp2_with fail
  go_ret
  exact ⟨rfl, HE.out.1, HE.out.2⟩
set_option maxRecDepth 100000 in
set_option maxHeartbeats 8000000 in
theorem IM.changeSet (h : IM w x mf ml mc cp top H D) (n : Nat) (h1 : 1 ≤ n) (h2 : n ≤ 4096) (hk : (H n).k ≠ 0) (v0 v1 v2 v3 : Value) (y : Hd) (D' : Nat → Nat → Nat → Nat) (HC : ∀ V b, Below w.heap.size w V → IM V x mf ml mc cp top H D → Blk V b 79 (hdC (H n)) → w.heap.size ≤ b → Calls Tryz.prog 85 #[.pointer (some ⟨b, 0, none⟩), v0, v1, v2, v3] V fun e w' => e = .returned (.int .i64 0) ∧ IM w' x mf ml mc cp top H D' ∧ Blk w' b 79 (hdC y) ∧ Turns (fun z => z = ml ∨ z = b) V w') : Calls Tryz.prog 67 #[.pointer (some ⟨x, 0, none⟩), .int .i64 (n : Int), .func (.func 85) #[] #[v0, v1, v2, v3]] w fun e w' => e = .returned (.int .i64 0) ∧ IM w' x mf ml mc cp top (hU H n y) D' ∧ Turns (fun z => z = ml ∨ z = mf) w w' := by
  have hz2 := zero_hd
  have HU := h.used n h1 h2 hk
  have HPU : Hid (∀ V, IM V x mf ml mc cp top H D' → Calls Tryz.prog 28 #[.pointer (some ⟨x, 0, none⟩), .int .i64 (n : Int), .agg (hdC y)] V fun e w' => e = .returned (.tuple #[]) ∧ IM w' x mf ml mc cp top (hU H n y) D' ∧ Keeps mf V w') := fun V hV => hV.put n h1 h2 y
  have HI : Hid (IM w x mf ml mc cp top H D) := h
  have HCC : Hid (∀ V b, Below w.heap.size w V → IM V x mf ml mc cp top H D → Blk V b 79 (hdC (H n)) → w.heap.size ≤ b → Calls Tryz.prog 85 #[.pointer (some ⟨b, 0, none⟩), v0, v1, v2, v3] V fun e w' => e = .returned (.int .i64 0) ∧ IM w' x mf ml mc cp top H D' ∧ Blk w' b 79 (hdC y) ∧ Turns (fun z => z = ml ∨ z = b) V w') := HC

  clear h hk HC h1 h2
  go_enter Tryz.func67, Tryz.ntmps67
  go_wp2_with fail
  refine HU.mono ?_
  rintro e w1 ⟨rfl, hb1⟩
  have q2 : Blk (w1.alloc (.cells (hdC hd00) 79)) w1.heap.size 79 (hdC hd00) := Blk.new _ _ _
  have q2' := q2.set (hdC (H n))
  have hb2 : Below w1.heap.size w1 ((w1.alloc (.cells (hdC hd00) 79)).setRow w1.heap.size (hdC (H n))) := below_setRow (below_new1 _ _) (Nat.le_refl _) _
  have hb12 := hb1.trans (hb2.mono hb1.size)
  have HC2 := HCC.out _ w1.heap.size hb12 (HI.out.below hb12) q2' hb1.size
  have HB : Hid (Below w.heap.size w ((w1.alloc (.cells (hdC hd00) 79)).setRow w1.heap.size (hdC (H n))) ∧ w.heap.size ≤ w1.heap.size) := ⟨hb12, hb1.size⟩
  clear HU HCC hb1 hb2 hb12 q2'
  go_wp2_with (first
    | (refine wpList_store_row (by rfl) 79 _ _ (by rfl) (w1.heap.size) (hdC (H n)) (by rfl) (by rfl) 79 (hdC hd00) (by exact q2) (sizeHd.trans (by rw [hdC_size])) (by simp only [hdC_size]) (hdC_all _) ?_; simp only [Act.put, List.setIfInBounds_toArray, List.set_cons_zero, List.set_cons_succ])
    | fail)
  clear q2
  generalize ((w1.alloc (.cells (hdC hd00) 79)).setRow w1.heap.size (hdC (H n))) = w2 at *
  generalize w1.heap.size = bh at *
  refine HC2.mono ?_
  rintro e w3 ⟨rfl, hI3, q3, ht3⟩
  have HI3 : Hid (IM w3 x mf ml mc cp top H D' ∧ Turns (fun z => z = ml ∨ z = bh) w2 w3) := ⟨hI3, ht3⟩
  clear HC2 hI3 ht3
  go_wp2_with (first
    | (refine wpList_load_rowg (by rfl) 79 _ (by rfl) (bh) (by rfl) 79 (hdC y) (0, 0) _ (by exact q3) Tryz.underlying79 (by rfl) (sizeHd.trans (by rw [hdC_size])) ?_; simp only [Act.put, List.setIfInBounds_toArray, List.set_cons_zero, List.set_cons_succ])
    | fail)
  refine (HPU.out w3 HI3.out.1).mono ?_
  rintro e w4 ⟨rfl, hI4, hk4⟩
  have HE : Hid (IM w4 x mf ml mc cp top (hU H n y) D' ∧ Turns (fun z => z = ml ∨ z = mf) w w4) := ⟨hI4, by
    have t1 : Turns (fun z => z = ml ∨ z = mf) w w3 := by
      have a := HI3.out.2
      have c := HB.out.1
      exact ⟨a.os.trans c.os, a.tape.trans c.tape, a.output.trans c.output, Nat.le_trans c.size a.size, fun z hz hn => (a.block z (Nat.lt_of_lt_of_le hz c.size) (fun hs => by
        rcases hs with hs | hs
        · exact hn (.inl hs)
        · have := HB.out.2
          omega)).trans (c.block z hz)⟩
    exact t1.tr ((Turns.keeps hk4).wider fun z _ hz => .inr hz)⟩
  clear hI4 hk4 HPU q3
  go_wp2_with fail
  go_ret
  exact ⟨rfl, HE.out.1, HE.out.2⟩
end
end Go.Proofs.YtojbgggkfahkfaaGreat

namespace Go.Proofs.YtojbgggkfahkfaaGreat
open Go Go.RowKit
set_option linter.unusedSimpArgs false
set_option linter.unusedVariables false
theorem leavesOf_any (n : Nat) (hn : n ≤ 1048576) (w : World) : Calls Tryz.prog 84 #[.int .i64 (n : Int)] w fun e w' => e = .returned (.int .i64 (((n + 255) / 256 : Nat) : Int)) ∧ w' = w := by
  have HL := leavesN_any (n : Int) ⟨by omega, by omega⟩ w
  rw [if_pos ⟨by omega, by omega⟩, show (((n : Int) + 255) / 256) = (((n + 255) / 256 : Nat) : Int) by omega] at HL
  go_enter Tryz.func84, Tryz.ntmps84
  go_wp2_with fail
  refine HL.mono ?_
  rintro e w1 ⟨rfl, rfl⟩
  go_wp2_with fail
  go_ret
  exact ⟨rfl, rfl⟩
/-- the first m bytes, zeros behind -/
def upF (f : Nat → Nat) (m : Nat) : Nat → Nat := fun j => if j < m then f j else 0
theorem blk_up {w : World} {b t : Nat} {f : Nat → Nat} (H : Blk w b t (va 256 (iv .u8 f))) (m : Nat) (hm : m < 256) : Blk (w.setCells b m (List.replicate (256 - m) (.int .u8 0))) b t (va 256 (iv .u8 (upF f m))) := by
  have := Blk.cells_put (n := 256) (List.replicate (256 - m) (.int .u8 0)) m w (iv .u8 f) H
  rw [show va 256 (over (iv .u8 f) m (List.replicate (256 - m) (.int .u8 0))) = va 256 (iv .u8 (upF f m)) from va_congr fun i hi => ?_] at this
  · exact this
  · unfold over
    simp only [List.length_replicate]
    by_cases hj : m ≤ i ∧ i < m + (256 - m)
    · rw [if_pos hj, List.getD_eq_getElem?_getD, List.getElem?_replicate, if_pos (by omega)]
      unfold iv upF
      rw [if_neg (by omega)]
      rfl
    · rw [if_neg hj]
      unfold iv upF
      rw [if_pos (by omega)]
set_option maxRecDepth 100000 in
set_option maxHeartbeats 4000000 in
theorem upTo_any (f : Nat → Nat) (m : Nat) (hm : m ≤ 1048576) (w : World) : Calls Tryz.prog 83 #[.agg (va 256 (iv .u8 f)), .int .i64 (m : Int)] w fun e w' => e = .returned (.agg (va 256 (iv .u8 (upF f m)))) ∧ Below w.heap.size w w' := by
  have hz := zero_bk
  have g1 : Blk ((w.alloc (.cells (va 256 (iv .u8 f)) 94)).alloc (.cells (va 256 (iv .u8 fun _ => 0)) 94)) w.heap.size 94 (va 256 (iv .u8 f)) := (Blk.new _ _ _).alloc _
  have r1 : Blk ((w.alloc (.cells (va 256 (iv .u8 f)) 94)).alloc (.cells (va 256 (iv .u8 fun _ => 0)) 94)) (w.heap.size + 1) 94 (va 256 (iv .u8 fun _ => 0)) := Blk.new1 _ _ _ _
  have hb1 : Below w.heap.size w ((w.alloc (.cells (va 256 (iv .u8 f)) 94)).alloc (.cells (va 256 (iv .u8 fun _ => 0)) 94)) := below_new2 _ _ _
  by_cases h : m < 256
  · have h1 : (m : Int) ≤ 256 := by omega
    have hmn : min (m : Int) 256 = (m : Int) := by omega
    have hcl : (Builtin.clear_ #[116] 0 #[.slice (some ⟨w.heap.size, m, none⟩) (256 - m) (256 - m)]).run Tryz.prog ((w.alloc (.cells (va 256 (iv .u8 f)) 94)).alloc (.cells (va 256 (iv .u8 fun _ => 0)) 94)) = .ok (.tuple #[]) (((w.alloc (.cells (va 256 (iv .u8 f)) 94)).alloc (.cells (va 256 (iv .u8 fun _ => 0)) 94)).setCells w.heap.size m (List.replicate (256 - m) (.int .u8 0))) := Lib.run_clear_slice _ _ 5 _ (.int .u8 0) Tryz.underlying116 (fun w => zero_of (by kernel_rfl) w) rfl rfl w.heap.size m (256 - m) (256 - m) (by omega) (fun j hj => by rw [g1.cell]; rw [va_at _ (by omega)]; rfl) (fun j hj => g1.frozen _)
    have G2 : Hid (Blk (((w.alloc (.cells (va 256 (iv .u8 f)) 94)).alloc (.cells (va 256 (iv .u8 fun _ => 0)) 94)).setCells w.heap.size m (List.replicate (256 - m) (.int .u8 0))) w.heap.size 94 (va 256 (iv .u8 (upF f m)))) := blk_up g1 m h
    have r2 : Blk (((w.alloc (.cells (va 256 (iv .u8 f)) 94)).alloc (.cells (va 256 (iv .u8 fun _ => 0)) 94)).setCells w.heap.size m (List.replicate (256 - m) (.int .u8 0))) (w.heap.size + 1) 94 (va 256 (iv .u8 fun _ => 0)) := Blk.cells_other (by omega) _ _ _ r1
    have HB2 : Hid (Below w.heap.size w (((w.alloc (.cells (va 256 (iv .u8 f)) 94)).alloc (.cells (va 256 (iv .u8 fun _ => 0)) 94)).setCells w.heap.size m (List.replicate (256 - m) (.int .u8 0)))) := below_setCells (Nat.le_refl _) _ _ _ hb1
    have R2 : Hid (Blk (((w.alloc (.cells (va 256 (iv .u8 f)) 94)).alloc (.cells (va 256 (iv .u8 fun _ => 0)) 94)).setCells w.heap.size m (List.replicate (256 - m) (.int .u8 0))) (w.heap.size + 1) 94 (va 256 (iv .u8 fun _ => 0))) := r2
    clear g1 r1 hb1 r2
    go_enter Tryz.func83, Tryz.ntmps83
    go_wp2_with (first
      | (refine wpList_load_rowg (by rfl) 94 _ (by rfl) (w.heap.size) (by rfl) 94 (va 256 (iv .u8 (upF f m))) (0, 0) _ (by exact G2.out) Tryz.underlying94 (by rfl) (sizeBk.trans (by rw [va_size])) ?_; simp only [Act.put, List.setIfInBounds_toArray, List.set_cons_zero, List.set_cons_succ])
      | (refine wpList_store_row (by rfl) 94 _ _ (by rfl) (w.heap.size + 1) (va 256 (iv .u8 (upF f m))) (by rfl) (by rfl) 94 (_) (by exact R2.out) (sizeBk.trans (by rw [va_size])) (by simp only [va_size]) (iv_one _ _ _) ?_; simp only [Act.put, List.setIfInBounds_toArray, List.set_cons_zero, List.set_cons_succ])
      | fail)
    try simp only [Exit.inBlock, Exit.then]
    refine bodyPost_ret (results_cell_row Tryz.results83 _ _ (w.heap.size + 1) 94 (va 256 (iv .u8 (upF f m))) (0, 0) _ rfl (R2.out.set _) Tryz.underlying94 rfl (sizeBk.trans (by rw [va_size]))) rfl ?_
    exact ⟨rfl, below_setRow HB2.out (by omega) _⟩
  · obtain ⟨k, rfl⟩ : ∃ k, m = 256 + k := ⟨m - 256, by omega⟩
    have HUP : Hid (va 256 (iv .u8 (upF f (256 + k))) = va 256 (iv .u8 f)) := va_congr fun j hj => by
      unfold iv upF
      rw [if_pos (by omega)]
    have hcl : ∀ W, (Builtin.clear_ #[116] 0 #[.slice (some ⟨w.heap.size, 0, none⟩) 0 0]).run Tryz.prog W = .ok (.tuple #[]) W := fun W => by simp [Builtin.clear_, run_underlying Tryz.underlying116]
    have h1 : (256 : Int) ≤ ((256 + k : Nat) : Int) := by omega
    have hm1 : min ((256 + k : Nat) : Int) 256 = 256 := by omega
    have hm2 : min (256 + (k : Int)) 256 = 256 := by omega
    rw [HUP.out]
    have HB1 : Hid (Below w.heap.size w ((w.alloc (.cells (va 256 (iv .u8 f)) 94)).alloc (.cells (va 256 (iv .u8 fun _ => 0)) 94))) := hb1
    clear hb1
    rcases Nat.eq_zero_or_pos k with rfl | hk
    · go_enter Tryz.func83, Tryz.ntmps83
      go_wp2_with (first
        | (refine wpList_load_rowg (by rfl) 94 _ (by rfl) (w.heap.size) (by rfl) 94 (va 256 (iv .u8 f)) (0, 0) _ (by exact g1) Tryz.underlying94 (by rfl) (sizeBk.trans (by rw [va_size])) ?_; simp only [Act.put, List.setIfInBounds_toArray, List.set_cons_zero, List.set_cons_succ])
        | (refine wpList_store_row (by rfl) 94 _ _ (by rfl) (w.heap.size + 1) (va 256 (iv .u8 f)) (by rfl) (by rfl) 94 (_) (by exact r1) (sizeBk.trans (by rw [va_size])) (by simp only [va_size]) (iv_one _ _ _) ?_; simp only [Act.put, List.setIfInBounds_toArray, List.set_cons_zero, List.set_cons_succ])
        | fail)
      try simp only [Exit.inBlock, Exit.then]
      refine bodyPost_ret (results_cell_row Tryz.results83 _ _ (w.heap.size + 1) 94 (va 256 (iv .u8 f)) (0, 0) _ rfl (r1.set _) Tryz.underlying94 rfl (sizeBk.trans (by rw [va_size]))) rfl ?_
      exact ⟨rfl, below_setRow HB1.out (by omega) _⟩
    · have h2 : (256 : Int) < ((256 + k : Nat) : Int) := by omega
      go_enter Tryz.func83, Tryz.ntmps83
      go_wp2_with (first
        | (refine wpList_load_rowg (by rfl) 94 _ (by rfl) (w.heap.size) (by rfl) 94 (va 256 (iv .u8 f)) (0, 0) _ (by exact g1) Tryz.underlying94 (by rfl) (sizeBk.trans (by rw [va_size])) ?_; simp only [Act.put, List.setIfInBounds_toArray, List.set_cons_zero, List.set_cons_succ])
        | (refine wpList_store_row (by rfl) 94 _ _ (by rfl) (w.heap.size + 1) (va 256 (iv .u8 f)) (by rfl) (by rfl) 94 (_) (by exact r1) (sizeBk.trans (by rw [va_size])) (by simp only [va_size]) (iv_one _ _ _) ?_; simp only [Act.put, List.setIfInBounds_toArray, List.set_cons_zero, List.set_cons_succ])
        | fail)
      try simp only [Exit.inBlock, Exit.then]
      refine bodyPost_ret (results_cell_row Tryz.results83 _ _ (w.heap.size + 1) 94 (va 256 (iv .u8 f)) (0, 0) _ rfl (r1.set _) Tryz.underlying94 rfl (sizeBk.trans (by rw [va_size]))) rfl ?_
      exact ⟨rfl, below_setRow HB1.out (by omega) _⟩
end Go.Proofs.YtojbgggkfahkfaaGreat

namespace Go.Proofs.YtojbgggkfahkfaaGreat
open Go Go.RowKit
set_option linter.unusedSimpArgs false
set_option linter.unusedVariables false

/-- a block's digest -/
def dgB (f : Nat → Nat) : Vector Nat 32 := sumD (sumOf (1, strN f 256))
set_option maxRecDepth 100000 in
set_option maxHeartbeats 4000000 in
theorem mayBeRoom_ok (x : Int) (h0 : 0 ≤ x) (h1 : x ≤ 4096) (w : World) : Calls Tryz.prog 49 #[.int .i64 x] w fun e w' => e = .returned (.bool true) ∧ w = w' := by
  go_enter Tryz.func49, Tryz.ntmps49
  go_wp2_with fail
  go_ret
  exact ⟨rfl, rfl⟩
/-- no entries: the cells of their holder -/
def esC (m : Nat) : Array Value := #[.map (some m), .pointer none, .pointer none]
theorem sizeEs : (Tryz.prog.info? 132).map (·.size) = some 3 := by kernel_rfl
set_option maxRecDepth 100000 in
set_option maxHeartbeats 4000000 in
theorem caNone_any (w : World) : Calls Tryz.prog 50 #[] w fun e w' => ∃ m, e = .returned (.agg (esC m)) ∧ w.heap.size ≤ m ∧ MapIs rfV ptV w' m [] ∧ Below w.heap.size w w' := by
  have hmm := @run_makeMap Tryz.prog
  go_enter Tryz.func50, Tryz.ntmps50
  go_wp2_with fail
  try simp only [Exit.inBlock, Exit.then]
  refine bodyPost_ret (results_cell_row Tryz.results50 _ _ w.heap.size 132 (esC (w.heap.size + 1)) (0, 0) _ rfl ((Blk.new _ _ _).alloc _) Tryz.underlying132 rfl (sizeEs.trans (by rfl))) rfl ?_
  refine ⟨_, rfl, Nat.le_succ _, ⟨#[], 0, ?_, rfl⟩, below_new2 _ _ _⟩
  have := heap_alloc_new (w.alloc (Obj.cells (esC (w.heap.size + 1)) 132)) (Obj.map #[] 0)
  rw [show (w.alloc (Obj.cells (esC (w.heap.size + 1)) 132)).heap.size = w.heap.size + 1 by simp] at this
  exact this
set_option maxRecDepth 100000 in
set_option maxHeartbeats 4000000 in
theorem caNew_ok (g : Nat) (lp : Option Addr) (room : Int) (h0 : 0 ≤ room) (h1 : room ≤ 4096) (w : World) : Calls Tryz.prog 24 #[.pointer (some ⟨g, 0, none⟩), .pointer lp, .int .i64 room] w fun e w' => ∃ c m, e = .returned (.tuple #[.pointer (some ⟨c, 0, none⟩), .int .i64 0]) ∧ (w.heap.size ≤ c ∧ w.heap.size ≤ m) ∧ Blk w' c 137 (caC (some ⟨g, 0, none⟩) lp room m none none 0 0 0 0) ∧ MapIs rfV ptV w' m [] ∧ Below w.heap.size w w' := by
  have hR : Hid (∀ w : World, Calls Tryz.prog 49 #[.int .i64 room] w fun e w' => e = .returned (.bool true) ∧ w = w') := mayBeRoom_ok room h0 h1
  have hN : Hid (∀ w : World, Calls Tryz.prog 50 #[] w fun e w' => ∃ m, e = .returned (.agg #[.map (some m), .pointer none, .pointer none]) ∧ w.heap.size ≤ m ∧ MapIs rfV ptV w' m [] ∧ Below w.heap.size w w') := caNone_any
  clear h0 h1
  go_enter Tryz.func24, Tryz.ntmps24
  go_wp2_with fail
  refine (hR.out _).mono ?_
  rintro e _ ⟨rfl, rfl⟩
  go_wp2_with fail
  refine (hN.out _).mono ?_
  rintro e w1 ⟨m, rfl, hm, hmap, hb1⟩
  have HM : Hid (MapIs rfV ptV w1 m []) := hmap
  clear hmap
  go_wp2_with fail
  try simp only [Exit.inBlock, Exit.then]
  refine bodyPost_ret (results_tmp2 Tryz.results24 _ _ _) rfl ?_
  have hb2 : Below w1.heap.size w1 (w1.alloc (.cells (caC (some ⟨g, 0, none⟩) lp room m none none 0 0 0 0) 137)) := below_new1 _ _
  exact ⟨w1.heap.size, m, rfl, ⟨hb1.size, hm⟩, Blk.new _ _ _, HM.out.below hb2 (by
    obtain ⟨es, cl, hg, _⟩ := HM.out
    exact (Array.getElem?_eq_some_iff.1 hg).1), hb1.trans (hb2.mono hb1.size)⟩
end Go.Proofs.YtojbgggkfahkfaaGreat

namespace Go.Proofs.YtojbgggkfahkfaaGreat
open Go Go.RowKit
set_option linter.unusedSimpArgs false
set_option linter.unusedVariables false

theorem MapIs.lt {α β : Type} {K : α → Value} {V : β → Value} {w : World} {r : Nat} {l : List (α × β)} (h : MapIs K V w r l) : r < w.heap.size := by
  obtain ⟨es, cl, hg, _⟩ := h
  exact (Array.getElem?_eq_some_iff.1 hg).1
theorem MapIs.of {α β : Type} {K : α → Value} {V : β → Value} {w w' : World} {r : Nat} {l : List (α × β)} (h : MapIs K V w r l) (hk : w'.heap[r]? = w.heap[r]?) : MapIs K V w' r l := by
  obtain ⟨es, cl, hg, he⟩ := h
  exact ⟨es, cl, hk.trans hg, he⟩
theorem MapIs.ne {α β : Type} {K : α → Value} {V : β → Value} {w : World} {r b t : Nat} {cs : Array Value} {l : List (α × β)} (h : MapIs K V w r l) (hb : Blk w b t cs) : r ≠ b := fun e => by
  obtain ⟨es, cl, hg, _⟩ := h
  subst e
  have := hg.symm.trans hb
  simp at this
theorem map_len {w : World} {m : Nat} {l : List (Rf × Nat)} (h : MapIs rfV ptV w m l) (ty : TypeId) : (Builtin.len_ #[129] ty #[.map (some m)]).run Tryz.prog w = .ok (.int .i64 (l.length : Int)) w := by
  obtain ⟨es, cl, hg, he⟩ := h
  have hgo : (getObj m).run Tryz.prog w = .ok (.map es cl) w := by simp [getObj, Sem.run, hg]
  have hl : es.size = l.length := by
    have := congrArg List.length he
    simpa using this
  simp [Builtin.len_, run_underlying Tryz.underlying129, hgo, goInt, hl]
section
variable {c m : Nat} {dp lp o n : Option Addr} {room h r bd cn : Int}
end
end Go.Proofs.YtojbgggkfahkfaaGreat

namespace Go.Proofs.YtojbgggkfahkfaaGreat
open Go Go.RowKit
set_option linter.unusedSimpArgs false
set_option linter.unusedVariables false

/-- a block in which nothing is turned -/
theorem Turns.blk {S : Nat → Prop} {w w' : World} (h : Turns S w w') {b t : Nat} {cs : Array Value} (hb : Blk w b t cs) (hn : ¬ S b) : Blk w' b t cs := (h.block b hb.lt hn).trans hb
section
variable {c m : Nat} {dp lp o n : Option Addr} {room h r bd cn : Int}
end
end Go.Proofs.YtojbgggkfahkfaaGreat

namespace Go.Proofs.YtojbgggkfahkfaaGreat
open Go Go.RowKit
set_option linter.unusedSimpArgs false
set_option linter.unusedVariables false

theorem Turns.alloc {S : Nat → Prop} {w w' : World} (h : Turns S w w') (o : Obj) : Turns S w (w'.alloc o) := by
  have k : Below w'.heap.size w' (w'.alloc o) := below_new1 _ _
  exact ⟨k.os.trans h.os, k.tape.trans h.tape, k.output.trans h.output, Nat.le_trans h.size k.size, fun x hx hf => (k.block x (Nat.lt_of_lt_of_le hx h.size)).trans (h.block x hx hf)⟩
section
variable {c m b : Nat} {dp lp o n : Option Addr} {room h r bd cn : Int}
end
end Go.Proofs.YtojbgggkfahkfaaGreat

namespace Go.Proofs.YtojbgggkfahkfaaGreat
open Go Go.RowKit
set_option linter.unusedSimpArgs false
set_option linter.unusedVariables false

/-- an entry: its reference, its block in the memory, its bytes -/
structure En where
  k : Rf
  b : Nat
  f : Nat → Nat
def enA (e : En) : Addr := ⟨e.b, 0, none⟩
def prevOf (L : List En) (i : Nat) : Option Addr := if i = 0 then none else (L[i - 1]?).map enA
def nextOf (L : List En) (i : Nat) : Option Addr := (L[i + 1]?).map enA
def headOf (L : List En) : Option Addr := (L[0]?).map enA
def lastOf (L : List En) : Option Addr := prevOf L L.length
section
variable {c b : Nat} {m : Nat} {dp lp o n : Option Addr} {room h r bd cn : Int} {R : Rf} {f : Nat → Nat}
end
end Go.Proofs.YtojbgggkfahkfaaGreat

namespace Go.Proofs.YtojbgggkfahkfaaGreat
open Go Go.RowKit
set_option linter.unusedSimpArgs false
set_option linter.unusedVariables false

/-- the chain of entries in the memory -/
structure ChainAt (w : World) (c m : Nat) (dp lp : Option Addr) (room h r bd cn : Int) (L : List En) : Prop where
  blk : Blk w c 137 (caC dp lp room m (headOf L) (lastOf L) h r bd cn)
  ents : ∀ i e, L[i]? = some e → Blk w e.b 228 (enC e.k e.f (prevOf L i) (nextOf L i))
  nd : ∀ (i j : Nat) (e e' : En), L[i]? = some e → L[j]? = some e' → e.b = e'.b → i = j
/-- its blocks -/
def chfoot (c : Nat) (L : List En) (x : Nat) : Prop := x = c ∨ ∃ e ∈ L, x = e.b
section
variable {w w' : World} {c m : Nat} {dp lp : Option Addr} {room h r bd cn : Int} {L : List En} {i : Nat} {e : En}
theorem ChainAt.below (H : ChainAt w c m dp lp room h r bd cn L) (hb : Below w.heap.size w w') : ChainAt w' c m dp lp room h r bd cn L := ⟨H.blk.below hb H.blk.lt, fun i e he => (H.ents i e he).below hb (H.ents i e he).lt, H.nd⟩
theorem ChainAt.kept (H : ChainAt w c m dp lp room h r bd cn L) (hk : ∀ x, chfoot c L x → w'.heap[x]? = w.heap[x]?) : ChainAt w' c m dp lp room h r bd cn L := ⟨(hk c (.inl rfl)).trans H.blk, fun i e he => (hk e.b (.inr ⟨e, List.mem_of_getElem? he, rfl⟩)).trans (H.ents i e he), H.nd⟩
theorem ChainAt.lt (H : ChainAt w c m dp lp room h r bd cn L) (x : Nat) (hx : chfoot c L x) : x < w.heap.size := by
  rcases hx with rfl | ⟨e, he, rfl⟩
  · exact H.blk.lt
  · obtain ⟨i, hi⟩ := List.mem_iff_getElem?.1 he
    exact (H.ents i e hi).lt
end
end Go.Proofs.YtojbgggkfahkfaaGreat

namespace Go.Proofs.YtojbgggkfahkfaaGreat
open Go Go.RowKit
set_option linter.unusedSimpArgs false
set_option linter.unusedVariables false

/-- the map of the entries -/
def MapFor (w : World) (m : Nat) (L : List En) : Prop := ∃ es : List (Rf × Nat), MapIs rfV ptV w m es ∧ es.length = L.length ∧ (es.map Prod.fst).Nodup ∧ ∀ k b, findIn k es = some b ↔ ∃ e ∈ L, e.k = k ∧ e.b = b
/-- a cache's entries in the memory -/
structure CaAt (w : World) (c m : Nat) (dp lp : Option Addr) (room h r bd cn : Int) (L : List En) : Prop where
  ch : ChainAt w c m dp lp room h r bd cn L
  mp : MapFor w m L
/-- its blocks -/
def cafo (c m : Nat) (L : List En) (x : Nat) : Prop := chfoot c L x ∨ x = m
section
variable {w w' : World} {c m : Nat} {dp lp : Option Addr} {room h r bd cn : Int} {L : List En} {i : Nat} {e : En} {k : Rf}
theorem MapFor.of (H : MapFor w m L) (hk : w'.heap[m]? = w.heap[m]?) : MapFor w' m L := by
  obtain ⟨es, h1, h2⟩ := H
  exact ⟨es, h1.of hk, h2⟩
theorem MapFor.lt (H : MapFor w m L) : m < w.heap.size := by
  obtain ⟨es, h1, h2⟩ := H
  exact h1.lt
theorem MapFor.ne (H : MapFor w m L) {b t : Nat} {cs : Array Value} (hb : Blk w b t cs) : m ≠ b := by
  obtain ⟨es, h1, h2⟩ := H
  exact h1.ne hb
theorem MapFor.same (H : MapFor w m L) {L' : List En} (hl : L'.length = L.length) (he : ∀ x, x ∈ L' ↔ x ∈ L) : MapFor w m L' := by
  obtain ⟨es, h1, h2, h3, h4⟩ := H
  exact ⟨es, h1, h2.trans hl.symm, h3, fun k b => (h4 k b).trans ⟨fun ⟨e, a, b⟩ => ⟨e, (he e).2 a, b⟩, fun ⟨e, a, b⟩ => ⟨e, (he e).1 a, b⟩⟩⟩
theorem CaAt.below (H : CaAt w c m dp lp room h r bd cn L) (hb : Below w.heap.size w w') : CaAt w' c m dp lp room h r bd cn L := ⟨H.ch.below hb, H.mp.of (hb.block m H.mp.lt)⟩
theorem CaAt.drew (H : CaAt w c m dp lp room h r bd cn L) : CaAt w.drew c m dp lp room h r bd cn L := H.below (Below.refl _ _).drew
theorem CaAt.kept (H : CaAt w c m dp lp room h r bd cn L) (hk : ∀ x, cafo c m L x → w'.heap[x]? = w.heap[x]?) : CaAt w' c m dp lp room h r bd cn L := ⟨H.ch.kept fun x hx => hk x (.inl hx), H.mp.of (hk m (.inr rfl))⟩
theorem CaAt.lt (H : CaAt w c m dp lp room h r bd cn L) (x : Nat) (hx : cafo c m L x) : x < w.heap.size := by
  rcases hx with hx | rfl
  · exact H.ch.lt x hx
  · exact H.mp.lt
theorem CaAt.setRow (H : CaAt w c m dp lp room h r bd cn L) {b : Nat} (hb : ¬ cafo c m L b) (cs : Array Value) : CaAt (w.setRow b cs) c m dp lp room h r bd cn L := H.kept fun x hx => setRow_other w b x cs fun e => hb (e ▸ hx)
theorem CaAt.one (H : CaAt w c m dp lp room h r bd cn L) {e e' : En} (he : e ∈ L) (he' : e' ∈ L) (hk : e.k = e'.k) : e.b = e'.b := by
  obtain ⟨es, h1, h2, h3, h4⟩ := H.mp
  have h5 := (h4 e.k e.b).2 ⟨e, he, rfl, rfl⟩
  have h6 := (h4 e.k e'.b).2 ⟨e', he', hk.symm, rfl⟩
  rw [h5] at h6
  injection h6
theorem mem_erased {x : En} (hx : x ∈ L.eraseIdx i) : x ∈ L := by
  obtain ⟨j, _, hj⟩ := List.mem_eraseIdx_iff_getElem?.1 hx
  exact List.mem_of_getElem? hj
theorem ChainAt.other (H : ChainAt w c m dp lp room h r bd cn L) (hi : L[i]? = some e) (j : Nat) (e' : En) (hj : (L.eraseIdx i)[j]? = some e') : e'.b ≠ e.b := fun hb => by
  rw [List.getElem?_eraseIdx] at hj
  split at hj
  · have := H.nd _ _ _ _ hj hi hb
    omega
  · have := H.nd _ _ _ _ hj hi hb
    omega
end
end Go.Proofs.YtojbgggkfahkfaaGreat

namespace Go.Proofs.YtojbgggkfahkfaaGreat
open Go Go.RowKit
set_option linter.unusedSimpArgs false
set_option linter.unusedVariables false

/-- the entries but the one of a reference, if it is there -/
def PutL (L : List En) (k : Rf) (L1 : List En) : Prop := (∃ i e, L[i]? = some e ∧ e.k = k ∧ L1 = L.eraseIdx i) ∨ ((∀ e ∈ L, e.k ≠ k) ∧ L1 = L)
theorem PutL.sub {L L1 : List En} {k : Rf} (h : PutL L k L1) {x : En} (hx : x ∈ L1) : x ∈ L := by
  rcases h with ⟨i, e, _, _, rfl⟩ | ⟨_, rfl⟩
  · exact mem_erased hx
  · exact hx
theorem PutL.foot {L L1 : List En} {k : Rf} (h : PutL L k L1) {c m x : Nat} (hx : cafo c m L1 x) : cafo c m L x := by
  rcases hx with (hx | ⟨e, he, hx⟩) | hx
  · exact .inl (.inl hx)
  · exact .inl (.inr ⟨e, h.sub he, hx⟩)
  · exact .inr hx
section
variable {w w' : World} {c m : Nat} {dp lp : Option Addr} {room h r bd cn : Int} {L L1 : List En} {i : Nat} {e : En} {k : Rf}
theorem PutL.none (H : CaAt w c m dp lp room h r bd cn L) (hp : PutL L k L1) : ∀ e ∈ L1, e.k ≠ k := by
  rcases hp with ⟨i, e, hi, rfl, rfl⟩ | ⟨hn, rfl⟩
  · intro x hx hk
    obtain ⟨j, hj, hj2⟩ := List.mem_eraseIdx_iff_getElem?.1 hx
    exact hj (H.ch.nd _ _ _ _ hj2 hi (H.one (List.mem_of_getElem? hj2) (List.mem_of_getElem? hi) hk))
  · exact hn
/-- how many keys a map has -/
def mapSz (w : World) (m : Nat) : Nat := match w.heap[m]? with
  | some (.map es _) => es.size
  | _ => 0
theorem MapFor.sz (H : MapFor w m L) : mapSz w m = L.length := by
  obtain ⟨es, ⟨xs, cl, hg, he⟩, hl, _⟩ := H
  unfold mapSz
  rw [hg]
  have := congrArg List.length he
  simp at this
  show xs.size = _
  omega
theorem MapFor.len (H : MapFor w m L) (ty : TypeId) : (Builtin.len_ #[129] ty #[.map (some m)]).run Tryz.prog w = .ok (.int .i64 (L.length : Int)) w := by
  obtain ⟨es, h1, h2, _⟩ := H
  have := map_len h1 ty
  rw [h2] at this
  exact this
end
section
variable {w w' : World} {c m room : Nat} {dp lp : Option Addr} {h r bd cn : Int} {L L1 : List En} {i : Nat} {e : En} {k : Rf}
end
end Go.Proofs.YtojbgggkfahkfaaGreat

namespace Go.Proofs.YtojbgggkfahkfaaGreat
open Go Go.RowKit
set_option linter.unusedSimpArgs false
set_option linter.unusedVariables false

section
variable {w w' : World} {c m B g N kk lg room : Nat} {F : Nat → Nat} {q q' : QD} {dp lp : Option Addr} {h r bd cn h2 r2 bd2 cn2 : Int} {L L1 : List En} {i : Nat} {e : En} {k : Rf}
/-- a disk and a cache on it -/
structure CD (w : World) (B g N : Nat) (F : Nat → Nat) (kk lg : Nat) (q : QD) (c m room : Nat) (h r bd cn : Int) (L : List En) : Prop where
  d : DiskQ w B g N F kk lg q
  ca : CaAt w c m (some ⟨g, 0, none⟩) none (room : Int) h r bd cn L
  ap : ∀ x, cafo c m L x → ¬ foot g N q x
  lo : ∀ x, cafo c m L x → B ≤ x
/-- its blocks -/
def cdfo (g N : Nat) (q : QD) (c m : Nat) (L : List En) (x : Nat) : Prop := foot g N q x ∨ cafo c m L x
theorem CD.below (H : CD w B g N F kk lg q c m room h r bd cn L) (hb : Below w.heap.size w w') : CD w' B g N F kk lg q c m room h r bd cn L := ⟨H.d.below hb, H.ca.below hb, H.ap, H.lo⟩
theorem CD.kept (H : CD w B g N F kk lg q c m room h r bd cn L) (hk : ∀ x, cdfo g N q c m L x → w'.heap[x]? = w.heap[x]?) : CD w' B g N F kk lg q c m room h r bd cn L := ⟨H.d.kept fun x hx => hk x (.inl hx), H.ca.kept fun x hx => hk x (.inr hx), H.ap, H.lo⟩
theorem CD.lt (H : CD w B g N F kk lg q c m room h r bd cn L) (x : Nat) (hx : cdfo g N q c m L x) : B ≤ x ∧ x < w.heap.size := by
  rcases hx with hx | hx
  · exact H.d.foots x hx
  · exact ⟨H.lo x hx, H.ca.lt x hx⟩
end
section
variable {c m B g N kk lg room : Nat} {F : Nat → Nat} {q : QD} {dp lp : Option Addr} {h r bd cn : Int} {L L1 : List En} {i : Nat} {e : En} {k : Rf}
end
end Go.Proofs.YtojbgggkfahkfaaGreat
