/- Inodes in the memory alone: Touch, Set, Leaf, Get. -/
import Derived.Test.YtimjggkdpmgpjaaGreatDoorHLogOf
import Derived.Test.YtimjggkdpmgpjaaGreatDoorHCaKit
import Derived.Handy
import Derived.Test.YtimjggkdpmgpjaaGreatDoorHInsMap
import Derived.Lib.SliceRun

namespace Go.Proofs.YtimjggkdpmgpjaaGreatDoor
theorem sgLHInsCalls : (∀ (α : Type) (a : α) (l r : List α), (a :: l) ++ r = a :: (l ++ r)) ∧ (∀ (α : Type) (l : List α), [] ++ l = l) ∧ (∀ (α : Type) (l : List α), l ++ [] = l) ∧ (∀ (α β : Type) (f : α → Option β) (a : α) (l : List α), (a :: l).filterMap f = match f a with | none => l.filterMap f | some b => b :: l.filterMap f) ∧ (∀ (α β : Type) (f : α → Option β), [].filterMap f = []) ∧ (∀ (α : Type) (l : List α) (i : Nat), l.toArray[i]? = l[i]?) ∧ (∀ (α : Type) (a : α) (l : List α), (a :: l)[0]? = some a) ∧ (∀ (α : Type) (a : α) (l : List α) (i : Nat), (a :: l)[i + 1]? = l[i]?) :=
  ⟨fun _ _ _ _ => List.cons_append, fun _ _ => List.nil_append _, fun _ _ => List.append_nil _, fun _ _ _ _ _ => List.filterMap_cons, fun _ _ _ => List.filterMap_nil, fun _ _ _ => List.getElem?_toArray, fun _ _ _ => List.getElem?_cons_zero, fun _ _ _ _ => List.getElem?_cons_succ⟩
theorem sgPHInsCalls : (∀ (α : Type) (l : List α) (i : Nat) (a : α), l.toArray.setIfInBounds i a = (l.set i a).toArray) ∧ (∀ (α : Type) (a b : α) (l : List α), (a :: l).set 0 b = b :: l) ∧ (∀ (α : Type) (a b : α) (l : List α) (i : Nat), (a :: l).set (i + 1) b = a :: l.set i b) :=
  ⟨fun _ _ _ _ => List.setIfInBounds_toArray _ _ _, fun _ _ _ _ => List.set_cons_zero, fun _ _ _ _ _ => List.set_cons_succ⟩
end Go.Proofs.YtimjggkdpmgpjaaGreatDoor
namespace Go.Proofs.YtimjggkdpmgpjaaGreatDoor
open Go Go.RowKit
set_option linter.unusedSimpArgs false
set_option linter.unusedVariables false
/-- one leaf another one -/
def dU (D : Nat → Nat → Nat → Nat) (n p : Nat) (f : Nat → Nat) : Nat → Nat → Nat → Nat := fun m q => if m = n ∧ q = p then f else D m q
/-- an inode one of whose leaves was set -/
def hdS (y : Hd) : Hd := ⟨y.o, y.n, y.k, y.l, y.s, y.t, y.left, true⟩
theorem hd_putSet {w : World} {b t : Nat} {y : Hd} (H : Blk w b t (hdC y)) : Blk (w.setCell ⟨b, 44, none⟩ (.bool true)) b t (hdC (hdS y)) := by
  have := H.put 44 (.bool true)
  rw [show (hdC y).setIfInBounds 44 (.bool true) = hdC (hdS y) from ?_] at this
  · exact this
  · unfold hdC
    rw [va_set]
    refine va_congr fun i hi => ?_
    unfold upd hdF
    by_cases e : i = 44
    · subst e
      rfl
    · rw [if_neg e]
      by_cases h1 : i < 38
      · rw [if_pos h1, if_pos h1]
        rfl
      · rw [if_neg h1, if_neg h1]
        by_cases h2 : i < 43
        · rw [if_pos h2, if_pos h2]
          rfl
        · rw [if_neg h2, if_neg h2, if_pos (by omega), if_pos (by omega)]
          rfl
theorem hd_c44 {w : World} {b t : Nat} {y : Hd} (H : Blk w b t (hdC y)) : w.cell? ⟨b, 44, none⟩ = some (.bool y.set) := H.cv (n := 45) (by decide)
/-- nothing is taken away of an empty map -/
theorem del_empty {W : World} {mc : Nat} (n : Int) (h : ∃ c, W.heap[mc]? = some (.map #[] c)) (ty : TypeId) : (Builtin.delete_ #[134, 3] ty #[.map (some mc), .int .i64 n]).run Tryz.prog W = .ok (.tuple #[]) W := by
  obtain ⟨c, hc⟩ := h
  have hgo : (getObj mc).run Tryz.prog W = .ok (.map #[] c) W := by simp [getObj, Sem.run, hc]
  have hso : (setObj mc (.map #[] c)).run Tryz.prog W = .ok () W := by
    have hl := (Array.getElem?_eq_some_iff.1 hc).1
    have e : W.heap.setIfInBounds mc (.map #[] c) = W.heap := by
      apply Array.ext_getElem?
      intro i
      rw [Array.getElem?_setIfInBounds]
      by_cases hi : mc = i
      · subst hi
        rw [if_pos rfl, if_pos hl, hc]
      · rw [if_neg hi]
    simp [setObj, Sem.run, hc, e]
  have hck : (Instr.checkKey true 10000 3 (.int .i64 n)).run Tryz.prog W = .ok () W := by
    rw [show (10000 : Nat) = 9999 + 1 from rfl, Instr.checkKey]
    simp [run_underlying Tryz.underlying3]
  simp [Builtin.delete_, run_underlying Tryz.underlying134, hgo, hck, Instr.findKey, run_underlying Tryz.underlying3, Instr.findNow, hso, Result.andThen]
section
variable {w w' : World} {x mf ml mc : Nat} {cp : Option Addr} {top : Int} {H : Nat → Hd} {D : Nat → Nat → Nat → Nat}
set_option maxRecDepth 100000 in
set_option maxHeartbeats 8000000 in
theorem IM.set (h : IM w x mf ml mc cp top H D) (n p b : Nat) (y : Hd) (hy : y.n = (n : Int)) (f : Nat → Nat) (hB : Blk w b 140 (hdC y)) (hb : b ≠ x ∧ b ≠ mf ∧ b ≠ ml ∧ b ≠ mc) : Calls Tryz.prog 110 #[.pointer (some ⟨x, 0, none⟩), .pointer (some ⟨b, 0, none⟩), .int .i64 (p : Int), .agg (va 256 (iv .u8 f))] w fun e w' => e = .returned (.tuple #[]) ∧ IM w' x mf ml mc cp top H (dU D n p f) ∧ Blk w' b 140 (hdC (hdS y)) ∧ Turns (fun z => z = ml ∨ z = b) w w' := by
  obtain ⟨M, m1, m2⟩ := h.lm
  have HUP : Hid (∀ W, MapFn pkV bvV W ml M → ∃ W', (Instr.mapUpdate 133 (.map (some ml)) (.agg #[.int .i64 (n : Int), .int .i64 0, .int .i64 (p : Int)]) (.agg (va 256 (iv .u8 f)))).run Tryz.prog W = .ok () W' ∧ MapFn pkV bvV W' ml (fun k => if k = ((n : Int), 0, (p : Int)) then some f else M k) ∧ Keeps ml W W') := fun W hW => hW.put Tryz.underlying133 pk_key ((n : Int), 0, (p : Int)) (pk_bits _) f
  have HM2 : Hid (∀ n p j : Nat, j < 256 → (match M ((n : Int), 0, (p : Int)) with | some f => f j | none => 0) = D n p j) := m2
  have hb1 : Below w.heap.size w (w.alloc (.cells (va 256 (iv .u8 f)) 207)) := below_new1 _ _
  have q1 : Blk (w.alloc (.cells (va 256 (iv .u8 f)) 207)) w.heap.size 207 (va 256 (iv .u8 f)) := Blk.new _ _ _
  have hS1 : Blk (w.alloc (.cells (va 256 (iv .u8 f)) 207)) x 136 (ixC cp 0 rf0 0 top mf ml mc) ∧ Blk (w.alloc (.cells (va 256 (iv .u8 f)) 207)) b 140 (hdC y) ∧ MapFn pkV bvV (w.alloc (.cells (va 256 (iv .u8 f)) 207)) ml M ∧ Blk (w.alloc (.cells (va 256 (iv .u8 f)) 207)) w.heap.size 207 (va 256 (iv .u8 f)) := ⟨h.ix.below hb1 h.ix.lt, hB.below hb1 hB.lt, m1.below hb1 m1.lt, q1⟩
  have HLA : Hid (∀ w : World, Calls Tryz.prog 76 #[.int .i64 (n : Int), .int .i64 (p : Int)] w fun e w' => e = .returned (.agg #[.int .i64 (n : Int), .int .i64 0, .int .i64 (p : Int)]) ∧ Below w.heap.size w w') := leafAt_any (n : Int) (p : Int)
  have HY : Hid (y.n = (n : Int)) := hy
  have HI : Hid (IM w x mf ml mc cp top H D ∧ (b ≠ x ∧ b ≠ mf ∧ b ≠ ml ∧ b ≠ mc) ∧ b < w.heap.size) := ⟨h, hb, hB.lt⟩
  clear h m1 m2 hy hB hb q1
  go_enter Tryz.func110, Tryz.ntmps110
  go_wp2_with fail
  generalize (w.alloc (.cells (va 256 (iv .u8 f)) 207)) = w1 at *
  have hS0 : Blk w1.drew x 136 (ixC cp 0 rf0 0 top mf ml mc) ∧ Blk w1.drew b 140 (hdC y) ∧ MapFn pkV bvV w1.drew ml M ∧ Blk w1.drew w.heap.size 207 (va 256 (iv .u8 f)) := hS1
  have hwd : Below w.heap.size w w1.drew := hb1.drew
  clear hS1 hb1
  refine wp_region_partsS (fun W => Blk W x 136 (ixC cp 0 rf0 0 top mf ml mc) ∧ Blk W b 140 (hdC y) ∧ MapFn pkV bvV W ml M ∧ Blk W w.heap.size 207 (va 256 (iv .u8 f))) [([0, 4, 9], 1, true), ([], 2, true), ([], 3, true), ([], 5, true), ([], 6, true), ([], 7, true), ([], 8, true), ([], 11, true), ([], 10, false)] [] [12] (by kernel_rfl) (by kernel_rfl) hS0 (partsI_yield ?_)
  generalize w1.drew = w2 at *
  simp only [sgLHInsCalls]
  go_wp2_with fail
  refine ⟨rfl, _, .pointer (some ⟨x, 0, none⟩), rfl, Or.inl ⟨by rfl, fun W hW => by go_simp⟩, partsI_yield ?_⟩
  simp only [Act.put, sgPHInsCalls]
  simp only [sgLHInsCalls]
  go_wp2_with fail
  refine ⟨rfl, _, .pointer (some ⟨x, 38, none⟩), rfl, Or.inl ⟨by rfl, fun W hW => by go_simp⟩, partsI_yield ?_⟩
  simp only [Act.put, sgPHInsCalls]
  simp only [sgLHInsCalls]
  go_wp2_with fail
  refine ⟨rfl, _, .map (some ml), rfl, Or.inl ⟨by rfl, fun W hW => by have hW1 := ix_c38 hW.1; go_simp⟩, partsI_yield ?_⟩
  simp only [Act.put, sgPHInsCalls]
  simp only [sgLHInsCalls]
  go_wp2_with fail
  refine ⟨rfl, _, .pointer (some ⟨b, 0, none⟩), rfl, Or.inl ⟨by rfl, fun W hW => by go_simp⟩, partsI_yield ?_⟩
  simp only [Act.put, sgPHInsCalls]
  simp only [sgLHInsCalls]
  go_wp2_with fail
  refine ⟨rfl, _, .pointer (some ⟨b, 38, none⟩), rfl, Or.inl ⟨by rfl, fun W hW => by go_simp⟩, partsI_yield ?_⟩
  simp only [Act.put, sgPHInsCalls]
  simp only [sgLHInsCalls]
  go_wp2_with fail
  refine ⟨rfl, _, .pointer (some ⟨b, 38, none⟩), rfl, Or.inl ⟨by rfl, fun W hW => by go_simp⟩, partsI_yield ?_⟩
  simp only [Act.put, sgPHInsCalls]
  simp only [sgLHInsCalls]
  go_wp2_with fail
  refine ⟨rfl, _, .int .i64 (n : Int), rfl, Or.inl ⟨by rfl, fun W hW => by have hW1 := (hd_c38 hW.2.1).trans (by rw [HY.out]); go_simp⟩, partsI_yield ?_⟩
  simp only [Act.put, sgPHInsCalls]
  simp only [sgLHInsCalls]
  go_wp2_with fail
  refine ⟨rfl, _, .agg (va 256 (iv .u8 f)), rfl, kyields_load (by rfl) 207 _ (by rfl) w.heap.size 256 (iv .u8 f) (by rfl) _ 207 (fun W hW => hW.2.2.2) Tryz.underlying207 rfl sizeBk, partsI_force ?_⟩
  simp only [Act.put, sgPHInsCalls]
  simp only [sgLHInsCalls]
  go_wp2_with fail
  refine (HLA.out _).mono ?_
  rintro e w3 ⟨rfl, hb3⟩
  have S3 : Blk w3 x 136 (ixC cp 0 rf0 0 top mf ml mc) ∧ Blk w3 b 140 (hdC y) ∧ MapFn pkV bvV w3 ml M ∧ Blk w3 w.heap.size 207 (va 256 (iv .u8 f)) := ⟨hS0.1.below hb3 hS0.1.lt, hS0.2.1.below hb3 hS0.2.1.lt, hS0.2.2.1.below hb3 hS0.2.2.1.lt, hS0.2.2.2.below hb3 hS0.2.2.2.lt⟩
  go_wp2_with fail
  refine ⟨rfl, S3, partsI_last ?_⟩
  simp only [sgLHInsCalls]
  obtain ⟨w4, hup, hm4, hk4⟩ := HUP.out w3 S3.2.2.1
  have hb23 := hwd.trans (hb3.mono hwd.size)
  have nb := HI.out.2.1
  have nn := HI.out.1.ne
  have x4 := hk4.blk S3.1 nn.2.1
  have y4 := hk4.blk S3.2.1 nb.2.2.1
  have HM4 : Hid (MapFn pkV bvV w4 ml (fun k => if k = ((n : Int), 0, (p : Int)) then some f else M k) ∧ Below w.heap.size w w3 ∧ Keeps ml w3 w4) := ⟨hm4, hb23, hk4⟩
  clear hm4 hk4 hb3 hb23 S3 hS0 hwd
  go_wp2_with fail
  refine ⟨rfl, ?_⟩
  have c44 := hd_c44 y4
  have f44 : w4.frozen? ⟨b, 44, none⟩ = false := y4.frozen 44
  have y5 := hd_putSet y4
  have x5 : Blk (w4.setCell ⟨b, 44, none⟩ (.bool true)) x 136 (ixC cp 0 rf0 0 top mf ml mc) := x4.put_other 44 (.bool true) (Ne.symm nb.1)
  have HK5 : Hid (∀ k, k < w.heap.size → k ≠ ml → k ≠ b → (w4.setCell ⟨b, 44, none⟩ (.bool true)).heap[k]? = w.heap[k]?) := fun k h1 h2 h3 => by
    rw [Below.heap_setCell _ _ _ _ h3, HM4.out.2.2.2 k h2 (Nat.lt_of_lt_of_le h1 HM4.out.2.1.size)]
    exact HM4.out.2.1.block k h1
  have HC5 : Hid (∃ c, (w4.setCell ⟨b, 44, none⟩ (.bool true)).heap[mc]? = some (.map #[] c)) := by
    obtain ⟨c, hc⟩ := HI.out.1.cm
    exact ⟨c, (HK5.out mc HI.out.1.lts.2.2.2 (Ne.symm nn.2.2.2.2.2) (Ne.symm nb.2.2.2)).trans hc⟩
  have HT5 : Hid (Turns (fun z => z = ml ∨ z = b) w (w4.setCell ⟨b, 44, none⟩ (.bool true))) := by
    have t3 := HM4.out.2.1
    have t4 := HM4.out.2.2.1
    have t5 : Below b w4 (w4.setCell ⟨b, 44, none⟩ (.bool true)) := (Below.refl b w4).setCell (p := ⟨b, 44, none⟩) (Nat.le_refl _) _
    exact ⟨t5.os.trans (t4.os.trans t3.os), t5.tape.trans (t4.tape.trans t3.tape), t5.output.trans (t4.output.trans t3.output), Nat.le_trans t3.size (Nat.le_trans t4.size t5.size), fun k hk hn => HK5.out k hk (fun e => hn (.inl e)) (fun e => hn (.inr e))⟩
  have HM5 : Hid (MapFn pkV bvV (w4.setCell ⟨b, 44, none⟩ (.bool true)) ml (fun k => if k = ((n : Int), 0, (p : Int)) then some f else M k)) := HM4.out.1.keep (Below.heap_setCell _ _ _ _ (Ne.symm nb.2.2.1))
  clear x4 y4
  go_upto_region 3 with fail
  clear c44 f44
  generalize (w4.setCell ⟨b, 44, none⟩ (.bool true)) = w5 at *
  have S5 : Blk w5.drew x 136 (ixC cp 0 rf0 0 top mf ml mc) ∧ Blk w5.drew b 140 (hdC (hdS y)) := ⟨x5, y5⟩
  have HDE : Hid (∀ ty, (Builtin.delete_ #[134, 3] ty #[.map (some mc), .int .i64 (n : Int)]).run Tryz.prog w5.drew = .ok (.tuple #[]) w5.drew) := fun ty => del_empty (W := w5.drew) (n : Int) HC5.out ty
  have hde := HDE.out
  have HE : Hid (IM w5.drew x mf ml mc cp top H (dU D n p f) ∧ Blk w5.drew b 140 (hdC (hdS y)) ∧ Turns (fun z => z = ml ∨ z = b) w w5.drew) := by
    refine ⟨⟨x5, ?_, ⟨_, HM5.out, fun m q j hj => ?_⟩, HC5.out, nn⟩, y5, ⟨HT5.out.1, HT5.out.2, HT5.out.3, HT5.out.4, HT5.out.5⟩⟩
    · obtain ⟨M', g1, g2⟩ := HI.out.1.fm
      exact ⟨M', g1.keep (HK5.out mf HI.out.1.lts.2.1 nn.2.2.2.1 (Ne.symm nb.2.1)), g2⟩
    · unfold dU
      by_cases e : m = n ∧ q = p
      · rw [if_pos e, if_pos (by rw [e.1, e.2])]
      · rw [if_neg e, if_neg (fun c => e (by
          injection c with c1 c2
          injection c2 with c2 c3
          exact ⟨by omega, by omega⟩))]
        exact HM2.out m q j hj
  clear HDE HM5 HC5 HT5 HK5 HM4
  refine wp_region_partsS (fun W => Blk W x 136 (ixC cp 0 rf0 0 top mf ml mc) ∧ Blk W b 140 (hdC (hdS y))) [([0, 4], 1, true), ([], 2, true), ([], 3, true), ([], 5, false), ([], 6, false), ([], 7, false), ([], 8, false)] [] [9] (by kernel_rfl) (by kernel_rfl) S5 (partsI_yield ?_)
  generalize w5.drew = w6 at *
  simp only [sgLHInsCalls]
  go_wp2_with fail
  refine ⟨rfl, _, .pointer (some ⟨x, 0, none⟩), rfl, Or.inl ⟨by rfl, fun W hW => by go_simp⟩, partsI_yield ?_⟩
  simp only [Act.put, sgPHInsCalls]
  simp only [sgLHInsCalls]
  go_wp2_with fail
  refine ⟨rfl, _, .pointer (some ⟨x, 39, none⟩), rfl, Or.inl ⟨by rfl, fun W hW => by go_simp⟩, partsI_yield ?_⟩
  simp only [Act.put, sgPHInsCalls]
  simp only [sgLHInsCalls]
  go_wp2_with fail
  refine ⟨rfl, _, .map (some mc), rfl, Or.inl ⟨by rfl, fun W hW => by have hW1 := ix_c39 hW.1; go_simp⟩, partsI_force ?_⟩
  simp only [Act.put, sgPHInsCalls]
  simp only [sgLHInsCalls]
  go_wp2_with fail
  refine ⟨rfl, S5, partsI_force ?_⟩
  simp only [sgLHInsCalls]
  go_wp2_with fail
  refine ⟨rfl, S5, partsI_force ?_⟩
  simp only [sgLHInsCalls]
  go_wp2_with fail
  refine ⟨rfl, S5, partsI_force ?_⟩
  simp only [sgLHInsCalls]
  have e38 := (hd_c38 S5.2).trans (show some (Value.int .i64 y.n) = some (.int .i64 (n : Int)) by rw [HY.out])
  go_wp2_with fail
  refine ⟨rfl, S5, partsI_last ?_⟩
  simp only [sgLHInsCalls]
  go_wp2_with fail
  refine ⟨rfl, ?_⟩
  go_wp2_with fail
  first
    | refine bodyPost_end (results_none Tryz.results110 _ _ _) rfl ?_
    | refine bodyPost_ret (results_none Tryz.results110 _ _ _) rfl ?_
  exact ⟨rfl, HE.out.1, HE.out.2.1, HE.out.2.2⟩
end
end Go.Proofs.YtimjggkdpmgpjaaGreatDoor

namespace Go.Proofs.YtimjggkdpmgpjaaGreatDoor
open Go Go.RowKit
set_option linter.unusedSimpArgs false
set_option linter.unusedVariables false
section
variable {w w' : World} {x mf ml mc : Nat} {cp : Option Addr} {top : Int} {H : Nat → Hd} {D : Nat → Nat → Nat → Nat}
theorem Turns.bel {S : Nat → Prop} {w w' : World} (h : Below w.heap.size w w') : Turns S w w' := ⟨h.os, h.tape, h.output, h.size, fun k hk _ => h.block k hk⟩
theorem Turns.tr {S : Nat → Prop} {a b c : World} (h : Turns S a b) (k : Turns S b c) : Turns S a c := ⟨k.os.trans h.os, k.tape.trans h.tape, k.output.trans h.output, Nat.le_trans h.size k.size, fun z hz hn => (k.block z (Nat.lt_of_lt_of_le hz h.size) hn).trans (h.block z hz hn)⟩
theorem Turns.wider {S T : Nat → Prop} {w w' : World} (h : Turns S w w') (e : ∀ z, z < w.heap.size → S z → T z) : Turns T w w' := ⟨h.os, h.tape, h.output, h.size, fun k hk hn => h.block k hk fun hs => hn (e k hk hs)⟩
theorem Turns.keeps {r : Nat} {w w' : World} (h : Keeps r w w') : Turns (fun z => z = r) w w' := ⟨h.1.os, h.1.tape, h.1.output, h.1.size, fun k hk hn => h.2 k hn hk⟩
set_option maxRecDepth 100000 in
set_option maxHeartbeats 8000000 in
theorem IM.changeResize (h : IM w x mf ml mc cp top H D) (n : Nat) (h1 : 1 ≤ n) (h2 : n ≤ 4096) (hk : (H n).k ≠ 0) (v0 v1 v2 : Value) (y : Hd) (D' : Nat → Nat → Nat → Nat) (HC : ∀ V b, Below w.heap.size w V → IM V x mf ml mc cp top H D → Blk V b 140 (hdC (H n)) → w.heap.size ≤ b → Calls Tryz.prog 86 #[.pointer (some ⟨b, 0, none⟩), v0, v1, v2] V fun e w' => e = .returned (.int .i64 0) ∧ IM w' x mf ml mc cp top H D' ∧ Blk w' b 140 (hdC y) ∧ Turns (fun z => z = ml ∨ z = b) V w') : Calls Tryz.prog 85 #[.pointer (some ⟨x, 0, none⟩), .int .i64 (n : Int), .func (.func 86) #[] #[v0, v1, v2]] w fun e w' => e = .returned (.int .i64 0) ∧ IM w' x mf ml mc cp top (hU H n y) D' ∧ Turns (fun z => z = ml ∨ z = mf) w w' := by
  have hz2 := zero_hd
  have HU := h.used n h1 h2 hk
  have HPU : Hid (∀ V, IM V x mf ml mc cp top H D' → Calls Tryz.prog 45 #[.pointer (some ⟨x, 0, none⟩), .int .i64 (n : Int), .agg (hdC y)] V fun e w' => e = .returned (.tuple #[]) ∧ IM w' x mf ml mc cp top (hU H n y) D' ∧ Keeps mf V w') := fun V hV => hV.put n h1 h2 y
  have HI : Hid (IM w x mf ml mc cp top H D) := h
  have HCC : Hid (∀ V b, Below w.heap.size w V → IM V x mf ml mc cp top H D → Blk V b 140 (hdC (H n)) → w.heap.size ≤ b → Calls Tryz.prog 86 #[.pointer (some ⟨b, 0, none⟩), v0, v1, v2] V fun e w' => e = .returned (.int .i64 0) ∧ IM w' x mf ml mc cp top H D' ∧ Blk w' b 140 (hdC y) ∧ Turns (fun z => z = ml ∨ z = b) V w') := HC

  clear h hk HC h1 h2
  go_enter Tryz.func85, Tryz.ntmps85
  go_wp2_with fail
  refine HU.mono ?_
  rintro e w1 ⟨rfl, hb1⟩
  have q2 : Blk (w1.alloc (.cells (hdC hd00) 140)) w1.heap.size 140 (hdC hd00) := Blk.new _ _ _
  have q2' := q2.set (hdC (H n))
  have hb2 : Below w1.heap.size w1 ((w1.alloc (.cells (hdC hd00) 140)).setRow w1.heap.size (hdC (H n))) := below_setRow (below_new1 _ _) (Nat.le_refl _) _
  have hb12 := hb1.trans (hb2.mono hb1.size)
  have HC2 := HCC.out _ w1.heap.size hb12 (HI.out.below hb12) q2' hb1.size
  have HB : Hid (Below w.heap.size w ((w1.alloc (.cells (hdC hd00) 140)).setRow w1.heap.size (hdC (H n))) ∧ w.heap.size ≤ w1.heap.size) := ⟨hb12, hb1.size⟩
  clear HU HCC hb1 hb2 hb12 q2'
  go_wp2_with (first
    | (refine wpList_store_row (by rfl) 140 _ _ (by rfl) (w1.heap.size) (hdC (H n)) (by rfl) (by rfl) 140 (hdC hd00) (by exact q2) (sizeHd.trans (by rw [hdC_size])) (by simp only [hdC_size]) (hdC_all _) ?_; simp only [Act.put, sgPHInsCalls])
    | fail)
  clear q2
  generalize ((w1.alloc (.cells (hdC hd00) 140)).setRow w1.heap.size (hdC (H n))) = w2 at *
  generalize w1.heap.size = bh at *
  refine HC2.mono ?_
  rintro e w3 ⟨rfl, hI3, q3, ht3⟩
  have HI3 : Hid (IM w3 x mf ml mc cp top H D' ∧ Turns (fun z => z = ml ∨ z = bh) w2 w3) := ⟨hI3, ht3⟩
  clear HC2 hI3 ht3
  go_wp2_with (first
    | (refine wpList_load_rowg (by rfl) 140 _ (by rfl) (bh) (by rfl) 140 (hdC y) (0, 0) _ (by exact q3) Tryz.underlying140 (by rfl) (sizeHd.trans (by rw [hdC_size])) ?_; simp only [Act.put, sgPHInsCalls])
    | fail)
  refine (HPU.out w3 HI3.out.1).mono ?_
  rintro e w4 ⟨rfl, hI4, hk4⟩
  have HE : Hid (IM w4 x mf ml mc cp top (hU H n y) D' ∧ Turns (fun z => z = ml ∨ z = mf) w w4) := ⟨hI4, by
    have t1 : Turns (fun z => z = ml ∨ z = mf) w w3 := by
      have a := HI3.out.2
      have c := HB.out.1
      exact ⟨a.os.trans c.os, a.tape.trans c.tape, a.output.trans c.output, Nat.le_trans c.size a.size, fun z hz hn => (a.block z (Nat.lt_of_lt_of_le hz c.size) (fun hs => by
        rcases hs with hs | hs
        · exact hn (.inl hs)
        · have := HB.out.2
          omega)).trans (c.block z hz)⟩
    exact t1.tr ((Turns.keeps hk4).wider fun z _ hz => .inr hz)⟩
  clear hI4 hk4 HPU q3
  go_wp2_with fail
  go_ret
  exact ⟨rfl, HE.out.1, HE.out.2⟩
set_option maxRecDepth 100000 in
set_option maxHeartbeats 8000000 in
theorem IM.changeSet (h : IM w x mf ml mc cp top H D) (n : Nat) (h1 : 1 ≤ n) (h2 : n ≤ 4096) (hk : (H n).k ≠ 0) (v0 v1 v2 v3 : Value) (y : Hd) (D' : Nat → Nat → Nat → Nat) (HC : ∀ V b, Below w.heap.size w V → IM V x mf ml mc cp top H D → Blk V b 140 (hdC (H n)) → w.heap.size ≤ b → Calls Tryz.prog 115 #[.pointer (some ⟨b, 0, none⟩), v0, v1, v2, v3] V fun e w' => e = .returned (.int .i64 0) ∧ IM w' x mf ml mc cp top H D' ∧ Blk w' b 140 (hdC y) ∧ Turns (fun z => z = ml ∨ z = b) V w') : Calls Tryz.prog 85 #[.pointer (some ⟨x, 0, none⟩), .int .i64 (n : Int), .func (.func 115) #[] #[v0, v1, v2, v3]] w fun e w' => e = .returned (.int .i64 0) ∧ IM w' x mf ml mc cp top (hU H n y) D' ∧ Turns (fun z => z = ml ∨ z = mf) w w' := by
  have hz2 := zero_hd
  have HU := h.used n h1 h2 hk
  have HPU : Hid (∀ V, IM V x mf ml mc cp top H D' → Calls Tryz.prog 45 #[.pointer (some ⟨x, 0, none⟩), .int .i64 (n : Int), .agg (hdC y)] V fun e w' => e = .returned (.tuple #[]) ∧ IM w' x mf ml mc cp top (hU H n y) D' ∧ Keeps mf V w') := fun V hV => hV.put n h1 h2 y
  have HI : Hid (IM w x mf ml mc cp top H D) := h
  have HCC : Hid (∀ V b, Below w.heap.size w V → IM V x mf ml mc cp top H D → Blk V b 140 (hdC (H n)) → w.heap.size ≤ b → Calls Tryz.prog 115 #[.pointer (some ⟨b, 0, none⟩), v0, v1, v2, v3] V fun e w' => e = .returned (.int .i64 0) ∧ IM w' x mf ml mc cp top H D' ∧ Blk w' b 140 (hdC y) ∧ Turns (fun z => z = ml ∨ z = b) V w') := HC

  clear h hk HC h1 h2
  go_enter Tryz.func85, Tryz.ntmps85
  go_wp2_with fail
  refine HU.mono ?_
  rintro e w1 ⟨rfl, hb1⟩
  have q2 : Blk (w1.alloc (.cells (hdC hd00) 140)) w1.heap.size 140 (hdC hd00) := Blk.new _ _ _
  have q2' := q2.set (hdC (H n))
  have hb2 : Below w1.heap.size w1 ((w1.alloc (.cells (hdC hd00) 140)).setRow w1.heap.size (hdC (H n))) := below_setRow (below_new1 _ _) (Nat.le_refl _) _
  have hb12 := hb1.trans (hb2.mono hb1.size)
  have HC2 := HCC.out _ w1.heap.size hb12 (HI.out.below hb12) q2' hb1.size
  have HB : Hid (Below w.heap.size w ((w1.alloc (.cells (hdC hd00) 140)).setRow w1.heap.size (hdC (H n))) ∧ w.heap.size ≤ w1.heap.size) := ⟨hb12, hb1.size⟩
  clear HU HCC hb1 hb2 hb12 q2'
  go_wp2_with (first
    | (refine wpList_store_row (by rfl) 140 _ _ (by rfl) (w1.heap.size) (hdC (H n)) (by rfl) (by rfl) 140 (hdC hd00) (by exact q2) (sizeHd.trans (by rw [hdC_size])) (by simp only [hdC_size]) (hdC_all _) ?_; simp only [Act.put, sgPHInsCalls])
    | fail)
  clear q2
  generalize ((w1.alloc (.cells (hdC hd00) 140)).setRow w1.heap.size (hdC (H n))) = w2 at *
  generalize w1.heap.size = bh at *
  refine HC2.mono ?_
  rintro e w3 ⟨rfl, hI3, q3, ht3⟩
  have HI3 : Hid (IM w3 x mf ml mc cp top H D' ∧ Turns (fun z => z = ml ∨ z = bh) w2 w3) := ⟨hI3, ht3⟩
  clear HC2 hI3 ht3
  go_wp2_with (first
    | (refine wpList_load_rowg (by rfl) 140 _ (by rfl) (bh) (by rfl) 140 (hdC y) (0, 0) _ (by exact q3) Tryz.underlying140 (by rfl) (sizeHd.trans (by rw [hdC_size])) ?_; simp only [Act.put, sgPHInsCalls])
    | fail)
  refine (HPU.out w3 HI3.out.1).mono ?_
  rintro e w4 ⟨rfl, hI4, hk4⟩
  have HE : Hid (IM w4 x mf ml mc cp top (hU H n y) D' ∧ Turns (fun z => z = ml ∨ z = mf) w w4) := ⟨hI4, by
    have t1 : Turns (fun z => z = ml ∨ z = mf) w w3 := by
      have a := HI3.out.2
      have c := HB.out.1
      exact ⟨a.os.trans c.os, a.tape.trans c.tape, a.output.trans c.output, Nat.le_trans c.size a.size, fun z hz hn => (a.block z (Nat.lt_of_lt_of_le hz c.size) (fun hs => by
        rcases hs with hs | hs
        · exact hn (.inl hs)
        · have := HB.out.2
          omega)).trans (c.block z hz)⟩
    exact t1.tr ((Turns.keeps hk4).wider fun z _ hz => .inr hz)⟩
  clear hI4 hk4 HPU q3
  go_wp2_with fail
  go_ret
  exact ⟨rfl, HE.out.1, HE.out.2⟩
end
end Go.Proofs.YtimjggkdpmgpjaaGreatDoor

namespace Go.Proofs.YtimjggkdpmgpjaaGreatDoor
open Go Go.RowKit
set_option linter.unusedSimpArgs false
set_option linter.unusedVariables false
theorem leavesOf_any (n : Nat) (hn : n ≤ 1048576) (w : World) : Calls Tryz.prog 112 #[.int .i64 (n : Int)] w fun e w' => e = .returned (.int .i64 (((n + 255) / 256 : Nat) : Int)) ∧ w' = w := by
  have HL := leavesN_any (n : Int) ⟨by omega, by omega⟩ w
  rw [if_pos ⟨by omega, by omega⟩, show (((n : Int) + 255) / 256) = (((n + 255) / 256 : Nat) : Int) by omega] at HL
  go_enter Tryz.func112, Tryz.ntmps112
  go_wp2_with fail
  refine HL.mono ?_
  rintro e w1 ⟨rfl, rfl⟩
  go_wp2_with fail
  go_ret
  exact ⟨rfl, rfl⟩
/-- the first m bytes, zeros behind -/
def upF (f : Nat → Nat) (m : Nat) : Nat → Nat := fun j => if j < m then f j else 0
theorem blk_up {w : World} {b t : Nat} {f : Nat → Nat} (H : Blk w b t (va 256 (iv .u8 f))) (m : Nat) (hm : m < 256) : Blk (w.setCells b m (List.replicate (256 - m) (.int .u8 0))) b t (va 256 (iv .u8 (upF f m))) := by
  have := Blk.cells_put (n := 256) (List.replicate (256 - m) (.int .u8 0)) m w (iv .u8 f) H
  rw [show va 256 (over (iv .u8 f) m (List.replicate (256 - m) (.int .u8 0))) = va 256 (iv .u8 (upF f m)) from va_congr fun i hi => ?_] at this
  · exact this
  · unfold over
    simp only [List.length_replicate]
    by_cases hj : m ≤ i ∧ i < m + (256 - m)
    · rw [if_pos hj, List.getD_eq_getElem?_getD, List.getElem?_replicate, if_pos (by omega)]
      unfold iv upF
      rw [if_neg (by omega)]
      rfl
    · rw [if_neg hj]
      unfold iv upF
      rw [if_pos (by omega)]
set_option maxRecDepth 100000 in
set_option maxHeartbeats 4000000 in
theorem upTo_any (f : Nat → Nat) (m : Nat) (hm : m ≤ 1048576) (w : World) : Calls Tryz.prog 111 #[.agg (va 256 (iv .u8 f)), .int .i64 (m : Int)] w fun e w' => e = .returned (.agg (va 256 (iv .u8 (upF f m)))) ∧ Below w.heap.size w w' := by
  have hz := zero_bk
  have g1 : Blk ((w.alloc (.cells (va 256 (iv .u8 f)) 207)).alloc (.cells (va 256 (iv .u8 fun _ => 0)) 207)) w.heap.size 207 (va 256 (iv .u8 f)) := (Blk.new _ _ _).alloc _
  have r1 : Blk ((w.alloc (.cells (va 256 (iv .u8 f)) 207)).alloc (.cells (va 256 (iv .u8 fun _ => 0)) 207)) (w.heap.size + 1) 207 (va 256 (iv .u8 fun _ => 0)) := Blk.new1 _ _ _ _
  have hb1 : Below w.heap.size w ((w.alloc (.cells (va 256 (iv .u8 f)) 207)).alloc (.cells (va 256 (iv .u8 fun _ => 0)) 207)) := below_new2 _ _ _
  by_cases h : m < 256
  · have h1 : (m : Int) ≤ 256 := by omega
    have hmn : min (m : Int) 256 = (m : Int) := by omega
    have hcl : (Builtin.clear_ #[190] 0 #[.slice (some ⟨w.heap.size, m, none⟩) (256 - m) (256 - m)]).run Tryz.prog ((w.alloc (.cells (va 256 (iv .u8 f)) 207)).alloc (.cells (va 256 (iv .u8 fun _ => 0)) 207)) = .ok (.tuple #[]) (((w.alloc (.cells (va 256 (iv .u8 f)) 207)).alloc (.cells (va 256 (iv .u8 fun _ => 0)) 207)).setCells w.heap.size m (List.replicate (256 - m) (.int .u8 0))) := Lib.run_clear_slice _ _ 5 _ (.int .u8 0) Tryz.underlying190 (fun w => zero_of (by kernel_rfl) w) rfl rfl w.heap.size m (256 - m) (256 - m) (by omega) (fun j hj => by rw [g1.cell]; rw [va_at _ (by omega)]; rfl) (fun j hj => g1.frozen _)
    have G2 : Hid (Blk (((w.alloc (.cells (va 256 (iv .u8 f)) 207)).alloc (.cells (va 256 (iv .u8 fun _ => 0)) 207)).setCells w.heap.size m (List.replicate (256 - m) (.int .u8 0))) w.heap.size 207 (va 256 (iv .u8 (upF f m)))) := blk_up g1 m h
    have r2 : Blk (((w.alloc (.cells (va 256 (iv .u8 f)) 207)).alloc (.cells (va 256 (iv .u8 fun _ => 0)) 207)).setCells w.heap.size m (List.replicate (256 - m) (.int .u8 0))) (w.heap.size + 1) 207 (va 256 (iv .u8 fun _ => 0)) := Blk.cells_other (by omega) _ _ _ r1
    have HB2 : Hid (Below w.heap.size w (((w.alloc (.cells (va 256 (iv .u8 f)) 207)).alloc (.cells (va 256 (iv .u8 fun _ => 0)) 207)).setCells w.heap.size m (List.replicate (256 - m) (.int .u8 0)))) := below_setCells (Nat.le_refl _) _ _ _ hb1
    have R2 : Hid (Blk (((w.alloc (.cells (va 256 (iv .u8 f)) 207)).alloc (.cells (va 256 (iv .u8 fun _ => 0)) 207)).setCells w.heap.size m (List.replicate (256 - m) (.int .u8 0))) (w.heap.size + 1) 207 (va 256 (iv .u8 fun _ => 0))) := r2
    clear g1 r1 hb1 r2
    go_enter Tryz.func111, Tryz.ntmps111
    go_wp2_with (first
      | (refine wpList_load_rowg (by rfl) 207 _ (by rfl) (w.heap.size) (by rfl) 207 (va 256 (iv .u8 (upF f m))) (0, 0) _ (by exact G2.out) Tryz.underlying207 (by rfl) (sizeBk.trans (by rw [va_size])) ?_; simp only [Act.put, sgPHInsCalls])
      | (refine wpList_store_row (by rfl) 207 _ _ (by rfl) (w.heap.size + 1) (va 256 (iv .u8 (upF f m))) (by rfl) (by rfl) 207 (_) (by exact R2.out) (sizeBk.trans (by rw [va_size])) (by simp only [va_size]) (iv_one _ _ _) ?_; simp only [Act.put, sgPHInsCalls])
      | fail)
    try simp only [Exit.inBlock, Exit.then]
    refine bodyPost_ret (results_cell_row Tryz.results111 _ _ (w.heap.size + 1) 207 (va 256 (iv .u8 (upF f m))) (0, 0) _ rfl (R2.out.set _) Tryz.underlying207 rfl (sizeBk.trans (by rw [va_size]))) rfl ?_
    exact ⟨rfl, below_setRow HB2.out (by omega) _⟩
  · obtain ⟨k, rfl⟩ : ∃ k, m = 256 + k := ⟨m - 256, by omega⟩
    have HUP : Hid (va 256 (iv .u8 (upF f (256 + k))) = va 256 (iv .u8 f)) := va_congr fun j hj => by
      unfold iv upF
      rw [if_pos (by omega)]
    have hcl : ∀ W, (Builtin.clear_ #[190] 0 #[.slice (some ⟨w.heap.size, 0, none⟩) 0 0]).run Tryz.prog W = .ok (.tuple #[]) W := fun W => by simp [Builtin.clear_, run_underlying Tryz.underlying190]
    have h1 : (256 : Int) ≤ ((256 + k : Nat) : Int) := by omega
    have hm1 : min ((256 + k : Nat) : Int) 256 = 256 := by omega
    have hm2 : min (256 + (k : Int)) 256 = 256 := by omega
    rw [HUP.out]
    have HB1 : Hid (Below w.heap.size w ((w.alloc (.cells (va 256 (iv .u8 f)) 207)).alloc (.cells (va 256 (iv .u8 fun _ => 0)) 207))) := hb1
    clear hb1
    rcases Nat.eq_zero_or_pos k with rfl | hk
    · go_enter Tryz.func111, Tryz.ntmps111
      go_wp2_with (first
        | (refine wpList_load_rowg (by rfl) 207 _ (by rfl) (w.heap.size) (by rfl) 207 (va 256 (iv .u8 f)) (0, 0) _ (by exact g1) Tryz.underlying207 (by rfl) (sizeBk.trans (by rw [va_size])) ?_; simp only [Act.put, sgPHInsCalls])
        | (refine wpList_store_row (by rfl) 207 _ _ (by rfl) (w.heap.size + 1) (va 256 (iv .u8 f)) (by rfl) (by rfl) 207 (_) (by exact r1) (sizeBk.trans (by rw [va_size])) (by simp only [va_size]) (iv_one _ _ _) ?_; simp only [Act.put, sgPHInsCalls])
        | fail)
      try simp only [Exit.inBlock, Exit.then]
      refine bodyPost_ret (results_cell_row Tryz.results111 _ _ (w.heap.size + 1) 207 (va 256 (iv .u8 f)) (0, 0) _ rfl (r1.set _) Tryz.underlying207 rfl (sizeBk.trans (by rw [va_size]))) rfl ?_
      exact ⟨rfl, below_setRow HB1.out (by omega) _⟩
    · have h2 : (256 : Int) < ((256 + k : Nat) : Int) := by omega
      go_enter Tryz.func111, Tryz.ntmps111
      go_wp2_with (first
        | (refine wpList_load_rowg (by rfl) 207 _ (by rfl) (w.heap.size) (by rfl) 207 (va 256 (iv .u8 f)) (0, 0) _ (by exact g1) Tryz.underlying207 (by rfl) (sizeBk.trans (by rw [va_size])) ?_; simp only [Act.put, sgPHInsCalls])
        | (refine wpList_store_row (by rfl) 207 _ _ (by rfl) (w.heap.size + 1) (va 256 (iv .u8 f)) (by rfl) (by rfl) 207 (_) (by exact r1) (sizeBk.trans (by rw [va_size])) (by simp only [va_size]) (iv_one _ _ _) ?_; simp only [Act.put, sgPHInsCalls])
        | fail)
      try simp only [Exit.inBlock, Exit.then]
      refine bodyPost_ret (results_cell_row Tryz.results111 _ _ (w.heap.size + 1) 207 (va 256 (iv .u8 f)) (0, 0) _ rfl (r1.set _) Tryz.underlying207 rfl (sizeBk.trans (by rw [va_size]))) rfl ?_
      exact ⟨rfl, below_setRow HB1.out (by omega) _⟩
end Go.Proofs.YtimjggkdpmgpjaaGreatDoor

namespace Go.Proofs.YtimjggkdpmgpjaaGreatDoor
open Go Go.RowKit
set_option linter.unusedSimpArgs false
set_option linter.unusedVariables false
theorem hd_now {w : World} {b t : Nat} {y : Hd} (H : Blk w b t (hdC y)) : w.cell? ⟨b, 38, none⟩ = some (.int .i64 y.n) ∧ w.cell? ⟨b, 39, none⟩ = some (.int .i64 y.k) ∧ w.cell? ⟨b, 40, none⟩ = some (.int .i64 y.l) ∧ w.cell? ⟨b, 41, none⟩ = some (.int .i64 y.s) ∧ w.cell? ⟨b, 42, none⟩ = some (.int .u64 ((y.t : Nat) : Int)) :=
  ⟨H.cv (n := 45) (by decide), H.cv (n := 45) (by decide), H.cv (n := 45) (by decide), H.cv (n := 45) (by decide), H.cv (n := 45) (by decide)⟩
set_option maxRecDepth 100000 in
set_option maxHeartbeats 4000000 in
theorem get_any {xv : Value} (n er : Int) (y : Hd) (w : World) (HU : ∀ V, Below w.heap.size w V → Calls Tryz.prog 66 #[xv, .int .i64 n] V fun e w' => e = .returned (.tuple #[.agg (hdC y), .int .i64 er]) ∧ Below V.heap.size V w') : Calls Tryz.prog 34 #[xv, .int .i64 n] w fun e w' => e = .returned (.tuple #[.agg #[.int .i64 y.n, .int .i64 y.k, .int .i64 y.l, .int .i64 y.s, .int .u64 ((y.t : Nat) : Int)], .int .i64 er]) ∧ Below w.heap.size w w' := by
  have hz2 := zero_hd
  have hb1 : Below w.heap.size w (w.alloc (.cells #[.int .i64 0, .int .i64 0, .int .i64 0, .int .i64 0, .int .u64 0] 40)) := below_new1 _ _
  have r1 : Blk (w.alloc (.cells #[.int .i64 0, .int .i64 0, .int .i64 0, .int .i64 0, .int .u64 0] 40)) w.heap.size 40 #[.int .i64 0, .int .i64 0, .int .i64 0, .int .i64 0, .int .u64 0] := Blk.new _ _ _
  have HU1 := HU _ hb1
  clear HU
  go_enter Tryz.func34, Tryz.ntmps34
  go_wp2_with fail
  generalize (w.alloc (.cells #[.int .i64 0, .int .i64 0, .int .i64 0, .int .i64 0, .int .u64 0] 40)) = w1 at *
  refine HU1.mono ?_
  rintro e w2 ⟨rfl, hb2⟩
  have r2 := r1.below hb2 r1.lt
  have hb12 := hb1.trans (hb2.mono hb1.size)
  clear r1 hb1 hb2 HU1
  have q3 : Blk (w2.alloc (.cells (hdC hd00) 140)) w2.heap.size 140 (hdC hd00) := Blk.new _ _ _
  have q3' := q3.set (hdC y)
  obtain ⟨c38, c39, c40, c41, c42⟩ := hd_now q3'
  have hb23 : Below w2.heap.size w2 ((w2.alloc (.cells (hdC hd00) 140)).setRow w2.heap.size (hdC y)) := below_setRow (below_new1 _ _) (Nat.le_refl _) _
  have r3 := r2.below hb23 r2.lt
  have HB3 : Hid (Below w.heap.size w ((w2.alloc (.cells (hdC hd00) 140)).setRow w2.heap.size (hdC y))) := hb12.trans (hb23.mono hb12.size)
  clear r2 hb12 hb23 q3'
  have d0 : ((w2.alloc (.cells (hdC hd00) 140)).setRow w2.heap.size (hdC y)).cell? ⟨w.heap.size, 0, none⟩ = some (.int .i64 0) := (r3.cell 0).trans rfl
  have e0 : ((w2.alloc (.cells (hdC hd00) 140)).setRow w2.heap.size (hdC y)).frozen? ⟨w.heap.size, 0, none⟩ = false := r3.frozen 0
  have d1 : ((w2.alloc (.cells (hdC hd00) 140)).setRow w2.heap.size (hdC y)).cell? ⟨w.heap.size, 1, none⟩ = some (.int .i64 0) := (r3.cell 1).trans rfl
  have e1 : ((w2.alloc (.cells (hdC hd00) 140)).setRow w2.heap.size (hdC y)).frozen? ⟨w.heap.size, 1, none⟩ = false := r3.frozen 1
  have d2 : ((w2.alloc (.cells (hdC hd00) 140)).setRow w2.heap.size (hdC y)).cell? ⟨w.heap.size, 2, none⟩ = some (.int .i64 0) := (r3.cell 2).trans rfl
  have e2 : ((w2.alloc (.cells (hdC hd00) 140)).setRow w2.heap.size (hdC y)).frozen? ⟨w.heap.size, 2, none⟩ = false := r3.frozen 2
  have d3 : ((w2.alloc (.cells (hdC hd00) 140)).setRow w2.heap.size (hdC y)).cell? ⟨w.heap.size, 3, none⟩ = some (.int .i64 0) := (r3.cell 3).trans rfl
  have e3 : ((w2.alloc (.cells (hdC hd00) 140)).setRow w2.heap.size (hdC y)).frozen? ⟨w.heap.size, 3, none⟩ = false := r3.frozen 3
  have d4 : ((w2.alloc (.cells (hdC hd00) 140)).setRow w2.heap.size (hdC y)).cell? ⟨w.heap.size, 4, none⟩ = some (.int .u64 0) := (r3.cell 4).trans rfl
  have e4 : ((w2.alloc (.cells (hdC hd00) 140)).setRow w2.heap.size (hdC y)).frozen? ⟨w.heap.size, 4, none⟩ = false := r3.frozen 4
  have R4 : Hid (Blk (((((((w2.alloc (.cells (hdC hd00) 140)).setRow w2.heap.size (hdC y)).setCell ⟨w.heap.size, 0, none⟩ (.int .i64 y.n)).setCell ⟨w.heap.size, 1, none⟩ (.int .i64 y.k)).setCell ⟨w.heap.size, 2, none⟩ (.int .i64 y.l)).setCell ⟨w.heap.size, 3, none⟩ (.int .i64 y.s)).setCell ⟨w.heap.size, 4, none⟩ (.int .u64 ((y.t : Nat) : Int))) w.heap.size 40 #[.int .i64 y.n, .int .i64 y.k, .int .i64 y.l, .int .i64 y.s, .int .u64 ((y.t : Nat) : Int)]) := (((((r3.put 0 (.int .i64 y.n)).put 1 (.int .i64 y.k)).put 2 (.int .i64 y.l)).put 3 (.int .i64 y.s)).put 4 (.int .u64 ((y.t : Nat) : Int)))
  have HB4 : Hid (Below w.heap.size w (((((((w2.alloc (.cells (hdC hd00) 140)).setRow w2.heap.size (hdC y)).setCell ⟨w.heap.size, 0, none⟩ (.int .i64 y.n)).setCell ⟨w.heap.size, 1, none⟩ (.int .i64 y.k)).setCell ⟨w.heap.size, 2, none⟩ (.int .i64 y.l)).setCell ⟨w.heap.size, 3, none⟩ (.int .i64 y.s)).setCell ⟨w.heap.size, 4, none⟩ (.int .u64 ((y.t : Nat) : Int)))) := (((((HB3.out.setCell (Nat.le_refl _) _).setCell (Nat.le_refl _) _).setCell (Nat.le_refl _) _).setCell (Nat.le_refl _) _).setCell (Nat.le_refl _) _)
  clear r3 HB3
  go_wp2_with (first
    | (refine wpList_store_row (by rfl) 140 _ _ (by rfl) (w2.heap.size) (hdC y) (by rfl) (by rfl) 140 (hdC hd00) (by exact q3) (sizeHd.trans (by rw [hdC_size])) (by simp only [hdC_size]) (hdC_all _) ?_; simp only [Act.put, sgPHInsCalls])
    | fail)
  try simp only [Exit.inBlock, Exit.then]
  refine bodyPost_ret (results_row2 Tryz.results34 _ _ (w.heap.size) 40 #[.int .i64 y.n, .int .i64 y.k, .int .i64 y.l, .int .i64 y.s, .int .u64 ((y.t : Nat) : Int)] (0, 0) _ rfl R4.out Tryz.underlying40 rfl (by kernel_rfl)) rfl ?_
  exact ⟨rfl, HB4.out⟩
end Go.Proofs.YtimjggkdpmgpjaaGreatDoor

namespace Go.Proofs.YtimjggkdpmgpjaaGreatDoor
open Go Go.RowKit
set_option linter.unusedSimpArgs false
set_option linter.unusedVariables false
/-- an inode with another stamp, another size, other links -/
def hdT (y : Hd) (t : Nat) : Hd := ⟨y.o, y.n, y.k, y.l, y.s, t, y.left, y.set⟩
def hdZ (y : Hd) (s : Int) : Hd := ⟨y.o, y.n, y.k, y.l, s, y.t, y.left, y.set⟩
theorem hd_putT {w : World} {b t : Nat} {y : Hd} (H : Blk w b t (hdC y)) (t' : Nat) : Blk (w.setCell ⟨b, 42, none⟩ (.int .u64 ((t' : Nat) : Int))) b t (hdC (hdT y t')) := by
  have := H.put 42 (.int .u64 ((t' : Nat) : Int))
  rw [show (hdC y).setIfInBounds 42 (.int .u64 ((t' : Nat) : Int)) = hdC (hdT y t') from ?_] at this
  · exact this
  · unfold hdC
    rw [va_set]
    refine va_congr fun i hi => ?_
    unfold upd hdF
    by_cases e : i = 42
    · subst e
      rfl
    · rw [if_neg e]
      by_cases h1 : i < 38
      · rw [if_pos h1, if_pos h1]
        rfl
      · rw [if_neg h1, if_neg h1]
        by_cases h2 : i < 43
        · rw [if_pos h2, if_pos h2]
          unfold nwF
          obtain ⟨d, rfl⟩ : ∃ d, i = 38 + d := ⟨i - 38, by omega⟩
          rw [show 38 + d - 38 = d by omega]
          match d, (show d < 5 by omega) with
          | 0, _ => first | rfl | exact absurd rfl e
          | 1, _ => first | rfl | exact absurd rfl e
          | 2, _ => first | rfl | exact absurd rfl e
          | 3, _ => first | rfl | exact absurd rfl e
          | 4, _ => first | rfl | exact absurd rfl e
        · rw [if_neg h2, if_neg h2]
          rfl
theorem hd_putZ {w : World} {b t : Nat} {y : Hd} (H : Blk w b t (hdC y)) (s : Int) : Blk (w.setCell ⟨b, 41, none⟩ (.int .i64 s)) b t (hdC (hdZ y s)) := by
  have := H.put 41 (.int .i64 s)
  rw [show (hdC y).setIfInBounds 41 (.int .i64 s) = hdC (hdZ y s) from ?_] at this
  · exact this
  · unfold hdC
    rw [va_set]
    refine va_congr fun i hi => ?_
    unfold upd hdF
    by_cases e : i = 41
    · subst e
      rfl
    · rw [if_neg e]
      by_cases h1 : i < 38
      · rw [if_pos h1, if_pos h1]
        rfl
      · rw [if_neg h1, if_neg h1]
        by_cases h2 : i < 43
        · rw [if_pos h2, if_pos h2]
          unfold nwF
          obtain ⟨d, rfl⟩ : ∃ d, i = 38 + d := ⟨i - 38, by omega⟩
          rw [show 38 + d - 38 = d by omega]
          match d, (show d < 5 by omega) with
          | 0, _ => first | rfl | exact absurd rfl e
          | 1, _ => first | rfl | exact absurd rfl e
          | 2, _ => first | rfl | exact absurd rfl e
          | 3, _ => first | rfl | exact absurd rfl e
          | 4, _ => first | rfl | exact absurd rfl e
        · rw [if_neg h2, if_neg h2]
          rfl
theorem hd_c42 {w : World} {b t : Nat} {y : Hd} (H : Blk w b t (hdC y)) : w.cell? ⟨b, 42, none⟩ = some (.int .u64 ((y.t : Nat) : Int)) := H.cv (n := 45) (by decide)
theorem hd_c41 {w : World} {b t : Nat} {y : Hd} (H : Blk w b t (hdC y)) : w.cell? ⟨b, 41, none⟩ = some (.int .i64 y.s) := H.cv (n := 45) (by decide)
theorem hd_c40 {w : World} {b t : Nat} {y : Hd} (H : Blk w b t (hdC y)) : w.cell? ⟨b, 40, none⟩ = some (.int .i64 y.l) := H.cv (n := 45) (by decide)
section
variable {w w' : World} {x mf ml mc : Nat} {cp : Option Addr} {top : Int} {H : Nat → Hd} {D : Nat → Nat → Nat → Nat}
theorem IM.other (h : IM w x mf ml mc cp top H D) (b i : Nat) (v : Value) (hb : b ≠ x ∧ b ≠ mf ∧ b ≠ ml ∧ b ≠ mc) : IM (w.setCell ⟨b, i, none⟩ v) x mf ml mc cp top H D :=
  h.keep (Below.heap_setCell _ _ _ _ (Ne.symm hb.1)) (Below.heap_setCell _ _ _ _ (Ne.symm hb.2.1)) (Below.heap_setCell _ _ _ _ (Ne.symm hb.2.2.1)) (Below.heap_setCell _ _ _ _ (Ne.symm hb.2.2.2))
theorem IM.apart (h : IM w x mf ml mc cp top H D) (b : Nat) (hb : w.heap.size ≤ b) : b ≠ x ∧ b ≠ mf ∧ b ≠ ml ∧ b ≠ mc := by
  have := h.lts
  omega
theorem Turns.cell {S : Nat → Prop} (w : World) (b i : Nat) (v : Value) (hS : S b) : Turns S w (w.setCell ⟨b, i, none⟩ v) := by
  have t : Below b w (w.setCell ⟨b, i, none⟩ v) := (Below.refl b w).setCell (p := ⟨b, i, none⟩) (Nat.le_refl _) _
  exact ⟨t.os, t.tape, t.output, t.size, fun k hk hn => Below.heap_setCell _ _ _ _ (fun e => hn (by rw [e]; exact hS))⟩
/-- what an inode is -/
theorem IM.get (h : IM w x mf ml mc cp top H D) (n : Nat) (h1 : 1 ≤ n) (h2 : n ≤ 4096) (hk : (H n).k ≠ 0) : Calls Tryz.prog 34 #[.pointer (some ⟨x, 0, none⟩), .int .i64 (n : Int)] w fun e w' => e = .returned (.tuple #[.agg #[.int .i64 (H n).n, .int .i64 (H n).k, .int .i64 (H n).l, .int .i64 (H n).s, .int .u64 (((H n).t : Nat) : Int)], .int .i64 0]) ∧ Below w.heap.size w w' := get_any (n : Int) 0 (H n) w fun V hV => (h.below hV).used n h1 h2 hk
end
end Go.Proofs.YtimjggkdpmgpjaaGreatDoor
