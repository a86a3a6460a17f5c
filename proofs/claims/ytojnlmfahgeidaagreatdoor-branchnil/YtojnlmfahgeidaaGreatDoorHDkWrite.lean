/- A block of a quiet disk written: the program's contract of Write. -/
import Derived.Test.YtojnlmfahgeidaaGreatDoorHInsMem
import Derived.Test.YtojnlmfahgeidaaGreatDoorHMathCount
import Derived.Deep.DeepCutAuto
import Derived.Deep.Cut
import Derived.Handy
import Derived.Test.YtojnlmfahgeidaaGreatDoorHBrNil
import Derived.Test.YtojnlmfahgeidaaGreatDoorHBlkGroups
import Derived.BigQuiet
import Derived.Deep.QuietTactic

namespace Go.Proofs.YtojnlmfahgeidaaGreatDoor
theorem sgLHDkWrite : (∀ (α : Type) (a : α) (l r : List α), (a :: l) ++ r = a :: (l ++ r)) ∧ (∀ (α : Type) (l : List α), [] ++ l = l) ∧ (∀ (α : Type) (l : List α), l ++ [] = l) ∧ (∀ (α β : Type) (f : α → Option β) (a : α) (l : List α), (a :: l).filterMap f = match f a with | none => l.filterMap f | some b => b :: l.filterMap f) ∧ (∀ (α β : Type) (f : α → Option β), [].filterMap f = []) ∧ (∀ (α : Type) (l : List α) (i : Nat), l.toArray[i]? = l[i]?) ∧ (∀ (α : Type) (a : α) (l : List α), (a :: l)[0]? = some a) ∧ (∀ (α : Type) (a : α) (l : List α) (i : Nat), (a :: l)[i + 1]? = l[i]?) :=
  ⟨fun _ _ _ _ => List.cons_append, fun _ _ => List.nil_append _, fun _ _ => List.append_nil _, fun _ _ _ _ _ => List.filterMap_cons, fun _ _ _ => List.filterMap_nil, fun _ _ _ => List.getElem?_toArray, fun _ _ _ => List.getElem?_cons_zero, fun _ _ _ _ => List.getElem?_cons_succ⟩
theorem sgPHDkWrite : (∀ (α : Type) (l : List α) (i : Nat) (a : α), l.toArray.setIfInBounds i a = (l.set i a).toArray) ∧ (∀ (α : Type) (a b : α) (l : List α), (a :: l).set 0 b = b :: l) ∧ (∀ (α : Type) (a b : α) (l : List α) (i : Nat), (a :: l).set (i + 1) b = a :: l.set i b) :=
  ⟨fun _ _ _ _ => List.setIfInBounds_toArray _ _ _, fun _ _ _ _ => List.set_cons_zero, fun _ _ _ _ _ => List.set_cons_succ⟩
end Go.Proofs.YtojnlmfahgeidaaGreatDoor
namespace Go.Proofs.YtojnlmfahgeidaaGreatDoor
open Go Go.RowKit
set_option linter.unusedSimpArgs false
set_option linter.unusedVariables false
section
variable {w w' : World} {x mf ml mc : Nat} {cp : Option Addr} {top : Int} {H : Nat → Hd} {D : Nat → Nat → Nat → Nat}
theorem hd_c38 {w : World} {b t : Nat} {y : Hd} (H : Blk w b t (hdC y)) : w.cell? ⟨b, 38, none⟩ = some (.int .i64 y.n) := H.cv (n := 45) (by decide)
theorem hd_c43 {w : World} {b t : Nat} {y : Hd} (H : Blk w b t (hdC y)) : w.cell? ⟨b, 43, none⟩ = some (.int .i64 y.left) := H.cv (n := 45) (by decide)
set_option maxRecDepth 100000 in
set_option maxHeartbeats 8000000 in
theorem IM.leafOf (h : IM w x mf ml mc cp top H D) (n p : Nat) (y : Hd) (hy : y.n = (n : Int)) (hl : y.left ≤ (p : Int)) : Calls Tryz.prog 170 #[.pointer (some ⟨x, 0, none⟩), .agg (hdC y), .int .i64 (p : Int)] w fun e w' => e = .returned (.tuple #[.agg (va 256 (iv .u8 (D n p))), .int .i64 0]) ∧ Below w.heap.size w w' := by
  have hz := zero_bk
  obtain ⟨M, m1, m2⟩ := h.lm
  obtain ⟨b, hlk⟩ : ∃ b : Bool, ∀ W, MapFn pkV bvV W ml M → (Instr.lookup 215 (.map (some ml)) (.agg #[.int .i64 (n : Int), .int .i64 0, .int .i64 (p : Int)]) true).run Tryz.prog W = .ok (.tuple #[.agg (va 256 (iv .u8 (D n p))), .bool b]) W := by
    refine ⟨(M ((n : Int), 0, (p : Int))).isSome, fun W hW => ?_⟩
    have := hW.look Tryz.underlying215 pk_key (z := bvV fun _ => 0) (fun w => zero_bk w) ((n : Int), 0, (p : Int)) true
    have hd := m2 n p
    have e : ((M ((n : Int), 0, (p : Int))).map bvV).getD (bvV fun _ => 0) = .agg (va 256 (iv .u8 (D n p))) := by
      cases hM : M ((n : Int), 0, (p : Int)) with
      | some f =>
        rw [hM] at hd
        exact congrArg Value.agg (va_congr fun j hj => by
          show Value.int .u8 ((f j : Nat) : Int) = Value.int .u8 ((D n p j : Nat) : Int)
          rw [← hd j hj])
      | none =>
        rw [hM] at hd
        exact congrArg Value.agg (va_congr fun j hj => by
          show Value.int .u8 ((0 : Nat) : Int) = Value.int .u8 ((D n p j : Nat) : Int)
          rw [← hd j hj])
    rw [e] at this
    exact this
  have HLK : Hid (∀ W, MapFn pkV bvV W ml M → (Instr.lookup 215 (.map (some ml)) (.agg #[.int .i64 (n : Int), .int .i64 0, .int .i64 (p : Int)]) true).run Tryz.prog W = .ok (.tuple #[.agg (va 256 (iv .u8 (D n p))), .bool b]) W) := hlk
  have hb1 : Below w.heap.size w ((w.alloc (.cells (hdC y) 222)).alloc (.cells (va 256 (iv .u8 fun _ => 0)) 237)) := below_new2 _ _ _
  have y1 : Blk ((w.alloc (.cells (hdC y) 222)).alloc (.cells (va 256 (iv .u8 fun _ => 0)) 237)) w.heap.size 222 (hdC y) := (Blk.new _ _ _).alloc _
  have r1 : Blk ((w.alloc (.cells (hdC y) 222)).alloc (.cells (va 256 (iv .u8 fun _ => 0)) 237)) (w.heap.size + 1) 237 (va 256 (iv .u8 fun _ => 0)) := Blk.new1 _ _ _ _
  have x1 := h.ix.below hb1 h.ix.lt
  have l1 := m1.below hb1 m1.lt
  have HLA : Hid (∀ w : World, Calls Tryz.prog 157 #[.int .i64 (n : Int), .int .i64 (p : Int)] w fun e w' => e = .returned (.agg #[.int .i64 (n : Int), .int .i64 0, .int .i64 (p : Int)]) ∧ Below w.heap.size w w') := leafAt_any (n : Int) (p : Int)
  have HY : Hid (y.n = (n : Int) ∧ y.left ≤ (p : Int)) := ⟨hy, hl⟩
  clear h m1 m2 hlk hy hl
  go_enter Tryz.func170, Tryz.ntmps170
  go_wp2_with fail
  generalize ((w.alloc (.cells (hdC y) 222)).alloc (.cells (va 256 (iv .u8 fun _ => 0)) 237)) = w1 at *
  go_cut [8, 9] (fun v8 v9 wx => v9 = .bool b ∧ ∃ bx, v8 = .pointer (some ⟨bx, 0, none⟩) ∧ w1.heap.size ≤ bx ∧ Blk wx bx 237 (va 256 (iv .u8 (D n p))) ∧ Blk wx w.heap.size 222 (hdC y) ∧ Blk wx (w.heap.size + 1) 237 (va 256 (iv .u8 fun _ => 0)) ∧ Below w1.heap.size w1 wx)
  case first =>
    have hS0 : Blk w1.drew x 218 (ixC cp 0 rf0 0 top mf ml mc) ∧ Blk w1.drew w.heap.size 222 (hdC y) ∧ MapFn pkV bvV w1.drew ml M ∧ Blk w1.drew (w.heap.size + 1) 237 (va 256 (iv .u8 fun _ => 0)) := ⟨x1, y1, l1, r1⟩
    have hwd : Below w1.heap.size w1 w1.drew := (Below.refl _ _).drew
    have HWS : Hid (w1.drew.heap.size = w1.heap.size) := rfl
    refine wp_region_plan (fun W => Blk W x 218 (ixC cp 0 rf0 0 top mf ml mc) ∧ Blk W w.heap.size 222 (hdC y) ∧ MapFn pkV bvV W ml M ∧ Blk W (w.heap.size + 1) 237 (va 256 (iv .u8 fun _ => 0))) (.yield [0, 7] 1 (.yield [] 2 (.yield [] 3 (.yield [] 4 (.yield [] 5 (.yield [] 6 (.fork 8 13 (.yield [] 9 (.force [10, 11, 12] 13 (.force [] 14 (.fin [15])))) (.force [] 8 (.yield [] 9 (.force [10, 12] 11 (.force [] 14 (.fin [15])))))))))))) (by kernel_rfl) (by kernel_rfl) hS0 (plan_yield ?_)
    generalize w1.drew = wd at *
    simp only [sgLHDkWrite]
    go_wp2_with fail
    refine ⟨rfl, _, .pointer (some ⟨x, 0, none⟩), rfl, Or.inl ⟨by rfl, fun W hW => by go_simp⟩, plan_yield ?_⟩
    simp only [Act.put, sgPHDkWrite]
    simp only [sgLHDkWrite]
    go_wp2_with fail
    refine ⟨rfl, _, .pointer (some ⟨x, 38, none⟩), rfl, Or.inl ⟨by rfl, fun W hW => by go_simp⟩, plan_yield ?_⟩
    simp only [Act.put, sgPHDkWrite]
    simp only [sgLHDkWrite]
    go_wp2_with fail
    refine ⟨rfl, _, .map (some ml), rfl, Or.inl ⟨by rfl, fun W hW => by have hW1 := ix_c38 hW.1; go_simp⟩, plan_yield ?_⟩
    simp only [Act.put, sgPHDkWrite]
    simp only [sgLHDkWrite]
    go_wp2_with fail
    refine ⟨rfl, _, .pointer (some ⟨w.heap.size, 38, none⟩), rfl, Or.inl ⟨by rfl, fun W hW => by go_simp⟩, plan_yield ?_⟩
    simp only [Act.put, sgPHDkWrite]
    simp only [sgLHDkWrite]
    go_wp2_with fail
    refine ⟨rfl, _, .pointer (some ⟨w.heap.size, 38, none⟩), rfl, Or.inl ⟨by rfl, fun W hW => by go_simp⟩, plan_yield ?_⟩
    simp only [Act.put, sgPHDkWrite]
    simp only [sgLHDkWrite]
    go_wp2_with fail
    refine ⟨rfl, _, .int .i64 (n : Int), rfl, Or.inl ⟨by rfl, fun W hW => by have hW1 := (hd_c38 hW.2.1).trans (by rw [HY.out.1]); go_simp⟩, plan_fork ?_ ?_⟩
    simp only [Act.put, sgPHDkWrite]
    · simp only [sgLHDkWrite]
      go_wp2_with fail
      refine (HLA.out _).mono ?_
      rintro e w2 ⟨rfl, hb2⟩
      have S2 : Blk w2 x 218 (ixC cp 0 rf0 0 top mf ml mc) ∧ Blk w2 w.heap.size 222 (hdC y) ∧ MapFn pkV bvV w2 ml M ∧ Blk w2 (w.heap.size + 1) 237 (va 256 (iv .u8 fun _ => 0)) := ⟨hS0.1.below hb2 hS0.1.lt, hS0.2.1.below hb2 hS0.2.1.lt, hS0.2.2.1.below hb2 hS0.2.2.1.lt, hS0.2.2.2.below hb2 hS0.2.2.2.lt⟩
      go_wp2_with fail
      refine ⟨rfl, S2, plan_yield ?_⟩
      simp only [sgLHDkWrite]
      go_wp2_with fail
      refine ⟨rfl, _, .tuple #[.agg (va 256 (iv .u8 (D n p))), .bool b], rfl, Or.inl ⟨by rfl, fun W hW => by have hW1 := HLK.out W hW.2.2.1; go_simp⟩, plan_force ?_⟩
      simp only [Act.put, sgPHDkWrite]
      simp only [sgLHDkWrite]
      have q3 := Blk.new w2 237 (va 256 (iv .u8 fun _ => 0))
      have ha3 : Below w2.heap.size w2 (w2.alloc (.cells (va 256 (iv .u8 fun _ => 0)) 237)) := below_new1 _ _
      have S3 : Blk (w2.alloc (.cells (va 256 (iv .u8 fun _ => 0)) 237)) x 218 (ixC cp 0 rf0 0 top mf ml mc) ∧ Blk (w2.alloc (.cells (va 256 (iv .u8 fun _ => 0)) 237)) w.heap.size 222 (hdC y) ∧ MapFn pkV bvV (w2.alloc (.cells (va 256 (iv .u8 fun _ => 0)) 237)) ml M ∧ Blk (w2.alloc (.cells (va 256 (iv .u8 fun _ => 0)) 237)) (w.heap.size + 1) 237 (va 256 (iv .u8 fun _ => 0)) := ⟨S2.1.below ha3 S2.1.lt, S2.2.1.below ha3 S2.2.1.lt, S2.2.2.1.below ha3 S2.2.2.1.lt, S2.2.2.2.below ha3 S2.2.2.2.lt⟩
      go_wp2_with fail
      refine ⟨rfl, S3, plan_force ?_⟩
      simp only [sgLHDkWrite]
      (refine wpList_store_row (by rfl) 237 _ _ (by rfl) (w2.heap.size) (va 256 (iv .u8 (D n p))) (by rfl) (by rfl) 237 (va 256 (iv .u8 fun _ => 0)) (by exact q3) (sizeBk.trans (by rw [va_size])) (by simp only [va_size]) (iv_one _ _ _) ?_; simp only [Act.put, sgPHDkWrite])
      have hb4 : Below w2.heap.size w2 ((w2.alloc (.cells (va 256 (iv .u8 fun _ => 0)) 237)).setRow w2.heap.size (va 256 (iv .u8 (D n p)))) := below_setRow (below_new1 _ _) (Nat.le_refl _) _
      have S4 : Blk ((w2.alloc (.cells (va 256 (iv .u8 fun _ => 0)) 237)).setRow w2.heap.size (va 256 (iv .u8 (D n p)))) x 218 (ixC cp 0 rf0 0 top mf ml mc) ∧ Blk ((w2.alloc (.cells (va 256 (iv .u8 fun _ => 0)) 237)).setRow w2.heap.size (va 256 (iv .u8 (D n p)))) w.heap.size 222 (hdC y) ∧ MapFn pkV bvV ((w2.alloc (.cells (va 256 (iv .u8 fun _ => 0)) 237)).setRow w2.heap.size (va 256 (iv .u8 (D n p)))) ml M ∧ Blk ((w2.alloc (.cells (va 256 (iv .u8 fun _ => 0)) 237)).setRow w2.heap.size (va 256 (iv .u8 (D n p)))) (w.heap.size + 1) 237 (va 256 (iv .u8 fun _ => 0)) := ⟨S2.1.below hb4 S2.1.lt, S2.2.1.below hb4 S2.2.1.lt, S2.2.2.1.below hb4 S2.2.2.1.lt, S2.2.2.2.below hb4 S2.2.2.2.lt⟩
      go_wp2_with fail
      refine ⟨rfl, S4, plan_fin ?_⟩
      simp only [sgLHDkWrite]
      go_wp2_with fail
      refine ⟨rfl, ?_⟩
      go_wp2_with fail
      go_meet
      have hws := HWS.out
      have hbx := hwd.trans (hb2.mono (B' := w1.heap.size) (by omega))
      exact ⟨rfl, w2.heap.size, rfl, hbx.size, q3.set _, S4.2.1, S4.2.2.2, hbx.trans (hb4.mono hbx.size)⟩
    · simp only [sgLHDkWrite]
      have q2 := Blk.new wd 237 (va 256 (iv .u8 fun _ => 0))
      have ha2 : Below wd.heap.size wd (wd.alloc (.cells (va 256 (iv .u8 fun _ => 0)) 237)) := below_new1 _ _
      have S2 : Blk (wd.alloc (.cells (va 256 (iv .u8 fun _ => 0)) 237)) x 218 (ixC cp 0 rf0 0 top mf ml mc) ∧ Blk (wd.alloc (.cells (va 256 (iv .u8 fun _ => 0)) 237)) w.heap.size 222 (hdC y) ∧ MapFn pkV bvV (wd.alloc (.cells (va 256 (iv .u8 fun _ => 0)) 237)) ml M ∧ Blk (wd.alloc (.cells (va 256 (iv .u8 fun _ => 0)) 237)) (w.heap.size + 1) 237 (va 256 (iv .u8 fun _ => 0)) := ⟨hS0.1.below ha2 hS0.1.lt, hS0.2.1.below ha2 hS0.2.1.lt, hS0.2.2.1.below ha2 hS0.2.2.1.lt, hS0.2.2.2.below ha2 hS0.2.2.2.lt⟩
      go_wp2_with fail
      refine ⟨rfl, S2, plan_force ?_⟩
      simp only [sgLHDkWrite]
      go_wp2_with fail
      refine (HLA.out _).mono ?_
      rintro e w3 ⟨rfl, hb3⟩
      have S3 : Blk w3 x 218 (ixC cp 0 rf0 0 top mf ml mc) ∧ Blk w3 w.heap.size 222 (hdC y) ∧ MapFn pkV bvV w3 ml M ∧ Blk w3 (w.heap.size + 1) 237 (va 256 (iv .u8 fun _ => 0)) := ⟨S2.1.below hb3 S2.1.lt, S2.2.1.below hb3 S2.2.1.lt, S2.2.2.1.below hb3 S2.2.2.1.lt, S2.2.2.2.below hb3 S2.2.2.2.lt⟩
      have q3 := q2.below hb3 q2.lt
      go_wp2_with fail
      refine ⟨rfl, S3, plan_yield ?_⟩
      simp only [sgLHDkWrite]
      go_wp2_with fail
      refine ⟨rfl, _, .tuple #[.agg (va 256 (iv .u8 (D n p))), .bool b], rfl, Or.inl ⟨by rfl, fun W hW => by have hW1 := HLK.out W hW.2.2.1; go_simp⟩, plan_force ?_⟩
      simp only [Act.put, sgPHDkWrite]
      simp only [sgLHDkWrite]
      go_wp2_with fail
      refine ⟨rfl, S3, plan_force ?_⟩
      simp only [sgLHDkWrite]
      (refine wpList_store_row (by rfl) 237 _ _ (by rfl) (wd.heap.size) (va 256 (iv .u8 (D n p))) (by rfl) (by rfl) 237 (va 256 (iv .u8 fun _ => 0)) (by exact q3) (sizeBk.trans (by rw [va_size])) (by simp only [va_size]) (iv_one _ _ _) ?_; simp only [Act.put, sgPHDkWrite])
      have hb4 : Below wd.heap.size wd (w3.setRow wd.heap.size (va 256 (iv .u8 (D n p)))) := below_setRow (ha2.trans (hb3.mono ha2.size)) (Nat.le_refl _) _
      have S4 : Blk (w3.setRow wd.heap.size (va 256 (iv .u8 (D n p)))) x 218 (ixC cp 0 rf0 0 top mf ml mc) ∧ Blk (w3.setRow wd.heap.size (va 256 (iv .u8 (D n p)))) w.heap.size 222 (hdC y) ∧ MapFn pkV bvV (w3.setRow wd.heap.size (va 256 (iv .u8 (D n p)))) ml M ∧ Blk (w3.setRow wd.heap.size (va 256 (iv .u8 (D n p)))) (w.heap.size + 1) 237 (va 256 (iv .u8 fun _ => 0)) := ⟨hS0.1.below hb4 hS0.1.lt, hS0.2.1.below hb4 hS0.2.1.lt, hS0.2.2.1.below hb4 hS0.2.2.1.lt, hS0.2.2.2.below hb4 hS0.2.2.2.lt⟩
      go_wp2_with fail
      refine ⟨rfl, S4, plan_fin ?_⟩
      simp only [sgLHDkWrite]
      go_wp2_with fail
      refine ⟨rfl, ?_⟩
      go_wp2_with fail
      go_meet
      have hws := HWS.out
      exact ⟨rfl, wd.heap.size, rfl, by omega, q3.set _, S4.2.1, S4.2.2.2, hwd.trans (hb4.mono (by omega))⟩
  case rest =>
    obtain ⟨rfl, bx, rfl, hge, q5, y5, r5, hb15⟩ := hcut
    have c43 := hd_c43 y5
    have hpl : y.left ≤ (p : Int) := HY.out.2
    have HB5 : Hid (Below w.heap.size w wc) := hb1.trans (hb15.mono hb1.size)
    clear hb15 hb1 x1 l1 y1 r1 HLA HLK
    generalize wc = w5 at *
    generalize y.left = lf at *
    cases b
    all_goals
      go_wp2_with (first
        | (refine wpList_load_rowg (by rfl) 237 _ (by rfl) (bx) (by rfl) 237 (va 256 (iv .u8 (D n p))) (0, 0) _ (by exact q5) Tryz.underlying237 (by rfl) (sizeBk.trans (by rw [va_size])) ?_; simp only [Act.put, sgPHDkWrite])
        | (refine wpList_store_row (by rfl) 237 _ _ (by rfl) (w.heap.size + 1) (va 256 (iv .u8 (D n p))) (by rfl) (by rfl) 237 (_) (by exact r5) (sizeBk.trans (by rw [va_size])) (by simp only [va_size]) (iv_one _ _ _) ?_; simp only [Act.put, sgPHDkWrite])
        | fail)
      try simp only [Exit.inBlock, Exit.then]
      refine bodyPost_ret (results_row2 Tryz.results170 _ _ (w.heap.size + 1) 237 (va 256 (iv .u8 (D n p))) (0, 0) _ rfl (r5.set _) Tryz.underlying237 rfl (sizeBk.trans (by rw [va_size]))) rfl ?_
      exact ⟨rfl, below_setRow HB5.out (by omega) _⟩
end
end Go.Proofs.YtojnlmfahgeidaaGreatDoor

namespace Go.Proofs.YtojnlmfahgeidaaGreatDoor
open Go Go.RowKit
set_option linter.unusedSimpArgs false
set_option linter.unusedVariables false

section
variable {w : World} {B g N k lg : Nat} {F : Nat → Nat} {q : QD}
theorem DiskQ.c (h : DiskQ w B g N F k lg q) (i : Nat) : w.cell? ⟨g, i, none⟩ = (dcells q N k)[i]? := h.cells.cell i
end
end Go.Proofs.YtojnlmfahgeidaaGreatDoor

namespace Go.Proofs.YtojnlmfahgeidaaGreatDoor
open Go Go.RowKit
set_option linter.unusedSimpArgs false
set_option linter.unusedVariables false

section
variable {B g N k lg : Nat} {F : Nat → Nat} {q : QD}
theorem DiskQ.same {w : World} {F' : Nat → Nat} (h : DiskQ w B g N F k lg q) (e : va (N * 256) (iv .u8 F') = va (N * 256) (iv .u8 F)) : DiskQ w B g N F' k lg q := h.renow (by rw [e]; exact h.now) fun _ _ => rfl
end
end Go.Proofs.YtojnlmfahgeidaaGreatDoor

namespace Go.Proofs.YtojnlmfahgeidaaGreatDoor
open Go Go.RowKit
set_option linter.unusedSimpArgs false
set_option linter.unusedVariables false

/-- no plan, these cuts, power on or off -/
structure QuietC (cv : Value) (d0 : Bool) (q : QD) (k : Nat) : Prop where
  dd : q.dd = d0
  pl : q.pl = .map none
  cu : q.cu = cv
  ev0 : 0 ≤ q.ev
  ev1 : q.ev ≤ (k : Int)
  ones : ∀ u ∈ q.xs, u.oneCell' = true
/-- no plan, no cuts, power on -/
abbrev Quiet : QD → Nat → Prop := QuietC (.slice none 0 0) false
theorem QuietC.mono {cv : Value} {d0 : Bool} {q : QD} {k k' : Nat} (h : QuietC cv d0 q k) (hk : k ≤ k') : QuietC cv d0 q k' := ⟨h.dd, h.pl, h.cu, h.ev0, by have := h.ev1; omega, h.ones⟩
section
variable {B g N k lg : Nat} {F : Nat → Nat} {q : QD}
end
end Go.Proofs.YtojnlmfahgeidaaGreatDoor
