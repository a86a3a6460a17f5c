/- The statement's move. -/
import Derived.Test.YtcmihdjbeihjbaaGreatHFlMovedR
import Derived.Test.YtcmihdjbeihjbaaGreatHFlCopied
import Derived.Test.YtcmihdjbeihjbaaGreatHIoKit
import Derived.Deep.DeepCutAuto
import Derived.Deep.Cut
import Derived.Handy

namespace Go.Proofs.YtcmihdjbeihjbaaGreat
open Go Go.RowKit
set_option linter.unusedSimpArgs false
set_option linter.unusedVariables false
def k6N (kd : Int) : Nat := ((kd.tmod 6 + 6).tmod 6).toNat
theorem k6_is (kd : Int) : (kd.tmod 6 + 6).tmod 6 = (k6N kd : Int) ∧ k6N kd < 6 := by
  unfold k6N
  have h1 := Int.tmod_lt_of_pos kd (show (0 : Int) < 6 by decide)
  have h2 := Int.lt_tmod_of_pos kd (show (0 : Int) < 6 by decide)
  have h3 : (kd.tmod 6 + 6).tmod 6 = (kd.tmod 6 + 6) % 6 := Int.tmod_eq_emod_of_nonneg (by omega)
  rw [h3]
  omega
/-- what move answers -/
def MvE (w V : World) (x mf ml mc : Nat) (cp : Option Addr) (e : Ending) (w' : World) : Prop := ∃ (s1 : ByteArray) (t1 : Nat) (s2 : ByteArray) (t2 : Nat), e = .returned (.tuple #[.agg (mdC s1 t1), .agg (mdC s2 t2), .bool true]) ∧ PI w w' x mf ml mc cp s1 t1 s2 t2 ∧ Turns (fun z => z = ml ∨ z = mf) V w'
set_option maxRecDepth 100000 in
set_option maxHeartbeats 8000000 in
theorem move_0 {w V : World} {x mf ml mc : Nat} {cp : Option Addr} {sm sk : ByteArray} {tm tk : Nat} (h : PI w V x mf ml mc cp sm tm sk tk) (X : Mv) (hX : X.ok) (hxs : X.s.size ≤ 140737488355328) (kd : Nat) (hk : k6N X.kd = kd) (hv : kd = 0) : Calls Tryz.prog 8 #[.pointer (some ⟨x, 0, none⟩), .int .i64 2, .int .i64 3, .agg (mdC sm tm), .agg (mdC sk tk), .agg (mvC X)] V fun e w' => MvE w V x mf ml mc cp e w' := by
  have hzm : ∀ w, (zeroValue 32).run Tryz.prog w = .ok (.agg #[.string ⟨#[]⟩, .int .u64 0]) w := zero_md
  obtain ⟨hx0, hxa, hxm, hxp, _, hxt⟩ := hX
  have hsz := h.small
  have hl := h.lts
  have hws := h.bel.size
  obtain ⟨hk1, hk2⟩ := k6_is X.kd
  rw [hk, hv] at hk1 hk2
  have hk1 : (X.kd.tmod 6 + 6).tmod 6 = 0 := hk1
  have b1 := Int.tmod_lt_of_pos X.kd (show (0 : Int) < 6 by decide)
  have b2 := Int.lt_tmod_of_pos X.kd (show (0 : Int) < 6 by decide)
  obtain ⟨Y, hY⟩ : ∃ Y : Mv, Y = ⟨0, X.a, X.m, X.p, X.s, X.t⟩ := ⟨_, rfl⟩
  have bA : Blk (((((V.alloc (.cells (mdC sm tm) 32)).alloc (.cells (mdC sk tk) 32)).alloc (.cells (mvC X) 35)).alloc (.cells #[.string ⟨#[]⟩, .int .u64 0] 32)).alloc (.cells #[.string ⟨#[]⟩, .int .u64 0] 32)) (V.heap.size + 1 + 1) 35 (mvC X) := ((Blk.new2 _ _ _ _ _).alloc _).alloc _
  have c0 : (((((V.alloc (.cells (mdC sm tm) 32)).alloc (.cells (mdC sk tk) 32)).alloc (.cells (mvC X) 35)).alloc (.cells #[.string ⟨#[]⟩, .int .u64 0] 32)).alloc (.cells #[.string ⟨#[]⟩, .int .u64 0] 32)).cell? ⟨V.heap.size + 1 + 1, 0, none⟩ = some (.int .i64 X.kd) := (bA.cell 0).trans rfl
  have f0 : (((((V.alloc (.cells (mdC sm tm) 32)).alloc (.cells (mdC sk tk) 32)).alloc (.cells (mvC X) 35)).alloc (.cells #[.string ⟨#[]⟩, .int .u64 0] 32)).alloc (.cells #[.string ⟨#[]⟩, .int .u64 0] 32)).frozen? ⟨V.heap.size + 1 + 1, 0, none⟩ = false := bA.frozen 0
  have K0 : Hid (MQ w V ((((((V.alloc (.cells (mdC sm tm) 32)).alloc (.cells (mdC sk tk) 32)).alloc (.cells (mvC X) 35)).alloc (.cells #[.string ⟨#[]⟩, .int .u64 0] 32)).alloc (.cells #[.string ⟨#[]⟩, .int .u64 0] 32)).setCell ⟨V.heap.size + 1 + 1, 0, none⟩ (.int .i64 0)) x mf ml mc cp (sm, tm) (sk, tk) (sm, tm) (sk, tk) Y (⟨#[]⟩, 0) (⟨#[]⟩, 0)) := by
    have s3 : (((V.alloc (.cells (mdC sm tm) 32)).alloc (.cells (mdC sk tk) 32)).alloc (.cells (mvC X) 35)).heap.size = V.heap.size + 1 + 1 + 1 := by simp
    have s4 : ((((V.alloc (.cells (mdC sm tm) 32)).alloc (.cells (mdC sk tk) 32)).alloc (.cells (mvC X) 35)).alloc (.cells #[.string ⟨#[]⟩, .int .u64 0] 32)).heap.size = V.heap.size + 1 + 1 + 1 + 1 := by simp
    have hb5 : Below V.heap.size V (((((V.alloc (.cells (mdC sm tm) 32)).alloc (.cells (mdC sk tk) 32)).alloc (.cells (mvC X) 35)).alloc (.cells #[.string ⟨#[]⟩, .int .u64 0] 32)).alloc (.cells #[.string ⟨#[]⟩, .int .u64 0] 32)) := ((below_new3 _ _ _ _).alloc (by rw [s3]; omega) _).alloc (by rw [s4]; omega) _
    have hb6 : Below V.heap.size V ((((((V.alloc (.cells (mdC sm tm) 32)).alloc (.cells (mdC sk tk) 32)).alloc (.cells (mvC X) 35)).alloc (.cells #[.string ⟨#[]⟩, .int .u64 0] 32)).alloc (.cells #[.string ⟨#[]⟩, .int .u64 0] 32)).setCell ⟨V.heap.size + 1 + 1, 0, none⟩ (.int .i64 0)) := hb5.setCell (by show V.heap.size ≤ V.heap.size + 1 + 1; omega) _
    have e3 : Blk (((((V.alloc (.cells (mdC sm tm) 32)).alloc (.cells (mdC sk tk) 32)).alloc (.cells (mvC X) 35)).alloc (.cells #[.string ⟨#[]⟩, .int .u64 0] 32)).alloc (.cells #[.string ⟨#[]⟩, .int .u64 0] 32)) (V.heap.size + 1 + 1 + 1) 32 (mdC ⟨#[]⟩ 0) := by
      have := Blk.new (((V.alloc (.cells (mdC sm tm) 32)).alloc (.cells (mdC sk tk) 32)).alloc (.cells (mvC X) 35)) 32 (mdC ⟨#[]⟩ 0)
      rw [s3] at this
      exact this.alloc _
    have e4 : Blk (((((V.alloc (.cells (mdC sm tm) 32)).alloc (.cells (mdC sk tk) 32)).alloc (.cells (mvC X) 35)).alloc (.cells #[.string ⟨#[]⟩, .int .u64 0] 32)).alloc (.cells #[.string ⟨#[]⟩, .int .u64 0] 32)) (V.heap.size + 1 + 1 + 1 + 1) 32 (mdC ⟨#[]⟩ 0) := by
      have := Blk.new ((((V.alloc (.cells (mdC sm tm) 32)).alloc (.cells (mdC sk tk) 32)).alloc (.cells (mvC X) 35)).alloc (.cells #[.string ⟨#[]⟩, .int .u64 0] 32)) 32 (mdC ⟨#[]⟩ 0)
      rw [s4] at this
      exact this
    have eY : Blk ((((((V.alloc (.cells (mdC sm tm) 32)).alloc (.cells (mdC sk tk) 32)).alloc (.cells (mvC X) 35)).alloc (.cells #[.string ⟨#[]⟩, .int .u64 0] 32)).alloc (.cells #[.string ⟨#[]⟩, .int .u64 0] 32)).setCell ⟨V.heap.size + 1 + 1, 0, none⟩ (.int .i64 0)) (V.heap.size + 1 + 1) 35 (mvC Y) := by
      have := bA.put 0 (.int .i64 0)
      rw [hY]
      exact this
    have e0 : Blk (((((V.alloc (.cells (mdC sm tm) 32)).alloc (.cells (mdC sk tk) 32)).alloc (.cells (mvC X) 35)).alloc (.cells #[.string ⟨#[]⟩, .int .u64 0] 32)).alloc (.cells #[.string ⟨#[]⟩, .int .u64 0] 32)) (V.heap.size) 32 (mdC sm tm) := (((((Blk.new V 32 (mdC sm tm)).alloc _).alloc _).alloc _).alloc _)
    have e1 : Blk (((((V.alloc (.cells (mdC sm tm) 32)).alloc (.cells (mdC sk tk) 32)).alloc (.cells (mvC X) 35)).alloc (.cells #[.string ⟨#[]⟩, .int .u64 0] 32)).alloc (.cells #[.string ⟨#[]⟩, .int .u64 0] 32)) (V.heap.size + 1) 32 (mdC sk tk) := ((((Blk.new1 V _ 32 (mdC sk tk)).alloc _).alloc _).alloc _)
    exact ⟨h.below hb6, e0.put_other _ _ (by omega), e1.put_other _ _ (by omega), eY, e3.put_other _ _ (by omega), e4.put_other _ _ (by omega), Turns.bel hb6, hl, hws⟩
  have HY : Hid (Y = ⟨0, X.a, X.m, X.p, X.s, X.t⟩) := hY
  have HOK : Hid ((-9223372036854775808 ≤ X.a ∧ X.a ≤ 9223372036854775807) ∧ (-9223372036854775808 ≤ X.m ∧ X.m ≤ 9223372036854775807) ∧ (-9223372036854775808 ≤ X.p ∧ X.p ≤ 9223372036854775807) ∧ X.s.size ≤ 140737488355328 ∧ sm.size ≤ 1048576 ∧ sk.size ≤ 1048576) := ⟨hxa, hxm, hxp, hxs, hsz.1, hsz.2⟩
  have ya : Y.a = X.a := by rw [hY]
  have ym : Y.m = X.m := by rw [hY]
  have yp : Y.p = X.p := by rw [hY]
  have ys : Y.s = X.s := by rw [hY]
  have yt : Y.t = X.t := by rw [hY]
  have yk : Y.kd = 0 := by rw [hY]
  have HYE : Hid (Y.a = X.a ∧ Y.m = X.m ∧ Y.p = X.p ∧ Y.s = X.s ∧ Y.t = X.t ∧ Y.kd = 0) := ⟨ya, ym, yp, ys, yt, yk⟩
  obtain ⟨cY0, cY1, cY2, cY3, cY4, cY5, _⟩ := mv_cs K0.out.bY
  rw [yk] at cY0
  clear hY h hsz hl hws hxa hxm hxp hxs hxt bA HY ya ym yp ys yt yk
  obtain ⟨q1, hq1⟩ : ∃ q1 : Int, X.kd.tmod 6 = q1 := ⟨_, rfl⟩
  rw [hq1] at b1 b2 hk1
  obtain ⟨q2, hq2⟩ : ∃ q2 : Nat, q1 + 6 = (q2 : Int) := ⟨(q1 + 6).toNat, by omega⟩
  rw [hq2] at hk1
  have b3 : q2 ≤ 12 := by omega
  have hw1 : wrap64 q1 = q1 := by unfold wrap64; omega
  clear b1 b2 hk hx0 hv hk2
  obtain ⟨R, hR⟩ : ∃ R, inR sm tm X.a X.s X.t = R := ⟨_, rfl⟩
  have HC : Hid (∀ w : World, Calls Tryz.prog 19 #[.agg (mdC sm tm), .agg (mvC Y)] w fun e w' => e = .returned (.tuple #[.int .i64 R.ans, .int .i64 R.err, .agg (mdC R.s R.st)]) ∧ Below w.heap.size w w') := fun w => by
    have hy := HYE.out
    refine moved_ins sm tm Y ?_ ?_ HOK.out.2.2.2.2.1 ?_ R ?_ w
    · rw [hy.2.2.2.1]; exact HOK.out.2.2.2.1
    · rw [hy.1]; exact HOK.out.1
    · rw [hy.2.2.2.2.2]; decide
    · rw [hy.1, hy.2.2.2.1, hy.2.2.2.2.1]; exact hR
  have HI : Hid (∀ U, PI w U x mf ml mc cp sm tm sk tk → Calls Tryz.prog 20 #[.pointer (some ⟨x, 0, none⟩), .int .i64 2, .int .i64 Y.a, .string Y.s, .int .u64 ((Y.t : Nat) : Int)] U fun e w' => e = .returned (.int .i64 R.err) ∧ PI w w' x mf ml mc cp R.s R.st sk tk ∧ Turns (fun z => z = ml ∨ z = mf) U w') := fun U hU => by
    have hy := HYE.out
    rw [hy.1, hy.2.2.2.1, hy.2.2.2.2.1]
    exact hU.insM X.a HOK.out.1 X.s HOK.out.2.2.2.1 X.t R hR
  clear HYE HOK hR
  go_enter Tryz.func8, Tryz.ntmps8
  go_upto_region 1 with fail
  generalize (((((V.alloc (.cells (mdC sm tm) 32)).alloc (.cells (mdC sk tk) 32)).alloc (.cells (mvC X) 35)).alloc (.cells #[.string ⟨#[]⟩, .int .u64 0] 32)).alloc (.cells #[.string ⟨#[]⟩, .int .u64 0] 32)) = v5 at *
  go_wp2_with (first | (refine wpList_load_rowg (by rfl) 32 _ (by rfl) (V.heap.size) (by rfl) 32 (mdC sm tm) (0, 0) _ (by exact K0.out.bM) Tryz.underlying32 (by rfl) (sizeMd.trans (by rfl)) ?_; simp only [Act.put, List.setIfInBounds_toArray, List.set_cons_zero, List.set_cons_succ]) | (refine wpList_load_rowg (by rfl) 32 _ (by rfl) (V.heap.size + 1) (by rfl) 32 (mdC sk tk) (0, 0) _ (by exact K0.out.bK) Tryz.underlying32 (by rfl) (sizeMd.trans (by rfl)) ?_; simp only [Act.put, List.setIfInBounds_toArray, List.set_cons_zero, List.set_cons_succ]) | (refine wpList_load_rowg (by rfl) 35 _ (by rfl) (V.heap.size + 1 + 1) (by rfl) 35 (mvC Y) (0, 0) _ (by exact K0.out.bY) Tryz.underlying35 (by rfl) (sizeMv.trans (by rfl)) ?_; simp only [Act.put, List.setIfInBounds_toArray, List.set_cons_zero, List.set_cons_succ]) | fail)
  generalize (v5.setCell ⟨V.heap.size + 1 + 1, 0, none⟩ (.int .i64 0)) = v0 at *
  clear c0 f0 cY0 cY1 cY2 cY3 cY4 cY5
  refine (HC.out _).mono ?_
  rintro e w1 ⟨rfl, hb1⟩
  have K1 : Hid (MQ w V w1 x mf ml mc cp (sm, tm) (sk, tk) (sm, tm) (sk, tk) Y (⟨#[]⟩, 0) (⟨#[]⟩, 0)) := K0.out.below hb1
  clear hb1 K0 HC
  have n1 : Blk (w1.alloc (.cells #[.string ⟨#[]⟩, .int .u64 0] 32)) w1.heap.size 32 (mdC ⟨#[]⟩ 0) := Blk.new _ _ _
  have K2 : Hid (MQ w V ((w1.alloc (.cells #[.string ⟨#[]⟩, .int .u64 0] 32)).setRow w1.heap.size (mdC R.s R.st)) x mf ml mc cp (sm, tm) (sk, tk) (sm, tm) (sk, tk) Y (⟨#[]⟩, 0) (⟨#[]⟩, 0)) := K1.out.new _ _ _
  have N2 : Hid (Blk ((w1.alloc (.cells #[.string ⟨#[]⟩, .int .u64 0] 32)).setRow w1.heap.size (mdC R.s R.st)) w1.heap.size 32 (mdC R.s R.st)) := mq_new _ _ _ _
  have HG : Hid (V.heap.size + 1 + 1 + 1 + 1 < w1.heap.size) := K1.out.b2.lt
  obtain ⟨d0, d1, d2, d3, d4, d5, _⟩ := mv_cs K2.out.bY
  go_wp2_with (first | (refine wpList_store_row (by rfl) 32 _ _ (by rfl) (w1.heap.size) (mdC R.s R.st) (by rfl) (by rfl) 32 (_) (by exact n1) (sizeMd.trans (by rfl)) (by rfl) (md_all _ _) ?_; simp only [Act.put, List.setIfInBounds_toArray, List.set_cons_zero, List.set_cons_succ]) | fail)
  clear n1 K1
  generalize ((w1.alloc (.cells #[.string ⟨#[]⟩, .int .u64 0] 32)).setRow w1.heap.size (mdC R.s R.st)) = v2 at *
  generalize w1.heap.size = gn at *
  have K3 : Hid (MQ w V v2.drew x mf ml mc cp (sm, tm) (sk, tk) (sm, tm) (sk, tk) Y (⟨#[]⟩, 0) (⟨#[]⟩, 0)) := K2.out.below (Below.refl _ _).drew
  have N3 : Hid (Blk v2.drew gn 32 (mdC R.s R.st)) := N2.out.drew
  have S3 : Hid (Blk v2.drew gn 32 (mdC R.s R.st) ∧ Blk v2.drew (V.heap.size + 1) 32 (mdC sk tk) ∧ Blk v2.drew (V.heap.size + 1 + 1) 35 (mvC Y)) := ⟨N3.out, K3.out.bK, K3.out.bY⟩
  obtain ⟨d0, d1, d2, d3, d4, d5, _⟩ := mv_cs K3.out.bY
  clear K2 N2
  refine wp_region_partsS (fun U => Hid (Blk U gn 32 (mdC R.s R.st) ∧ Blk U (V.heap.size + 1) 32 (mdC sk tk) ∧ Blk U (V.heap.size + 1 + 1) 35 (mvC Y))) [([2, 3, 11], 0, true), ([], 1, true), ([], 4, true), ([], 5, true), ([], 6, true), ([], 7, true), ([], 8, false), ([], 9, false), ([], 10, false), ([], 12, true), ([], 13, false), ([], 14, false)] [15] [] (by kernel_rfl) (by kernel_rfl) S3 (partsI_yield ?_)
  simp only [List.cons_append, List.nil_append, List.append_nil, List.filterMap_cons, List.filterMap_nil, List.getElem?_toArray, List.getElem?_cons_zero, List.getElem?_cons_succ]
  go_wp2_with fail
  first | (refine ⟨rfl, _, .agg (mdC R.s R.st), rfl, kyields_load (by rfl) 32 _ (by rfl) (gn) 2 (mdF R.s R.st) (by rfl) _ 32 (fun W hW => hW.out.1) Tryz.underlying32 rfl sizeMd, partsI_yield ?_⟩) | (refine ⟨rfl, .agg (mdC R.s R.st), kyields_load (by rfl) 32 _ (by rfl) (gn) 2 (mdF R.s R.st) (by rfl) _ 32 (fun W hW => hW.out.1) Tryz.underlying32 rfl sizeMd, partsI_yield ?_⟩)
  simp only [Act.put, List.setIfInBounds_toArray, List.set_cons_zero, List.set_cons_succ]
  simp only [List.cons_append, List.nil_append, List.append_nil, List.filterMap_cons, List.filterMap_nil, List.getElem?_toArray, List.getElem?_cons_zero, List.getElem?_cons_succ]
  go_wp2_with fail
  first | (refine ⟨rfl, _, .agg (mdC sk tk), rfl, kyields_load (by rfl) 32 _ (by rfl) (V.heap.size + 1) 2 (mdF sk tk) (by rfl) _ 32 (fun W hW => hW.out.2.1) Tryz.underlying32 rfl sizeMd, partsI_yield ?_⟩) | (refine ⟨rfl, .agg (mdC sk tk), kyields_load (by rfl) 32 _ (by rfl) (V.heap.size + 1) 2 (mdF sk tk) (by rfl) _ 32 (fun W hW => hW.out.2.1) Tryz.underlying32 rfl sizeMd, partsI_yield ?_⟩)
  simp only [Act.put, List.setIfInBounds_toArray, List.set_cons_zero, List.set_cons_succ]
  simp only [List.cons_append, List.nil_append, List.append_nil, List.filterMap_cons, List.filterMap_nil, List.getElem?_toArray, List.getElem?_cons_zero, List.getElem?_cons_succ]
  go_wp2_with fail
  first | (refine ⟨rfl, _, .pointer (some ⟨V.heap.size + 1 + 1, 1, none⟩), rfl, Or.inl ⟨by rfl, fun W hW => by go_simp⟩, partsI_yield ?_⟩) | (refine ⟨rfl, .pointer (some ⟨V.heap.size + 1 + 1, 1, none⟩), Or.inl ⟨by rfl, fun W hW => by go_simp⟩, partsI_yield ?_⟩)
  simp only [Act.put, List.setIfInBounds_toArray, List.set_cons_zero, List.set_cons_succ]
  simp only [List.cons_append, List.nil_append, List.append_nil, List.filterMap_cons, List.filterMap_nil, List.getElem?_toArray, List.getElem?_cons_zero, List.getElem?_cons_succ]
  go_wp2_with fail
  first | (refine ⟨rfl, _, .int .i64 Y.a, rfl, Or.inl ⟨by rfl, fun W hW => by have hc := (mv_cs hW.out.2.2).2.1; go_simp⟩, partsI_yield ?_⟩) | (refine ⟨rfl, .int .i64 Y.a, Or.inl ⟨by rfl, fun W hW => by have hc := (mv_cs hW.out.2.2).2.1; go_simp⟩, partsI_yield ?_⟩)
  simp only [Act.put, List.setIfInBounds_toArray, List.set_cons_zero, List.set_cons_succ]
  simp only [List.cons_append, List.nil_append, List.append_nil, List.filterMap_cons, List.filterMap_nil, List.getElem?_toArray, List.getElem?_cons_zero, List.getElem?_cons_succ]
  go_wp2_with fail
  first | (refine ⟨rfl, _, .pointer (some ⟨V.heap.size + 1 + 1, 4, none⟩), rfl, Or.inl ⟨by rfl, fun W hW => by go_simp⟩, partsI_yield ?_⟩) | (refine ⟨rfl, .pointer (some ⟨V.heap.size + 1 + 1, 4, none⟩), Or.inl ⟨by rfl, fun W hW => by go_simp⟩, partsI_yield ?_⟩)
  simp only [Act.put, List.setIfInBounds_toArray, List.set_cons_zero, List.set_cons_succ]
  simp only [List.cons_append, List.nil_append, List.append_nil, List.filterMap_cons, List.filterMap_nil, List.getElem?_toArray, List.getElem?_cons_zero, List.getElem?_cons_succ]
  go_wp2_with fail
  first | (refine ⟨rfl, _, .string Y.s, rfl, Or.inl ⟨by rfl, fun W hW => by have hc := (mv_cs hW.out.2.2).2.2.2.2.1; go_simp⟩, partsI_force ?_⟩) | (refine ⟨rfl, .string Y.s, Or.inl ⟨by rfl, fun W hW => by have hc := (mv_cs hW.out.2.2).2.2.2.2.1; go_simp⟩, partsI_force ?_⟩)
  simp only [Act.put, List.setIfInBounds_toArray, List.set_cons_zero, List.set_cons_succ]
  simp only [List.cons_append, List.nil_append, List.append_nil, List.filterMap_cons, List.filterMap_nil, List.getElem?_toArray, List.getElem?_cons_zero, List.getElem?_cons_succ]
  go_wp2_with fail
  refine ⟨rfl, S3, partsI_force ?_⟩
  simp only [List.cons_append, List.nil_append, List.append_nil, List.filterMap_cons, List.filterMap_nil, List.getElem?_toArray, List.getElem?_cons_zero, List.getElem?_cons_succ]
  go_wp2_with fail
  refine ⟨rfl, S3, partsI_force ?_⟩
  simp only [List.cons_append, List.nil_append, List.append_nil, List.filterMap_cons, List.filterMap_nil, List.getElem?_toArray, List.getElem?_cons_zero, List.getElem?_cons_succ]
  go_wp2_with fail
  refine (HI.out _ K3.out.pi).mono ?_
  rintro e w4 ⟨rfl, hP4, hT4⟩
  have K4 : Hid (MQ w V w4 x mf ml mc cp (sm, tm) (sk, tk) (R.s, R.st) (sk, tk) Y (⟨#[]⟩, 0) (⟨#[]⟩, 0)) := K3.out.call hP4 hT4
  have N4 : Hid (Blk w4 gn 32 (mdC R.s R.st)) := fl_blk hT4 N3.out (by have := K3.out.lt; have := HG.out; omega)
  have S4 : Hid (Blk w4 gn 32 (mdC R.s R.st) ∧ Blk w4 (V.heap.size + 1) 32 (mdC sk tk) ∧ Blk w4 (V.heap.size + 1 + 1) 35 (mvC Y)) := ⟨N4.out, K4.out.bK, K4.out.bY⟩
  clear hP4 hT4 HI
  go_wp2_with fail
  refine ⟨rfl, S4, partsI_yield ?_⟩
  simp only [List.cons_append, List.nil_append, List.append_nil, List.filterMap_cons, List.filterMap_nil, List.getElem?_toArray, List.getElem?_cons_zero, List.getElem?_cons_succ]
  go_wp2_with fail
  first | (refine ⟨rfl, _, .bool true, rfl, Or.inl ⟨by rfl, fun W hW => by go_simp⟩, partsI_force ?_⟩) | (refine ⟨rfl, .bool true, Or.inl ⟨by rfl, fun W hW => by go_simp⟩, partsI_force ?_⟩)
  simp only [Act.put, List.setIfInBounds_toArray, List.set_cons_zero, List.set_cons_succ]
  simp only [List.cons_append, List.nil_append, List.append_nil, List.filterMap_cons, List.filterMap_nil, List.getElem?_toArray, List.getElem?_cons_zero, List.getElem?_cons_succ]
  have b1 := K4.out.b1
  refine wpList_store_row (by rfl) 32 _ _ (by rfl) (V.heap.size + 1 + 1 + 1) (mdC R.s R.st) (by rfl) (by rfl) 32 (_) (by exact b1) (sizeMd.trans (by rfl)) (by rfl) (md_all _ _) ?_
  simp only [Act.put, List.setIfInBounds_toArray, List.set_cons_zero, List.set_cons_succ]
  have K5 : Hid (MQ w V (w4.setRow (V.heap.size + 1 + 1 + 1) (mdC R.s R.st)) x mf ml mc cp (sm, tm) (sk, tk) (R.s, R.st) (sk, tk) Y (R.s, R.st) (⟨#[]⟩, 0)) := K4.out.row1 _ _
  have S5 : Hid (Blk (w4.setRow (V.heap.size + 1 + 1 + 1) (mdC R.s R.st)) gn 32 (mdC R.s R.st) ∧ Blk (w4.setRow (V.heap.size + 1 + 1 + 1) (mdC R.s R.st)) (V.heap.size + 1) 32 (mdC sk tk) ∧ Blk (w4.setRow (V.heap.size + 1 + 1 + 1) (mdC R.s R.st)) (V.heap.size + 1 + 1) 35 (mvC Y)) := ⟨N4.out.other _ (by have := HG.out; omega), K5.out.bK, K5.out.bY⟩
  clear b1 K4 N4 S4
  generalize (w4.setRow (V.heap.size + 1 + 1 + 1) (mdC R.s R.st)) = w5 at *
  go_wp2_with fail
  refine ⟨rfl, S5, partsI_force ?_⟩
  simp only [List.cons_append, List.nil_append, List.append_nil, List.filterMap_cons, List.filterMap_nil, List.getElem?_toArray, List.getElem?_cons_zero, List.getElem?_cons_succ]
  have b2 := K5.out.b2
  refine wpList_store_row (by rfl) 32 _ _ (by rfl) (V.heap.size + 1 + 1 + 1 + 1) (mdC sk tk) (by rfl) (by rfl) 32 (_) (by exact b2) (sizeMd.trans (by rfl)) (by rfl) (md_all _ _) ?_
  simp only [Act.put, List.setIfInBounds_toArray, List.set_cons_zero, List.set_cons_succ]
  have K6 : Hid (MQ w V (w5.setRow (V.heap.size + 1 + 1 + 1 + 1) (mdC sk tk)) x mf ml mc cp (sm, tm) (sk, tk) (R.s, R.st) (sk, tk) Y (R.s, R.st) (sk, tk)) := K5.out.row2 _ _
  have S6 : Hid (Blk (w5.setRow (V.heap.size + 1 + 1 + 1 + 1) (mdC sk tk)) gn 32 (mdC R.s R.st) ∧ Blk (w5.setRow (V.heap.size + 1 + 1 + 1 + 1) (mdC sk tk)) (V.heap.size + 1) 32 (mdC sk tk) ∧ Blk (w5.setRow (V.heap.size + 1 + 1 + 1 + 1) (mdC sk tk)) (V.heap.size + 1 + 1) 35 (mvC Y)) := ⟨S5.out.1.other _ (by have := HG.out; omega), K6.out.bK, K6.out.bY⟩
  clear b2 K5 S5
  generalize (w5.setRow (V.heap.size + 1 + 1 + 1 + 1) (mdC sk tk)) = w6 at *
  go_wp2_with fail
  refine ⟨rfl, S6, partsI_last ?_⟩
  simp only [List.cons_append, List.nil_append, List.append_nil, List.filterMap_cons, List.filterMap_nil, List.getElem?_toArray, List.getElem?_cons_zero, List.getElem?_cons_succ]
  go_wp2_with fail
  refine ⟨rfl, ?_⟩
  go_wp2_with fail
  try simp only [Exit.inBlock, Exit.then]
  refine bodyPost_ret (res_ccm Tryz.results8 _ _ (V.heap.size + 1 + 1 + 1) (V.heap.size + 1 + 1 + 1 + 1) 32 32 (mdC R.s R.st) (mdC sk tk) _ _ rfl rfl K6.out.b1 K6.out.b2 Tryz.underlying32 rfl (sizeMd.trans (by rfl)) Tryz.underlying32 rfl (sizeMd.trans (by rfl))) rfl ?_
  exact ⟨R.s, R.st, sk, tk, rfl, K6.out.pi, K6.out.tr⟩
set_option maxRecDepth 100000 in
set_option maxHeartbeats 8000000 in
theorem move_1 {w V : World} {x mf ml mc : Nat} {cp : Option Addr} {sm sk : ByteArray} {tm tk : Nat} (h : PI w V x mf ml mc cp sm tm sk tk) (X : Mv) (hX : X.ok) (hxs : X.s.size ≤ 140737488355328) (kd : Nat) (hk : k6N X.kd = kd) (hv : kd = 1) : Calls Tryz.prog 8 #[.pointer (some ⟨x, 0, none⟩), .int .i64 2, .int .i64 3, .agg (mdC sm tm), .agg (mdC sk tk), .agg (mvC X)] V fun e w' => MvE w V x mf ml mc cp e w' := by
  have hzm : ∀ w, (zeroValue 32).run Tryz.prog w = .ok (.agg #[.string ⟨#[]⟩, .int .u64 0]) w := zero_md
  obtain ⟨hx0, hxa, hxm, hxp, _, hxt⟩ := hX
  have hsz := h.small
  have hl := h.lts
  have hws := h.bel.size
  obtain ⟨hk1, hk2⟩ := k6_is X.kd
  rw [hk, hv] at hk1 hk2
  have hk1 : (X.kd.tmod 6 + 6).tmod 6 = 1 := hk1
  have b1 := Int.tmod_lt_of_pos X.kd (show (0 : Int) < 6 by decide)
  have b2 := Int.lt_tmod_of_pos X.kd (show (0 : Int) < 6 by decide)
  obtain ⟨Y, hY⟩ : ∃ Y : Mv, Y = ⟨1, X.a, X.m, X.p, X.s, X.t⟩ := ⟨_, rfl⟩
  have bA : Blk (((((V.alloc (.cells (mdC sm tm) 32)).alloc (.cells (mdC sk tk) 32)).alloc (.cells (mvC X) 35)).alloc (.cells #[.string ⟨#[]⟩, .int .u64 0] 32)).alloc (.cells #[.string ⟨#[]⟩, .int .u64 0] 32)) (V.heap.size + 1 + 1) 35 (mvC X) := ((Blk.new2 _ _ _ _ _).alloc _).alloc _
  have c0 : (((((V.alloc (.cells (mdC sm tm) 32)).alloc (.cells (mdC sk tk) 32)).alloc (.cells (mvC X) 35)).alloc (.cells #[.string ⟨#[]⟩, .int .u64 0] 32)).alloc (.cells #[.string ⟨#[]⟩, .int .u64 0] 32)).cell? ⟨V.heap.size + 1 + 1, 0, none⟩ = some (.int .i64 X.kd) := (bA.cell 0).trans rfl
  have f0 : (((((V.alloc (.cells (mdC sm tm) 32)).alloc (.cells (mdC sk tk) 32)).alloc (.cells (mvC X) 35)).alloc (.cells #[.string ⟨#[]⟩, .int .u64 0] 32)).alloc (.cells #[.string ⟨#[]⟩, .int .u64 0] 32)).frozen? ⟨V.heap.size + 1 + 1, 0, none⟩ = false := bA.frozen 0
  have K0 : Hid (MQ w V ((((((V.alloc (.cells (mdC sm tm) 32)).alloc (.cells (mdC sk tk) 32)).alloc (.cells (mvC X) 35)).alloc (.cells #[.string ⟨#[]⟩, .int .u64 0] 32)).alloc (.cells #[.string ⟨#[]⟩, .int .u64 0] 32)).setCell ⟨V.heap.size + 1 + 1, 0, none⟩ (.int .i64 1)) x mf ml mc cp (sm, tm) (sk, tk) (sm, tm) (sk, tk) Y (⟨#[]⟩, 0) (⟨#[]⟩, 0)) := by
    have s3 : (((V.alloc (.cells (mdC sm tm) 32)).alloc (.cells (mdC sk tk) 32)).alloc (.cells (mvC X) 35)).heap.size = V.heap.size + 1 + 1 + 1 := by simp
    have s4 : ((((V.alloc (.cells (mdC sm tm) 32)).alloc (.cells (mdC sk tk) 32)).alloc (.cells (mvC X) 35)).alloc (.cells #[.string ⟨#[]⟩, .int .u64 0] 32)).heap.size = V.heap.size + 1 + 1 + 1 + 1 := by simp
    have hb5 : Below V.heap.size V (((((V.alloc (.cells (mdC sm tm) 32)).alloc (.cells (mdC sk tk) 32)).alloc (.cells (mvC X) 35)).alloc (.cells #[.string ⟨#[]⟩, .int .u64 0] 32)).alloc (.cells #[.string ⟨#[]⟩, .int .u64 0] 32)) := ((below_new3 _ _ _ _).alloc (by rw [s3]; omega) _).alloc (by rw [s4]; omega) _
    have hb6 : Below V.heap.size V ((((((V.alloc (.cells (mdC sm tm) 32)).alloc (.cells (mdC sk tk) 32)).alloc (.cells (mvC X) 35)).alloc (.cells #[.string ⟨#[]⟩, .int .u64 0] 32)).alloc (.cells #[.string ⟨#[]⟩, .int .u64 0] 32)).setCell ⟨V.heap.size + 1 + 1, 0, none⟩ (.int .i64 1)) := hb5.setCell (by show V.heap.size ≤ V.heap.size + 1 + 1; omega) _
    have e3 : Blk (((((V.alloc (.cells (mdC sm tm) 32)).alloc (.cells (mdC sk tk) 32)).alloc (.cells (mvC X) 35)).alloc (.cells #[.string ⟨#[]⟩, .int .u64 0] 32)).alloc (.cells #[.string ⟨#[]⟩, .int .u64 0] 32)) (V.heap.size + 1 + 1 + 1) 32 (mdC ⟨#[]⟩ 0) := by
      have := Blk.new (((V.alloc (.cells (mdC sm tm) 32)).alloc (.cells (mdC sk tk) 32)).alloc (.cells (mvC X) 35)) 32 (mdC ⟨#[]⟩ 0)
      rw [s3] at this
      exact this.alloc _
    have e4 : Blk (((((V.alloc (.cells (mdC sm tm) 32)).alloc (.cells (mdC sk tk) 32)).alloc (.cells (mvC X) 35)).alloc (.cells #[.string ⟨#[]⟩, .int .u64 0] 32)).alloc (.cells #[.string ⟨#[]⟩, .int .u64 0] 32)) (V.heap.size + 1 + 1 + 1 + 1) 32 (mdC ⟨#[]⟩ 0) := by
      have := Blk.new ((((V.alloc (.cells (mdC sm tm) 32)).alloc (.cells (mdC sk tk) 32)).alloc (.cells (mvC X) 35)).alloc (.cells #[.string ⟨#[]⟩, .int .u64 0] 32)) 32 (mdC ⟨#[]⟩ 0)
      rw [s4] at this
      exact this
    have eY : Blk ((((((V.alloc (.cells (mdC sm tm) 32)).alloc (.cells (mdC sk tk) 32)).alloc (.cells (mvC X) 35)).alloc (.cells #[.string ⟨#[]⟩, .int .u64 0] 32)).alloc (.cells #[.string ⟨#[]⟩, .int .u64 0] 32)).setCell ⟨V.heap.size + 1 + 1, 0, none⟩ (.int .i64 1)) (V.heap.size + 1 + 1) 35 (mvC Y) := by
      have := bA.put 0 (.int .i64 1)
      rw [hY]
      exact this
    have e0 : Blk (((((V.alloc (.cells (mdC sm tm) 32)).alloc (.cells (mdC sk tk) 32)).alloc (.cells (mvC X) 35)).alloc (.cells #[.string ⟨#[]⟩, .int .u64 0] 32)).alloc (.cells #[.string ⟨#[]⟩, .int .u64 0] 32)) (V.heap.size) 32 (mdC sm tm) := (((((Blk.new V 32 (mdC sm tm)).alloc _).alloc _).alloc _).alloc _)
    have e1 : Blk (((((V.alloc (.cells (mdC sm tm) 32)).alloc (.cells (mdC sk tk) 32)).alloc (.cells (mvC X) 35)).alloc (.cells #[.string ⟨#[]⟩, .int .u64 0] 32)).alloc (.cells #[.string ⟨#[]⟩, .int .u64 0] 32)) (V.heap.size + 1) 32 (mdC sk tk) := ((((Blk.new1 V _ 32 (mdC sk tk)).alloc _).alloc _).alloc _)
    exact ⟨h.below hb6, e0.put_other _ _ (by omega), e1.put_other _ _ (by omega), eY, e3.put_other _ _ (by omega), e4.put_other _ _ (by omega), Turns.bel hb6, hl, hws⟩
  have HY : Hid (Y = ⟨1, X.a, X.m, X.p, X.s, X.t⟩) := hY
  have HOK : Hid ((-9223372036854775808 ≤ X.a ∧ X.a ≤ 9223372036854775807) ∧ (-9223372036854775808 ≤ X.m ∧ X.m ≤ 9223372036854775807) ∧ (-9223372036854775808 ≤ X.p ∧ X.p ≤ 9223372036854775807) ∧ X.s.size ≤ 140737488355328 ∧ sm.size ≤ 1048576 ∧ sk.size ≤ 1048576) := ⟨hxa, hxm, hxp, hxs, hsz.1, hsz.2⟩
  have ya : Y.a = X.a := by rw [hY]
  have ym : Y.m = X.m := by rw [hY]
  have yp : Y.p = X.p := by rw [hY]
  have ys : Y.s = X.s := by rw [hY]
  have yt : Y.t = X.t := by rw [hY]
  have yk : Y.kd = 1 := by rw [hY]
  have HYE : Hid (Y.a = X.a ∧ Y.m = X.m ∧ Y.p = X.p ∧ Y.s = X.s ∧ Y.t = X.t ∧ Y.kd = 1) := ⟨ya, ym, yp, ys, yt, yk⟩
  obtain ⟨cY0, cY1, cY2, cY3, cY4, cY5, _⟩ := mv_cs K0.out.bY
  rw [yk] at cY0
  clear hY h hsz hl hws hxa hxm hxp hxs hxt bA HY ya ym yp ys yt yk
  obtain ⟨q1, hq1⟩ : ∃ q1 : Int, X.kd.tmod 6 = q1 := ⟨_, rfl⟩
  rw [hq1] at b1 b2 hk1
  obtain ⟨q2, hq2⟩ : ∃ q2 : Nat, q1 + 6 = (q2 : Int) := ⟨(q1 + 6).toNat, by omega⟩
  rw [hq2] at hk1
  have b3 : q2 ≤ 12 := by omega
  have hw1 : wrap64 q1 = q1 := by unfold wrap64; omega
  clear b1 b2 hk hx0 hv hk2
  obtain ⟨R, hR⟩ : ∃ R, inR sm tm X.a X.s X.t = R := ⟨_, rfl⟩
  have HC : Hid (∀ w : World, Calls Tryz.prog 19 #[.agg (mdC sm tm), .agg (mvC Y)] w fun e w' => e = .returned (.tuple #[.int .i64 R.ans, .int .i64 R.err, .agg (mdC R.s R.st)]) ∧ Below w.heap.size w w') := fun w => by
    have hy := HYE.out
    refine moved_ins sm tm Y ?_ ?_ HOK.out.2.2.2.2.1 ?_ R ?_ w
    · rw [hy.2.2.2.1]; exact HOK.out.2.2.2.1
    · rw [hy.1]; exact HOK.out.1
    · rw [hy.2.2.2.2.2]; decide
    · rw [hy.1, hy.2.2.2.1, hy.2.2.2.2.1]; exact hR
  have HI : Hid (∀ U, PI w U x mf ml mc cp sm tm sk tk → Calls Tryz.prog 20 #[.pointer (some ⟨x, 0, none⟩), .int .i64 2, .int .i64 Y.a, .string Y.s, .int .u64 ((Y.t : Nat) : Int)] U fun e w' => e = .returned (.int .i64 R.err) ∧ PI w w' x mf ml mc cp R.s R.st sk tk ∧ Turns (fun z => z = ml ∨ z = mf) U w') := fun U hU => by
    have hy := HYE.out
    rw [hy.1, hy.2.2.2.1, hy.2.2.2.2.1]
    exact hU.insM X.a HOK.out.1 X.s HOK.out.2.2.2.1 X.t R hR
  clear HYE HOK hR
  go_enter Tryz.func8, Tryz.ntmps8
  go_upto_region 1 with fail
  generalize (((((V.alloc (.cells (mdC sm tm) 32)).alloc (.cells (mdC sk tk) 32)).alloc (.cells (mvC X) 35)).alloc (.cells #[.string ⟨#[]⟩, .int .u64 0] 32)).alloc (.cells #[.string ⟨#[]⟩, .int .u64 0] 32)) = v5 at *
  go_wp2_with (first | (refine wpList_load_rowg (by rfl) 32 _ (by rfl) (V.heap.size) (by rfl) 32 (mdC sm tm) (0, 0) _ (by exact K0.out.bM) Tryz.underlying32 (by rfl) (sizeMd.trans (by rfl)) ?_; simp only [Act.put, List.setIfInBounds_toArray, List.set_cons_zero, List.set_cons_succ]) | (refine wpList_load_rowg (by rfl) 32 _ (by rfl) (V.heap.size + 1) (by rfl) 32 (mdC sk tk) (0, 0) _ (by exact K0.out.bK) Tryz.underlying32 (by rfl) (sizeMd.trans (by rfl)) ?_; simp only [Act.put, List.setIfInBounds_toArray, List.set_cons_zero, List.set_cons_succ]) | (refine wpList_load_rowg (by rfl) 35 _ (by rfl) (V.heap.size + 1 + 1) (by rfl) 35 (mvC Y) (0, 0) _ (by exact K0.out.bY) Tryz.underlying35 (by rfl) (sizeMv.trans (by rfl)) ?_; simp only [Act.put, List.setIfInBounds_toArray, List.set_cons_zero, List.set_cons_succ]) | fail)
  generalize (v5.setCell ⟨V.heap.size + 1 + 1, 0, none⟩ (.int .i64 1)) = v0 at *
  clear c0 f0 cY0 cY1 cY2 cY3 cY4 cY5
  refine (HC.out _).mono ?_
  rintro e w1 ⟨rfl, hb1⟩
  have K1 : Hid (MQ w V w1 x mf ml mc cp (sm, tm) (sk, tk) (sm, tm) (sk, tk) Y (⟨#[]⟩, 0) (⟨#[]⟩, 0)) := K0.out.below hb1
  clear hb1 K0 HC
  have n1 : Blk (w1.alloc (.cells #[.string ⟨#[]⟩, .int .u64 0] 32)) w1.heap.size 32 (mdC ⟨#[]⟩ 0) := Blk.new _ _ _
  have K2 : Hid (MQ w V ((w1.alloc (.cells #[.string ⟨#[]⟩, .int .u64 0] 32)).setRow w1.heap.size (mdC R.s R.st)) x mf ml mc cp (sm, tm) (sk, tk) (sm, tm) (sk, tk) Y (⟨#[]⟩, 0) (⟨#[]⟩, 0)) := K1.out.new _ _ _
  have N2 : Hid (Blk ((w1.alloc (.cells #[.string ⟨#[]⟩, .int .u64 0] 32)).setRow w1.heap.size (mdC R.s R.st)) w1.heap.size 32 (mdC R.s R.st)) := mq_new _ _ _ _
  have HG : Hid (V.heap.size + 1 + 1 + 1 + 1 < w1.heap.size) := K1.out.b2.lt
  obtain ⟨d0, d1, d2, d3, d4, d5, _⟩ := mv_cs K2.out.bY
  go_wp2_with (first | (refine wpList_store_row (by rfl) 32 _ _ (by rfl) (w1.heap.size) (mdC R.s R.st) (by rfl) (by rfl) 32 (_) (by exact n1) (sizeMd.trans (by rfl)) (by rfl) (md_all _ _) ?_; simp only [Act.put, List.setIfInBounds_toArray, List.set_cons_zero, List.set_cons_succ]) | fail)
  clear n1 K1
  generalize ((w1.alloc (.cells #[.string ⟨#[]⟩, .int .u64 0] 32)).setRow w1.heap.size (mdC R.s R.st)) = v2 at *
  generalize w1.heap.size = gn at *
  have K3 : Hid (MQ w V v2.drew x mf ml mc cp (sm, tm) (sk, tk) (sm, tm) (sk, tk) Y (⟨#[]⟩, 0) (⟨#[]⟩, 0)) := K2.out.below (Below.refl _ _).drew
  have N3 : Hid (Blk v2.drew gn 32 (mdC R.s R.st)) := N2.out.drew
  have S3 : Hid (Blk v2.drew gn 32 (mdC R.s R.st) ∧ Blk v2.drew (V.heap.size + 1) 32 (mdC sk tk) ∧ Blk v2.drew (V.heap.size + 1 + 1) 35 (mvC Y)) := ⟨N3.out, K3.out.bK, K3.out.bY⟩
  obtain ⟨d0, d1, d2, d3, d4, d5, _⟩ := mv_cs K3.out.bY
  clear K2 N2
  refine wp_region_partsS (fun U => Hid (Blk U gn 32 (mdC R.s R.st) ∧ Blk U (V.heap.size + 1) 32 (mdC sk tk) ∧ Blk U (V.heap.size + 1 + 1) 35 (mvC Y))) [([2, 3, 11], 0, true), ([], 1, true), ([], 4, true), ([], 5, true), ([], 6, true), ([], 7, true), ([], 8, false), ([], 9, false), ([], 10, false), ([], 12, true), ([], 13, false), ([], 14, false)] [15] [] (by kernel_rfl) (by kernel_rfl) S3 (partsI_yield ?_)
  simp only [List.cons_append, List.nil_append, List.append_nil, List.filterMap_cons, List.filterMap_nil, List.getElem?_toArray, List.getElem?_cons_zero, List.getElem?_cons_succ]
  go_wp2_with fail
  first | (refine ⟨rfl, _, .agg (mdC R.s R.st), rfl, kyields_load (by rfl) 32 _ (by rfl) (gn) 2 (mdF R.s R.st) (by rfl) _ 32 (fun W hW => hW.out.1) Tryz.underlying32 rfl sizeMd, partsI_yield ?_⟩) | (refine ⟨rfl, .agg (mdC R.s R.st), kyields_load (by rfl) 32 _ (by rfl) (gn) 2 (mdF R.s R.st) (by rfl) _ 32 (fun W hW => hW.out.1) Tryz.underlying32 rfl sizeMd, partsI_yield ?_⟩)
  simp only [Act.put, List.setIfInBounds_toArray, List.set_cons_zero, List.set_cons_succ]
  simp only [List.cons_append, List.nil_append, List.append_nil, List.filterMap_cons, List.filterMap_nil, List.getElem?_toArray, List.getElem?_cons_zero, List.getElem?_cons_succ]
  go_wp2_with fail
  first | (refine ⟨rfl, _, .agg (mdC sk tk), rfl, kyields_load (by rfl) 32 _ (by rfl) (V.heap.size + 1) 2 (mdF sk tk) (by rfl) _ 32 (fun W hW => hW.out.2.1) Tryz.underlying32 rfl sizeMd, partsI_yield ?_⟩) | (refine ⟨rfl, .agg (mdC sk tk), kyields_load (by rfl) 32 _ (by rfl) (V.heap.size + 1) 2 (mdF sk tk) (by rfl) _ 32 (fun W hW => hW.out.2.1) Tryz.underlying32 rfl sizeMd, partsI_yield ?_⟩)
  simp only [Act.put, List.setIfInBounds_toArray, List.set_cons_zero, List.set_cons_succ]
  simp only [List.cons_append, List.nil_append, List.append_nil, List.filterMap_cons, List.filterMap_nil, List.getElem?_toArray, List.getElem?_cons_zero, List.getElem?_cons_succ]
  go_wp2_with fail
  first | (refine ⟨rfl, _, .pointer (some ⟨V.heap.size + 1 + 1, 1, none⟩), rfl, Or.inl ⟨by rfl, fun W hW => by go_simp⟩, partsI_yield ?_⟩) | (refine ⟨rfl, .pointer (some ⟨V.heap.size + 1 + 1, 1, none⟩), Or.inl ⟨by rfl, fun W hW => by go_simp⟩, partsI_yield ?_⟩)
  simp only [Act.put, List.setIfInBounds_toArray, List.set_cons_zero, List.set_cons_succ]
  simp only [List.cons_append, List.nil_append, List.append_nil, List.filterMap_cons, List.filterMap_nil, List.getElem?_toArray, List.getElem?_cons_zero, List.getElem?_cons_succ]
  go_wp2_with fail
  first | (refine ⟨rfl, _, .int .i64 Y.a, rfl, Or.inl ⟨by rfl, fun W hW => by have hc := (mv_cs hW.out.2.2).2.1; go_simp⟩, partsI_yield ?_⟩) | (refine ⟨rfl, .int .i64 Y.a, Or.inl ⟨by rfl, fun W hW => by have hc := (mv_cs hW.out.2.2).2.1; go_simp⟩, partsI_yield ?_⟩)
  simp only [Act.put, List.setIfInBounds_toArray, List.set_cons_zero, List.set_cons_succ]
  simp only [List.cons_append, List.nil_append, List.append_nil, List.filterMap_cons, List.filterMap_nil, List.getElem?_toArray, List.getElem?_cons_zero, List.getElem?_cons_succ]
  go_wp2_with fail
  first | (refine ⟨rfl, _, .pointer (some ⟨V.heap.size + 1 + 1, 4, none⟩), rfl, Or.inl ⟨by rfl, fun W hW => by go_simp⟩, partsI_yield ?_⟩) | (refine ⟨rfl, .pointer (some ⟨V.heap.size + 1 + 1, 4, none⟩), Or.inl ⟨by rfl, fun W hW => by go_simp⟩, partsI_yield ?_⟩)
  simp only [Act.put, List.setIfInBounds_toArray, List.set_cons_zero, List.set_cons_succ]
  simp only [List.cons_append, List.nil_append, List.append_nil, List.filterMap_cons, List.filterMap_nil, List.getElem?_toArray, List.getElem?_cons_zero, List.getElem?_cons_succ]
  go_wp2_with fail
  first | (refine ⟨rfl, _, .string Y.s, rfl, Or.inl ⟨by rfl, fun W hW => by have hc := (mv_cs hW.out.2.2).2.2.2.2.1; go_simp⟩, partsI_force ?_⟩) | (refine ⟨rfl, .string Y.s, Or.inl ⟨by rfl, fun W hW => by have hc := (mv_cs hW.out.2.2).2.2.2.2.1; go_simp⟩, partsI_force ?_⟩)
  simp only [Act.put, List.setIfInBounds_toArray, List.set_cons_zero, List.set_cons_succ]
  simp only [List.cons_append, List.nil_append, List.append_nil, List.filterMap_cons, List.filterMap_nil, List.getElem?_toArray, List.getElem?_cons_zero, List.getElem?_cons_succ]
  go_wp2_with fail
  refine ⟨rfl, S3, partsI_force ?_⟩
  simp only [List.cons_append, List.nil_append, List.append_nil, List.filterMap_cons, List.filterMap_nil, List.getElem?_toArray, List.getElem?_cons_zero, List.getElem?_cons_succ]
  go_wp2_with fail
  refine ⟨rfl, S3, partsI_force ?_⟩
  simp only [List.cons_append, List.nil_append, List.append_nil, List.filterMap_cons, List.filterMap_nil, List.getElem?_toArray, List.getElem?_cons_zero, List.getElem?_cons_succ]
  go_wp2_with fail
  refine (HI.out _ K3.out.pi).mono ?_
  rintro e w4 ⟨rfl, hP4, hT4⟩
  have K4 : Hid (MQ w V w4 x mf ml mc cp (sm, tm) (sk, tk) (R.s, R.st) (sk, tk) Y (⟨#[]⟩, 0) (⟨#[]⟩, 0)) := K3.out.call hP4 hT4
  have N4 : Hid (Blk w4 gn 32 (mdC R.s R.st)) := fl_blk hT4 N3.out (by have := K3.out.lt; have := HG.out; omega)
  have S4 : Hid (Blk w4 gn 32 (mdC R.s R.st) ∧ Blk w4 (V.heap.size + 1) 32 (mdC sk tk) ∧ Blk w4 (V.heap.size + 1 + 1) 35 (mvC Y)) := ⟨N4.out, K4.out.bK, K4.out.bY⟩
  clear hP4 hT4 HI
  go_wp2_with fail
  refine ⟨rfl, S4, partsI_yield ?_⟩
  simp only [List.cons_append, List.nil_append, List.append_nil, List.filterMap_cons, List.filterMap_nil, List.getElem?_toArray, List.getElem?_cons_zero, List.getElem?_cons_succ]
  go_wp2_with fail
  first | (refine ⟨rfl, _, .bool true, rfl, Or.inl ⟨by rfl, fun W hW => by go_simp⟩, partsI_force ?_⟩) | (refine ⟨rfl, .bool true, Or.inl ⟨by rfl, fun W hW => by go_simp⟩, partsI_force ?_⟩)
  simp only [Act.put, List.setIfInBounds_toArray, List.set_cons_zero, List.set_cons_succ]
  simp only [List.cons_append, List.nil_append, List.append_nil, List.filterMap_cons, List.filterMap_nil, List.getElem?_toArray, List.getElem?_cons_zero, List.getElem?_cons_succ]
  have b1 := K4.out.b1
  refine wpList_store_row (by rfl) 32 _ _ (by rfl) (V.heap.size + 1 + 1 + 1) (mdC R.s R.st) (by rfl) (by rfl) 32 (_) (by exact b1) (sizeMd.trans (by rfl)) (by rfl) (md_all _ _) ?_
  simp only [Act.put, List.setIfInBounds_toArray, List.set_cons_zero, List.set_cons_succ]
  have K5 : Hid (MQ w V (w4.setRow (V.heap.size + 1 + 1 + 1) (mdC R.s R.st)) x mf ml mc cp (sm, tm) (sk, tk) (R.s, R.st) (sk, tk) Y (R.s, R.st) (⟨#[]⟩, 0)) := K4.out.row1 _ _
  have S5 : Hid (Blk (w4.setRow (V.heap.size + 1 + 1 + 1) (mdC R.s R.st)) gn 32 (mdC R.s R.st) ∧ Blk (w4.setRow (V.heap.size + 1 + 1 + 1) (mdC R.s R.st)) (V.heap.size + 1) 32 (mdC sk tk) ∧ Blk (w4.setRow (V.heap.size + 1 + 1 + 1) (mdC R.s R.st)) (V.heap.size + 1 + 1) 35 (mvC Y)) := ⟨N4.out.other _ (by have := HG.out; omega), K5.out.bK, K5.out.bY⟩
  clear b1 K4 N4 S4
  generalize (w4.setRow (V.heap.size + 1 + 1 + 1) (mdC R.s R.st)) = w5 at *
  go_wp2_with fail
  refine ⟨rfl, S5, partsI_force ?_⟩
  simp only [List.cons_append, List.nil_append, List.append_nil, List.filterMap_cons, List.filterMap_nil, List.getElem?_toArray, List.getElem?_cons_zero, List.getElem?_cons_succ]
  have b2 := K5.out.b2
  refine wpList_store_row (by rfl) 32 _ _ (by rfl) (V.heap.size + 1 + 1 + 1 + 1) (mdC sk tk) (by rfl) (by rfl) 32 (_) (by exact b2) (sizeMd.trans (by rfl)) (by rfl) (md_all _ _) ?_
  simp only [Act.put, List.setIfInBounds_toArray, List.set_cons_zero, List.set_cons_succ]
  have K6 : Hid (MQ w V (w5.setRow (V.heap.size + 1 + 1 + 1 + 1) (mdC sk tk)) x mf ml mc cp (sm, tm) (sk, tk) (R.s, R.st) (sk, tk) Y (R.s, R.st) (sk, tk)) := K5.out.row2 _ _
  have S6 : Hid (Blk (w5.setRow (V.heap.size + 1 + 1 + 1 + 1) (mdC sk tk)) gn 32 (mdC R.s R.st) ∧ Blk (w5.setRow (V.heap.size + 1 + 1 + 1 + 1) (mdC sk tk)) (V.heap.size + 1) 32 (mdC sk tk) ∧ Blk (w5.setRow (V.heap.size + 1 + 1 + 1 + 1) (mdC sk tk)) (V.heap.size + 1 + 1) 35 (mvC Y)) := ⟨S5.out.1.other _ (by have := HG.out; omega), K6.out.bK, K6.out.bY⟩
  clear b2 K5 S5
  generalize (w5.setRow (V.heap.size + 1 + 1 + 1 + 1) (mdC sk tk)) = w6 at *
  go_wp2_with fail
  refine ⟨rfl, S6, partsI_last ?_⟩
  simp only [List.cons_append, List.nil_append, List.append_nil, List.filterMap_cons, List.filterMap_nil, List.getElem?_toArray, List.getElem?_cons_zero, List.getElem?_cons_succ]
  go_wp2_with fail
  refine ⟨rfl, ?_⟩
  go_wp2_with fail
  try simp only [Exit.inBlock, Exit.then]
  refine bodyPost_ret (res_ccm Tryz.results8 _ _ (V.heap.size + 1 + 1 + 1) (V.heap.size + 1 + 1 + 1 + 1) 32 32 (mdC R.s R.st) (mdC sk tk) _ _ rfl rfl K6.out.b1 K6.out.b2 Tryz.underlying32 rfl (sizeMd.trans (by rfl)) Tryz.underlying32 rfl (sizeMd.trans (by rfl))) rfl ?_
  exact ⟨R.s, R.st, sk, tk, rfl, K6.out.pi, K6.out.tr⟩
end Go.Proofs.YtcmihdjbeihjbaaGreat
