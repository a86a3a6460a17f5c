/- The document's node of a reference in an image. -/
import Derived.Test.YtiofonffmplfmaaGreatHTrRGet
import Derived.Test.YtiofonffmplfmaaGreatHTrRead
import Derived.Handy

namespace Go.Proofs.YtiofonffmplfmaaGreat
theorem sgLHTrRKids : (∀ (α : Type) (a : α) (l r : List α), (a :: l) ++ r = a :: (l ++ r)) ∧ (∀ (α : Type) (l : List α), [] ++ l = l) ∧ (∀ (α : Type) (l : List α), l ++ [] = l) ∧ (∀ (α β : Type) (f : α → Option β) (a : α) (l : List α), (a :: l).filterMap f = match f a with | none => l.filterMap f | some b => b :: l.filterMap f) ∧ (∀ (α β : Type) (f : α → Option β), [].filterMap f = []) ∧ (∀ (α : Type) (l : List α) (i : Nat), l.toArray[i]? = l[i]?) ∧ (∀ (α : Type) (a : α) (l : List α), (a :: l)[0]? = some a) ∧ (∀ (α : Type) (a : α) (l : List α) (i : Nat), (a :: l)[i + 1]? = l[i]?) :=
  ⟨fun _ _ _ _ => List.cons_append, fun _ _ => List.nil_append _, fun _ _ => List.append_nil _, fun _ _ _ _ _ => List.filterMap_cons, fun _ _ _ => List.filterMap_nil, fun _ _ _ => List.getElem?_toArray, fun _ _ _ => List.getElem?_cons_zero, fun _ _ _ _ => List.getElem?_cons_succ⟩
theorem sgPHTrRKids : (∀ (α : Type) (l : List α) (i : Nat) (a : α), l.toArray.setIfInBounds i a = (l.set i a).toArray) ∧ (∀ (α : Type) (a b : α) (l : List α), (a :: l).set 0 b = b :: l) ∧ (∀ (α : Type) (a b : α) (l : List α) (i : Nat), (a :: l).set (i + 1) b = a :: l.set i b) :=
  ⟨fun _ _ _ _ => List.setIfInBounds_toArray _ _ _, fun _ _ _ _ => List.set_cons_zero, fun _ _ _ _ _ => List.set_cons_succ⟩
end Go.Proofs.YtiofonffmplfmaaGreat
namespace Go.Proofs.YtiofonffmplfmaaGreat
open Go Go.RowKit
set_option linter.unusedSimpArgs false
set_option linter.unusedVariables false

theorem rsizeNd : (Tryz.prog.info? 160).map (·.size) = some 133 := by kernel_rfl
theorem rsizeKd : (Tryz.prog.info? 149).map (·.size) = some 132 := by kernel_rfl
theorem rzero_kd (w : World) : (zeroValue 149).run Tryz.prog w = .ok (.agg (kdC fun _ => rf0)) w := zero_of (by kernel_rfl) w
theorem nd_kids {w : World} {b t : Nat} {l : Int} {K : Nat → Rf} (H : Blk w b t (ndC l K)) : w.rangeAt b 1 ((List.range 132).map (kdF K)) := by
  have := Blk.range (n := 133) (f := ndF l K) H 1 132 (by decide)
  rw [show ((List.range 132).map fun j => ndF l K (1 + j)) = (List.range 132).map (kdF K) from List.map_congr_left fun j hj => ?_] at this
  · exact this
  · unfold ndF
    rw [if_neg (by omega), show 1 + j - 1 = j by omega]
/-- an image in the memory -/
theorem img_at {w : World} {a : Option Addr} {N : Nat} {F : Nat → Nat} (H : IsBlks w a N fun i => blkAt F i) {i : Nat} (hi : i < N) : ∃ b o, a = some ⟨b, o, none⟩ ∧ b < w.heap.size ∧ RngB w b (o + i * 256) (blkAt F i) := H i hi
theorem rget_any {F : Nat → Nat} {N : Nat} (k : Rf) (hk : k.1 < 4294967296) (a : Option Addr) (cap : Nat) (hN : N ≤ 8192) (w : World) (H : IsBlks w a N fun i => blkAt F i) : Calls Tryz.prog 36 #[.slice a N cap, .agg (rfC k)] w fun x w' => x = .returned (.tuple #[.agg (va 256 (iv .u8 (gotF F N k))), .int .i64 (gotE F N k)]) ∧ Below w.heap.size w w' := by
  by_cases hk0 : k = rf0
  · rw [show gotF F N k = fun _ => 0 from if_neg (by simp [hk0]), show gotE F N k = 0 from if_pos (.inl hk0)]
    exact rget_none k hk0 a N cap w
  · by_cases hok : gotOk F N k
    · rw [show gotF F N k = blkAt F k.1 from if_pos ⟨hk0, hok⟩, show gotE F N k = 0 from if_pos (.inr hok)]
      obtain ⟨b, o, rfl, hb, hr⟩ := img_at H hok.2.1
      exact rget_good k hk0 hok.1 (blkAt F k.1) hok.2.2 b o N cap hN hok.2.1 w hr hb
    · rw [show gotF F N k = fun _ => 0 from if_neg fun u => hok u.2, show gotE F N k = 2 from if_neg fun u => u.elim hk0 hok]
      by_cases h0 : k.1 = 0
      · exact rget_zero k hk0 h0 a N cap hN w
      · by_cases hn : N ≤ k.1
        · exact rget_big k hk0 hk k.1 rfl h0 a N cap hn hN w
        · obtain ⟨b, o, rfl, hb, hr⟩ := img_at H (show k.1 < N by omega)
          exact rget_bad k hk0 h0 (blkAt F k.1) (fun u => hok ⟨h0, by omega, u⟩) b o N cap hN (by omega) w hr hb
section
variable {F : Nat → Nat} {N : Nat}
set_option maxRecDepth 100000 in
set_option maxHeartbeats 4000000 in
theorem rkids_got (l : Int) (k : Rf) (hk : k.1 < 4294967296) (hF : ∀ a, F a < 256) (f : Nat → Nat) (hf : gotF F N k = f) (he : gotE F N k = 2) (a : Option Addr) (cap : Nat) (hN : N ≤ 8192) (w : World) (H : IsBlks w a N fun i => blkAt F i) : Calls Tryz.prog 56 #[.slice a N cap, .int .i64 l, .agg (rfC k)] w fun x w' => x = .returned (.tuple #[.agg (kdC fun _ => rf0), .agg (va 256 (iv .u8 f)), .int .i64 2]) ∧ Below w.heap.size w w' := by
  have hz := rzero_bk
  have hzk := rzero_kd
  have hzn := zero_rnode
  have hGt : Hid (∀ w : World, (IsBlks w a N fun i => blkAt F i) → Calls Tryz.prog 36 #[.slice a N cap, .agg (rfC k)] w fun x w' => x = .returned (.tuple #[.agg (va 256 (iv .u8 f)), .int .i64 2]) ∧ Below w.heap.size w w') := fun w h1 => by
    have := rget_any k hk a cap hN w h1
    rw [hf, he] at this
    exact this
  have hb1 : Below w.heap.size w (((w.alloc (.cells (rfC k) 31)).alloc (.cells (kdC fun _ => rf0) 149)).alloc (.cells (va 256 (iv .u8 fun _ => 0)) 49)) := below_new3 _ _ _ _
  have p1 : Blk (((w.alloc (.cells (rfC k) 31)).alloc (.cells (kdC fun _ => rf0) 149)).alloc (.cells (va 256 (iv .u8 fun _ => 0)) 49)) w.heap.size 31 (rfC k) := ((Blk.new _ _ _).alloc _).alloc _
  have k1 : Blk (((w.alloc (.cells (rfC k) 31)).alloc (.cells (kdC fun _ => rf0) 149)).alloc (.cells (va 256 (iv .u8 fun _ => 0)) 49)) (w.heap.size + 1) 149 (kdC fun _ => rf0) := (Blk.new1 _ _ _ _).alloc _
  have n1 : Blk (((w.alloc (.cells (rfC k) 31)).alloc (.cells (kdC fun _ => rf0) 149)).alloc (.cells (va 256 (iv .u8 fun _ => 0)) 49)) (w.heap.size + 2) 49 (va 256 (iv .u8 fun _ => 0)) := Blk.new2 _ _ _ _ _
  have HI1 : Hid (IsBlks (((w.alloc (.cells (rfC k) 31)).alloc (.cells (kdC fun _ => rf0) 149)).alloc (.cells (va 256 (iv .u8 fun _ => 0)) 49)) a N fun i => blkAt F i) := H.below hb1
  clear H hf he hF hk hN
  go_enter Tryz.func56, Tryz.ntmps56
  go_wp2_with (first
    | (refine wpList_load_rowg (by rfl) 31 _ (by rfl) (w.heap.size) (by rfl) 31 (rfC k) (0, 0) _ (by exact p1) Tryz.underlying31 (by rfl) (rsizeRef.trans (by rw [rfC_size])) ?_; simp only [Act.put, sgPHTrRKids])
    | fail)
  generalize (((w.alloc (.cells (rfC k) 31)).alloc (.cells (kdC fun _ => rf0) 149)).alloc (.cells (va 256 (iv .u8 fun _ => 0)) 49)) = w1 at *
  refine (hGt.out w1 HI1.out).mono ?_
  rintro x w2 ⟨rfl, hb2⟩
  have k2 := k1.below hb2 k1.lt
  have n2 := n1.below hb2 n1.lt
  have HX3 : Hid (w.heap.size + 2 < w2.heap.size) := n2.lt
  have q0 := Blk.new w2 49 (va 256 (iv .u8 fun _ => 0))
  have x3 : Blk ((w2.alloc (.cells (va 256 (iv .u8 fun _ => 0)) 49)).setRow w2.heap.size (va 256 (iv .u8 f))) w2.heap.size 49 (va 256 (iv .u8 f)) := q0.set _
  have hb3 : Below w2.heap.size w2 ((w2.alloc (.cells (va 256 (iv .u8 fun _ => 0)) 49)).setRow w2.heap.size (va 256 (iv .u8 f))) := below_setRow (below_new1 _ _) (Nat.le_refl _) _
  have k3 := k2.below hb3 k2.lt
  have n3 := n2.below hb3 n2.lt
  have hb12 := hb1.trans (hb2.mono hb1.size)
  have hb13 := hb12.trans (hb3.mono hb12.size)
  clear k1 n1 k2 n2 p1 hb1 hb2 hb3 hb12 HI1 hGt
  go_wp2_with (first
    | (refine wpList_store_row (by rfl) 49 _ _ (by rfl) (w2.heap.size) (va 256 (iv .u8 f)) (by rfl) (by rfl) 49 (_) (by exact q0) (rsizeBk.trans (by rw [va_size])) (by simp only [va_size]) (iv_one _ _ _) ?_; simp only [Act.put, sgPHTrRKids])
    | fail)
  clear q0
  generalize ((w2.alloc (.cells (va 256 (iv .u8 fun _ => 0)) 49)).setRow w2.heap.size (va 256 (iv .u8 f))) = w3 at *
  generalize w2.heap.size = xb at *
  have HXN : Hid (xb ≠ w.heap.size + 1 ∧ xb ≠ w.heap.size + 2) := by
    have h1 := HX3.out
    exact ⟨by omega, by omega⟩
  have hS : Blk w3.drew xb 49 (va 256 (iv .u8 f)) := x3
  have kd : Blk w3.drew (w.heap.size + 1) 149 (kdC fun _ => rf0) := k3
  have bd : Blk w3.drew (w.heap.size + 2) 49 (va 256 (iv .u8 fun _ => 0)) := n3
  have hbd : Below w.heap.size w w3.drew := hb13.drew
  clear x3 k3 n3 hb13
  refine wp_region_plan (fun W => Blk W xb 49 (va 256 (iv .u8 f))) (.yield [] 0 (.yield [2] 1 (.force [] 3 (.force [] 4 (.fin [5]))))) (by kernel_rfl) (by kernel_rfl) hS (plan_yield ?_)
  simp only [sgLHTrRKids]
  go_wp2_with fail
  first | (refine ⟨rfl, _, .agg (kdC fun _ => rf0), rfl, Or.inl ⟨by rfl, fun W hW => by go_simp⟩, plan_yield ?_⟩) | (refine ⟨rfl, .agg (kdC fun _ => rf0), Or.inl ⟨by rfl, fun W hW => by go_simp⟩, plan_yield ?_⟩)
  simp only [Act.put, sgPHTrRKids]
  simp only [sgLHTrRKids]
  go_wp2_with fail
  first | (refine ⟨rfl, _, .agg (va 256 (iv .u8 f)), rfl, kyields_load (by rfl) 49 _ (by rfl) xb 256 (iv .u8 f) (by rfl) _ 49 (fun W hW => hW) Tryz.underlying49 rfl rsizeBk, plan_force ?_⟩) | (refine ⟨rfl, .agg (va 256 (iv .u8 f)), kyields_load (by rfl) 49 _ (by rfl) xb 256 (iv .u8 f) (by rfl) _ 49 (fun W hW => hW) Tryz.underlying49 rfl rsizeBk, plan_force ?_⟩)
  simp only [Act.put, sgPHTrRKids]
  simp only [sgLHTrRKids]
  refine wpList_store_row (by rfl) 149 _ _ (by rfl) (w.heap.size + 1) (kdC fun _ => rf0) (by rfl) (by rfl) 149 _ kd (rsizeKd.trans (by rw [kdC_size])) (by simp only [kdC_size]) (kdC_all _) ?_
  simp only [Act.put, sgPHTrRKids]
  go_wp2_with fail
  refine ⟨rfl, hS.other _ HXN.out.1, plan_force ?_⟩
  simp only [sgLHTrRKids]
  refine wpList_store_row (by rfl) 49 _ _ (by rfl) (w.heap.size + 2) (va 256 (iv .u8 f)) (by rfl) (by rfl) 49 _ (bd.other _ (by omega)) (rsizeBk.trans (by rw [va_size])) (by simp only [va_size]) (iv_one _ _ _) ?_
  simp only [Act.put, sgPHTrRKids]
  go_wp2_with fail
  refine ⟨rfl, (hS.other _ HXN.out.1).other _ HXN.out.2, plan_fin ?_⟩
  simp only [sgLHTrRKids]
  go_wp2_with fail
  refine ⟨rfl, ?_⟩
  go_wp2_with fail
  try simp only [Exit.inBlock, Exit.then]
  refine bodyPost_ret (results_rows3 Tryz.results56 _ _ (w.heap.size + 1) (w.heap.size + 2) 149 49 (kdC fun _ => rf0) (va 256 (iv .u8 f)) _ _ rfl (Blk.other (kd.set _) _ (by omega)) rfl ((bd.other _ (by omega)).set _) Tryz.underlying149 rfl (rsizeKd.trans (by rw [kdC_size])) Tryz.underlying49 rfl (rsizeBk.trans (by rw [va_size]))) rfl ?_
  exact ⟨rfl, below_setRow (below_setRow hbd (by omega) _) (by omega) _⟩
set_option maxRecDepth 100000 in
set_option maxHeartbeats 4000000 in
theorem rkids_bad (l : Int) (k : Rf) (hk : k.1 < 4294967296) (hF : ∀ a, F a < 256) (f : Nat → Nat) (hf : gotF F N k = f) (he : gotE F N k = 0) (hrd : rdOk f = false) (a : Option Addr) (cap : Nat) (hN : N ≤ 8192) (w : World) (H : IsBlks w a N fun i => blkAt F i) : Calls Tryz.prog 56 #[.slice a N cap, .int .i64 l, .agg (rfC k)] w fun x w' => x = .returned (.tuple #[.agg (kdC fun _ => rf0), .agg (va 256 (iv .u8 f)), .int .i64 70]) ∧ Below w.heap.size w w' := by
  have hz := rzero_bk
  have hzk := rzero_kd
  have hzn := zero_rnode
  have hGt : Hid (∀ w : World, (IsBlks w a N fun i => blkAt F i) → Calls Tryz.prog 36 #[.slice a N cap, .agg (rfC k)] w fun x w' => x = .returned (.tuple #[.agg (va 256 (iv .u8 f)), .int .i64 0]) ∧ Below w.heap.size w w') := fun w h1 => by
    have := rget_any k hk a cap hN w h1
    rw [hf, he] at this
    exact this
  have hRd : Hid (∀ w : World, Calls Tryz.prog 77 #[.agg (va 256 (iv .u8 f))] w fun x w' => x = .returned (.tuple #[.agg (ndC 0 fun _ => rf0), .int .i64 70]) ∧ Below w.heap.size w w') := fun w => by
    have := refRead_any f (fun j => by rw [← hf]; exact gotF_lt hF N k j) w
    simp only [hrd, Bool.false_eq_true, if_false, if_true] at this
    exact this
  have hb1 : Below w.heap.size w (((w.alloc (.cells (rfC k) 31)).alloc (.cells (kdC fun _ => rf0) 149)).alloc (.cells (va 256 (iv .u8 fun _ => 0)) 49)) := below_new3 _ _ _ _
  have p1 : Blk (((w.alloc (.cells (rfC k) 31)).alloc (.cells (kdC fun _ => rf0) 149)).alloc (.cells (va 256 (iv .u8 fun _ => 0)) 49)) w.heap.size 31 (rfC k) := ((Blk.new _ _ _).alloc _).alloc _
  have k1 : Blk (((w.alloc (.cells (rfC k) 31)).alloc (.cells (kdC fun _ => rf0) 149)).alloc (.cells (va 256 (iv .u8 fun _ => 0)) 49)) (w.heap.size + 1) 149 (kdC fun _ => rf0) := (Blk.new1 _ _ _ _).alloc _
  have n1 : Blk (((w.alloc (.cells (rfC k) 31)).alloc (.cells (kdC fun _ => rf0) 149)).alloc (.cells (va 256 (iv .u8 fun _ => 0)) 49)) (w.heap.size + 2) 49 (va 256 (iv .u8 fun _ => 0)) := Blk.new2 _ _ _ _ _
  have HI1 : Hid (IsBlks (((w.alloc (.cells (rfC k) 31)).alloc (.cells (kdC fun _ => rf0) 149)).alloc (.cells (va 256 (iv .u8 fun _ => 0)) 49)) a N fun i => blkAt F i) := H.below hb1
  clear H hf he hF hk hN hrd
  go_enter Tryz.func56, Tryz.ntmps56
  go_wp2_with (first
    | (refine wpList_load_rowg (by rfl) 31 _ (by rfl) (w.heap.size) (by rfl) 31 (rfC k) (0, 0) _ (by exact p1) Tryz.underlying31 (by rfl) (rsizeRef.trans (by rw [rfC_size])) ?_; simp only [Act.put, sgPHTrRKids])
    | fail)
  generalize (((w.alloc (.cells (rfC k) 31)).alloc (.cells (kdC fun _ => rf0) 149)).alloc (.cells (va 256 (iv .u8 fun _ => 0)) 49)) = w1 at *
  refine (hGt.out w1 HI1.out).mono ?_
  rintro x w2 ⟨rfl, hb2⟩
  have k2 := k1.below hb2 k1.lt
  have n2 := n1.below hb2 n1.lt
  have HX3 : Hid (w.heap.size + 2 < w2.heap.size) := n2.lt
  have q0 := Blk.new w2 49 (va 256 (iv .u8 fun _ => 0))
  have x3 : Blk ((w2.alloc (.cells (va 256 (iv .u8 fun _ => 0)) 49)).setRow w2.heap.size (va 256 (iv .u8 f))) w2.heap.size 49 (va 256 (iv .u8 f)) := q0.set _
  have hb3 : Below w2.heap.size w2 ((w2.alloc (.cells (va 256 (iv .u8 fun _ => 0)) 49)).setRow w2.heap.size (va 256 (iv .u8 f))) := below_setRow (below_new1 _ _) (Nat.le_refl _) _
  have k3 := k2.below hb3 k2.lt
  have n3 := n2.below hb3 n2.lt
  have hb12 := hb1.trans (hb2.mono hb1.size)
  have hb13 := hb12.trans (hb3.mono hb12.size)
  clear k1 n1 k2 n2 p1 hb1 hb2 hb3 hb12 HI1 hGt
  go_wp2_with (first
    | (refine wpList_store_row (by rfl) 49 _ _ (by rfl) (w2.heap.size) (va 256 (iv .u8 f)) (by rfl) (by rfl) 49 (_) (by exact q0) (rsizeBk.trans (by rw [va_size])) (by simp only [va_size]) (iv_one _ _ _) ?_; simp only [Act.put, sgPHTrRKids])
    | (refine wpList_load_rowg (by rfl) 49 _ (by rfl) (w2.heap.size) (by rfl) 49 (va 256 (iv .u8 f)) (0, 0) _ (by exact x3) Tryz.underlying49 (by rfl) (rsizeBk.trans (by rw [va_size])) ?_; simp only [Act.put, sgPHTrRKids])
    | fail)
  clear q0
  generalize ((w2.alloc (.cells (va 256 (iv .u8 fun _ => 0)) 49)).setRow w2.heap.size (va 256 (iv .u8 f))) = w3 at *
  generalize w2.heap.size = xb at *
  refine (hRd.out w3).mono ?_
  rintro x w4 ⟨rfl, hb4⟩
  have x4 := x3.below hb4 x3.lt
  have k4 := k3.below hb4 k3.lt
  have n4 := n3.below hb4 n3.lt
  have y0 := Blk.new w4 160 (ndC 0 fun _ => rf0)
  have y5 : Blk ((w4.alloc (.cells (ndC 0 fun _ => rf0) 160)).setRow w4.heap.size (ndC 0 fun _ => rf0)) w4.heap.size 160 (ndC 0 fun _ => rf0) := y0.set _
  have hb5 : Below w4.heap.size w4 ((w4.alloc (.cells (ndC 0 fun _ => rf0) 160)).setRow w4.heap.size (ndC 0 fun _ => rf0)) := below_setRow (below_new1 _ _) (Nat.le_refl _) _
  have x5 := x4.below hb5 x4.lt
  have k5 := k4.below hb5 k4.lt
  have n5 := n4.below hb5 n4.lt
  have v5 : ((w4.alloc (.cells (ndC 0 fun _ => rf0) 160)).setRow w4.heap.size (ndC 0 fun _ => rf0)).cell? ⟨w4.heap.size, 0, none⟩ = some (.int .i64 0) := (y5.cell 0).trans (va_at (ndF _ _) (by decide))
  have HN5 : Hid (w.heap.size + 2 < w4.heap.size) := n4.lt
  have hb14 := hb13.trans (hb4.mono hb13.size)
  have hb15 := hb14.trans (hb5.mono hb14.size)
  clear hb4 hb5 hb13 hb14 x3 k3 n3 x4 k4 n4
  go_wp2_with (first
    | (refine wpList_store_row (by rfl) 160 _ _ (by rfl) (w4.heap.size) (ndC 0 fun _ => rf0) (by rfl) (by rfl) 160 (_) (by exact y0) (rsizeNd.trans (by rw [ndC_size])) (by simp only [ndC_size]) (ndC_all _ _) ?_; simp only [Act.put, sgPHTrRKids])
    | fail)
  clear y0 v5
  generalize ((w4.alloc (.cells (ndC 0 fun _ => rf0) 160)).setRow w4.heap.size (ndC 0 fun _ => rf0)) = w5 at *
  generalize w4.heap.size = yb at *
  have HXN : Hid (xb ≠ w.heap.size + 1 ∧ xb ≠ w.heap.size + 2) := by
    have h1 := HX3.out
    have h2 := HN5.out
    exact ⟨by omega, by omega⟩
  have hS : Blk w5.drew xb 49 (va 256 (iv .u8 f)) := x5
  have kd : Blk w5.drew (w.heap.size + 1) 149 (kdC fun _ => rf0) := k5
  have bd : Blk w5.drew (w.heap.size + 2) 49 (va 256 (iv .u8 fun _ => 0)) := n5
  have hbd : Below w.heap.size w w5.drew := hb15.drew
  clear x5 k5 n5 y5 hb15
  refine wp_region_plan (fun W => Blk W xb 49 (va 256 (iv .u8 f))) (.yield [] 0 (.yield [] 1 (.force [] 2 (.force [] 3 (.fin [4]))))) (by kernel_rfl) (by kernel_rfl) hS (plan_yield ?_)
  simp only [sgLHTrRKids]
  go_wp2_with fail
  first | (refine ⟨rfl, _, .agg (kdC fun _ => rf0), rfl, Or.inl ⟨by rfl, fun W hW => by go_simp⟩, plan_yield ?_⟩) | (refine ⟨rfl, .agg (kdC fun _ => rf0), Or.inl ⟨by rfl, fun W hW => by go_simp⟩, plan_yield ?_⟩)
  simp only [Act.put, sgPHTrRKids]
  simp only [sgLHTrRKids]
  go_wp2_with fail
  first | (refine ⟨rfl, _, .agg (va 256 (iv .u8 f)), rfl, kyields_load (by rfl) 49 _ (by rfl) xb 256 (iv .u8 f) (by rfl) _ 49 (fun W hW => hW) Tryz.underlying49 rfl rsizeBk, plan_force ?_⟩) | (refine ⟨rfl, .agg (va 256 (iv .u8 f)), kyields_load (by rfl) 49 _ (by rfl) xb 256 (iv .u8 f) (by rfl) _ 49 (fun W hW => hW) Tryz.underlying49 rfl rsizeBk, plan_force ?_⟩)
  simp only [Act.put, sgPHTrRKids]
  simp only [sgLHTrRKids]
  refine wpList_store_row (by rfl) 149 _ _ (by rfl) (w.heap.size + 1) (kdC fun _ => rf0) (by rfl) (by rfl) 149 _ kd (rsizeKd.trans (by rw [kdC_size])) (by simp only [kdC_size]) (kdC_all _) ?_
  simp only [Act.put, sgPHTrRKids]
  go_wp2_with fail
  refine ⟨rfl, hS.other _ HXN.out.1, plan_force ?_⟩
  simp only [sgLHTrRKids]
  refine wpList_store_row (by rfl) 49 _ _ (by rfl) (w.heap.size + 2) (va 256 (iv .u8 f)) (by rfl) (by rfl) 49 _ (bd.other _ (by omega)) (rsizeBk.trans (by rw [va_size])) (by simp only [va_size]) (iv_one _ _ _) ?_
  simp only [Act.put, sgPHTrRKids]
  go_wp2_with fail
  refine ⟨rfl, (hS.other _ HXN.out.1).other _ HXN.out.2, plan_fin ?_⟩
  simp only [sgLHTrRKids]
  go_wp2_with fail
  refine ⟨rfl, ?_⟩
  go_wp2_with fail
  try simp only [Exit.inBlock, Exit.then]
  refine bodyPost_ret (results_rows3 Tryz.results56 _ _ (w.heap.size + 1) (w.heap.size + 2) 149 49 (kdC fun _ => rf0) (va 256 (iv .u8 f)) _ _ rfl (Blk.other (kd.set _) _ (by omega)) rfl ((bd.other _ (by omega)).set _) Tryz.underlying149 rfl (rsizeKd.trans (by rw [kdC_size])) Tryz.underlying49 rfl (rsizeBk.trans (by rw [va_size]))) rfl ?_
  exact ⟨rfl, below_setRow (below_setRow hbd (by omega) _) (by omega) _⟩
set_option maxRecDepth 100000 in
set_option maxHeartbeats 4000000 in
theorem rkids_lvl (l : Int) (k : Rf) (hk : k.1 < 4294967296) (hF : ∀ a, F a < 256) (f : Nat → Nat) (hf : gotF F N k = f) (he : gotE F N k = 0) (hrd : rdOk f = true) (hlv : ¬ ((f 4 : Nat) : Int) = l) (a : Option Addr) (cap : Nat) (hN : N ≤ 8192) (w : World) (H : IsBlks w a N fun i => blkAt F i) : Calls Tryz.prog 56 #[.slice a N cap, .int .i64 l, .agg (rfC k)] w fun x w' => x = .returned (.tuple #[.agg (kdC fun _ => rf0), .agg (va 256 (iv .u8 f)), .int .i64 70]) ∧ Below w.heap.size w w' := by
  have hz := rzero_bk
  have hzk := rzero_kd
  have hzn := zero_rnode
  have hGt : Hid (∀ w : World, (IsBlks w a N fun i => blkAt F i) → Calls Tryz.prog 36 #[.slice a N cap, .agg (rfC k)] w fun x w' => x = .returned (.tuple #[.agg (va 256 (iv .u8 f)), .int .i64 0]) ∧ Below w.heap.size w w') := fun w h1 => by
    have := rget_any k hk a cap hN w h1
    rw [hf, he] at this
    exact this
  have hRd : Hid (∀ w : World, Calls Tryz.prog 77 #[.agg (va 256 (iv .u8 f))] w fun x w' => x = .returned (.tuple #[.agg (ndC ((f 4 : Nat) : Int) (decK f)), .int .i64 0]) ∧ Below w.heap.size w w') := fun w => by
    have := refRead_any f (fun j => by rw [← hf]; exact gotF_lt hF N k j) w
    simp only [hrd, Bool.false_eq_true, if_false, if_true] at this
    exact this
  have hb1 : Below w.heap.size w (((w.alloc (.cells (rfC k) 31)).alloc (.cells (kdC fun _ => rf0) 149)).alloc (.cells (va 256 (iv .u8 fun _ => 0)) 49)) := below_new3 _ _ _ _
  have p1 : Blk (((w.alloc (.cells (rfC k) 31)).alloc (.cells (kdC fun _ => rf0) 149)).alloc (.cells (va 256 (iv .u8 fun _ => 0)) 49)) w.heap.size 31 (rfC k) := ((Blk.new _ _ _).alloc _).alloc _
  have k1 : Blk (((w.alloc (.cells (rfC k) 31)).alloc (.cells (kdC fun _ => rf0) 149)).alloc (.cells (va 256 (iv .u8 fun _ => 0)) 49)) (w.heap.size + 1) 149 (kdC fun _ => rf0) := (Blk.new1 _ _ _ _).alloc _
  have n1 : Blk (((w.alloc (.cells (rfC k) 31)).alloc (.cells (kdC fun _ => rf0) 149)).alloc (.cells (va 256 (iv .u8 fun _ => 0)) 49)) (w.heap.size + 2) 49 (va 256 (iv .u8 fun _ => 0)) := Blk.new2 _ _ _ _ _
  have HI1 : Hid (IsBlks (((w.alloc (.cells (rfC k) 31)).alloc (.cells (kdC fun _ => rf0) 149)).alloc (.cells (va 256 (iv .u8 fun _ => 0)) 49)) a N fun i => blkAt F i) := H.below hb1
  clear H hf he hF hk hN hrd
  go_enter Tryz.func56, Tryz.ntmps56
  go_wp2_with (first
    | (refine wpList_load_rowg (by rfl) 31 _ (by rfl) (w.heap.size) (by rfl) 31 (rfC k) (0, 0) _ (by exact p1) Tryz.underlying31 (by rfl) (rsizeRef.trans (by rw [rfC_size])) ?_; simp only [Act.put, sgPHTrRKids])
    | fail)
  generalize (((w.alloc (.cells (rfC k) 31)).alloc (.cells (kdC fun _ => rf0) 149)).alloc (.cells (va 256 (iv .u8 fun _ => 0)) 49)) = w1 at *
  refine (hGt.out w1 HI1.out).mono ?_
  rintro x w2 ⟨rfl, hb2⟩
  have k2 := k1.below hb2 k1.lt
  have n2 := n1.below hb2 n1.lt
  have HX3 : Hid (w.heap.size + 2 < w2.heap.size) := n2.lt
  have q0 := Blk.new w2 49 (va 256 (iv .u8 fun _ => 0))
  have x3 : Blk ((w2.alloc (.cells (va 256 (iv .u8 fun _ => 0)) 49)).setRow w2.heap.size (va 256 (iv .u8 f))) w2.heap.size 49 (va 256 (iv .u8 f)) := q0.set _
  have hb3 : Below w2.heap.size w2 ((w2.alloc (.cells (va 256 (iv .u8 fun _ => 0)) 49)).setRow w2.heap.size (va 256 (iv .u8 f))) := below_setRow (below_new1 _ _) (Nat.le_refl _) _
  have k3 := k2.below hb3 k2.lt
  have n3 := n2.below hb3 n2.lt
  have hb12 := hb1.trans (hb2.mono hb1.size)
  have hb13 := hb12.trans (hb3.mono hb12.size)
  clear k1 n1 k2 n2 p1 hb1 hb2 hb3 hb12 HI1 hGt
  go_wp2_with (first
    | (refine wpList_store_row (by rfl) 49 _ _ (by rfl) (w2.heap.size) (va 256 (iv .u8 f)) (by rfl) (by rfl) 49 (_) (by exact q0) (rsizeBk.trans (by rw [va_size])) (by simp only [va_size]) (iv_one _ _ _) ?_; simp only [Act.put, sgPHTrRKids])
    | (refine wpList_load_rowg (by rfl) 49 _ (by rfl) (w2.heap.size) (by rfl) 49 (va 256 (iv .u8 f)) (0, 0) _ (by exact x3) Tryz.underlying49 (by rfl) (rsizeBk.trans (by rw [va_size])) ?_; simp only [Act.put, sgPHTrRKids])
    | fail)
  clear q0
  generalize ((w2.alloc (.cells (va 256 (iv .u8 fun _ => 0)) 49)).setRow w2.heap.size (va 256 (iv .u8 f))) = w3 at *
  generalize w2.heap.size = xb at *
  refine (hRd.out w3).mono ?_
  rintro x w4 ⟨rfl, hb4⟩
  have x4 := x3.below hb4 x3.lt
  have k4 := k3.below hb4 k3.lt
  have n4 := n3.below hb4 n3.lt
  have y0 := Blk.new w4 160 (ndC 0 fun _ => rf0)
  have y5 : Blk ((w4.alloc (.cells (ndC 0 fun _ => rf0) 160)).setRow w4.heap.size (ndC ((f 4 : Nat) : Int) (decK f))) w4.heap.size 160 (ndC ((f 4 : Nat) : Int) (decK f)) := y0.set _
  have hb5 : Below w4.heap.size w4 ((w4.alloc (.cells (ndC 0 fun _ => rf0) 160)).setRow w4.heap.size (ndC ((f 4 : Nat) : Int) (decK f))) := below_setRow (below_new1 _ _) (Nat.le_refl _) _
  have x5 := x4.below hb5 x4.lt
  have k5 := k4.below hb5 k4.lt
  have n5 := n4.below hb5 n4.lt
  have v5 : ((w4.alloc (.cells (ndC 0 fun _ => rf0) 160)).setRow w4.heap.size (ndC ((f 4 : Nat) : Int) (decK f))).cell? ⟨w4.heap.size, 0, none⟩ = some (.int .i64 ((f 4 : Nat) : Int)) := (y5.cell 0).trans (va_at (ndF _ _) (by decide))
  have HN5 : Hid (w.heap.size + 2 < w4.heap.size) := n4.lt
  have hb14 := hb13.trans (hb4.mono hb13.size)
  have hb15 := hb14.trans (hb5.mono hb14.size)
  clear hb4 hb5 hb13 hb14 x3 k3 n3 x4 k4 n4
  have hne : ¬ ((f 4 : Nat) : Int) = l := hlv
  have hne2 : (((f 4 : Nat) : Int) != l) = true := by simp [hlv]
  have hne3 : decide (((f 4 : Nat) : Int) = l) = false := decide_eq_false hlv
  go_wp2_with (first
    | (refine wpList_store_row (by rfl) 160 _ _ (by rfl) (w4.heap.size) (ndC ((f 4 : Nat) : Int) (decK f)) (by rfl) (by rfl) 160 (_) (by exact y0) (rsizeNd.trans (by rw [ndC_size])) (by simp only [ndC_size]) (ndC_all _ _) ?_; simp only [Act.put, sgPHTrRKids])
    | fail)
  clear y0 v5
  generalize ((w4.alloc (.cells (ndC 0 fun _ => rf0) 160)).setRow w4.heap.size (ndC ((f 4 : Nat) : Int) (decK f))) = w5 at *
  generalize w4.heap.size = yb at *
  have HXN : Hid (xb ≠ w.heap.size + 1 ∧ xb ≠ w.heap.size + 2) := by
    have h1 := HX3.out
    have h2 := HN5.out
    exact ⟨by omega, by omega⟩
  have hS : Blk w5.drew xb 49 (va 256 (iv .u8 f)) := x5
  have kd : Blk w5.drew (w.heap.size + 1) 149 (kdC fun _ => rf0) := k5
  have bd : Blk w5.drew (w.heap.size + 2) 49 (va 256 (iv .u8 fun _ => 0)) := n5
  have hbd : Below w.heap.size w w5.drew := hb15.drew
  clear x5 k5 n5 y5 hb15
  refine wp_region_plan (fun W => Blk W xb 49 (va 256 (iv .u8 f))) (.yield [] 0 (.yield [] 1 (.force [] 2 (.force [] 3 (.fin [4]))))) (by kernel_rfl) (by kernel_rfl) hS (plan_yield ?_)
  simp only [sgLHTrRKids]
  go_wp2_with fail
  first | (refine ⟨rfl, _, .agg (kdC fun _ => rf0), rfl, Or.inl ⟨by rfl, fun W hW => by go_simp⟩, plan_yield ?_⟩) | (refine ⟨rfl, .agg (kdC fun _ => rf0), Or.inl ⟨by rfl, fun W hW => by go_simp⟩, plan_yield ?_⟩)
  simp only [Act.put, sgPHTrRKids]
  simp only [sgLHTrRKids]
  go_wp2_with fail
  first | (refine ⟨rfl, _, .agg (va 256 (iv .u8 f)), rfl, kyields_load (by rfl) 49 _ (by rfl) xb 256 (iv .u8 f) (by rfl) _ 49 (fun W hW => hW) Tryz.underlying49 rfl rsizeBk, plan_force ?_⟩) | (refine ⟨rfl, .agg (va 256 (iv .u8 f)), kyields_load (by rfl) 49 _ (by rfl) xb 256 (iv .u8 f) (by rfl) _ 49 (fun W hW => hW) Tryz.underlying49 rfl rsizeBk, plan_force ?_⟩)
  simp only [Act.put, sgPHTrRKids]
  simp only [sgLHTrRKids]
  refine wpList_store_row (by rfl) 149 _ _ (by rfl) (w.heap.size + 1) (kdC fun _ => rf0) (by rfl) (by rfl) 149 _ kd (rsizeKd.trans (by rw [kdC_size])) (by simp only [kdC_size]) (kdC_all _) ?_
  simp only [Act.put, sgPHTrRKids]
  go_wp2_with fail
  refine ⟨rfl, hS.other _ HXN.out.1, plan_force ?_⟩
  simp only [sgLHTrRKids]
  refine wpList_store_row (by rfl) 49 _ _ (by rfl) (w.heap.size + 2) (va 256 (iv .u8 f)) (by rfl) (by rfl) 49 _ (bd.other _ (by omega)) (rsizeBk.trans (by rw [va_size])) (by simp only [va_size]) (iv_one _ _ _) ?_
  simp only [Act.put, sgPHTrRKids]
  go_wp2_with fail
  refine ⟨rfl, (hS.other _ HXN.out.1).other _ HXN.out.2, plan_fin ?_⟩
  simp only [sgLHTrRKids]
  go_wp2_with fail
  refine ⟨rfl, ?_⟩
  go_wp2_with fail
  try simp only [Exit.inBlock, Exit.then]
  refine bodyPost_ret (results_rows3 Tryz.results56 _ _ (w.heap.size + 1) (w.heap.size + 2) 149 49 (kdC fun _ => rf0) (va 256 (iv .u8 f)) _ _ rfl (Blk.other (kd.set _) _ (by omega)) rfl ((bd.other _ (by omega)).set _) Tryz.underlying149 rfl (rsizeKd.trans (by rw [kdC_size])) Tryz.underlying49 rfl (rsizeBk.trans (by rw [va_size]))) rfl ?_
  exact ⟨rfl, below_setRow (below_setRow hbd (by omega) _) (by omega) _⟩
set_option maxRecDepth 100000 in
set_option maxHeartbeats 4000000 in
theorem rkids_ok (l : Int) (k : Rf) (hk : k.1 < 4294967296) (hF : ∀ a, F a < 256) (f : Nat → Nat) (hf : gotF F N k = f) (he : gotE F N k = 0) (hrd : rdOk f = true) (hlv : ((f 4 : Nat) : Int) = l) (a : Option Addr) (cap : Nat) (hN : N ≤ 8192) (w : World) (H : IsBlks w a N fun i => blkAt F i) : Calls Tryz.prog 56 #[.slice a N cap, .int .i64 l, .agg (rfC k)] w fun x w' => x = .returned (.tuple #[.agg (kdC (decK f)), .agg (va 256 (iv .u8 f)), .int .i64 0]) ∧ Below w.heap.size w w' := by
  have hz := rzero_bk
  have hzk := rzero_kd
  have hzn := zero_rnode
  have hGt : Hid (∀ w : World, (IsBlks w a N fun i => blkAt F i) → Calls Tryz.prog 36 #[.slice a N cap, .agg (rfC k)] w fun x w' => x = .returned (.tuple #[.agg (va 256 (iv .u8 f)), .int .i64 0]) ∧ Below w.heap.size w w') := fun w h1 => by
    have := rget_any k hk a cap hN w h1
    rw [hf, he] at this
    exact this
  have hRd : Hid (∀ w : World, Calls Tryz.prog 77 #[.agg (va 256 (iv .u8 f))] w fun x w' => x = .returned (.tuple #[.agg (ndC l (decK f)), .int .i64 0]) ∧ Below w.heap.size w w') := fun w => by
    have := refRead_any f (fun j => by rw [← hf]; exact gotF_lt hF N k j) w
    simp only [hrd, Bool.false_eq_true, if_false, if_true, hlv] at this
    exact this
  have hb1 : Below w.heap.size w (((w.alloc (.cells (rfC k) 31)).alloc (.cells (kdC fun _ => rf0) 149)).alloc (.cells (va 256 (iv .u8 fun _ => 0)) 49)) := below_new3 _ _ _ _
  have p1 : Blk (((w.alloc (.cells (rfC k) 31)).alloc (.cells (kdC fun _ => rf0) 149)).alloc (.cells (va 256 (iv .u8 fun _ => 0)) 49)) w.heap.size 31 (rfC k) := ((Blk.new _ _ _).alloc _).alloc _
  have k1 : Blk (((w.alloc (.cells (rfC k) 31)).alloc (.cells (kdC fun _ => rf0) 149)).alloc (.cells (va 256 (iv .u8 fun _ => 0)) 49)) (w.heap.size + 1) 149 (kdC fun _ => rf0) := (Blk.new1 _ _ _ _).alloc _
  have n1 : Blk (((w.alloc (.cells (rfC k) 31)).alloc (.cells (kdC fun _ => rf0) 149)).alloc (.cells (va 256 (iv .u8 fun _ => 0)) 49)) (w.heap.size + 2) 49 (va 256 (iv .u8 fun _ => 0)) := Blk.new2 _ _ _ _ _
  have HI1 : Hid (IsBlks (((w.alloc (.cells (rfC k) 31)).alloc (.cells (kdC fun _ => rf0) 149)).alloc (.cells (va 256 (iv .u8 fun _ => 0)) 49)) a N fun i => blkAt F i) := H.below hb1
  clear H hf he hF hk hN hrd
  go_enter Tryz.func56, Tryz.ntmps56
  go_wp2_with (first
    | (refine wpList_load_rowg (by rfl) 31 _ (by rfl) (w.heap.size) (by rfl) 31 (rfC k) (0, 0) _ (by exact p1) Tryz.underlying31 (by rfl) (rsizeRef.trans (by rw [rfC_size])) ?_; simp only [Act.put, sgPHTrRKids])
    | fail)
  generalize (((w.alloc (.cells (rfC k) 31)).alloc (.cells (kdC fun _ => rf0) 149)).alloc (.cells (va 256 (iv .u8 fun _ => 0)) 49)) = w1 at *
  refine (hGt.out w1 HI1.out).mono ?_
  rintro x w2 ⟨rfl, hb2⟩
  have k2 := k1.below hb2 k1.lt
  have n2 := n1.below hb2 n1.lt
  have HX3 : Hid (w.heap.size + 2 < w2.heap.size) := n2.lt
  have q0 := Blk.new w2 49 (va 256 (iv .u8 fun _ => 0))
  have x3 : Blk ((w2.alloc (.cells (va 256 (iv .u8 fun _ => 0)) 49)).setRow w2.heap.size (va 256 (iv .u8 f))) w2.heap.size 49 (va 256 (iv .u8 f)) := q0.set _
  have hb3 : Below w2.heap.size w2 ((w2.alloc (.cells (va 256 (iv .u8 fun _ => 0)) 49)).setRow w2.heap.size (va 256 (iv .u8 f))) := below_setRow (below_new1 _ _) (Nat.le_refl _) _
  have k3 := k2.below hb3 k2.lt
  have n3 := n2.below hb3 n2.lt
  have hb12 := hb1.trans (hb2.mono hb1.size)
  have hb13 := hb12.trans (hb3.mono hb12.size)
  clear k1 n1 k2 n2 p1 hb1 hb2 hb3 hb12 HI1 hGt
  go_wp2_with (first
    | (refine wpList_store_row (by rfl) 49 _ _ (by rfl) (w2.heap.size) (va 256 (iv .u8 f)) (by rfl) (by rfl) 49 (_) (by exact q0) (rsizeBk.trans (by rw [va_size])) (by simp only [va_size]) (iv_one _ _ _) ?_; simp only [Act.put, sgPHTrRKids])
    | (refine wpList_load_rowg (by rfl) 49 _ (by rfl) (w2.heap.size) (by rfl) 49 (va 256 (iv .u8 f)) (0, 0) _ (by exact x3) Tryz.underlying49 (by rfl) (rsizeBk.trans (by rw [va_size])) ?_; simp only [Act.put, sgPHTrRKids])
    | fail)
  clear q0
  generalize ((w2.alloc (.cells (va 256 (iv .u8 fun _ => 0)) 49)).setRow w2.heap.size (va 256 (iv .u8 f))) = w3 at *
  generalize w2.heap.size = xb at *
  refine (hRd.out w3).mono ?_
  rintro x w4 ⟨rfl, hb4⟩
  have x4 := x3.below hb4 x3.lt
  have k4 := k3.below hb4 k3.lt
  have n4 := n3.below hb4 n3.lt
  have y0 := Blk.new w4 160 (ndC 0 fun _ => rf0)
  have y5 : Blk ((w4.alloc (.cells (ndC 0 fun _ => rf0) 160)).setRow w4.heap.size (ndC l (decK f))) w4.heap.size 160 (ndC l (decK f)) := y0.set _
  have hb5 : Below w4.heap.size w4 ((w4.alloc (.cells (ndC 0 fun _ => rf0) 160)).setRow w4.heap.size (ndC l (decK f))) := below_setRow (below_new1 _ _) (Nat.le_refl _) _
  have x5 := x4.below hb5 x4.lt
  have k5 := k4.below hb5 k4.lt
  have n5 := n4.below hb5 n4.lt
  have v5 : ((w4.alloc (.cells (ndC 0 fun _ => rf0) 160)).setRow w4.heap.size (ndC l (decK f))).cell? ⟨w4.heap.size, 0, none⟩ = some (.int .i64 l) := (y5.cell 0).trans (va_at (ndF _ _) (by decide))
  have HN5 : Hid (w.heap.size + 2 < w4.heap.size) := n4.lt
  have hb14 := hb13.trans (hb4.mono hb13.size)
  have hb15 := hb14.trans (hb5.mono hb14.size)
  clear hb4 hb5 hb13 hb14 x3 k3 n3 x4 k4 n4
  go_wp2_with (first
    | (refine wpList_store_row (by rfl) 160 _ _ (by rfl) (w4.heap.size) (ndC l (decK f)) (by rfl) (by rfl) 160 (_) (by exact y0) (rsizeNd.trans (by rw [ndC_size])) (by simp only [ndC_size]) (ndC_all _ _) ?_; simp only [Act.put, sgPHTrRKids])
    | fail)
  clear y0 v5
  generalize ((w4.alloc (.cells (ndC 0 fun _ => rf0) 160)).setRow w4.heap.size (ndC l (decK f))) = w5 at *
  generalize w4.heap.size = yb at *
  have HXN : Hid (xb ≠ w.heap.size + 1 ∧ xb ≠ w.heap.size + 2 ∧ yb ≠ w.heap.size + 1 ∧ yb ≠ w.heap.size + 2) := by
    have h1 := HX3.out
    have h2 := HN5.out
    exact ⟨by omega, by omega, by omega, by omega⟩
  have hS : Blk w5.drew xb 49 (va 256 (iv .u8 f)) ∧ Blk w5.drew yb 160 (ndC l (decK f)) := ⟨x5, y5⟩
  have kd : Blk w5.drew (w.heap.size + 1) 149 (kdC fun _ => rf0) := k5
  have bd : Blk w5.drew (w.heap.size + 2) 49 (va 256 (iv .u8 fun _ => 0)) := n5
  have hbd : Below w.heap.size w w5.drew := hb15.drew
  clear x5 k5 n5 y5 hb15
  refine wp_region_plan (fun W => Blk W xb 49 (va 256 (iv .u8 f)) ∧ Blk W yb 160 (ndC l (decK f))) (.yield [] 0 (.yield [] 1 (.yield [] 2 (.force [] 3 (.force [] 4 (.fin [5])))))) (by kernel_rfl) (by kernel_rfl) hS (plan_yield ?_)
  simp only [sgLHTrRKids]
  go_wp2_with fail
  first | (refine ⟨rfl, _, .pointer (some ⟨yb, 1, none⟩), rfl, Or.inl ⟨by rfl, fun W hW => by go_simp⟩, plan_yield ?_⟩) | (refine ⟨rfl, .pointer (some ⟨yb, 1, none⟩), Or.inl ⟨by rfl, fun W hW => by go_simp⟩, plan_yield ?_⟩)
  simp only [Act.put, sgPHTrRKids]
  simp only [sgLHTrRKids]
  go_wp2_with fail
  first | (refine ⟨rfl, _, .agg (kdC (decK f)), rfl, kyields_load_at (by rfl) 149 _ (by rfl) yb 1 132 (kdF (decK f)) (by rfl) _ (fun W hW => nd_kids hW.2) Tryz.underlying149 rfl rsizeKd, plan_yield ?_⟩) | (refine ⟨rfl, .agg (kdC (decK f)), kyields_load_at (by rfl) 149 _ (by rfl) yb 1 132 (kdF (decK f)) (by rfl) _ (fun W hW => nd_kids hW.2) Tryz.underlying149 rfl rsizeKd, plan_yield ?_⟩)
  simp only [Act.put, sgPHTrRKids]
  simp only [sgLHTrRKids]
  go_wp2_with fail
  first | (refine ⟨rfl, _, .agg (va 256 (iv .u8 f)), rfl, kyields_load (by rfl) 49 _ (by rfl) xb 256 (iv .u8 f) (by rfl) _ 49 (fun W hW => hW.1) Tryz.underlying49 rfl rsizeBk, plan_force ?_⟩) | (refine ⟨rfl, .agg (va 256 (iv .u8 f)), kyields_load (by rfl) 49 _ (by rfl) xb 256 (iv .u8 f) (by rfl) _ 49 (fun W hW => hW.1) Tryz.underlying49 rfl rsizeBk, plan_force ?_⟩)
  simp only [Act.put, sgPHTrRKids]
  simp only [sgLHTrRKids]
  refine wpList_store_row (by rfl) 149 _ _ (by rfl) (w.heap.size + 1) (kdC (decK f)) (by rfl) (by rfl) 149 _ kd (rsizeKd.trans (by rw [kdC_size])) (by simp only [kdC_size]) (kdC_all _) ?_
  simp only [Act.put, sgPHTrRKids]
  go_wp2_with fail
  refine ⟨rfl, ⟨hS.1.other _ HXN.out.1, hS.2.other _ HXN.out.2.2.1⟩, plan_force ?_⟩
  simp only [sgLHTrRKids]
  refine wpList_store_row (by rfl) 49 _ _ (by rfl) (w.heap.size + 2) (va 256 (iv .u8 f)) (by rfl) (by rfl) 49 _ (bd.other _ (by omega)) (rsizeBk.trans (by rw [va_size])) (by simp only [va_size]) (iv_one _ _ _) ?_
  simp only [Act.put, sgPHTrRKids]
  go_wp2_with fail
  refine ⟨rfl, ⟨(hS.1.other _ HXN.out.1).other _ HXN.out.2.1, (hS.2.other _ HXN.out.2.2.1).other _ HXN.out.2.2.2⟩, plan_fin ?_⟩
  simp only [sgLHTrRKids]
  go_wp2_with fail
  refine ⟨rfl, ?_⟩
  go_wp2_with fail
  try simp only [Exit.inBlock, Exit.then]
  refine bodyPost_ret (results_rows3 Tryz.results56 _ _ (w.heap.size + 1) (w.heap.size + 2) 149 49 (kdC (decK f)) (va 256 (iv .u8 f)) _ _ rfl (Blk.other (kd.set _) _ (by omega)) rfl ((bd.other _ (by omega)).set _) Tryz.underlying149 rfl (rsizeKd.trans (by rw [kdC_size])) Tryz.underlying49 rfl (rsizeBk.trans (by rw [va_size]))) rfl ?_
  exact ⟨rfl, below_setRow (below_setRow hbd (by omega) _) (by omega) _⟩
/-- the document's Kids -/
theorem rkids_any (l : Int) (k : Rf) (hk : k.1 < 4294967296) (hF : ∀ a, F a < 256) (e : Int) (he : nodE F N l k = e) (a : Option Addr) (cap : Nat) (hN : N ≤ 8192) (w : World) (H : IsBlks w a N fun i => blkAt F i) : Calls Tryz.prog 56 #[.slice a N cap, .int .i64 l, .agg (rfC k)] w fun x w' => x = .returned (.tuple #[.agg (kdC (if e = 0 then decK (gotF F N k) else fun _ => rf0)), .agg (va 256 (iv .u8 (gotF F N k))), .int .i64 e]) ∧ Below w.heap.size w w' := by
  subst he
  rcases gotE_two F N k with h0 | h2
  · cases hr : rdOk (gotF F N k) with
    | false =>
      have h1 : nodE F N l k = 70 := by
        unfold nodE
        rw [if_pos h0, if_neg (by rw [hr]; simp)]
      rw [h1]
      exact rkids_bad l k hk hF _ rfl h0 hr a cap hN w H
    | true =>
      by_cases hl : ((gotF F N k 4 : Nat) : Int) = l
      · have h1 : nodE F N l k = 0 := by
          unfold nodE
          rw [if_pos h0, if_pos ⟨hr, hl⟩]
        rw [h1]
        exact rkids_ok l k hk hF _ rfl h0 hr hl a cap hN w H
      · have h1 : nodE F N l k = 70 := by
          unfold nodE
          rw [if_pos h0, if_neg (fun u => hl u.2)]
        rw [h1]
        exact rkids_lvl l k hk hF _ rfl h0 hr hl a cap hN w H
  · have h1 : nodE F N l k = 2 := by
      unfold nodE
      rw [if_neg (by rw [h2]; decide)]
    rw [h1]
    exact rkids_got l k hk hF _ rfl h2 a cap hN w H
end
end Go.Proofs.YtiofonffmplfmaaGreat
