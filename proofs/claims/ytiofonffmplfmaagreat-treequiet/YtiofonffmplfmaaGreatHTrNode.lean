/- Trees: a node that is read through a cache on a quiet disk. -/
import Derived.Test.YtiofonffmplfmaaGreatHTrRead
import Derived.Handy

namespace Go.Proofs.YtiofonffmplfmaaGreat
theorem sgLHTrNode : (∀ (α : Type) (a : α) (l r : List α), (a :: l) ++ r = a :: (l ++ r)) ∧ (∀ (α : Type) (l : List α), [] ++ l = l) ∧ (∀ (α : Type) (l : List α), l ++ [] = l) ∧ (∀ (α β : Type) (f : α → Option β) (a : α) (l : List α), (a :: l).filterMap f = match f a with | none => l.filterMap f | some b => b :: l.filterMap f) ∧ (∀ (α β : Type) (f : α → Option β), [].filterMap f = []) ∧ (∀ (α : Type) (l : List α) (i : Nat), l.toArray[i]? = l[i]?) ∧ (∀ (α : Type) (a : α) (l : List α), (a :: l)[0]? = some a) ∧ (∀ (α : Type) (a : α) (l : List α) (i : Nat), (a :: l)[i + 1]? = l[i]?) :=
  ⟨fun _ _ _ _ => List.cons_append, fun _ _ => List.nil_append _, fun _ _ => List.append_nil _, fun _ _ _ _ _ => List.filterMap_cons, fun _ _ _ => List.filterMap_nil, fun _ _ _ => List.getElem?_toArray, fun _ _ _ => List.getElem?_cons_zero, fun _ _ _ _ => List.getElem?_cons_succ⟩
theorem sgPHTrNode : (∀ (α : Type) (l : List α) (i : Nat) (a : α), l.toArray.setIfInBounds i a = (l.set i a).toArray) ∧ (∀ (α : Type) (a b : α) (l : List α), (a :: l).set 0 b = b :: l) ∧ (∀ (α : Type) (a b : α) (l : List α) (i : Nat), (a :: l).set (i + 1) b = a :: l.set i b) :=
  ⟨fun _ _ _ _ => List.setIfInBounds_toArray _ _ _, fun _ _ _ _ => List.set_cons_zero, fun _ _ _ _ _ => List.set_cons_succ⟩
end Go.Proofs.YtiofonffmplfmaaGreat
namespace Go.Proofs.YtiofonffmplfmaaGreat
open Go Go.RowKit
set_option linter.unusedSimpArgs false
set_option linter.unusedVariables false

theorem tsizeNd : (Tryz.prog.info? 142).map (·.size) = some 133 := by kernel_rfl
theorem results_rows3 {P : Program} {fn : Func} {p1 p2 u : Tmp} {ty1 ty2 : TypeId} (h : fn.results = #[.cell p1 ty1, .cell p2 ty2, .tmp u]) (tmps : Array Value) (w : World) (g1 g2 : Nat) (t1 t2 : TypeId) (cs1 cs2 : Array Value) (d1 d2 : TypeDesc)
    (hp1 : tmps.getD p1 undef = .pointer (some ⟨g1, 0, none⟩)) (hg1 : Blk w g1 t1 cs1) (hp2 : tmps.getD p2 undef = .pointer (some ⟨g2, 0, none⟩)) (hg2 : Blk w g2 t2 cs2)
    (hu1 : P.underlying ty1 = some d1) (hd1 : (match d1 with | .struct _ | .array _ _ => true | _ => false) = true) (hi1 : (P.info? ty1).map (·.size) = some cs1.size)
    (hu2 : P.underlying ty2 = some d2) (hd2 : (match d2 with | .struct _ | .array _ _ => true | _ => false) = true) (hi2 : (P.info? ty2).map (·.size) = some cs2.size) :
    (results fn tmps).run P w = .ok (.tuple #[.agg cs1, .agg cs2, tmps.getD u undef]) w := by
  have hp1' : tmps[p1]?.getD undef = .pointer (some ⟨g1, 0, none⟩) := by simpa using hp1
  have hp2' : tmps[p2]?.getD undef = .pointer (some ⟨g2, 0, none⟩) := by simpa using hp2
  simp [results, h, hp1', hp2', asAddr, run_loadVar_row w g1 t1 ty1 cs1 (0, 0) d1 hg1 hu1 hd1 hi1, run_loadVar_row w g2 t2 ty2 cs2 (0, 0) d2 hg2 hu2 hd2 hi2]
theorem gotF_lt {F : Nat → Nat} (hF : ∀ a, F a < 256) (N : Nat) (k : Rf) (j : Nat) : gotF F N k j < 256 := by
  unfold gotF
  split
  · exact hF _
  · exact Nat.zero_lt_succ _
section
variable {B g N c m room i : Nat} {F : Nat → Nat} {U : Nat → Prop}
set_option maxRecDepth 100000 in
set_option maxHeartbeats 4000000 in
theorem readNode_got (l p : Int) (k : Rf) (hk : k.1 < 4294967296) (hi : i < 68719476736) (hF : ∀ a, F a < 256) (f : Nat → Nat) (hf : gotF F N k = f) (he : gotE F N k = 2) (w : World) (H : TD w B g N F c m room i U) : Calls Tryz.prog 51 #[.pointer (some ⟨c, 0, none⟩), .agg (poC l p k)] w fun x w' => x = .returned (.tuple #[.agg (va 256 (iv .u8 fun _ => 0)), .agg (ndC 0 fun _ => rf0), .int .i64 2]) ∧ TDStep w w' B g N F c m room (i + 1) U := by
  have hz := zero_bk
  have hzn := zero_node
  have hGt : Hid (∀ w : World, TD w B g N F c m room i U → Calls Tryz.prog 32 #[.pointer (some ⟨c, 0, none⟩), .agg (rfC k)] w fun x w' => x = .returned (.tuple #[.agg (va 256 (iv .u8 f)), .int .i64 2]) ∧ TDStep w w' B g N F c m room (i + 1) U) := fun w h1 => by
    have := get_td k hk hi w h1
    rw [hf, he] at this
    exact this
  have hb1 : Below w.heap.size w (((w.alloc (.cells (poC l p k) 73)).alloc (.cells (va 256 (iv .u8 fun _ => 0)) 52)).alloc (.cells (ndC 0 fun _ => rf0) 142)) := below_new3 _ _ _ _
  have p1 : Blk (((w.alloc (.cells (poC l p k) 73)).alloc (.cells (va 256 (iv .u8 fun _ => 0)) 52)).alloc (.cells (ndC 0 fun _ => rf0) 142)) w.heap.size 73 (poC l p k) := ((Blk.new _ _ _).alloc _).alloc _
  have k1 : Blk (((w.alloc (.cells (poC l p k) 73)).alloc (.cells (va 256 (iv .u8 fun _ => 0)) 52)).alloc (.cells (ndC 0 fun _ => rf0) 142)) (w.heap.size + 1) 52 (va 256 (iv .u8 fun _ => 0)) := (Blk.new1 _ _ _ _).alloc _
  have n1 : Blk (((w.alloc (.cells (poC l p k) 73)).alloc (.cells (va 256 (iv .u8 fun _ => 0)) 52)).alloc (.cells (ndC 0 fun _ => rf0) 142)) (w.heap.size + 2) 142 (ndC 0 fun _ => rf0) := Blk.new2 _ _ _ _ _
  have HR1 : Hid ((((w.alloc (.cells (poC l p k) 73)).alloc (.cells (va 256 (iv .u8 fun _ => 0)) 52)).alloc (.cells (ndC 0 fun _ => rf0) 142)).rangeAt w.heap.size 2 ((List.range 33).map (rfF k.1 k.2))) := po_range p1
  have HT1 : Hid (TD (((w.alloc (.cells (poC l p k) 73)).alloc (.cells (va 256 (iv .u8 fun _ => 0)) 52)).alloc (.cells (ndC 0 fun _ => rf0) 142)) B g N F c m room i U) := H.below hb1
  have HUL : Hid (∀ x, U x → x < w.heap.size) := fun x hx => (H.lt x hx).2
  have HST : Hid (Turns U w (((w.alloc (.cells (poC l p k) 73)).alloc (.cells (va 256 (iv .u8 fun _ => 0)) 52)).alloc (.cells (ndC 0 fun _ => rf0) 142))) := .of_below hb1
  clear H hf he hF hi hk
  go_enter Tryz.func51, Tryz.ntmps51
  go_wp2_with (first
    | (refine wpList_load_blk (by rfl) 43 _ (by rfl) (w.heap.size) (2) 33 (rfF k.1 k.2) (by rfl) _ (by exact HR1.out) Tryz.underlying43 rfl tsizeRef ?_; simp only [Act.put, sgPHTrNode])
    | fail)
  clear HR1
  generalize (((w.alloc (.cells (poC l p k) 73)).alloc (.cells (va 256 (iv .u8 fun _ => 0)) 52)).alloc (.cells (ndC 0 fun _ => rf0) 142)) = w1 at *
  refine (hGt.out w1 HT1.out).mono ?_
  rintro x w2 ⟨rfl, U2, ht2, hm2, hu2⟩
  have HT2 : Hid (TD w2 B g N F c m room (i + 1) U2) := ht2
  have HM2 : Hid (Turns U w w2) := HST.out.trans hm2 fun x hx => .inl hx
  have HU2 : Hid (∀ x, U2 x → U x ∨ w1.heap.size ≤ x) := hu2
  have p2 : Blk w2 w.heap.size 73 (poC l p k) := hm2.blk p1 fun z => by have := HUL.out _ z; omega
  have k2 : Blk w2 (w.heap.size + 1) 52 (va 256 (iv .u8 fun _ => 0)) := hm2.blk k1 fun z => by have := HUL.out _ z; omega
  have n2 : Blk w2 (w.heap.size + 2) 142 (ndC 0 fun _ => rf0) := hm2.blk n1 fun z => by have := HUL.out _ z; omega
  have HW1 : Hid (w.heap.size + 2 < w1.heap.size) := n1.lt
  have q0 := Blk.new w2 52 (va 256 (iv .u8 fun _ => 0))
  have x3 : Blk ((w2.alloc (.cells (va 256 (iv .u8 fun _ => 0)) 52)).setRow w2.heap.size (va 256 (iv .u8 f))) w2.heap.size 52 (va 256 (iv .u8 f)) := q0.set _
  have hb3 : Below w2.heap.size w2 ((w2.alloc (.cells (va 256 (iv .u8 fun _ => 0)) 52)).setRow w2.heap.size (va 256 (iv .u8 f))) := below_setRow (below_new1 _ _) (Nat.le_refl _) _
  have p3 := p2.below hb3 p2.lt
  have k3 := k2.below hb3 k2.lt
  have n3 := n2.below hb3 n2.lt
  have z3 : ((w2.alloc (.cells (va 256 (iv .u8 fun _ => 0)) 52)).setRow w2.heap.size (va 256 (iv .u8 f))).cell? ⟨w.heap.size, 0, none⟩ = some (.int .i64 l) := (p3.cell 0).trans (va_at (poF l p k) (by decide))
  have HT3 : Hid (TD ((w2.alloc (.cells (va 256 (iv .u8 fun _ => 0)) 52)).setRow w2.heap.size (va 256 (iv .u8 f))) B g N F c m room (i + 1) U2) := HT2.out.below hb3
  have HM3 : Hid (Turns U w ((w2.alloc (.cells (va 256 (iv .u8 fun _ => 0)) 52)).setRow w2.heap.size (va 256 (iv .u8 f)))) := HM2.out.trans (Turns.of_below (S := U) hb3) fun x hx => .inl hx
  have HX3 : Hid (w.heap.size + 2 < w2.heap.size) := n2.lt
  clear ht2 hm2 hu2 p1 k1 n1 p2 k2 n2 hb3 hb1 HT1 HST HT2 HM2
  have k4 := k3.set (va 256 (iv .u8 fun _ => 0))
  have n4 := n3.other (va 256 (iv .u8 fun _ => 0)) (show w.heap.size + 2 ≠ w.heap.size + 1 by omega)
  go_wp2_with (first
    | (refine wpList_store_row (by rfl) 52 _ _ (by rfl) (w2.heap.size) (va 256 (iv .u8 f)) (by rfl) (by rfl) 52 _ q0 (sizeBk.trans (by rw [va_size])) (by simp only [va_size]) (iv_one _ _ _) ?_; simp only [Act.put, sgPHTrNode])
    | (refine wpList_store_row (by rfl) 52 _ _ (by rfl) (w.heap.size + 1) (va 256 (iv .u8 (fun _ => 0))) (by rfl) (by rfl) 52 _ k3 (sizeBk.trans (by rw [va_size])) (by simp only [va_size]) (iv_one _ _ _) ?_; simp only [Act.put, sgPHTrNode])
    | (refine wpList_store_row (by rfl) 142 _ _ (by rfl) (w.heap.size + 2) (ndC 0 fun _ => rf0) (by rfl) (by rfl) 142 (_) (by exact n4) (tsizeNd.trans (by rw [ndC_size])) (by simp only [ndC_size]) (ndC_all _ _) ?_; simp only [Act.put, sgPHTrNode])
    | fail)
  try simp only [Exit.inBlock, Exit.then]
  refine bodyPost_ret (results_rows3 Tryz.results51 _ _ (w.heap.size + 1) (w.heap.size + 2) 52 142 (va 256 (iv .u8 fun _ => 0)) (ndC 0 fun _ => rf0) _ _ rfl (k4.other _ (by omega)) rfl (n4.set _) Tryz.underlying52 rfl (sizeBk.trans (by rw [va_size])) Tryz.underlying142 rfl (tsizeNd.trans (by rw [ndC_size]))) rfl ?_
  have hfin : ∀ z, U2 z → z ≠ w.heap.size + 1 ∧ z ≠ w.heap.size + 2 := fun z hz => by
    rcases HU2.out z hz with u | u
    · have := HUL.out _ u
      omega
    · have := HW1.out
      omega
  exact ⟨rfl, U2, HT3.out.kept (by simp) fun z hz => (setRow_other _ _ z _ (hfin z hz).2).trans (setRow_other _ _ z _ (hfin z hz).1), (HM3.out.laid (by omega) _).laid (by omega) _, fun z hz => by
    rcases HU2.out z hz with u | u
    · exact .inl u
    · have := HW1.out
      exact .inr (by omega)⟩
set_option maxRecDepth 100000 in
set_option maxHeartbeats 4000000 in
theorem readNode_bad (l p : Int) (k : Rf) (hk : k.1 < 4294967296) (hi : i < 68719476736) (hF : ∀ a, F a < 256) (f : Nat → Nat) (hf : gotF F N k = f) (he : gotE F N k = 0) (hrd : rdOk f = false) (w : World) (H : TD w B g N F c m room i U) : Calls Tryz.prog 51 #[.pointer (some ⟨c, 0, none⟩), .agg (poC l p k)] w fun x w' => x = .returned (.tuple #[.agg (va 256 (iv .u8 fun _ => 0)), .agg (ndC 0 fun _ => rf0), .int .i64 70]) ∧ TDStep w w' B g N F c m room (i + 1) U := by
  have hz := zero_bk
  have hzn := zero_node
  have hGt : Hid (∀ w : World, TD w B g N F c m room i U → Calls Tryz.prog 32 #[.pointer (some ⟨c, 0, none⟩), .agg (rfC k)] w fun x w' => x = .returned (.tuple #[.agg (va 256 (iv .u8 f)), .int .i64 0]) ∧ TDStep w w' B g N F c m room (i + 1) U) := fun w h1 => by
    have := get_td k hk hi w h1
    rw [hf, he] at this
    exact this
  have hRd : Hid (∀ w : World, Calls Tryz.prog 69 #[.agg (va 256 (iv .u8 f))] w fun x w' => x = .returned (.tuple #[.agg (ndC 0 fun _ => rf0), .int .i64 70]) ∧ Below w.heap.size w w') := fun w => by
    have := read_any f (fun j => by rw [← hf]; exact gotF_lt hF N k j) w
    simp only [hrd, Bool.false_eq_true, if_false, if_true] at this
    exact this
  have hb1 : Below w.heap.size w (((w.alloc (.cells (poC l p k) 73)).alloc (.cells (va 256 (iv .u8 fun _ => 0)) 52)).alloc (.cells (ndC 0 fun _ => rf0) 142)) := below_new3 _ _ _ _
  have p1 : Blk (((w.alloc (.cells (poC l p k) 73)).alloc (.cells (va 256 (iv .u8 fun _ => 0)) 52)).alloc (.cells (ndC 0 fun _ => rf0) 142)) w.heap.size 73 (poC l p k) := ((Blk.new _ _ _).alloc _).alloc _
  have k1 : Blk (((w.alloc (.cells (poC l p k) 73)).alloc (.cells (va 256 (iv .u8 fun _ => 0)) 52)).alloc (.cells (ndC 0 fun _ => rf0) 142)) (w.heap.size + 1) 52 (va 256 (iv .u8 fun _ => 0)) := (Blk.new1 _ _ _ _).alloc _
  have n1 : Blk (((w.alloc (.cells (poC l p k) 73)).alloc (.cells (va 256 (iv .u8 fun _ => 0)) 52)).alloc (.cells (ndC 0 fun _ => rf0) 142)) (w.heap.size + 2) 142 (ndC 0 fun _ => rf0) := Blk.new2 _ _ _ _ _
  have HR1 : Hid ((((w.alloc (.cells (poC l p k) 73)).alloc (.cells (va 256 (iv .u8 fun _ => 0)) 52)).alloc (.cells (ndC 0 fun _ => rf0) 142)).rangeAt w.heap.size 2 ((List.range 33).map (rfF k.1 k.2))) := po_range p1
  have HT1 : Hid (TD (((w.alloc (.cells (poC l p k) 73)).alloc (.cells (va 256 (iv .u8 fun _ => 0)) 52)).alloc (.cells (ndC 0 fun _ => rf0) 142)) B g N F c m room i U) := H.below hb1
  have HUL : Hid (∀ x, U x → x < w.heap.size) := fun x hx => (H.lt x hx).2
  have HST : Hid (Turns U w (((w.alloc (.cells (poC l p k) 73)).alloc (.cells (va 256 (iv .u8 fun _ => 0)) 52)).alloc (.cells (ndC 0 fun _ => rf0) 142))) := .of_below hb1
  clear H hf he hF hi hk hrd
  go_enter Tryz.func51, Tryz.ntmps51
  go_wp2_with (first
    | (refine wpList_load_blk (by rfl) 43 _ (by rfl) (w.heap.size) (2) 33 (rfF k.1 k.2) (by rfl) _ (by exact HR1.out) Tryz.underlying43 rfl tsizeRef ?_; simp only [Act.put, sgPHTrNode])
    | fail)
  clear HR1
  generalize (((w.alloc (.cells (poC l p k) 73)).alloc (.cells (va 256 (iv .u8 fun _ => 0)) 52)).alloc (.cells (ndC 0 fun _ => rf0) 142)) = w1 at *
  refine (hGt.out w1 HT1.out).mono ?_
  rintro x w2 ⟨rfl, U2, ht2, hm2, hu2⟩
  have HT2 : Hid (TD w2 B g N F c m room (i + 1) U2) := ht2
  have HM2 : Hid (Turns U w w2) := HST.out.trans hm2 fun x hx => .inl hx
  have HU2 : Hid (∀ x, U2 x → U x ∨ w1.heap.size ≤ x) := hu2
  have p2 : Blk w2 w.heap.size 73 (poC l p k) := hm2.blk p1 fun z => by have := HUL.out _ z; omega
  have k2 : Blk w2 (w.heap.size + 1) 52 (va 256 (iv .u8 fun _ => 0)) := hm2.blk k1 fun z => by have := HUL.out _ z; omega
  have n2 : Blk w2 (w.heap.size + 2) 142 (ndC 0 fun _ => rf0) := hm2.blk n1 fun z => by have := HUL.out _ z; omega
  have HW1 : Hid (w.heap.size + 2 < w1.heap.size) := n1.lt
  have q0 := Blk.new w2 52 (va 256 (iv .u8 fun _ => 0))
  have x3 : Blk ((w2.alloc (.cells (va 256 (iv .u8 fun _ => 0)) 52)).setRow w2.heap.size (va 256 (iv .u8 f))) w2.heap.size 52 (va 256 (iv .u8 f)) := q0.set _
  have hb3 : Below w2.heap.size w2 ((w2.alloc (.cells (va 256 (iv .u8 fun _ => 0)) 52)).setRow w2.heap.size (va 256 (iv .u8 f))) := below_setRow (below_new1 _ _) (Nat.le_refl _) _
  have p3 := p2.below hb3 p2.lt
  have k3 := k2.below hb3 k2.lt
  have n3 := n2.below hb3 n2.lt
  have z3 : ((w2.alloc (.cells (va 256 (iv .u8 fun _ => 0)) 52)).setRow w2.heap.size (va 256 (iv .u8 f))).cell? ⟨w.heap.size, 0, none⟩ = some (.int .i64 l) := (p3.cell 0).trans (va_at (poF l p k) (by decide))
  have HT3 : Hid (TD ((w2.alloc (.cells (va 256 (iv .u8 fun _ => 0)) 52)).setRow w2.heap.size (va 256 (iv .u8 f))) B g N F c m room (i + 1) U2) := HT2.out.below hb3
  have HM3 : Hid (Turns U w ((w2.alloc (.cells (va 256 (iv .u8 fun _ => 0)) 52)).setRow w2.heap.size (va 256 (iv .u8 f)))) := HM2.out.trans (Turns.of_below (S := U) hb3) fun x hx => .inl hx
  have HX3 : Hid (w.heap.size + 2 < w2.heap.size) := n2.lt
  clear ht2 hm2 hu2 p1 k1 n1 p2 k2 n2 hb3 hb1 HT1 HST HT2 HM2
  go_wp2_with (first
    | (refine wpList_store_row (by rfl) 52 _ _ (by rfl) (w2.heap.size) (va 256 (iv .u8 f)) (by rfl) (by rfl) 52 _ q0 (sizeBk.trans (by rw [va_size])) (by simp only [va_size]) (iv_one _ _ _) ?_; simp only [Act.put, sgPHTrNode])
    | (refine wpList_load_row (by rfl) 52 _ (by rfl) (w2.heap.size) (by rfl) 52 (va 256 (iv .u8 f)) (0, 0) _ x3 Tryz.underlying52 (by rfl) (sizeBk.trans (by rw [va_size])) ?_; simp only [Act.put, sgPHTrNode])
    | fail)
  clear q0
  generalize ((w2.alloc (.cells (va 256 (iv .u8 fun _ => 0)) 52)).setRow w2.heap.size (va 256 (iv .u8 f))) = w3 at *
  generalize w2.heap.size = xb at *
  refine (hRd.out w3).mono ?_
  rintro x w4 ⟨rfl, hb4⟩
  have x4 := x3.below hb4 x3.lt
  have k4 := k3.below hb4 k3.lt
  have n4 := n3.below hb4 n3.lt
  have p4 := p3.below hb4 p3.lt
  have y0 := Blk.new w4 142 (ndC 0 fun _ => rf0)
  have y5 : Blk ((w4.alloc (.cells (ndC 0 fun _ => rf0) 142)).setRow w4.heap.size (ndC 0 fun _ => rf0)) w4.heap.size 142 (ndC 0 fun _ => rf0) := y0.set _
  have hb5 : Below w4.heap.size w4 ((w4.alloc (.cells (ndC 0 fun _ => rf0) 142)).setRow w4.heap.size (ndC 0 fun _ => rf0)) := below_setRow (below_new1 _ _) (Nat.le_refl _) _
  have x5 := x4.below hb5 x4.lt
  have k5 := k4.below hb5 k4.lt
  have n5 := n4.below hb5 n4.lt
  have p5 := p4.below hb5 p4.lt
  have z5 : ((w4.alloc (.cells (ndC 0 fun _ => rf0) 142)).setRow w4.heap.size (ndC 0 fun _ => rf0)).cell? ⟨w.heap.size, 0, none⟩ = some (.int .i64 l) := (p5.cell 0).trans (va_at (poF l p k) (by decide))
  have v5 : ((w4.alloc (.cells (ndC 0 fun _ => rf0) 142)).setRow w4.heap.size (ndC 0 fun _ => rf0)).cell? ⟨w4.heap.size, 0, none⟩ = some (.int .i64 0) := (y5.cell 0).trans (va_at (ndF _ _) (by decide))
  have HT5 : Hid (TD ((w4.alloc (.cells (ndC 0 fun _ => rf0) 142)).setRow w4.heap.size (ndC 0 fun _ => rf0)) B g N F c m room (i + 1) U2) := (HT3.out.below hb4).below hb5
  have HM5 : Hid (Turns U w ((w4.alloc (.cells (ndC 0 fun _ => rf0) 142)).setRow w4.heap.size (ndC 0 fun _ => rf0))) := (HM3.out.trans (Turns.of_below (S := U) hb4) fun x hx => .inl hx).trans (Turns.of_below (S := U) hb5) fun x hx => .inl hx
  have HN5 : Hid (w.heap.size + 2 < w4.heap.size) := n4.lt
  clear hb4 hb5 x3 k3 n3 p3 z3 x4 k4 n4 p4 p5 HT3 HM3
  have k6 := k5.set (va 256 (iv .u8 fun _ => 0))
  have n6 := n5.other (va 256 (iv .u8 fun _ => 0)) (show w.heap.size + 2 ≠ w.heap.size + 1 by omega)
  go_wp2_with (first
    | (refine wpList_store_row (by rfl) 142 _ _ (by rfl) (w4.heap.size) (ndC 0 fun _ => rf0) (by rfl) (by rfl) 142 (_) (by exact y0) (tsizeNd.trans (by rw [ndC_size])) (by simp only [ndC_size]) (ndC_all _ _) ?_; simp only [Act.put, sgPHTrNode])
    | (refine wpList_store_row (by rfl) 52 _ _ (by rfl) (w.heap.size + 1) (va 256 (iv .u8 (fun _ => 0))) (by rfl) (by rfl) 52 _ k5 (sizeBk.trans (by rw [va_size])) (by simp only [va_size]) (iv_one _ _ _) ?_; simp only [Act.put, sgPHTrNode])
    | (refine wpList_store_row (by rfl) 142 _ _ (by rfl) (w.heap.size + 2) (ndC 0 fun _ => rf0) (by rfl) (by rfl) 142 (_) (by exact n6) (tsizeNd.trans (by rw [ndC_size])) (by simp only [ndC_size]) (ndC_all _ _) ?_; simp only [Act.put, sgPHTrNode])
    | fail)
  try simp only [Exit.inBlock, Exit.then]
  refine bodyPost_ret (results_rows3 Tryz.results51 _ _ (w.heap.size + 1) (w.heap.size + 2) 52 142 (va 256 (iv .u8 fun _ => 0)) (ndC 0 fun _ => rf0) _ _ rfl (k6.other _ (by omega)) rfl (n6.set _) Tryz.underlying52 rfl (sizeBk.trans (by rw [va_size])) Tryz.underlying142 rfl (tsizeNd.trans (by rw [ndC_size]))) rfl ?_
  have hfin : ∀ z, U2 z → z ≠ w.heap.size + 1 ∧ z ≠ w.heap.size + 2 := fun z hz => by
    rcases HU2.out z hz with u | u
    · have := HUL.out _ u
      omega
    · have := HW1.out
      omega
  exact ⟨rfl, U2, HT5.out.kept (by simp) fun z hz => (setRow_other _ _ z _ (hfin z hz).2).trans (setRow_other _ _ z _ (hfin z hz).1), (HM5.out.laid (by omega) _).laid (by omega) _, fun z hz => by
    rcases HU2.out z hz with u | u
    · exact .inl u
    · have := HW1.out
      exact .inr (by omega)⟩
set_option maxRecDepth 100000 in
set_option maxHeartbeats 4000000 in
theorem readNode_lvl (l p : Int) (k : Rf) (hk : k.1 < 4294967296) (hi : i < 68719476736) (hF : ∀ a, F a < 256) (f : Nat → Nat) (hf : gotF F N k = f) (he : gotE F N k = 0) (hrd : rdOk f = true) (hlv : ¬ ((f 4 : Nat) : Int) = l) (w : World) (H : TD w B g N F c m room i U) : Calls Tryz.prog 51 #[.pointer (some ⟨c, 0, none⟩), .agg (poC l p k)] w fun x w' => x = .returned (.tuple #[.agg (va 256 (iv .u8 fun _ => 0)), .agg (ndC 0 fun _ => rf0), .int .i64 70]) ∧ TDStep w w' B g N F c m room (i + 1) U := by
  have hz := zero_bk
  have hzn := zero_node
  have hGt : Hid (∀ w : World, TD w B g N F c m room i U → Calls Tryz.prog 32 #[.pointer (some ⟨c, 0, none⟩), .agg (rfC k)] w fun x w' => x = .returned (.tuple #[.agg (va 256 (iv .u8 f)), .int .i64 0]) ∧ TDStep w w' B g N F c m room (i + 1) U) := fun w h1 => by
    have := get_td k hk hi w h1
    rw [hf, he] at this
    exact this
  have hRd : Hid (∀ w : World, Calls Tryz.prog 69 #[.agg (va 256 (iv .u8 f))] w fun x w' => x = .returned (.tuple #[.agg (ndC ((f 4 : Nat) : Int) (decK f)), .int .i64 0]) ∧ Below w.heap.size w w') := fun w => by
    have := read_any f (fun j => by rw [← hf]; exact gotF_lt hF N k j) w
    simp only [hrd, Bool.false_eq_true, if_false, if_true] at this
    exact this
  have hb1 : Below w.heap.size w (((w.alloc (.cells (poC l p k) 73)).alloc (.cells (va 256 (iv .u8 fun _ => 0)) 52)).alloc (.cells (ndC 0 fun _ => rf0) 142)) := below_new3 _ _ _ _
  have p1 : Blk (((w.alloc (.cells (poC l p k) 73)).alloc (.cells (va 256 (iv .u8 fun _ => 0)) 52)).alloc (.cells (ndC 0 fun _ => rf0) 142)) w.heap.size 73 (poC l p k) := ((Blk.new _ _ _).alloc _).alloc _
  have k1 : Blk (((w.alloc (.cells (poC l p k) 73)).alloc (.cells (va 256 (iv .u8 fun _ => 0)) 52)).alloc (.cells (ndC 0 fun _ => rf0) 142)) (w.heap.size + 1) 52 (va 256 (iv .u8 fun _ => 0)) := (Blk.new1 _ _ _ _).alloc _
  have n1 : Blk (((w.alloc (.cells (poC l p k) 73)).alloc (.cells (va 256 (iv .u8 fun _ => 0)) 52)).alloc (.cells (ndC 0 fun _ => rf0) 142)) (w.heap.size + 2) 142 (ndC 0 fun _ => rf0) := Blk.new2 _ _ _ _ _
  have HR1 : Hid ((((w.alloc (.cells (poC l p k) 73)).alloc (.cells (va 256 (iv .u8 fun _ => 0)) 52)).alloc (.cells (ndC 0 fun _ => rf0) 142)).rangeAt w.heap.size 2 ((List.range 33).map (rfF k.1 k.2))) := po_range p1
  have HT1 : Hid (TD (((w.alloc (.cells (poC l p k) 73)).alloc (.cells (va 256 (iv .u8 fun _ => 0)) 52)).alloc (.cells (ndC 0 fun _ => rf0) 142)) B g N F c m room i U) := H.below hb1
  have HUL : Hid (∀ x, U x → x < w.heap.size) := fun x hx => (H.lt x hx).2
  have HST : Hid (Turns U w (((w.alloc (.cells (poC l p k) 73)).alloc (.cells (va 256 (iv .u8 fun _ => 0)) 52)).alloc (.cells (ndC 0 fun _ => rf0) 142))) := .of_below hb1
  clear H hf he hF hi hk hrd
  go_enter Tryz.func51, Tryz.ntmps51
  go_wp2_with (first
    | (refine wpList_load_blk (by rfl) 43 _ (by rfl) (w.heap.size) (2) 33 (rfF k.1 k.2) (by rfl) _ (by exact HR1.out) Tryz.underlying43 rfl tsizeRef ?_; simp only [Act.put, sgPHTrNode])
    | fail)
  clear HR1
  generalize (((w.alloc (.cells (poC l p k) 73)).alloc (.cells (va 256 (iv .u8 fun _ => 0)) 52)).alloc (.cells (ndC 0 fun _ => rf0) 142)) = w1 at *
  refine (hGt.out w1 HT1.out).mono ?_
  rintro x w2 ⟨rfl, U2, ht2, hm2, hu2⟩
  have HT2 : Hid (TD w2 B g N F c m room (i + 1) U2) := ht2
  have HM2 : Hid (Turns U w w2) := HST.out.trans hm2 fun x hx => .inl hx
  have HU2 : Hid (∀ x, U2 x → U x ∨ w1.heap.size ≤ x) := hu2
  have p2 : Blk w2 w.heap.size 73 (poC l p k) := hm2.blk p1 fun z => by have := HUL.out _ z; omega
  have k2 : Blk w2 (w.heap.size + 1) 52 (va 256 (iv .u8 fun _ => 0)) := hm2.blk k1 fun z => by have := HUL.out _ z; omega
  have n2 : Blk w2 (w.heap.size + 2) 142 (ndC 0 fun _ => rf0) := hm2.blk n1 fun z => by have := HUL.out _ z; omega
  have HW1 : Hid (w.heap.size + 2 < w1.heap.size) := n1.lt
  have q0 := Blk.new w2 52 (va 256 (iv .u8 fun _ => 0))
  have x3 : Blk ((w2.alloc (.cells (va 256 (iv .u8 fun _ => 0)) 52)).setRow w2.heap.size (va 256 (iv .u8 f))) w2.heap.size 52 (va 256 (iv .u8 f)) := q0.set _
  have hb3 : Below w2.heap.size w2 ((w2.alloc (.cells (va 256 (iv .u8 fun _ => 0)) 52)).setRow w2.heap.size (va 256 (iv .u8 f))) := below_setRow (below_new1 _ _) (Nat.le_refl _) _
  have p3 := p2.below hb3 p2.lt
  have k3 := k2.below hb3 k2.lt
  have n3 := n2.below hb3 n2.lt
  have z3 : ((w2.alloc (.cells (va 256 (iv .u8 fun _ => 0)) 52)).setRow w2.heap.size (va 256 (iv .u8 f))).cell? ⟨w.heap.size, 0, none⟩ = some (.int .i64 l) := (p3.cell 0).trans (va_at (poF l p k) (by decide))
  have HT3 : Hid (TD ((w2.alloc (.cells (va 256 (iv .u8 fun _ => 0)) 52)).setRow w2.heap.size (va 256 (iv .u8 f))) B g N F c m room (i + 1) U2) := HT2.out.below hb3
  have HM3 : Hid (Turns U w ((w2.alloc (.cells (va 256 (iv .u8 fun _ => 0)) 52)).setRow w2.heap.size (va 256 (iv .u8 f)))) := HM2.out.trans (Turns.of_below (S := U) hb3) fun x hx => .inl hx
  have HX3 : Hid (w.heap.size + 2 < w2.heap.size) := n2.lt
  clear ht2 hm2 hu2 p1 k1 n1 p2 k2 n2 hb3 hb1 HT1 HST HT2 HM2
  go_wp2_with (first
    | (refine wpList_store_row (by rfl) 52 _ _ (by rfl) (w2.heap.size) (va 256 (iv .u8 f)) (by rfl) (by rfl) 52 _ q0 (sizeBk.trans (by rw [va_size])) (by simp only [va_size]) (iv_one _ _ _) ?_; simp only [Act.put, sgPHTrNode])
    | (refine wpList_load_row (by rfl) 52 _ (by rfl) (w2.heap.size) (by rfl) 52 (va 256 (iv .u8 f)) (0, 0) _ x3 Tryz.underlying52 (by rfl) (sizeBk.trans (by rw [va_size])) ?_; simp only [Act.put, sgPHTrNode])
    | fail)
  clear q0
  generalize ((w2.alloc (.cells (va 256 (iv .u8 fun _ => 0)) 52)).setRow w2.heap.size (va 256 (iv .u8 f))) = w3 at *
  generalize w2.heap.size = xb at *
  refine (hRd.out w3).mono ?_
  rintro x w4 ⟨rfl, hb4⟩
  have x4 := x3.below hb4 x3.lt
  have k4 := k3.below hb4 k3.lt
  have n4 := n3.below hb4 n3.lt
  have p4 := p3.below hb4 p3.lt
  have y0 := Blk.new w4 142 (ndC 0 fun _ => rf0)
  have y5 : Blk ((w4.alloc (.cells (ndC 0 fun _ => rf0) 142)).setRow w4.heap.size (ndC ((f 4 : Nat) : Int) (decK f))) w4.heap.size 142 (ndC ((f 4 : Nat) : Int) (decK f)) := y0.set _
  have hb5 : Below w4.heap.size w4 ((w4.alloc (.cells (ndC 0 fun _ => rf0) 142)).setRow w4.heap.size (ndC ((f 4 : Nat) : Int) (decK f))) := below_setRow (below_new1 _ _) (Nat.le_refl _) _
  have x5 := x4.below hb5 x4.lt
  have k5 := k4.below hb5 k4.lt
  have n5 := n4.below hb5 n4.lt
  have p5 := p4.below hb5 p4.lt
  have z5 : ((w4.alloc (.cells (ndC 0 fun _ => rf0) 142)).setRow w4.heap.size (ndC ((f 4 : Nat) : Int) (decK f))).cell? ⟨w.heap.size, 0, none⟩ = some (.int .i64 l) := (p5.cell 0).trans (va_at (poF l p k) (by decide))
  have v5 : ((w4.alloc (.cells (ndC 0 fun _ => rf0) 142)).setRow w4.heap.size (ndC ((f 4 : Nat) : Int) (decK f))).cell? ⟨w4.heap.size, 0, none⟩ = some (.int .i64 ((f 4 : Nat) : Int)) := (y5.cell 0).trans (va_at (ndF _ _) (by decide))
  have HT5 : Hid (TD ((w4.alloc (.cells (ndC 0 fun _ => rf0) 142)).setRow w4.heap.size (ndC ((f 4 : Nat) : Int) (decK f))) B g N F c m room (i + 1) U2) := (HT3.out.below hb4).below hb5
  have HM5 : Hid (Turns U w ((w4.alloc (.cells (ndC 0 fun _ => rf0) 142)).setRow w4.heap.size (ndC ((f 4 : Nat) : Int) (decK f)))) := (HM3.out.trans (Turns.of_below (S := U) hb4) fun x hx => .inl hx).trans (Turns.of_below (S := U) hb5) fun x hx => .inl hx
  have HN5 : Hid (w.heap.size + 2 < w4.heap.size) := n4.lt
  clear hb4 hb5 x3 k3 n3 p3 z3 x4 k4 n4 p4 p5 HT3 HM3
  have hne : ¬ ((f 4 : Nat) : Int) = l := hlv
  have hne2 : (((f 4 : Nat) : Int) != l) = true := by simp [hlv]
  have hne3 : decide (((f 4 : Nat) : Int) = l) = false := decide_eq_false hlv
  have k6 := k5.set (va 256 (iv .u8 fun _ => 0))
  have n6 := n5.other (va 256 (iv .u8 fun _ => 0)) (show w.heap.size + 2 ≠ w.heap.size + 1 by omega)
  go_wp2_with (first
    | (refine wpList_store_row (by rfl) 142 _ _ (by rfl) (w4.heap.size) (ndC ((f 4 : Nat) : Int) (decK f)) (by rfl) (by rfl) 142 (_) (by exact y0) (tsizeNd.trans (by rw [ndC_size])) (by simp only [ndC_size]) (ndC_all _ _) ?_; simp only [Act.put, sgPHTrNode])
    | (refine wpList_store_row (by rfl) 52 _ _ (by rfl) (w.heap.size + 1) (va 256 (iv .u8 (fun _ => 0))) (by rfl) (by rfl) 52 _ k5 (sizeBk.trans (by rw [va_size])) (by simp only [va_size]) (iv_one _ _ _) ?_; simp only [Act.put, sgPHTrNode])
    | (refine wpList_store_row (by rfl) 142 _ _ (by rfl) (w.heap.size + 2) (ndC 0 fun _ => rf0) (by rfl) (by rfl) 142 (_) (by exact n6) (tsizeNd.trans (by rw [ndC_size])) (by simp only [ndC_size]) (ndC_all _ _) ?_; simp only [Act.put, sgPHTrNode])
    | fail)
  try simp only [Exit.inBlock, Exit.then]
  refine bodyPost_ret (results_rows3 Tryz.results51 _ _ (w.heap.size + 1) (w.heap.size + 2) 52 142 (va 256 (iv .u8 fun _ => 0)) (ndC 0 fun _ => rf0) _ _ rfl (k6.other _ (by omega)) rfl (n6.set _) Tryz.underlying52 rfl (sizeBk.trans (by rw [va_size])) Tryz.underlying142 rfl (tsizeNd.trans (by rw [ndC_size]))) rfl ?_
  have hfin : ∀ z, U2 z → z ≠ w.heap.size + 1 ∧ z ≠ w.heap.size + 2 := fun z hz => by
    rcases HU2.out z hz with u | u
    · have := HUL.out _ u
      omega
    · have := HW1.out
      omega
  exact ⟨rfl, U2, HT5.out.kept (by simp) fun z hz => (setRow_other _ _ z _ (hfin z hz).2).trans (setRow_other _ _ z _ (hfin z hz).1), (HM5.out.laid (by omega) _).laid (by omega) _, fun z hz => by
    rcases HU2.out z hz with u | u
    · exact .inl u
    · have := HW1.out
      exact .inr (by omega)⟩
set_option maxRecDepth 100000 in
set_option maxHeartbeats 4000000 in
theorem readNode_ok (l p : Int) (k : Rf) (hk : k.1 < 4294967296) (hi : i < 68719476736) (hF : ∀ a, F a < 256) (f : Nat → Nat) (hf : gotF F N k = f) (he : gotE F N k = 0) (hrd : rdOk f = true) (hlv : ((f 4 : Nat) : Int) = l) (w : World) (H : TD w B g N F c m room i U) : Calls Tryz.prog 51 #[.pointer (some ⟨c, 0, none⟩), .agg (poC l p k)] w fun x w' => x = .returned (.tuple #[.agg (va 256 (iv .u8 f)), .agg (ndC l (decK f)), .int .i64 0]) ∧ TDStep w w' B g N F c m room (i + 1) U := by
  have hz := zero_bk
  have hzn := zero_node
  have hGt : Hid (∀ w : World, TD w B g N F c m room i U → Calls Tryz.prog 32 #[.pointer (some ⟨c, 0, none⟩), .agg (rfC k)] w fun x w' => x = .returned (.tuple #[.agg (va 256 (iv .u8 f)), .int .i64 0]) ∧ TDStep w w' B g N F c m room (i + 1) U) := fun w h1 => by
    have := get_td k hk hi w h1
    rw [hf, he] at this
    exact this
  have hRd : Hid (∀ w : World, Calls Tryz.prog 69 #[.agg (va 256 (iv .u8 f))] w fun x w' => x = .returned (.tuple #[.agg (ndC l (decK f)), .int .i64 0]) ∧ Below w.heap.size w w') := fun w => by
    have := read_any f (fun j => by rw [← hf]; exact gotF_lt hF N k j) w
    simp only [hrd, Bool.false_eq_true, if_false, if_true, hlv] at this
    exact this
  have hb1 : Below w.heap.size w (((w.alloc (.cells (poC l p k) 73)).alloc (.cells (va 256 (iv .u8 fun _ => 0)) 52)).alloc (.cells (ndC 0 fun _ => rf0) 142)) := below_new3 _ _ _ _
  have p1 : Blk (((w.alloc (.cells (poC l p k) 73)).alloc (.cells (va 256 (iv .u8 fun _ => 0)) 52)).alloc (.cells (ndC 0 fun _ => rf0) 142)) w.heap.size 73 (poC l p k) := ((Blk.new _ _ _).alloc _).alloc _
  have k1 : Blk (((w.alloc (.cells (poC l p k) 73)).alloc (.cells (va 256 (iv .u8 fun _ => 0)) 52)).alloc (.cells (ndC 0 fun _ => rf0) 142)) (w.heap.size + 1) 52 (va 256 (iv .u8 fun _ => 0)) := (Blk.new1 _ _ _ _).alloc _
  have n1 : Blk (((w.alloc (.cells (poC l p k) 73)).alloc (.cells (va 256 (iv .u8 fun _ => 0)) 52)).alloc (.cells (ndC 0 fun _ => rf0) 142)) (w.heap.size + 2) 142 (ndC 0 fun _ => rf0) := Blk.new2 _ _ _ _ _
  have HR1 : Hid ((((w.alloc (.cells (poC l p k) 73)).alloc (.cells (va 256 (iv .u8 fun _ => 0)) 52)).alloc (.cells (ndC 0 fun _ => rf0) 142)).rangeAt w.heap.size 2 ((List.range 33).map (rfF k.1 k.2))) := po_range p1
  have HT1 : Hid (TD (((w.alloc (.cells (poC l p k) 73)).alloc (.cells (va 256 (iv .u8 fun _ => 0)) 52)).alloc (.cells (ndC 0 fun _ => rf0) 142)) B g N F c m room i U) := H.below hb1
  have HUL : Hid (∀ x, U x → x < w.heap.size) := fun x hx => (H.lt x hx).2
  have HST : Hid (Turns U w (((w.alloc (.cells (poC l p k) 73)).alloc (.cells (va 256 (iv .u8 fun _ => 0)) 52)).alloc (.cells (ndC 0 fun _ => rf0) 142))) := .of_below hb1
  clear H hf he hF hi hk hrd
  go_enter Tryz.func51, Tryz.ntmps51
  go_wp2_with (first
    | (refine wpList_load_blk (by rfl) 43 _ (by rfl) (w.heap.size) (2) 33 (rfF k.1 k.2) (by rfl) _ (by exact HR1.out) Tryz.underlying43 rfl tsizeRef ?_; simp only [Act.put, sgPHTrNode])
    | fail)
  clear HR1
  generalize (((w.alloc (.cells (poC l p k) 73)).alloc (.cells (va 256 (iv .u8 fun _ => 0)) 52)).alloc (.cells (ndC 0 fun _ => rf0) 142)) = w1 at *
  refine (hGt.out w1 HT1.out).mono ?_
  rintro x w2 ⟨rfl, U2, ht2, hm2, hu2⟩
  have HT2 : Hid (TD w2 B g N F c m room (i + 1) U2) := ht2
  have HM2 : Hid (Turns U w w2) := HST.out.trans hm2 fun x hx => .inl hx
  have HU2 : Hid (∀ x, U2 x → U x ∨ w1.heap.size ≤ x) := hu2
  have p2 : Blk w2 w.heap.size 73 (poC l p k) := hm2.blk p1 fun z => by have := HUL.out _ z; omega
  have k2 : Blk w2 (w.heap.size + 1) 52 (va 256 (iv .u8 fun _ => 0)) := hm2.blk k1 fun z => by have := HUL.out _ z; omega
  have n2 : Blk w2 (w.heap.size + 2) 142 (ndC 0 fun _ => rf0) := hm2.blk n1 fun z => by have := HUL.out _ z; omega
  have HW1 : Hid (w.heap.size + 2 < w1.heap.size) := n1.lt
  have q0 := Blk.new w2 52 (va 256 (iv .u8 fun _ => 0))
  have x3 : Blk ((w2.alloc (.cells (va 256 (iv .u8 fun _ => 0)) 52)).setRow w2.heap.size (va 256 (iv .u8 f))) w2.heap.size 52 (va 256 (iv .u8 f)) := q0.set _
  have hb3 : Below w2.heap.size w2 ((w2.alloc (.cells (va 256 (iv .u8 fun _ => 0)) 52)).setRow w2.heap.size (va 256 (iv .u8 f))) := below_setRow (below_new1 _ _) (Nat.le_refl _) _
  have p3 := p2.below hb3 p2.lt
  have k3 := k2.below hb3 k2.lt
  have n3 := n2.below hb3 n2.lt
  have z3 : ((w2.alloc (.cells (va 256 (iv .u8 fun _ => 0)) 52)).setRow w2.heap.size (va 256 (iv .u8 f))).cell? ⟨w.heap.size, 0, none⟩ = some (.int .i64 l) := (p3.cell 0).trans (va_at (poF l p k) (by decide))
  have HT3 : Hid (TD ((w2.alloc (.cells (va 256 (iv .u8 fun _ => 0)) 52)).setRow w2.heap.size (va 256 (iv .u8 f))) B g N F c m room (i + 1) U2) := HT2.out.below hb3
  have HM3 : Hid (Turns U w ((w2.alloc (.cells (va 256 (iv .u8 fun _ => 0)) 52)).setRow w2.heap.size (va 256 (iv .u8 f)))) := HM2.out.trans (Turns.of_below (S := U) hb3) fun x hx => .inl hx
  have HX3 : Hid (w.heap.size + 2 < w2.heap.size) := n2.lt
  clear ht2 hm2 hu2 p1 k1 n1 p2 k2 n2 hb3 hb1 HT1 HST HT2 HM2
  go_wp2_with (first
    | (refine wpList_store_row (by rfl) 52 _ _ (by rfl) (w2.heap.size) (va 256 (iv .u8 f)) (by rfl) (by rfl) 52 _ q0 (sizeBk.trans (by rw [va_size])) (by simp only [va_size]) (iv_one _ _ _) ?_; simp only [Act.put, sgPHTrNode])
    | (refine wpList_load_row (by rfl) 52 _ (by rfl) (w2.heap.size) (by rfl) 52 (va 256 (iv .u8 f)) (0, 0) _ x3 Tryz.underlying52 (by rfl) (sizeBk.trans (by rw [va_size])) ?_; simp only [Act.put, sgPHTrNode])
    | fail)
  clear q0
  generalize ((w2.alloc (.cells (va 256 (iv .u8 fun _ => 0)) 52)).setRow w2.heap.size (va 256 (iv .u8 f))) = w3 at *
  generalize w2.heap.size = xb at *
  refine (hRd.out w3).mono ?_
  rintro x w4 ⟨rfl, hb4⟩
  have x4 := x3.below hb4 x3.lt
  have k4 := k3.below hb4 k3.lt
  have n4 := n3.below hb4 n3.lt
  have p4 := p3.below hb4 p3.lt
  have y0 := Blk.new w4 142 (ndC 0 fun _ => rf0)
  have y5 : Blk ((w4.alloc (.cells (ndC 0 fun _ => rf0) 142)).setRow w4.heap.size (ndC l (decK f))) w4.heap.size 142 (ndC l (decK f)) := y0.set _
  have hb5 : Below w4.heap.size w4 ((w4.alloc (.cells (ndC 0 fun _ => rf0) 142)).setRow w4.heap.size (ndC l (decK f))) := below_setRow (below_new1 _ _) (Nat.le_refl _) _
  have x5 := x4.below hb5 x4.lt
  have k5 := k4.below hb5 k4.lt
  have n5 := n4.below hb5 n4.lt
  have p5 := p4.below hb5 p4.lt
  have z5 : ((w4.alloc (.cells (ndC 0 fun _ => rf0) 142)).setRow w4.heap.size (ndC l (decK f))).cell? ⟨w.heap.size, 0, none⟩ = some (.int .i64 l) := (p5.cell 0).trans (va_at (poF l p k) (by decide))
  have v5 : ((w4.alloc (.cells (ndC 0 fun _ => rf0) 142)).setRow w4.heap.size (ndC l (decK f))).cell? ⟨w4.heap.size, 0, none⟩ = some (.int .i64 l) := (y5.cell 0).trans (va_at (ndF _ _) (by decide))
  have HT5 : Hid (TD ((w4.alloc (.cells (ndC 0 fun _ => rf0) 142)).setRow w4.heap.size (ndC l (decK f))) B g N F c m room (i + 1) U2) := (HT3.out.below hb4).below hb5
  have HM5 : Hid (Turns U w ((w4.alloc (.cells (ndC 0 fun _ => rf0) 142)).setRow w4.heap.size (ndC l (decK f)))) := (HM3.out.trans (Turns.of_below (S := U) hb4) fun x hx => .inl hx).trans (Turns.of_below (S := U) hb5) fun x hx => .inl hx
  have HN5 : Hid (w.heap.size + 2 < w4.heap.size) := n4.lt
  clear hb4 hb5 x3 k3 n3 p3 z3 x4 k4 n4 p4 p5 HT3 HM3
  go_wp2_with (first
    | (refine wpList_store_row (by rfl) 142 _ _ (by rfl) (w4.heap.size) (ndC l (decK f)) (by rfl) (by rfl) 142 (_) (by exact y0) (tsizeNd.trans (by rw [ndC_size])) (by simp only [ndC_size]) (ndC_all _ _) ?_; simp only [Act.put, sgPHTrNode])
    | fail)
  clear y0 z5 v5
  generalize ((w4.alloc (.cells (ndC 0 fun _ => rf0) 142)).setRow w4.heap.size (ndC l (decK f))) = w5 at *
  generalize w4.heap.size = yb at *
  have hS5 : Blk w5.drew xb 52 (va 256 (iv .u8 f)) ∧ Blk w5.drew yb 142 (ndC l (decK f)) := ⟨x5, y5⟩
  have hxn : xb ≠ w.heap.size + 1 ∧ xb ≠ w.heap.size + 2 ∧ yb ≠ w.heap.size + 1 ∧ yb ≠ w.heap.size + 2 := by
    have h1 := HX3.out
    have h2 := HN5.out
    omega
  have HXN : Hid (xb ≠ w.heap.size + 1 ∧ xb ≠ w.heap.size + 2 ∧ yb ≠ w.heap.size + 1 ∧ yb ≠ w.heap.size + 2) := hxn
  have k5d : Blk w5.drew (w.heap.size + 1) 52 (va 256 (iv .u8 fun _ => 0)) := k5
  have n5d : Blk w5.drew (w.heap.size + 2) 142 (ndC 0 fun _ => rf0) := n5
  have HT5d : Hid (TD w5.drew B g N F c m room (i + 1) U2) := HT5.out.below (Below.refl _ _).drew
  have HM5d : Hid (Turns U w w5.drew) := HM5.out.drew
  clear hxn x5 y5 k5 n5 HT5 HM5
  refine wp_region_plan (fun W => Blk W xb 52 (va 256 (iv .u8 f)) ∧ Blk W yb 142 (ndC l (decK f))) (.yield [] 0 (.yield [] 1 (.force [] 2 (.force [] 3 (.fin [4]))))) (by kernel_rfl) (by kernel_rfl) hS5 (plan_yield ?_)
  simp only [sgLHTrNode]
  go_wp2_with fail
  first | (refine ⟨rfl, _, .agg (va 256 (iv .u8 f)), rfl, kyields_load (by rfl) 52 _ (by rfl) xb 256 (iv .u8 f) (by rfl) _ 52 (fun W hW => hW.1) Tryz.underlying52 rfl sizeBk, plan_yield ?_⟩) | (refine ⟨rfl, .agg (va 256 (iv .u8 f)), kyields_load (by rfl) 52 _ (by rfl) xb 256 (iv .u8 f) (by rfl) _ 52 (fun W hW => hW.1) Tryz.underlying52 rfl sizeBk, plan_yield ?_⟩)
  simp only [Act.put, sgPHTrNode]
  simp only [sgLHTrNode]
  go_wp2_with fail
  first | (refine ⟨rfl, _, .agg (ndC l (decK f)), rfl, kyields_load (by rfl) 142 _ (by rfl) yb 133 (ndF l (decK f)) (by rfl) _ 142 (fun W hW => hW.2) Tryz.underlying142 rfl tsizeNd, plan_force ?_⟩) | (refine ⟨rfl, .agg (ndC l (decK f)), kyields_load (by rfl) 142 _ (by rfl) yb 133 (ndF l (decK f)) (by rfl) _ 142 (fun W hW => hW.2) Tryz.underlying142 rfl tsizeNd, plan_force ?_⟩)
  simp only [Act.put, sgPHTrNode]
  simp only [sgLHTrNode]
  refine wpList_store_row (by rfl) 52 _ _ (by rfl) (w.heap.size + 1) (va 256 (iv .u8 f)) (by rfl) (by rfl) 52 _ k5d (sizeBk.trans (by rw [va_size])) (by simp only [va_size]) (iv_one _ _ _) ?_
  simp only [Act.put, sgPHTrNode]
  go_wp2_with fail
  refine ⟨rfl, ⟨hS5.1.other _ HXN.out.1, hS5.2.other _ HXN.out.2.2.1⟩, plan_force ?_⟩
  simp only [sgLHTrNode]
  refine wpList_store_row (by rfl) 142 _ _ (by rfl) (w.heap.size + 2) (ndC l (decK f)) (by rfl) (by rfl) 142 _ (n5d.other _ (by omega)) (tsizeNd.trans (by rw [ndC_size])) (by simp only [ndC_size]) (ndC_all _ _) ?_
  simp only [Act.put, sgPHTrNode]
  go_wp2_with fail
  refine ⟨rfl, ⟨(hS5.1.other _ HXN.out.1).other _ HXN.out.2.1, (hS5.2.other _ HXN.out.2.2.1).other _ HXN.out.2.2.2⟩, plan_fin ?_⟩
  simp only [sgLHTrNode]
  go_wp2_with fail
  refine ⟨rfl, ?_⟩
  go_wp2_with fail
  try simp only [Exit.inBlock, Exit.then]
  refine bodyPost_ret (results_rows3 Tryz.results51 _ _ (w.heap.size + 1) (w.heap.size + 2) 52 142 (va 256 (iv .u8 f)) (ndC l (decK f)) _ _ rfl (Blk.other (k5d.set _) _ (by omega)) rfl ((n5d.other _ (by omega)).set _) Tryz.underlying52 rfl (sizeBk.trans (by rw [va_size])) Tryz.underlying142 rfl (tsizeNd.trans (by rw [ndC_size]))) rfl ?_
  have hfin : ∀ z, U2 z → z ≠ w.heap.size + 1 ∧ z ≠ w.heap.size + 2 := fun z hz => by
    rcases HU2.out z hz with u | u
    · have := HUL.out _ u
      omega
    · have := HW1.out
      omega
  exact ⟨rfl, U2, HT5d.out.kept (by simp) fun z hz => (setRow_other _ _ z _ (hfin z hz).2).trans (setRow_other _ _ z _ (hfin z hz).1), (HM5d.out.laid (by omega) _).laid (by omega) _, fun z hz => by
    rcases HU2.out z hz with u | u
    · exact .inl u
    · have := HW1.out
      exact .inr (by omega)⟩
end
end Go.Proofs.YtiofonffmplfmaaGreat
