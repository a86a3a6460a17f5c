/- Numbers laid into blocks and taken out of them: the program's contracts of Lay32, Lay64, Take32, Take64. -/
import Derived.Test.YtaoglljkghkbpaaBlkSeg
import Derived.Test.YtaoglljkghkbpaaDigBytes
import Derived.Deep.RegionLaw
import Derived.Laws.CopyOwn
import Derived.Handy
namespace Go.Proofs.Ytaoglljkghkbpaa
open Go.RowKit
set_option linter.unusedSimpArgs false
set_option linter.unusedVariables false

theorem va_mem_one (n : Nat) (f : Nat → Nat) : ∀ v ∈ (va n (iv .u8 f)).toList, v.oneCell' = true := fun v hv => by
  rw [va_toList] at hv
  obtain ⟨i, _, rfl⟩ := List.mem_map.1 hv
  rfl
theorem ksize4 : (Try.prog.info? 80).map (·.size) = some 4 := by kernel_rfl
theorem ksize8 : (Try.prog.info? 82).map (·.size) = some 8 := by kernel_rfl
def le8f (f : Nat → Nat) (o : Nat) : Nat := le8 (f o) (f (o + 1)) (f (o + 2)) (f (o + 3)) (f (o + 4)) (f (o + 5)) (f (o + 6)) (f (o + 7))
set_option maxHeartbeats 1000000 in
theorem kof64_any (a0 a1 a2 a3 a4 a5 a6 a7 : Nat) (h0 : a0 < 256) (h1 : a1 < 256) (h2 : a2 < 256) (h3 : a3 < 256) (h4 : a4 < 256) (h5 : a5 < 256) (h6 : a6 < 256) (h7 : a7 < 256) (w : World) :
    Calls Try.prog 42 #[.agg #[.int .u8 (a0 : Int), .int .u8 (a1 : Int), .int .u8 (a2 : Int), .int .u8 (a3 : Int), .int .u8 (a4 : Int), .int .u8 (a5 : Int), .int .u8 (a6 : Int), .int .u8 (a7 : Int)]] w fun e w' => e = .returned (.int .u64 (le8 a0 a1 a2 a3 a4 a5 a6 a7 : Int)) ∧ Below w.heap.size w w' := by
  go_enter Try.func42, Try.ntmps42
  go_wp2
  go_rounds 9
  go_returns
  refine ⟨ret_int (of8_val a0 a1 a2 a3 a4 a5 a6 a7 h0 h1 h2 h3 h4 h5 h6 h7), ?_⟩
  go_grown
theorem of64_va (f : Nat → Nat) (o : Nat) (h : ∀ i, f i < 256) (w : World) :
    Calls Try.prog 42 #[.agg (va 8 (iv .u8 fun j => f (o + j)))] w fun e w' => e = .returned (.int .u64 (le8f f o : Int)) ∧ Below w.heap.size w w' :=
  kof64_any (f o) (f (o + 1)) (f (o + 2)) (f (o + 3)) (f (o + 4)) (f (o + 5)) (f (o + 6)) (f (o + 7)) (h _) (h _) (h _) (h _) (h _) (h _) (h _) (h _) w

set_option maxRecDepth 100000 in
set_option maxHeartbeats 4000000 in
theorem lay32_by (f : Nat → Nat) (a : Int) (x : Nat) (F : Nat → Nat) (y : Int)
    (hL0 : ∀ w : World, Calls Try.prog 15 #[bkV f, .int .i64 a, .string (strN (dig x) 4)] w fun e w' => e = .returned (.tuple #[bkV F, .int .i64 y]) ∧ Below w.heap.size w w') (w : World) :
    Calls Try.prog 19 #[bkV f, .int .i64 a, .int .u32 (x : Int)] w fun e w' => e = .returned (.tuple #[bkV F, .int .i64 y]) ∧ Below w.heap.size w w' := by
  have hL : Hid (∀ w : World, Calls Try.prog 15 #[bkV f, .int .i64 a, .string (strN (dig x) 4)] w fun e w' => e = .returned (.tuple #[bkV F, .int .i64 y]) ∧ Below w.heap.size w w') := hL0
  have hB : Hid (∀ w : World, Calls Try.prog 39 #[.int .u32 (x : Int)] w fun e w' => e = .returned (.agg (va 4 (iv .u8 (dig x)))) ∧ Below w.heap.size w w') := fun w => bytes32_va x w
  clear hL0
  unfold bkV at *
  have hz := zero_bk
  have b0 : Blk ((w.alloc (Obj.cells (va 256 (iv IntKind.u8 f)) 23)).alloc (Obj.cells (va 256 (iv IntKind.u8 fun x => 0)) 23)) w.heap.size 23 (va 256 (iv .u8 f)) := (Blk.new _ _ _).alloc _
  have b1 := Blk.new1 w (Obj.cells (va 256 (iv IntKind.u8 f)) 23) 23 (va 256 (iv IntKind.u8 fun x => 0))
  have hb := below_new2 w (Obj.cells (va 256 (iv IntKind.u8 f)) 23) (Obj.cells (va 256 (iv IntKind.u8 fun x => 0)) 23)
  go_enter Try.func19, Try.ntmps19
  go_wp2_with fail
  generalize (w.alloc (Obj.cells (va 256 (iv IntKind.u8 f)) 23)).alloc (Obj.cells (va 256 (iv IntKind.u8 fun x => 0)) 23) = W at *
  refine (hB.out _).mono ?_
  rintro e w1 ⟨rfl, hb1⟩
  have l1 : w.heap.size + 1 < w1.heap.size := Nat.lt_of_lt_of_le b1.lt hb1.size
  have n0 : Blk (w1.alloc (.cells #[.int .u8 0, .int .u8 0, .int .u8 0, .int .u8 0] 80)) w1.heap.size 80 (va 4 (iv .u8 fun _ => 0)) := Blk.new _ _ _
  have c0 := ((b0.below hb1 b0.lt).alloc (.cells #[.int .u8 0, .int .u8 0, .int .u8 0, .int .u8 0] 80)).other (g := w1.heap.size) (va 4 (iv .u8 (dig x))) (by omega)
  have c1 := ((b1.below hb1 b1.lt).alloc (.cells #[.int .u8 0, .int .u8 0, .int .u8 0, .int .u8 0] 80)).other (g := w1.heap.size) (va 4 (iv .u8 (dig x))) (by omega)
  have n1 := n0.set (va 4 (iv .u8 (dig x)))
  have hb2 : Below w.heap.size w ((w1.alloc (.cells #[.int .u8 0, .int .u8 0, .int .u8 0, .int .u8 0] 80)).setRow w1.heap.size (va 4 (iv .u8 (dig x)))) := below_setRow ((hb.trans (hb1.mono hb.size)).alloc (by omega) _) (by omega) _
  clear b0 b1 hb hb1 hB hz
  go_wp2_with (first
    | (refine wpList_store_row (by rfl) 80 _ _ (by rfl) (w1.heap.size) (va 4 (iv .u8 (dig x))) (by rfl) (by rfl) 80 _ n0 (ksize4.trans (by rw [va_size])) (by simp only [va_size]) (iv_one _ _ _) ?_; simp only [Act.put, List.setIfInBounds_toArray, List.set_cons_zero, List.set_cons_succ])
    | fail)
  clear n0
  generalize (w1.alloc (.cells #[.int .u8 0, .int .u8 0, .int .u8 0, .int .u8 0] 80)).setRow w1.heap.size (va 4 (iv .u8 (dig x))) = w2 at *
  have hc := run_bytes_text (P := Try.prog) w2.drew 78 5 9 Try.underlying78 Try.underlying5 Try.underlying9 (n1.drew) 0 4 4 (by omega)
  rw [strN_congr (f := fun j => dig x (0 + j)) (g := dig x) fun j _ => by rw [Nat.zero_add]] at hc
  generalize strN (dig x) 4 = S at *
  refine wp_region_partsI [] [([1], 0, true), ([], 2, false), ([], 3, false), ([], 4, false), ([5, 6], 7, false)] [8] [] (w.heap.size + 1) (by kernel_rfl) (by kernel_rfl) (fun _ hx => nomatch hx) (partsI_yield ?_)
  simp only [List.cons_append, List.nil_append, List.append_nil, List.filterMap_cons, List.filterMap_nil, List.getElem?_toArray, List.getElem?_cons_zero, List.getElem?_cons_succ]
  have hS : Below (w.heap.size + 1) w2 w2.drew := (Below.refl _ _).drew
  go_wp2_with fail
  refine ⟨rfl, _, .agg (va 256 (iv .u8 f)), rfl, kyields_load (by rfl) 23 _ (by rfl) (w.heap.size) 256 (iv .u8 f) (by rfl) _ 23 (fun W hW => c0.below hW (Nat.lt_succ_self _)) Try.underlying23 rfl sizeBk, partsI_force ?_⟩
  simp only [Act.put, List.setIfInBounds_toArray, List.set_cons_zero, List.set_cons_succ]
  simp only [List.cons_append, List.nil_append, List.append_nil, List.filterMap_cons, List.filterMap_nil, List.getElem?_toArray, List.getElem?_cons_zero, List.getElem?_cons_succ]
  go_wp2_with fail
  refine ⟨rfl, hS, partsI_force ?_⟩
  simp only [List.cons_append, List.nil_append, List.append_nil, List.filterMap_cons, List.filterMap_nil, List.getElem?_toArray, List.getElem?_cons_zero, List.getElem?_cons_succ]
  go_wp2_with fail
  refine ⟨rfl, hS, partsI_force ?_⟩
  simp only [List.cons_append, List.nil_append, List.append_nil, List.filterMap_cons, List.filterMap_nil, List.getElem?_toArray, List.getElem?_cons_zero, List.getElem?_cons_succ]
  go_wp2_with fail
  refine (hL.out _).mono ?_
  rintro e w3 ⟨rfl, hb3⟩
  have hS3 : Below (w.heap.size + 1) w2 w3 := hS.trans (hb3.mono (Nat.le_of_lt c1.lt))
  have c3 := c1.drew.below hb3 c1.lt
  clear hS hb3 hL
  have hS := hS3
  clear hS3
  have hb4 : Below w.heap.size w w3 := hb2.trans (hS.mono (Nat.le_succ _))
  go_wp2_with fail
  refine ⟨rfl, hS, partsI_force ?_⟩
  simp only [List.cons_append, List.nil_append, List.append_nil, List.filterMap_cons, List.filterMap_nil, List.getElem?_toArray, List.getElem?_cons_zero, List.getElem?_cons_succ]
  have hst := Blk.store (P := Try.prog) c3 (va 256 (iv .u8 F)) (by simp only [va_size]) (va_mem_one _ _)
  have hvs := va_size 256 (iv .u8 F)
  go_wp2_with fail
  have hS4 := below_setRow hS (Nat.le_refl (w.heap.size + 1)) (va 256 (iv .u8 F))
  clear hS
  have hS := hS4
  clear hS4
  refine ⟨rfl, hS, partsI_last ?_⟩
  simp only [List.cons_append, List.nil_append, List.append_nil, List.filterMap_cons, List.filterMap_nil, List.getElem?_toArray, List.getElem?_cons_zero, List.getElem?_cons_succ]
  go_wp2_with fail
  refine ⟨rfl, ?_⟩
  go_wp2_with fail
  try simp only [Exit.inBlock, Exit.then]
  refine bodyPost_ret (results_row2 Try.results19 _ _ (w.heap.size + 1) 23 (va 256 (iv .u8 F)) (0, 0) _ rfl (c3.set _) Try.underlying23 rfl (sizeBk.trans (by rw [va_size]))) rfl ?_
  exact ⟨rfl, below_setRow hb4 (Nat.le_succ _) _⟩

set_option maxRecDepth 100000 in
set_option maxHeartbeats 4000000 in
theorem take32_fit (f : Nat → Nat) (hf : ∀ i, f i < 256) (r : Nat) (h : r + 4 ≤ 256) (w : World) :
    Calls Try.prog 22 #[bkV f, .int .i64 (r : Int)] w fun e w' => e = .returned (.tuple #[.int .u32 (le4f f r : Int), .int .i64 0]) ∧ Below w.heap.size w w' := by
  have hI : Hid (∀ w : World, Calls Try.prog 37 #[.int .i64 (r : Int), .int .i64 4] w fun e w' => e = .returned (.bool true) ∧ w' = w) := fun w => by
    have := inside_any (r : Int) 4 (by omega) (by omega) w
    rw [decide_eq_true (show Fit (r : Int) 4 from ⟨by omega, by omega, by omega⟩)] at this
    exact this
  have hO : Hid (∀ w : World, Calls Try.prog 41 #[.agg (va 4 (iv .u8 fun j => f (r + j)))] w fun e w' => e = .returned (.int .u32 (le4f f r : Int)) ∧ Below w.heap.size w w') := fun w => of32_va f r (fun i _ => hf _) w
  generalize le4f f r = v at *
  unfold bkV
  have b0 : Blk ((w.alloc (Obj.cells (va 256 (iv IntKind.u8 f)) 23)).alloc (.cells #[.int .u8 0, .int .u8 0, .int .u8 0, .int .u8 0] 80)) w.heap.size 23 (va 256 (iv .u8 f)) := (Blk.new _ _ _).alloc _
  have b1 : Blk ((w.alloc (Obj.cells (va 256 (iv IntKind.u8 f)) 23)).alloc (.cells #[.int .u8 0, .int .u8 0, .int .u8 0, .int .u8 0] 80)) (w.heap.size + 1) 80 (va 4 (iv .u8 fun _ => 0)) := Blk.new1 _ _ _ _
  have hb := below_new2 w (Obj.cells (va 256 (iv IntKind.u8 f)) 23) (.cells #[.int .u8 0, .int .u8 0, .int .u8 0, .int .u8 0] 80)
  go_enter Try.func22, Try.ntmps22
  go_wp2_with fail
  generalize (w.alloc (Obj.cells (va 256 (iv IntKind.u8 f)) 23)).alloc (.cells #[.int .u8 0, .int .u8 0, .int .u8 0, .int .u8 0] 80) = W at *
  refine (hI.out _).mono ?_
  rintro e w1 ⟨rfl, rfl⟩
  have r0 : (0 : Int) ≤ (r : Int) := by omega
  have r1 : (r : Int) ≤ 256 := by omega
  have r2 : ¬ 256 = r := by omega
  obtain ⟨cs, hcs⟩ : ∃ cs : List Value, cs = byL (fun j => f (r + j)) 4 := ⟨_, rfl⟩
  have s1 : Hid (cs.length = Nat.min (256 - r) 4) := by
    show _ = _
    rw [hcs, byL_length]
    show _ = min _ _
    omega
  have s2 : Hid (∀ (V : World), Below (w.heap.size + 1) w1 V → ∀ j v, cs[j]? = some v → V.cell? ((⟨w.heap.size, r, none⟩ : Addr).add j) = some v) := fun V hV j v hv => by
    rw [hcs] at hv
    have hj : j < 4 := by
      have := (List.getElem?_eq_some_iff.1 hv).1
      rwa [byL_length] at this
    rw [byL_at _ _ _ hj] at hv
    rw [Addr.add_mid, (b0.below hV (Nat.lt_succ_self _)).cv (i := r + j) (by omega)]
    exact hv
  have s3 : Hid (∀ v ∈ cs, v.oneCell' = true) := by
    show ∀ v ∈ cs, v.oneCell' = true
    rw [hcs]
    exact mem_iv_one _ _ _
  have s5 : Hid (0 + cs.length ≤ 4) := by
    show _ ≤ _
    rw [hcs, byL_length]
    omega
  have s6 : Hid (w1.drew.heap[w.heap.size + 1]? = some (.cells ([Value.int .u8 0, .int .u8 0, .int .u8 0, .int .u8 0] : List Value).toArray 80 (0, 0))) := b1
  have s8 : Hid ((splice ([Value.int .u8 0, .int .u8 0, .int .u8 0, .int .u8 0] : List Value) 0 cs).toArray = va 4 (iv .u8 fun j => f (r + j))) := by
    show _ = _
    rw [hcs]
    have e := splice_put 4 0 4 (fun _ => 0) (fun j => f (r + j)) (by omega)
    refine Eq.trans (by rfl) (e.trans (va_congr fun i hi => ?_))
    unfold iv putAt
    rw [if_pos (by omega), Nat.sub_zero]
  go_wp2_with fail
  go_region_law (refine step_copy_splice rfl (.tmp 10) (.tmp 12) 78 78 rfl 5 Try.underlying78 ksizeU8 (some ⟨w.heap.size + 1, 0, none⟩) (some ⟨w.heap.size, r, none⟩) 4 4 (256 - r) (256 - r) (by simp [Act.eval, Act.put]) (by simp [Act.eval, Act.put]) (w.heap.size + 1) 0 [Value.int .u8 0, .int .u8 0, .int .u8 0, .int .u8 0] 80 s6.out cs s1.out (fun _ => ⟨rfl, _, rfl, s2.out _ (Below.refl _ _).drew⟩) s5.out s3.out (w.heap.size + 1) w1 (Below.refl _ _).drew (Nat.le_refl _) ?_; intro w4 hg4 hb4)
  have c1 : Blk w4 (w.heap.size + 1) 80 (va 4 (iv .u8 fun j => f (r + j))) := by
    have := hg4.out
    rw [s8.out] at this
    exact this
  have hb5 : Below w.heap.size w w4 := hb.trans (hb4.mono (Nat.le_succ _))
  clear s1 s2 s3 s5 s6 s8 hg4 hb4 hb b0 b1 hcs hI
  go_wp2_with (first
    | (refine wpList_load_row (by rfl) 80 _ (by rfl) (w.heap.size + 1) (by rfl) 80 (va 4 (iv .u8 (fun j => f (r + j)))) (0, 0) _ c1 Try.underlying80 (by rfl) (ksize4.trans (by rw [va_size])) ?_; simp only [Act.put, List.setIfInBounds_toArray, List.set_cons_zero, List.set_cons_succ])
    | fail)
  refine (hO.out _).mono ?_
  rintro e w5 ⟨rfl, hb6⟩
  have hb7 : Below w.heap.size w w5 := hb5.trans (hb6.mono hb5.size)
  clear hb5 hb6 hO c1
  go_wp2_with fail
  try simp only [Exit.inBlock, Exit.then]
  refine bodyPost_ret (results_tmp2 Try.results22 _ _ _) rfl ?_
  exact ⟨rfl, hb7⟩

set_option maxRecDepth 100000 in
set_option maxHeartbeats 4000000 in
theorem take32_bad (f : Nat → Nat) (a : Int) (ha : -9223372036854775808 ≤ a ∧ a ≤ 9223372036854775807) (h : ¬ Fit a 4) (w : World) :
    Calls Try.prog 22 #[bkV f, .int .i64 a] w fun e w' => e = .returned (.tuple #[.int .u32 0, .int .i64 40]) ∧ Below w.heap.size w w' := by
  have hI : Hid (∀ w : World, Calls Try.prog 37 #[.int .i64 a, .int .i64 4] w fun e w' => e = .returned (.bool false) ∧ w' = w) := fun w => by
    have := inside_any a 4 ha (by omega) w
    rw [decide_eq_false h] at this
    exact this
  unfold bkV
  have hb := below_new2 w (Obj.cells (va 256 (iv IntKind.u8 f)) 23) (.cells #[.int .u8 0, .int .u8 0, .int .u8 0, .int .u8 0] 80)
  go_enter Try.func22, Try.ntmps22
  go_wp2_with fail
  generalize (w.alloc (Obj.cells (va 256 (iv IntKind.u8 f)) 23)).alloc (.cells #[.int .u8 0, .int .u8 0, .int .u8 0, .int .u8 0] 80) = W at *
  refine (hI.out _).mono ?_
  rintro e w1 ⟨rfl, rfl⟩
  clear hI
  go_wp2_with fail
  try simp only [Exit.inBlock, Exit.then]
  refine bodyPost_ret (results_tmp2 Try.results22 _ _ _) rfl ?_
  exact ⟨rfl, hb⟩

set_option maxRecDepth 100000 in
set_option maxHeartbeats 4000000 in
theorem lay64_by (f : Nat → Nat) (a : Int) (x : Nat) (F : Nat → Nat) (y : Int)
    (hL0 : ∀ w : World, Calls Try.prog 15 #[bkV f, .int .i64 a, .string (strN (dig x) 8)] w fun e w' => e = .returned (.tuple #[bkV F, .int .i64 y]) ∧ Below w.heap.size w w') (w : World) :
    Calls Try.prog 21 #[bkV f, .int .i64 a, .int .u64 (x : Int)] w fun e w' => e = .returned (.tuple #[bkV F, .int .i64 y]) ∧ Below w.heap.size w w' := by
  have hL : Hid (∀ w : World, Calls Try.prog 15 #[bkV f, .int .i64 a, .string (strN (dig x) 8)] w fun e w' => e = .returned (.tuple #[bkV F, .int .i64 y]) ∧ Below w.heap.size w w') := hL0
  have hB : Hid (∀ w : World, Calls Try.prog 40 #[.int .u64 (x : Int)] w fun e w' => e = .returned (.agg (va 8 (iv .u8 (dig x)))) ∧ Below w.heap.size w w') := fun w => bytes64_va x w
  clear hL0
  unfold bkV at *
  have hz := zero_bk
  have b0 : Blk ((w.alloc (Obj.cells (va 256 (iv IntKind.u8 f)) 23)).alloc (Obj.cells (va 256 (iv IntKind.u8 fun x => 0)) 23)) w.heap.size 23 (va 256 (iv .u8 f)) := (Blk.new _ _ _).alloc _
  have b1 := Blk.new1 w (Obj.cells (va 256 (iv IntKind.u8 f)) 23) 23 (va 256 (iv IntKind.u8 fun x => 0))
  have hb := below_new2 w (Obj.cells (va 256 (iv IntKind.u8 f)) 23) (Obj.cells (va 256 (iv IntKind.u8 fun x => 0)) 23)
  go_enter Try.func21, Try.ntmps21
  go_wp2_with fail
  generalize (w.alloc (Obj.cells (va 256 (iv IntKind.u8 f)) 23)).alloc (Obj.cells (va 256 (iv IntKind.u8 fun x => 0)) 23) = W at *
  refine (hB.out _).mono ?_
  rintro e w1 ⟨rfl, hb1⟩
  have l1 : w.heap.size + 1 < w1.heap.size := Nat.lt_of_lt_of_le b1.lt hb1.size
  have n0 : Blk (w1.alloc (.cells #[.int .u8 0, .int .u8 0, .int .u8 0, .int .u8 0, .int .u8 0, .int .u8 0, .int .u8 0, .int .u8 0] 82)) w1.heap.size 82 (va 8 (iv .u8 fun _ => 0)) := Blk.new _ _ _
  have c0 := ((b0.below hb1 b0.lt).alloc (.cells #[.int .u8 0, .int .u8 0, .int .u8 0, .int .u8 0, .int .u8 0, .int .u8 0, .int .u8 0, .int .u8 0] 82)).other (g := w1.heap.size) (va 8 (iv .u8 (dig x))) (by omega)
  have c1 := ((b1.below hb1 b1.lt).alloc (.cells #[.int .u8 0, .int .u8 0, .int .u8 0, .int .u8 0, .int .u8 0, .int .u8 0, .int .u8 0, .int .u8 0] 82)).other (g := w1.heap.size) (va 8 (iv .u8 (dig x))) (by omega)
  have n1 := n0.set (va 8 (iv .u8 (dig x)))
  have hb2 : Below w.heap.size w ((w1.alloc (.cells #[.int .u8 0, .int .u8 0, .int .u8 0, .int .u8 0, .int .u8 0, .int .u8 0, .int .u8 0, .int .u8 0] 82)).setRow w1.heap.size (va 8 (iv .u8 (dig x)))) := below_setRow ((hb.trans (hb1.mono hb.size)).alloc (by omega) _) (by omega) _
  clear b0 b1 hb hb1 hB hz
  go_wp2_with (first
    | (refine wpList_store_row (by rfl) 82 _ _ (by rfl) (w1.heap.size) (va 8 (iv .u8 (dig x))) (by rfl) (by rfl) 82 _ n0 (ksize8.trans (by rw [va_size])) (by simp only [va_size]) (iv_one _ _ _) ?_; simp only [Act.put, List.setIfInBounds_toArray, List.set_cons_zero, List.set_cons_succ])
    | fail)
  clear n0
  generalize (w1.alloc (.cells #[.int .u8 0, .int .u8 0, .int .u8 0, .int .u8 0, .int .u8 0, .int .u8 0, .int .u8 0, .int .u8 0] 82)).setRow w1.heap.size (va 8 (iv .u8 (dig x))) = w2 at *
  have hc := run_bytes_text (P := Try.prog) w2.drew 78 5 9 Try.underlying78 Try.underlying5 Try.underlying9 (n1.drew) 0 8 8 (by omega)
  rw [strN_congr (f := fun j => dig x (0 + j)) (g := dig x) fun j _ => by rw [Nat.zero_add]] at hc
  generalize strN (dig x) 8 = S at *
  refine wp_region_partsI [] [([1], 0, true), ([], 2, false), ([], 3, false), ([], 4, false), ([5, 6], 7, false)] [8] [] (w.heap.size + 1) (by kernel_rfl) (by kernel_rfl) (fun _ hx => nomatch hx) (partsI_yield ?_)
  simp only [List.cons_append, List.nil_append, List.append_nil, List.filterMap_cons, List.filterMap_nil, List.getElem?_toArray, List.getElem?_cons_zero, List.getElem?_cons_succ]
  have hS : Below (w.heap.size + 1) w2 w2.drew := (Below.refl _ _).drew
  go_wp2_with fail
  refine ⟨rfl, _, .agg (va 256 (iv .u8 f)), rfl, kyields_load (by rfl) 23 _ (by rfl) (w.heap.size) 256 (iv .u8 f) (by rfl) _ 23 (fun W hW => c0.below hW (Nat.lt_succ_self _)) Try.underlying23 rfl sizeBk, partsI_force ?_⟩
  simp only [Act.put, List.setIfInBounds_toArray, List.set_cons_zero, List.set_cons_succ]
  simp only [List.cons_append, List.nil_append, List.append_nil, List.filterMap_cons, List.filterMap_nil, List.getElem?_toArray, List.getElem?_cons_zero, List.getElem?_cons_succ]
  go_wp2_with fail
  refine ⟨rfl, hS, partsI_force ?_⟩
  simp only [List.cons_append, List.nil_append, List.append_nil, List.filterMap_cons, List.filterMap_nil, List.getElem?_toArray, List.getElem?_cons_zero, List.getElem?_cons_succ]
  go_wp2_with fail
  refine ⟨rfl, hS, partsI_force ?_⟩
  simp only [List.cons_append, List.nil_append, List.append_nil, List.filterMap_cons, List.filterMap_nil, List.getElem?_toArray, List.getElem?_cons_zero, List.getElem?_cons_succ]
  go_wp2_with fail
  refine (hL.out _).mono ?_
  rintro e w3 ⟨rfl, hb3⟩
  have hS3 : Below (w.heap.size + 1) w2 w3 := hS.trans (hb3.mono (Nat.le_of_lt c1.lt))
  have c3 := c1.drew.below hb3 c1.lt
  clear hS hb3 hL
  have hS := hS3
  clear hS3
  have hb4 : Below w.heap.size w w3 := hb2.trans (hS.mono (Nat.le_succ _))
  go_wp2_with fail
  refine ⟨rfl, hS, partsI_force ?_⟩
  simp only [List.cons_append, List.nil_append, List.append_nil, List.filterMap_cons, List.filterMap_nil, List.getElem?_toArray, List.getElem?_cons_zero, List.getElem?_cons_succ]
  have hst := Blk.store (P := Try.prog) c3 (va 256 (iv .u8 F)) (by simp only [va_size]) (va_mem_one _ _)
  have hvs := va_size 256 (iv .u8 F)
  go_wp2_with fail
  have hS4 := below_setRow hS (Nat.le_refl (w.heap.size + 1)) (va 256 (iv .u8 F))
  clear hS
  have hS := hS4
  clear hS4
  refine ⟨rfl, hS, partsI_last ?_⟩
  simp only [List.cons_append, List.nil_append, List.append_nil, List.filterMap_cons, List.filterMap_nil, List.getElem?_toArray, List.getElem?_cons_zero, List.getElem?_cons_succ]
  go_wp2_with fail
  refine ⟨rfl, ?_⟩
  go_wp2_with fail
  try simp only [Exit.inBlock, Exit.then]
  refine bodyPost_ret (results_row2 Try.results21 _ _ (w.heap.size + 1) 23 (va 256 (iv .u8 F)) (0, 0) _ rfl (c3.set _) Try.underlying23 rfl (sizeBk.trans (by rw [va_size]))) rfl ?_
  exact ⟨rfl, below_setRow hb4 (Nat.le_succ _) _⟩

set_option maxRecDepth 100000 in
set_option maxHeartbeats 4000000 in
theorem take64_fit (f : Nat → Nat) (hf : ∀ i, f i < 256) (r : Nat) (h : r + 8 ≤ 256) (w : World) :
    Calls Try.prog 24 #[bkV f, .int .i64 (r : Int)] w fun e w' => e = .returned (.tuple #[.int .u64 (le8f f r : Int), .int .i64 0]) ∧ Below w.heap.size w w' := by
  have hI : Hid (∀ w : World, Calls Try.prog 37 #[.int .i64 (r : Int), .int .i64 8] w fun e w' => e = .returned (.bool true) ∧ w' = w) := fun w => by
    have := inside_any (r : Int) 8 (by omega) (by omega) w
    rw [decide_eq_true (show Fit (r : Int) 8 from ⟨by omega, by omega, by omega⟩)] at this
    exact this
  have hO : Hid (∀ w : World, Calls Try.prog 42 #[.agg (va 8 (iv .u8 fun j => f (r + j)))] w fun e w' => e = .returned (.int .u64 (le8f f r : Int)) ∧ Below w.heap.size w w') := fun w => of64_va f r (fun i  => hf _) w
  generalize le8f f r = v at *
  unfold bkV
  have b0 : Blk ((w.alloc (Obj.cells (va 256 (iv IntKind.u8 f)) 23)).alloc (.cells #[.int .u8 0, .int .u8 0, .int .u8 0, .int .u8 0, .int .u8 0, .int .u8 0, .int .u8 0, .int .u8 0] 82)) w.heap.size 23 (va 256 (iv .u8 f)) := (Blk.new _ _ _).alloc _
  have b1 : Blk ((w.alloc (Obj.cells (va 256 (iv IntKind.u8 f)) 23)).alloc (.cells #[.int .u8 0, .int .u8 0, .int .u8 0, .int .u8 0, .int .u8 0, .int .u8 0, .int .u8 0, .int .u8 0] 82)) (w.heap.size + 1) 82 (va 8 (iv .u8 fun _ => 0)) := Blk.new1 _ _ _ _
  have hb := below_new2 w (Obj.cells (va 256 (iv IntKind.u8 f)) 23) (.cells #[.int .u8 0, .int .u8 0, .int .u8 0, .int .u8 0, .int .u8 0, .int .u8 0, .int .u8 0, .int .u8 0] 82)
  go_enter Try.func24, Try.ntmps24
  go_wp2_with fail
  generalize (w.alloc (Obj.cells (va 256 (iv IntKind.u8 f)) 23)).alloc (.cells #[.int .u8 0, .int .u8 0, .int .u8 0, .int .u8 0, .int .u8 0, .int .u8 0, .int .u8 0, .int .u8 0] 82) = W at *
  refine (hI.out _).mono ?_
  rintro e w1 ⟨rfl, rfl⟩
  have r0 : (0 : Int) ≤ (r : Int) := by omega
  have r1 : (r : Int) ≤ 256 := by omega
  have r2 : ¬ 256 = r := by omega
  obtain ⟨cs, hcs⟩ : ∃ cs : List Value, cs = byL (fun j => f (r + j)) 8 := ⟨_, rfl⟩
  have s1 : Hid (cs.length = Nat.min (256 - r) 8) := by
    show _ = _
    rw [hcs, byL_length]
    show _ = min _ _
    omega
  have s2 : Hid (∀ (V : World), Below (w.heap.size + 1) w1 V → ∀ j v, cs[j]? = some v → V.cell? ((⟨w.heap.size, r, none⟩ : Addr).add j) = some v) := fun V hV j v hv => by
    rw [hcs] at hv
    have hj : j < 8 := by
      have := (List.getElem?_eq_some_iff.1 hv).1
      rwa [byL_length] at this
    rw [byL_at _ _ _ hj] at hv
    rw [Addr.add_mid, (b0.below hV (Nat.lt_succ_self _)).cv (i := r + j) (by omega)]
    exact hv
  have s3 : Hid (∀ v ∈ cs, v.oneCell' = true) := by
    show ∀ v ∈ cs, v.oneCell' = true
    rw [hcs]
    exact mem_iv_one _ _ _
  have s5 : Hid (0 + cs.length ≤ 8) := by
    show _ ≤ _
    rw [hcs, byL_length]
    omega
  have s6 : Hid (w1.drew.heap[w.heap.size + 1]? = some (.cells ([Value.int .u8 0, .int .u8 0, .int .u8 0, .int .u8 0, .int .u8 0, .int .u8 0, .int .u8 0, .int .u8 0] : List Value).toArray 82 (0, 0))) := b1
  have s8 : Hid ((splice ([Value.int .u8 0, .int .u8 0, .int .u8 0, .int .u8 0, .int .u8 0, .int .u8 0, .int .u8 0, .int .u8 0] : List Value) 0 cs).toArray = va 8 (iv .u8 fun j => f (r + j))) := by
    show _ = _
    rw [hcs]
    have e := splice_put 8 0 8 (fun _ => 0) (fun j => f (r + j)) (by omega)
    refine Eq.trans (by rfl) (e.trans (va_congr fun i hi => ?_))
    unfold iv putAt
    rw [if_pos (by omega), Nat.sub_zero]
  go_wp2_with fail
  go_region_law (refine step_copy_splice rfl (.tmp 10) (.tmp 12) 78 78 rfl 5 Try.underlying78 ksizeU8 (some ⟨w.heap.size + 1, 0, none⟩) (some ⟨w.heap.size, r, none⟩) 8 8 (256 - r) (256 - r) (by simp [Act.eval, Act.put]) (by simp [Act.eval, Act.put]) (w.heap.size + 1) 0 [Value.int .u8 0, .int .u8 0, .int .u8 0, .int .u8 0, .int .u8 0, .int .u8 0, .int .u8 0, .int .u8 0] 82 s6.out cs s1.out (fun _ => ⟨rfl, _, rfl, s2.out _ (Below.refl _ _).drew⟩) s5.out s3.out (w.heap.size + 1) w1 (Below.refl _ _).drew (Nat.le_refl _) ?_; intro w4 hg4 hb4)
  have c1 : Blk w4 (w.heap.size + 1) 82 (va 8 (iv .u8 fun j => f (r + j))) := by
    have := hg4.out
    rw [s8.out] at this
    exact this
  have hb5 : Below w.heap.size w w4 := hb.trans (hb4.mono (Nat.le_succ _))
  clear s1 s2 s3 s5 s6 s8 hg4 hb4 hb b0 b1 hcs hI
  go_wp2_with (first
    | (refine wpList_load_row (by rfl) 82 _ (by rfl) (w.heap.size + 1) (by rfl) 82 (va 8 (iv .u8 (fun j => f (r + j)))) (0, 0) _ c1 Try.underlying82 (by rfl) (ksize8.trans (by rw [va_size])) ?_; simp only [Act.put, List.setIfInBounds_toArray, List.set_cons_zero, List.set_cons_succ])
    | fail)
  refine (hO.out _).mono ?_
  rintro e w5 ⟨rfl, hb6⟩
  have hb7 : Below w.heap.size w w5 := hb5.trans (hb6.mono hb5.size)
  clear hb5 hb6 hO c1
  go_wp2_with fail
  try simp only [Exit.inBlock, Exit.then]
  refine bodyPost_ret (results_tmp2 Try.results24 _ _ _) rfl ?_
  exact ⟨rfl, hb7⟩

set_option maxRecDepth 100000 in
set_option maxHeartbeats 4000000 in
theorem take64_bad (f : Nat → Nat) (a : Int) (ha : -9223372036854775808 ≤ a ∧ a ≤ 9223372036854775807) (h : ¬ Fit a 8) (w : World) :
    Calls Try.prog 24 #[bkV f, .int .i64 a] w fun e w' => e = .returned (.tuple #[.int .u64 0, .int .i64 40]) ∧ Below w.heap.size w w' := by
  have hI : Hid (∀ w : World, Calls Try.prog 37 #[.int .i64 a, .int .i64 8] w fun e w' => e = .returned (.bool false) ∧ w' = w) := fun w => by
    have := inside_any a 8 ha (by omega) w
    rw [decide_eq_false h] at this
    exact this
  unfold bkV
  have hb := below_new2 w (Obj.cells (va 256 (iv IntKind.u8 f)) 23) (.cells #[.int .u8 0, .int .u8 0, .int .u8 0, .int .u8 0, .int .u8 0, .int .u8 0, .int .u8 0, .int .u8 0] 82)
  go_enter Try.func24, Try.ntmps24
  go_wp2_with fail
  generalize (w.alloc (Obj.cells (va 256 (iv IntKind.u8 f)) 23)).alloc (.cells #[.int .u8 0, .int .u8 0, .int .u8 0, .int .u8 0, .int .u8 0, .int .u8 0, .int .u8 0, .int .u8 0] 82) = W at *
  refine (hI.out _).mono ?_
  rintro e w1 ⟨rfl, rfl⟩
  clear hI
  go_wp2_with fail
  try simp only [Exit.inBlock, Exit.then]
  refine bodyPost_ret (results_tmp2 Try.results24 _ _ _) rfl ?_
  exact ⟨rfl, hb⟩
end Go.Proofs.Ytaoglljkghkbpaa
