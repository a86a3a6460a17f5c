/- A region that draws its order, by a plan: operations that are taken ahead, operations that are shown to yield, operations that are forced, and forks where two are ready. No program in it. -/
import Derived.Test.YtalnfphlhcojcaaHDigRow
import Derived.Deep.RegionLaw
import Derived.Laws.CopyOwn
import Derived.Handy
import Derived.Test.YtalnfphlhcojcaaHSuChk
import Derived.Test.YtalnfphlhcojcaaHNdRef
import Derived.BigQuiet
import Derived.Deep.QuietTactic

namespace Go.Proofs.Ytalnfphlhcojcaa
open Go.RowKit
set_option linter.unusedSimpArgs false
set_option linter.unusedVariables false

theorem va_mem_one (n : Nat) (f : Nat → Nat) : ∀ v ∈ (va n (iv .u8 f)).toList, v.oneCell' = true := fun v hv => by
  rw [va_toList] at hv
  obtain ⟨i, _, rfl⟩ := List.mem_map.1 hv
  rfl
theorem ksize4 : (Try.prog.info? 80).map (·.size) = some 4 := by kernel_rfl
theorem ksize8 : (Try.prog.info? 82).map (·.size) = some 8 := by kernel_rfl
def le8f (f : Nat → Nat) (o : Nat) : Nat := le8 (f o) (f (o + 1)) (f (o + 2)) (f (o + 3)) (f (o + 4)) (f (o + 5)) (f (o + 6)) (f (o + 7))
set_option maxHeartbeats 1000000 in
theorem kof64_any (a0 a1 a2 a3 a4 a5 a6 a7 : Nat) (h0 : a0 < 256) (h1 : a1 < 256) (h2 : a2 < 256) (h3 : a3 < 256) (h4 : a4 < 256) (h5 : a5 < 256) (h6 : a6 < 256) (h7 : a7 < 256) (w : World) :
    Calls Try.prog 43 #[.agg #[.int .u8 (a0 : Int), .int .u8 (a1 : Int), .int .u8 (a2 : Int), .int .u8 (a3 : Int), .int .u8 (a4 : Int), .int .u8 (a5 : Int), .int .u8 (a6 : Int), .int .u8 (a7 : Int)]] w fun e w' => e = .returned (.int .u64 (le8 a0 a1 a2 a3 a4 a5 a6 a7 : Int)) ∧ Below w.heap.size w w' := by
  go_enter Try.func43, Try.ntmps43
  go_wp2
  go_rounds 9
  go_returns
  refine ⟨ret_int (of8_val a0 a1 a2 a3 a4 a5 a6 a7 h0 h1 h2 h3 h4 h5 h6 h7), ?_⟩
  go_grown
theorem of64_va (f : Nat → Nat) (o : Nat) (h : ∀ i, f i < 256) (w : World) :
    Calls Try.prog 43 #[.agg (va 8 (iv .u8 fun j => f (o + j)))] w fun e w' => e = .returned (.int .u64 (le8f f o : Int)) ∧ Below w.heap.size w w' :=
  kof64_any (f o) (f (o + 1)) (f (o + 2)) (f (o + 3)) (f (o + 4)) (f (o + 5)) (f (o + 6)) (f (o + 7)) (h _) (h _) (h _) (h _) (h _) (h _) (h _) (h _) w

set_option maxRecDepth 100000 in
set_option maxHeartbeats 4000000 in
theorem lay32_by (f : Nat → Nat) (a : Int) (x : Nat) (F : Nat → Nat) (y : Int)
    (hL0 : ∀ w : World, Calls Try.prog 22 #[bkV f, .int .i64 a, .string (strN (dig x) 4)] w fun e w' => e = .returned (.tuple #[bkV F, .int .i64 y]) ∧ Below w.heap.size w w') (w : World) :
    Calls Try.prog 20 #[bkV f, .int .i64 a, .int .u32 (x : Int)] w fun e w' => e = .returned (.tuple #[bkV F, .int .i64 y]) ∧ Below w.heap.size w w' := by
  have hL : Hid (∀ w : World, Calls Try.prog 22 #[bkV f, .int .i64 a, .string (strN (dig x) 4)] w fun e w' => e = .returned (.tuple #[bkV F, .int .i64 y]) ∧ Below w.heap.size w w') := hL0
  have hB : Hid (∀ w : World, Calls Try.prog 37 #[.int .u32 (x : Int)] w fun e w' => e = .returned (.agg (va 4 (iv .u8 (dig x)))) ∧ Below w.heap.size w w') := fun w => bytes32_va x w
  clear hL0
  unfold bkV at *
  have hz := zero_bk
  have b0 : Blk ((w.alloc (Obj.cells (va 256 (iv IntKind.u8 f)) 33)).alloc (Obj.cells (va 256 (iv IntKind.u8 fun x => 0)) 33)) w.heap.size 33 (va 256 (iv .u8 f)) := (Blk.new _ _ _).alloc _
  have b1 := Blk.new1 w (Obj.cells (va 256 (iv IntKind.u8 f)) 33) 33 (va 256 (iv IntKind.u8 fun x => 0))
  have hb := below_new2 w (Obj.cells (va 256 (iv IntKind.u8 f)) 33) (Obj.cells (va 256 (iv IntKind.u8 fun x => 0)) 33)
  go_enter Try.func20, Try.ntmps20
  go_wp2_with fail
  generalize (w.alloc (Obj.cells (va 256 (iv IntKind.u8 f)) 33)).alloc (Obj.cells (va 256 (iv IntKind.u8 fun x => 0)) 33) = W at *
  refine (hB.out _).mono ?_
  rintro e w1 ⟨rfl, hb1⟩
  have l1 : w.heap.size + 1 < w1.heap.size := Nat.lt_of_lt_of_le b1.lt hb1.size
  have n0 : Blk (w1.alloc (.cells #[.int .u8 0, .int .u8 0, .int .u8 0, .int .u8 0] 80)) w1.heap.size 80 (va 4 (iv .u8 fun _ => 0)) := Blk.new _ _ _
  have c0 := ((b0.below hb1 b0.lt).alloc (.cells #[.int .u8 0, .int .u8 0, .int .u8 0, .int .u8 0] 80)).other (g := w1.heap.size) (va 4 (iv .u8 (dig x))) (by omega)
  have c1 := ((b1.below hb1 b1.lt).alloc (.cells #[.int .u8 0, .int .u8 0, .int .u8 0, .int .u8 0] 80)).other (g := w1.heap.size) (va 4 (iv .u8 (dig x))) (by omega)
  have n1 := n0.set (va 4 (iv .u8 (dig x)))
  have hb2 : Below w.heap.size w ((w1.alloc (.cells #[.int .u8 0, .int .u8 0, .int .u8 0, .int .u8 0] 80)).setRow w1.heap.size (va 4 (iv .u8 (dig x)))) := below_setRow ((hb.trans (hb1.mono hb.size)).alloc (by omega) _) (by omega) _
  clear b0 b1 hb hb1 hB hz
  go_wp2_with (first
    | (refine wpList_store_row (by rfl) 80 _ _ (by rfl) (w1.heap.size) (va 4 (iv .u8 (dig x))) (by rfl) (by rfl) 80 _ n0 (ksize4.trans (by rw [va_size])) (by simp only [va_size]) (iv_one _ _ _) ?_; simp only [Act.put, List.setIfInBounds_toArray, List.set_cons_zero, List.set_cons_succ])
    | fail)
  clear n0
  generalize (w1.alloc (.cells #[.int .u8 0, .int .u8 0, .int .u8 0, .int .u8 0] 80)).setRow w1.heap.size (va 4 (iv .u8 (dig x))) = w2 at *
  have hc := run_bytes_text (P := Try.prog) w2.drew 48 5 9 Try.underlying48 Try.underlying5 Try.underlying9 (n1.drew) 0 4 4 (by omega)
  rw [strN_congr (f := fun j => dig x (0 + j)) (g := dig x) fun j _ => by rw [Nat.zero_add]] at hc
  generalize strN (dig x) 4 = S at *
  refine wp_region_partsI [] [([1], 0, true), ([], 2, false), ([], 3, false), ([], 4, false), ([5, 6], 7, false)] [8] [] (w.heap.size + 1) (by kernel_rfl) (by kernel_rfl) (fun _ hx => nomatch hx) (partsI_yield ?_)
  simp only [List.cons_append, List.nil_append, List.append_nil, List.filterMap_cons, List.filterMap_nil, List.getElem?_toArray, List.getElem?_cons_zero, List.getElem?_cons_succ]
  have hS : Below (w.heap.size + 1) w2 w2.drew := (Below.refl _ _).drew
  go_wp2_with fail
  refine ⟨rfl, _, .agg (va 256 (iv .u8 f)), rfl, kyields_load (by rfl) 33 _ (by rfl) (w.heap.size) 256 (iv .u8 f) (by rfl) _ 33 (fun W hW => c0.below hW (Nat.lt_succ_self _)) Try.underlying33 rfl sizeBk, partsI_force ?_⟩
  simp only [Act.put, List.setIfInBounds_toArray, List.set_cons_zero, List.set_cons_succ]
  simp only [List.cons_append, List.nil_append, List.append_nil, List.filterMap_cons, List.filterMap_nil, List.getElem?_toArray, List.getElem?_cons_zero, List.getElem?_cons_succ]
  go_wp2_with fail
  refine ⟨rfl, hS, partsI_force ?_⟩
  simp only [List.cons_append, List.nil_append, List.append_nil, List.filterMap_cons, List.filterMap_nil, List.getElem?_toArray, List.getElem?_cons_zero, List.getElem?_cons_succ]
  go_wp2_with fail
  refine ⟨rfl, hS, partsI_force ?_⟩
  simp only [List.cons_append, List.nil_append, List.append_nil, List.filterMap_cons, List.filterMap_nil, List.getElem?_toArray, List.getElem?_cons_zero, List.getElem?_cons_succ]
  go_wp2_with fail
  refine (hL.out _).mono ?_
  rintro e w3 ⟨rfl, hb3⟩
  have hS3 : Below (w.heap.size + 1) w2 w3 := hS.trans (hb3.mono (Nat.le_of_lt c1.lt))
  have c3 := c1.drew.below hb3 c1.lt
  clear hS hb3 hL
  have hS := hS3
  clear hS3
  have hb4 : Below w.heap.size w w3 := hb2.trans (hS.mono (Nat.le_succ _))
  go_wp2_with fail
  refine ⟨rfl, hS, partsI_force ?_⟩
  simp only [List.cons_append, List.nil_append, List.append_nil, List.filterMap_cons, List.filterMap_nil, List.getElem?_toArray, List.getElem?_cons_zero, List.getElem?_cons_succ]
  have hst := Blk.store (P := Try.prog) c3 (va 256 (iv .u8 F)) (by simp only [va_size]) (va_mem_one _ _)
  have hvs := va_size 256 (iv .u8 F)
  go_wp2_with fail
  have hS4 := below_setRow hS (Nat.le_refl (w.heap.size + 1)) (va 256 (iv .u8 F))
  clear hS
  have hS := hS4
  clear hS4
  refine ⟨rfl, hS, partsI_last ?_⟩
  simp only [List.cons_append, List.nil_append, List.append_nil, List.filterMap_cons, List.filterMap_nil, List.getElem?_toArray, List.getElem?_cons_zero, List.getElem?_cons_succ]
  go_wp2_with fail
  refine ⟨rfl, ?_⟩
  go_wp2_with fail
  try simp only [Exit.inBlock, Exit.then]
  refine bodyPost_ret (results_row2 Try.results20 _ _ (w.heap.size + 1) 33 (va 256 (iv .u8 F)) (0, 0) _ rfl (c3.set _) Try.underlying33 rfl (sizeBk.trans (by rw [va_size]))) rfl ?_
  exact ⟨rfl, below_setRow hb4 (Nat.le_succ _) _⟩

set_option maxRecDepth 100000 in
set_option maxHeartbeats 4000000 in
theorem take32_fit (f : Nat → Nat) (hf : ∀ i, f i < 256) (r : Nat) (h : r + 4 ≤ 256) (w : World) :
    Calls Try.prog 44 #[bkV f, .int .i64 (r : Int)] w fun e w' => e = .returned (.tuple #[.int .u32 (le4f f r : Int), .int .i64 0]) ∧ Below w.heap.size w w' := by
  have hI : Hid (∀ w : World, Calls Try.prog 39 #[.int .i64 (r : Int), .int .i64 4] w fun e w' => e = .returned (.bool true) ∧ w' = w) := fun w => by
    have := inside_any (r : Int) 4 (by omega) (by omega) w
    rw [decide_eq_true (show Fit (r : Int) 4 from ⟨by omega, by omega, by omega⟩)] at this
    exact this
  have hO : Hid (∀ w : World, Calls Try.prog 47 #[.agg (va 4 (iv .u8 fun j => f (r + j)))] w fun e w' => e = .returned (.int .u32 (le4f f r : Int)) ∧ Below w.heap.size w w') := fun w => of32_va f r (fun i _ => hf _) w
  generalize le4f f r = v at *
  unfold bkV
  have b0 : Blk ((w.alloc (Obj.cells (va 256 (iv IntKind.u8 f)) 33)).alloc (.cells #[.int .u8 0, .int .u8 0, .int .u8 0, .int .u8 0] 80)) w.heap.size 33 (va 256 (iv .u8 f)) := (Blk.new _ _ _).alloc _
  have b1 : Blk ((w.alloc (Obj.cells (va 256 (iv IntKind.u8 f)) 33)).alloc (.cells #[.int .u8 0, .int .u8 0, .int .u8 0, .int .u8 0] 80)) (w.heap.size + 1) 80 (va 4 (iv .u8 fun _ => 0)) := Blk.new1 _ _ _ _
  have hb := below_new2 w (Obj.cells (va 256 (iv IntKind.u8 f)) 33) (.cells #[.int .u8 0, .int .u8 0, .int .u8 0, .int .u8 0] 80)
  go_enter Try.func44, Try.ntmps44
  go_wp2_with fail
  generalize (w.alloc (Obj.cells (va 256 (iv IntKind.u8 f)) 33)).alloc (.cells #[.int .u8 0, .int .u8 0, .int .u8 0, .int .u8 0] 80) = W at *
  refine (hI.out _).mono ?_
  rintro e w1 ⟨rfl, rfl⟩
  have r0 : (0 : Int) ≤ (r : Int) := by omega
  have r1 : (r : Int) ≤ 256 := by omega
  have r2 : ¬ 256 = r := by omega
  obtain ⟨cs, hcs⟩ : ∃ cs : List Value, cs = byL (fun j => f (r + j)) 4 := ⟨_, rfl⟩
  have s1 : Hid (cs.length = Nat.min (256 - r) 4) := by
    show _ = _
    rw [hcs, byL_length]
    show _ = min _ _
    omega
  have s2 : Hid (∀ (V : World), Below (w.heap.size + 1) w1 V → ∀ j v, cs[j]? = some v → V.cell? ((⟨w.heap.size, r, none⟩ : Addr).add j) = some v) := fun V hV j v hv => by
    rw [hcs] at hv
    have hj : j < 4 := by
      have := (List.getElem?_eq_some_iff.1 hv).1
      rwa [byL_length] at this
    rw [byL_at _ _ _ hj] at hv
    rw [Addr.add_mid, (b0.below hV (Nat.lt_succ_self _)).cv (i := r + j) (by omega)]
    exact hv
  have s3 : Hid (∀ v ∈ cs, v.oneCell' = true) := by
    show ∀ v ∈ cs, v.oneCell' = true
    rw [hcs]
    exact mem_iv_one _ _ _
  have s5 : Hid (0 + cs.length ≤ 4) := by
    show _ ≤ _
    rw [hcs, byL_length]
    omega
  have s6 : Hid (w1.drew.heap[w.heap.size + 1]? = some (.cells ([Value.int .u8 0, .int .u8 0, .int .u8 0, .int .u8 0] : List Value).toArray 80 (0, 0))) := b1
  have s8 : Hid ((splice ([Value.int .u8 0, .int .u8 0, .int .u8 0, .int .u8 0] : List Value) 0 cs).toArray = va 4 (iv .u8 fun j => f (r + j))) := by
    show _ = _
    rw [hcs]
    have e := splice_put 4 0 4 (fun _ => 0) (fun j => f (r + j)) (by omega)
    refine Eq.trans (by rfl) (e.trans (va_congr fun i hi => ?_))
    unfold iv putAt
    rw [if_pos (by omega), Nat.sub_zero]
  go_wp2_with fail
  go_region_law (refine step_copy_splice rfl (.tmp 10) (.tmp 12) 48 48 rfl 5 Try.underlying48 ksizeU8 (some ⟨w.heap.size + 1, 0, none⟩) (some ⟨w.heap.size, r, none⟩) 4 4 (256 - r) (256 - r) (by simp [Act.eval, Act.put]) (by simp [Act.eval, Act.put]) (w.heap.size + 1) 0 [Value.int .u8 0, .int .u8 0, .int .u8 0, .int .u8 0] 80 s6.out cs s1.out (fun _ => ⟨rfl, _, rfl, s2.out _ (Below.refl _ _).drew⟩) s5.out s3.out (w.heap.size + 1) w1 (Below.refl _ _).drew (Nat.le_refl _) ?_; intro w4 hg4 hb4)
  have c1 : Blk w4 (w.heap.size + 1) 80 (va 4 (iv .u8 fun j => f (r + j))) := by
    have := hg4.out
    rw [s8.out] at this
    exact this
  have hb5 : Below w.heap.size w w4 := hb.trans (hb4.mono (Nat.le_succ _))
  clear s1 s2 s3 s5 s6 s8 hg4 hb4 hb b0 b1 hcs hI
  go_wp2_with (first
    | (refine wpList_load_row (by rfl) 80 _ (by rfl) (w.heap.size + 1) (by rfl) 80 (va 4 (iv .u8 (fun j => f (r + j)))) (0, 0) _ c1 Try.underlying80 (by rfl) (ksize4.trans (by rw [va_size])) ?_; simp only [Act.put, List.setIfInBounds_toArray, List.set_cons_zero, List.set_cons_succ])
    | fail)
  refine (hO.out _).mono ?_
  rintro e w5 ⟨rfl, hb6⟩
  have hb7 : Below w.heap.size w w5 := hb5.trans (hb6.mono hb5.size)
  clear hb5 hb6 hO c1
  go_wp2_with fail
  try simp only [Exit.inBlock, Exit.then]
  refine bodyPost_ret (results_tmp2 Try.results44 _ _ _) rfl ?_
  exact ⟨rfl, hb7⟩

set_option maxRecDepth 100000 in
set_option maxHeartbeats 4000000 in
theorem lay64_by (f : Nat → Nat) (a : Int) (x : Nat) (F : Nat → Nat) (y : Int)
    (hL0 : ∀ w : World, Calls Try.prog 22 #[bkV f, .int .i64 a, .string (strN (dig x) 8)] w fun e w' => e = .returned (.tuple #[bkV F, .int .i64 y]) ∧ Below w.heap.size w w') (w : World) :
    Calls Try.prog 21 #[bkV f, .int .i64 a, .int .u64 (x : Int)] w fun e w' => e = .returned (.tuple #[bkV F, .int .i64 y]) ∧ Below w.heap.size w w' := by
  have hL : Hid (∀ w : World, Calls Try.prog 22 #[bkV f, .int .i64 a, .string (strN (dig x) 8)] w fun e w' => e = .returned (.tuple #[bkV F, .int .i64 y]) ∧ Below w.heap.size w w') := hL0
  have hB : Hid (∀ w : World, Calls Try.prog 38 #[.int .u64 (x : Int)] w fun e w' => e = .returned (.agg (va 8 (iv .u8 (dig x)))) ∧ Below w.heap.size w w') := fun w => bytes64_va x w
  clear hL0
  unfold bkV at *
  have hz := zero_bk
  have b0 : Blk ((w.alloc (Obj.cells (va 256 (iv IntKind.u8 f)) 33)).alloc (Obj.cells (va 256 (iv IntKind.u8 fun x => 0)) 33)) w.heap.size 33 (va 256 (iv .u8 f)) := (Blk.new _ _ _).alloc _
  have b1 := Blk.new1 w (Obj.cells (va 256 (iv IntKind.u8 f)) 33) 33 (va 256 (iv IntKind.u8 fun x => 0))
  have hb := below_new2 w (Obj.cells (va 256 (iv IntKind.u8 f)) 33) (Obj.cells (va 256 (iv IntKind.u8 fun x => 0)) 33)
  go_enter Try.func21, Try.ntmps21
  go_wp2_with fail
  generalize (w.alloc (Obj.cells (va 256 (iv IntKind.u8 f)) 33)).alloc (Obj.cells (va 256 (iv IntKind.u8 fun x => 0)) 33) = W at *
  refine (hB.out _).mono ?_
  rintro e w1 ⟨rfl, hb1⟩
  have l1 : w.heap.size + 1 < w1.heap.size := Nat.lt_of_lt_of_le b1.lt hb1.size
  have n0 : Blk (w1.alloc (.cells #[.int .u8 0, .int .u8 0, .int .u8 0, .int .u8 0, .int .u8 0, .int .u8 0, .int .u8 0, .int .u8 0] 82)) w1.heap.size 82 (va 8 (iv .u8 fun _ => 0)) := Blk.new _ _ _
  have c0 := ((b0.below hb1 b0.lt).alloc (.cells #[.int .u8 0, .int .u8 0, .int .u8 0, .int .u8 0, .int .u8 0, .int .u8 0, .int .u8 0, .int .u8 0] 82)).other (g := w1.heap.size) (va 8 (iv .u8 (dig x))) (by omega)
  have c1 := ((b1.below hb1 b1.lt).alloc (.cells #[.int .u8 0, .int .u8 0, .int .u8 0, .int .u8 0, .int .u8 0, .int .u8 0, .int .u8 0, .int .u8 0] 82)).other (g := w1.heap.size) (va 8 (iv .u8 (dig x))) (by omega)
  have n1 := n0.set (va 8 (iv .u8 (dig x)))
  have hb2 : Below w.heap.size w ((w1.alloc (.cells #[.int .u8 0, .int .u8 0, .int .u8 0, .int .u8 0, .int .u8 0, .int .u8 0, .int .u8 0, .int .u8 0] 82)).setRow w1.heap.size (va 8 (iv .u8 (dig x)))) := below_setRow ((hb.trans (hb1.mono hb.size)).alloc (by omega) _) (by omega) _
  clear b0 b1 hb hb1 hB hz
  go_wp2_with (first
    | (refine wpList_store_row (by rfl) 82 _ _ (by rfl) (w1.heap.size) (va 8 (iv .u8 (dig x))) (by rfl) (by rfl) 82 _ n0 (ksize8.trans (by rw [va_size])) (by simp only [va_size]) (iv_one _ _ _) ?_; simp only [Act.put, List.setIfInBounds_toArray, List.set_cons_zero, List.set_cons_succ])
    | fail)
  clear n0
  generalize (w1.alloc (.cells #[.int .u8 0, .int .u8 0, .int .u8 0, .int .u8 0, .int .u8 0, .int .u8 0, .int .u8 0, .int .u8 0] 82)).setRow w1.heap.size (va 8 (iv .u8 (dig x))) = w2 at *
  have hc := run_bytes_text (P := Try.prog) w2.drew 48 5 9 Try.underlying48 Try.underlying5 Try.underlying9 (n1.drew) 0 8 8 (by omega)
  rw [strN_congr (f := fun j => dig x (0 + j)) (g := dig x) fun j _ => by rw [Nat.zero_add]] at hc
  generalize strN (dig x) 8 = S at *
  refine wp_region_partsI [] [([1], 0, true), ([], 2, false), ([], 3, false), ([], 4, false), ([5, 6], 7, false)] [8] [] (w.heap.size + 1) (by kernel_rfl) (by kernel_rfl) (fun _ hx => nomatch hx) (partsI_yield ?_)
  simp only [List.cons_append, List.nil_append, List.append_nil, List.filterMap_cons, List.filterMap_nil, List.getElem?_toArray, List.getElem?_cons_zero, List.getElem?_cons_succ]
  have hS : Below (w.heap.size + 1) w2 w2.drew := (Below.refl _ _).drew
  go_wp2_with fail
  refine ⟨rfl, _, .agg (va 256 (iv .u8 f)), rfl, kyields_load (by rfl) 33 _ (by rfl) (w.heap.size) 256 (iv .u8 f) (by rfl) _ 33 (fun W hW => c0.below hW (Nat.lt_succ_self _)) Try.underlying33 rfl sizeBk, partsI_force ?_⟩
  simp only [Act.put, List.setIfInBounds_toArray, List.set_cons_zero, List.set_cons_succ]
  simp only [List.cons_append, List.nil_append, List.append_nil, List.filterMap_cons, List.filterMap_nil, List.getElem?_toArray, List.getElem?_cons_zero, List.getElem?_cons_succ]
  go_wp2_with fail
  refine ⟨rfl, hS, partsI_force ?_⟩
  simp only [List.cons_append, List.nil_append, List.append_nil, List.filterMap_cons, List.filterMap_nil, List.getElem?_toArray, List.getElem?_cons_zero, List.getElem?_cons_succ]
  go_wp2_with fail
  refine ⟨rfl, hS, partsI_force ?_⟩
  simp only [List.cons_append, List.nil_append, List.append_nil, List.filterMap_cons, List.filterMap_nil, List.getElem?_toArray, List.getElem?_cons_zero, List.getElem?_cons_succ]
  go_wp2_with fail
  refine (hL.out _).mono ?_
  rintro e w3 ⟨rfl, hb3⟩
  have hS3 : Below (w.heap.size + 1) w2 w3 := hS.trans (hb3.mono (Nat.le_of_lt c1.lt))
  have c3 := c1.drew.below hb3 c1.lt
  clear hS hb3 hL
  have hS := hS3
  clear hS3
  have hb4 : Below w.heap.size w w3 := hb2.trans (hS.mono (Nat.le_succ _))
  go_wp2_with fail
  refine ⟨rfl, hS, partsI_force ?_⟩
  simp only [List.cons_append, List.nil_append, List.append_nil, List.filterMap_cons, List.filterMap_nil, List.getElem?_toArray, List.getElem?_cons_zero, List.getElem?_cons_succ]
  have hst := Blk.store (P := Try.prog) c3 (va 256 (iv .u8 F)) (by simp only [va_size]) (va_mem_one _ _)
  have hvs := va_size 256 (iv .u8 F)
  go_wp2_with fail
  have hS4 := below_setRow hS (Nat.le_refl (w.heap.size + 1)) (va 256 (iv .u8 F))
  clear hS
  have hS := hS4
  clear hS4
  refine ⟨rfl, hS, partsI_last ?_⟩
  simp only [List.cons_append, List.nil_append, List.append_nil, List.filterMap_cons, List.filterMap_nil, List.getElem?_toArray, List.getElem?_cons_zero, List.getElem?_cons_succ]
  go_wp2_with fail
  refine ⟨rfl, ?_⟩
  go_wp2_with fail
  try simp only [Exit.inBlock, Exit.then]
  refine bodyPost_ret (results_row2 Try.results21 _ _ (w.heap.size + 1) 33 (va 256 (iv .u8 F)) (0, 0) _ rfl (c3.set _) Try.underlying33 rfl (sizeBk.trans (by rw [va_size]))) rfl ?_
  exact ⟨rfl, below_setRow hb4 (Nat.le_succ _) _⟩

set_option maxRecDepth 100000 in
set_option maxHeartbeats 4000000 in
theorem take64_fit (f : Nat → Nat) (hf : ∀ i, f i < 256) (r : Nat) (h : r + 8 ≤ 256) (w : World) :
    Calls Try.prog 40 #[bkV f, .int .i64 (r : Int)] w fun e w' => e = .returned (.tuple #[.int .u64 (le8f f r : Int), .int .i64 0]) ∧ Below w.heap.size w w' := by
  have hI : Hid (∀ w : World, Calls Try.prog 39 #[.int .i64 (r : Int), .int .i64 8] w fun e w' => e = .returned (.bool true) ∧ w' = w) := fun w => by
    have := inside_any (r : Int) 8 (by omega) (by omega) w
    rw [decide_eq_true (show Fit (r : Int) 8 from ⟨by omega, by omega, by omega⟩)] at this
    exact this
  have hO : Hid (∀ w : World, Calls Try.prog 43 #[.agg (va 8 (iv .u8 fun j => f (r + j)))] w fun e w' => e = .returned (.int .u64 (le8f f r : Int)) ∧ Below w.heap.size w w') := fun w => of64_va f r (fun i  => hf _) w
  generalize le8f f r = v at *
  unfold bkV
  have b0 : Blk ((w.alloc (Obj.cells (va 256 (iv IntKind.u8 f)) 33)).alloc (.cells #[.int .u8 0, .int .u8 0, .int .u8 0, .int .u8 0, .int .u8 0, .int .u8 0, .int .u8 0, .int .u8 0] 82)) w.heap.size 33 (va 256 (iv .u8 f)) := (Blk.new _ _ _).alloc _
  have b1 : Blk ((w.alloc (Obj.cells (va 256 (iv IntKind.u8 f)) 33)).alloc (.cells #[.int .u8 0, .int .u8 0, .int .u8 0, .int .u8 0, .int .u8 0, .int .u8 0, .int .u8 0, .int .u8 0] 82)) (w.heap.size + 1) 82 (va 8 (iv .u8 fun _ => 0)) := Blk.new1 _ _ _ _
  have hb := below_new2 w (Obj.cells (va 256 (iv IntKind.u8 f)) 33) (.cells #[.int .u8 0, .int .u8 0, .int .u8 0, .int .u8 0, .int .u8 0, .int .u8 0, .int .u8 0, .int .u8 0] 82)
  go_enter Try.func40, Try.ntmps40
  go_wp2_with fail
  generalize (w.alloc (Obj.cells (va 256 (iv IntKind.u8 f)) 33)).alloc (.cells #[.int .u8 0, .int .u8 0, .int .u8 0, .int .u8 0, .int .u8 0, .int .u8 0, .int .u8 0, .int .u8 0] 82) = W at *
  refine (hI.out _).mono ?_
  rintro e w1 ⟨rfl, rfl⟩
  have r0 : (0 : Int) ≤ (r : Int) := by omega
  have r1 : (r : Int) ≤ 256 := by omega
  have r2 : ¬ 256 = r := by omega
  obtain ⟨cs, hcs⟩ : ∃ cs : List Value, cs = byL (fun j => f (r + j)) 8 := ⟨_, rfl⟩
  have s1 : Hid (cs.length = Nat.min (256 - r) 8) := by
    show _ = _
    rw [hcs, byL_length]
    show _ = min _ _
    omega
  have s2 : Hid (∀ (V : World), Below (w.heap.size + 1) w1 V → ∀ j v, cs[j]? = some v → V.cell? ((⟨w.heap.size, r, none⟩ : Addr).add j) = some v) := fun V hV j v hv => by
    rw [hcs] at hv
    have hj : j < 8 := by
      have := (List.getElem?_eq_some_iff.1 hv).1
      rwa [byL_length] at this
    rw [byL_at _ _ _ hj] at hv
    rw [Addr.add_mid, (b0.below hV (Nat.lt_succ_self _)).cv (i := r + j) (by omega)]
    exact hv
  have s3 : Hid (∀ v ∈ cs, v.oneCell' = true) := by
    show ∀ v ∈ cs, v.oneCell' = true
    rw [hcs]
    exact mem_iv_one _ _ _
  have s5 : Hid (0 + cs.length ≤ 8) := by
    show _ ≤ _
    rw [hcs, byL_length]
    omega
  have s6 : Hid (w1.drew.heap[w.heap.size + 1]? = some (.cells ([Value.int .u8 0, .int .u8 0, .int .u8 0, .int .u8 0, .int .u8 0, .int .u8 0, .int .u8 0, .int .u8 0] : List Value).toArray 82 (0, 0))) := b1
  have s8 : Hid ((splice ([Value.int .u8 0, .int .u8 0, .int .u8 0, .int .u8 0, .int .u8 0, .int .u8 0, .int .u8 0, .int .u8 0] : List Value) 0 cs).toArray = va 8 (iv .u8 fun j => f (r + j))) := by
    show _ = _
    rw [hcs]
    have e := splice_put 8 0 8 (fun _ => 0) (fun j => f (r + j)) (by omega)
    refine Eq.trans (by rfl) (e.trans (va_congr fun i hi => ?_))
    unfold iv putAt
    rw [if_pos (by omega), Nat.sub_zero]
  go_wp2_with fail
  go_region_law (refine step_copy_splice rfl (.tmp 10) (.tmp 12) 48 48 rfl 5 Try.underlying48 ksizeU8 (some ⟨w.heap.size + 1, 0, none⟩) (some ⟨w.heap.size, r, none⟩) 8 8 (256 - r) (256 - r) (by simp [Act.eval, Act.put]) (by simp [Act.eval, Act.put]) (w.heap.size + 1) 0 [Value.int .u8 0, .int .u8 0, .int .u8 0, .int .u8 0, .int .u8 0, .int .u8 0, .int .u8 0, .int .u8 0] 82 s6.out cs s1.out (fun _ => ⟨rfl, _, rfl, s2.out _ (Below.refl _ _).drew⟩) s5.out s3.out (w.heap.size + 1) w1 (Below.refl _ _).drew (Nat.le_refl _) ?_; intro w4 hg4 hb4)
  have c1 : Blk w4 (w.heap.size + 1) 82 (va 8 (iv .u8 fun j => f (r + j))) := by
    have := hg4.out
    rw [s8.out] at this
    exact this
  have hb5 : Below w.heap.size w w4 := hb.trans (hb4.mono (Nat.le_succ _))
  clear s1 s2 s3 s5 s6 s8 hg4 hb4 hb b0 b1 hcs hI
  go_wp2_with (first
    | (refine wpList_load_row (by rfl) 82 _ (by rfl) (w.heap.size + 1) (by rfl) 82 (va 8 (iv .u8 (fun j => f (r + j)))) (0, 0) _ c1 Try.underlying82 (by rfl) (ksize8.trans (by rw [va_size])) ?_; simp only [Act.put, List.setIfInBounds_toArray, List.set_cons_zero, List.set_cons_succ])
    | fail)
  refine (hO.out _).mono ?_
  rintro e w5 ⟨rfl, hb6⟩
  have hb7 : Below w.heap.size w w5 := hb5.trans (hb6.mono hb5.size)
  clear hb5 hb6 hO c1
  go_wp2_with fail
  try simp only [Exit.inBlock, Exit.then]
  refine bodyPost_ret (results_tmp2 Try.results40 _ _ _) rfl ?_
  exact ⟨rfl, hb7⟩

end Go.Proofs.Ytalnfphlhcojcaa

namespace Go.Proofs.Ytalnfphlhcojcaa
open Go Go.RowKit
set_option linter.unusedSimpArgs false
set_option linter.unusedVariables false
set_option maxRecDepth 20000
/-- the eight bytes that a root block begins with -/
def markB : ByteArray := { data := #[115, 105, 103, 110, 101, 116, 48, 49] }
/-- a root's bytes -/
def suB (x : Sup) : Nat → Nat := fun j => if j < 8 then tbyte markB j else if j < 12 then dig x.b.toNat (j - 8) else if j < 16 then 0 else if j < 24 then dig x.c (j - 16) else if j < 28 then dig x.th.toNat (j - 24) else if j < 32 then dig x.n.toNat (j - 28) else if j < 68 then encR x.tr (j - 32) else if j < 72 then dig x.mh.toNat (j - 68) else if j < 108 then encR x.mr (j - 72) else if j < 112 then dig x.u.toNat (j - 108) else 0
theorem su_dig (n i : Nat) : dig n i < 256 := by unfold dig; omega
theorem suB_lt (x : Sup) (hx : SuW x) (j : Nat) : suB x j < 256 := by
  unfold suB
  repeat' split
  all_goals first | exact su_dig _ _ | exact tbyte_lt _ _ | (exact encR_lt _ hx.td _ (by omega)) | (exact encR_lt _ hx.md _ (by omega)) | omega
theorem slay_str (f : Nat → Nat) (r n : Nat) (g : Nat → Nat) (hg : ∀ j, j < n → g j < 256) : bkV (putAt f r (strN g n).size (tbyte (strN g n))) = bkV (putAt f r n g) := bkV_congr fun i hi => by
  rw [strN_size]
  unfold putAt
  by_cases h : r ≤ i ∧ i < r + n
  · rw [if_pos h, if_pos h, strN_at _ _ _ (by omega) (hg _ (by omega))]
  · rw [if_neg h, if_neg h]
theorem slay32 (f : Nat → Nat) (r x : Nat) (h : r + 4 ≤ 256) (w : World) : Calls Try.prog 20 #[bkV f, .int .i64 (r : Int), .int .u32 (x : Int)] w fun e w' => e = .returned (.tuple #[bkV (putAt f r 4 (dig x)), .int .i64 0]) ∧ Below w.heap.size w w' := by
  refine lay32_by f r x _ 0 (fun w => ?_) w
  have := lay_fit f r (strN (dig x) 4) (by rw [strN_size]; exact h) w
  rw [slay_str f r 4 (dig x) fun j _ => su_dig _ _] at this
  exact this
theorem slay64 (f : Nat → Nat) (r x : Nat) (h : r + 8 ≤ 256) (w : World) : Calls Try.prog 21 #[bkV f, .int .i64 (r : Int), .int .u64 (x : Int)] w fun e w' => e = .returned (.tuple #[bkV (putAt f r 8 (dig x)), .int .i64 0]) ∧ Below w.heap.size w w' := by
  refine lay64_by f r x _ 0 (fun w => ?_) w
  have := lay_fit f r (strN (dig x) 8) (by rw [strN_size]; exact h) w
  rw [slay_str f r 8 (dig x) fun j _ => su_dig _ _] at this
  exact this
theorem slayR (f : Nat → Nat) (r : Nat) (x : Rf) (hx : okD x.2) (h : r + 36 ≤ 256) (w : World) : Calls Try.prog 22 #[bkV f, .int .i64 (r : Int), .string (strN (encR x) 36)] w fun e w' => e = .returned (.tuple #[bkV (putAt f r 36 (encR x)), .int .i64 0]) ∧ Below w.heap.size w w' := by
  have := lay_fit f r (strN (encR x) 36) (by rw [strN_size]; exact h) w
  rw [slay_str f r 36 (encR x) fun j hj => encR_lt _ hx _ hj] at this
  exact this
theorem suB_nest (x : Sup) : bkV (putAt (putAt (putAt (putAt (putAt (putAt (putAt (putAt (tbyte markB) 8 4 (dig x.b.toNat)) 16 8 (dig x.c)) 24 4 (dig x.th.toNat)) 28 4 (dig x.n.toNat)) 32 36 (encR x.tr)) 68 4 (dig x.mh.toNat)) 72 36 (encR x.mr)) 108 4 (dig x.u.toNat)) = bkV (suB x) := bkV_congr fun i hi => by
  unfold suB putAt
  by_cases h0 : i < 8
  · rw [if_neg (by omega), if_neg (by omega), if_neg (by omega), if_neg (by omega), if_neg (by omega), if_neg (by omega), if_neg (by omega), if_neg (by omega)]; rw [if_pos (by omega)]
  · skip
    by_cases h1 : i < 12
    · rw [if_neg (by omega), if_neg (by omega), if_neg (by omega), if_neg (by omega), if_neg (by omega), if_neg (by omega), if_neg (by omega), if_pos (by omega)]; rw [if_neg (by omega), if_pos (by omega)]
    · skip
      by_cases h2 : i < 16
      · rw [if_neg (by omega), if_neg (by omega), if_neg (by omega), if_neg (by omega), if_neg (by omega), if_neg (by omega), if_neg (by omega), if_neg (by omega)]; rw [if_neg (by omega), if_neg (by omega), if_pos (by omega)]; exact tbyte_out _ _ (by show 8 ≤ i; omega)
      · skip
        by_cases h3 : i < 24
        · rw [if_neg (by omega), if_neg (by omega), if_neg (by omega), if_neg (by omega), if_neg (by omega), if_neg (by omega), if_pos (by omega)]; rw [if_neg (by omega), if_neg (by omega), if_neg (by omega), if_pos (by omega)]
        · skip
          by_cases h4 : i < 28
          · rw [if_neg (by omega), if_neg (by omega), if_neg (by omega), if_neg (by omega), if_neg (by omega), if_pos (by omega)]; rw [if_neg (by omega), if_neg (by omega), if_neg (by omega), if_neg (by omega), if_pos (by omega)]
          · skip
            by_cases h5 : i < 32
            · rw [if_neg (by omega), if_neg (by omega), if_neg (by omega), if_neg (by omega), if_pos (by omega)]; rw [if_neg (by omega), if_neg (by omega), if_neg (by omega), if_neg (by omega), if_neg (by omega), if_pos (by omega)]
            · skip
              by_cases h6 : i < 68
              · rw [if_neg (by omega), if_neg (by omega), if_neg (by omega), if_pos (by omega)]; rw [if_neg (by omega), if_neg (by omega), if_neg (by omega), if_neg (by omega), if_neg (by omega), if_neg (by omega), if_pos (by omega)]
              · skip
                by_cases h7 : i < 72
                · rw [if_neg (by omega), if_neg (by omega), if_pos (by omega)]; rw [if_neg (by omega), if_neg (by omega), if_neg (by omega), if_neg (by omega), if_neg (by omega), if_neg (by omega), if_neg (by omega), if_pos (by omega)]
                · skip
                  by_cases h8 : i < 108
                  · rw [if_neg (by omega), if_pos (by omega)]; rw [if_neg (by omega), if_neg (by omega), if_neg (by omega), if_neg (by omega), if_neg (by omega), if_neg (by omega), if_neg (by omega), if_neg (by omega), if_pos (by omega)]
                  · skip
                    by_cases h9 : i < 112
                    · rw [if_pos (by omega)]; rw [if_neg (by omega), if_neg (by omega), if_neg (by omega), if_neg (by omega), if_neg (by omega), if_neg (by omega), if_neg (by omega), if_neg (by omega), if_neg (by omega), if_pos (by omega)]
                    · skip
                      rw [if_neg (by omega), if_neg (by omega), if_neg (by omega), if_neg (by omega), if_neg (by omega), if_neg (by omega), if_neg (by omega), if_neg (by omega)]; rw [if_neg (by omega), if_neg (by omega), if_neg (by omega), if_neg (by omega), if_neg (by omega), if_neg (by omega), if_neg (by omega), if_neg (by omega), if_neg (by omega), if_neg (by omega)]; exact tbyte_out _ _ (by show 8 ≤ i; omega)
theorem sck_all (x : Sup) (h : sck x = true) : (16 ≤ x.b ∧ x.b ≤ 8192) ∧ (3 ≤ x.u ∧ x.u < x.b) ∧ (1 ≤ x.n ∧ x.n ≤ 4096) ∧ (x.th = hL 4 x.n ∧ x.mh = hL 1024 x.b) ∧ (0 ≤ x.th ∧ x.th ≤ 6) ∧ (0 ≤ x.mh ∧ x.mh ≤ 6) ∧ (x.tr.1 ≠ 0 ∧ (x.tr.1 : Int) < x.b) ∧ (x.mr.1 ≠ 0 ∧ (x.mr.1 : Int) < x.b) ∧ x.tr.1 ≠ x.mr.1 := by
  unfold sck sDisk sHgt sPl rBl onD at h
  simp only [Bool.and_eq_true, decide_eq_true_eq] at h
  obtain ⟨⟨⟨a1, a2⟩, a3, a4⟩, ⟨⟨b1, b2⟩, b3, b4⟩, ⟨c1, c2⟩, ⟨c3, c4⟩, c5⟩ := h
  have q1 := hL_lt 4 x.n
  have q2 := hL_lt 1024 x.b
  exact ⟨⟨a1, a2⟩, ⟨a3, a4⟩, ⟨b1, b2⟩, ⟨b3, b4⟩, ⟨by omega, by omega⟩, ⟨by omega, by omega⟩, ⟨c1, c2⟩, ⟨c3, c4⟩, c5⟩
/-- what lies in the memory while Encode works: the root, the result, the block that grows -/
structure ES (w0 w : World) (x : Sup) (h : Nat) (F : Nat → Nat) : Prop where
  b : Below w0.heap.size w0 w
  x : Blk w w0.heap.size 31 (suC x)
  r : Blk w (w0.heap.size + 1) 33 (va 256 (iv .u8 fun _ => 0))
  f : Blk w h 33 (va 256 (iv .u8 F))
  lt : w0.heap.size + 1 < h
theorem ES.below {w0 w w' : World} {x : Sup} {h : Nat} {F : Nat → Nat} (e : ES w0 w x h F) (b : Below w.heap.size w w') : ES w0 w' x h F :=
  ⟨e.b.trans (b.mono e.b.size), e.x.below b e.x.lt, e.r.below b e.r.lt, e.f.below b e.f.lt, e.lt⟩
theorem ES.drew {w0 w : World} {x : Sup} {h : Nat} {F : Nat → Nat} (e : ES w0 w x h F) : ES w0 w.drew x h F := ⟨e.b.drew, e.x.drew, e.r.drew, e.f.drew, e.lt⟩
theorem ES.set {w0 w : World} {x : Sup} {h : Nat} {F : Nat → Nat} (e : ES w0 w x h F) (G : Nat → Nat) : ES w0 (w.setRow h (va 256 (iv .u8 G))) x h G :=
  ⟨below_setRow e.b (by have := e.lt; omega) _, e.x.other _ (by have := e.lt; omega), e.r.other _ (by have := e.lt; omega), e.f.set _, e.lt⟩
theorem su_rangeT {w : World} {g : Nat} {x : Sup} (h : Blk w g 31 (suC x)) : w.rangeAt g 3 ((List.range 33).map (rfF x.tr.1 x.tr.2)) := by
  have q := World.rangeAt_of_block (b := g) h 3 33
  rw [su_tref] at q
  unfold rfC at q
  rwa [va_toList] at q
theorem su_rangeM {w : World} {g : Nat} {x : Sup} (h : Blk w g 31 (suC x)) : w.rangeAt g 38 ((List.range 33).map (rfF x.mr.1 x.mr.2)) := by
  have q := World.rangeAt_of_block (b := g) h 38 33
  rw [su_mref] at q
  unfold rfC at q
  rwa [va_toList] at q
end Go.Proofs.Ytalnfphlhcojcaa

namespace Go.Proofs.Ytalnfphlhcojcaa
open Go Go.RowKit

/-- the plan of a region's walk -/
inductive Plan where
  | fin (takes : List Nat)
  | force (ts : List Nat) (i : Nat) (next : Plan)
  | yield (ts : List Nat) (i : Nat) (next : Plan)
  | fork (i j : Nat) (p q : Plan)
def Plan.len : Plan → Nat
  | .fin takes => takes.length
  | .force ts _ p => ts.length + (1 + p.len)
  | .yield ts _ p => ts.length + (1 + p.len)
  | .fork _ _ p _ => p.len + 1
/-- the check -/
def Plan.ok (ops : Array Oper) : Plan → Array Bool → Bool
  | .fin takes, listed => match takesB .any ops [] [] takes listed with
    | some l => (Region.ready .any ops l).isEmpty
    | none => false
  | .force ts i p, listed => match takesB .any ops [] [] ts listed with
    | some l => forceW .any ops l i && p.ok ops (l.setIfInBounds i true)
    | none => false
  | .yield ts i p, listed => match takesB .any ops [] [] ts listed with
    | some l => yieldW .any ops l [] i && p.ok ops (l.setIfInBounds i true)
    | none => false
  | .fork i j p q, listed => Region.ready .any ops listed == [i, j] && (ops[i]?).isSome && (ops[j]?).isSome && p.len == q.len && p.ok ops (listed.setIfInBounds i true) && q.ok ops (listed.setIfInBounds j true)
def Plan.whole (ops : Array Oper) (p : Plan) : Bool := p.len == ops.size && Region.noSelect ops && p.ok ops (Array.replicate ops.size false)
section
variable {P : Program} {ops : Array Oper} {Q : Exit → Act → World → Prop} {S : World → Prop}
/-- the walk -/
def wpPlan (P : Program) (ops : Array Oper) (Q : Exit → Act → World → Prop) (S : World → Prop) : Plan → Act → World → Prop
  | .fin takes, a, w => wpList P ops (Strict Q) (takes.filterMap fun i => ops[i]?) a w
  | .force ts i p, a, w => wpList P ops (Strict fun _ a' w' => S w' ∧ wpPlan P ops Q S p a' w') ((ts ++ [i]).filterMap fun i => ops[i]?) a w
  | .yield ts i p, a, w => wpList P ops (Strict fun _ a' w' => ∃ o v, ops[i]? = some o ∧ YieldsIf P ops S o v a' ∧ wpPlan P ops Q S p (a'.put o.dst v) w') ((ts ++ []).filterMap fun i => ops[i]?) a w
  | .fork i j p q, a, w => wpList P ops (Strict fun _ a' w' => S w' ∧ wpPlan P ops Q S p a' w') ([i].filterMap fun i => ops[i]?) a w ∧ wpList P ops (Strict fun _ a' w' => S w' ∧ wpPlan P ops Q S q a' w') ([j].filterMap fun i => ops[i]?) a w
theorem plan_step (hs : Region.noSelect ops = true) : ∀ (p : Plan) (listed : Array Bool) (a : Act) (w : World), p.ok ops listed = true → S w →
      wpPlan P ops Q S p a w → wpAnyW P .any ops (Strict Q) S (([] : List Nat).contains ·) p.len listed a w
  | .fin takes, listed, a, w, hb, hS, h => by
    unfold Plan.ok at hb
    split at hb
    · rename_i l2 hl2
      have h2 : wpList P ops (Strict Q) ((takes ++ []).filterMap fun i => ops[i]?) a w := by
        rw [List.append_nil]
        exact h
      exact takesS_step hs [] 0 Q takes listed l2 a w hl2 (fun a' w' _ h' => ⟨by simpa using hb, h'⟩) hS h2
    · cases hb
  | .force ts i p, listed, a, w, hb, hS, h => by
    unfold Plan.ok at hb
    split at hb
    · rename_i l2 hl2
      simp only [Bool.and_eq_true] at hb
      refine takesS_step hs [i] _ _ ts listed l2 a w hl2 (fun a' w' _ h' => ?_) hS h
      obtain ⟨o, ho⟩ := has_op' hb.1
      rw [Nat.add_comm 1]
      refine forceS_step hb.1 (wpOp_mono (fun a2 w2 h2 => ?_) (wpOp_strict (wpList_one ho h')))
      have h3 := h2.2
      exact ⟨fun _ => h3.1, plan_step hs p _ a2 w2 hb.2 h3.1 h3.2⟩
    · cases hb
  | .yield ts i p, listed, a, w, hb, hS, h => by
    unfold Plan.ok at hb
    split at hb
    · rename_i l2 hl2
      simp only [Bool.and_eq_true] at hb
      refine takesS_step hs [] _ _ ts listed l2 a w hl2 (fun a' w' hS' h' => ?_) hS h
      obtain ⟨-, o, v, ho, hy, hn⟩ := h'
      have hc := hb.1
      unfold yieldW at hc
      rw [ho] at hc
      simp only [Bool.and_eq_true, Bool.not_eq_true'] at hc
      rw [Nat.add_comm 1]
      exact takeS_gen hs ho hc.1.1.1 hc.1.1.2 hc.1.2 hc.2 hy hS' (plan_step hs p _ _ w' hb.2 hS' hn)
    · cases hb
  | .fork i j p q, listed, a, w, hb, hS, h => by
    simp only [Plan.ok, Bool.and_eq_true, beq_iff_eq] at hb
    obtain ⟨⟨⟨⟨⟨hr, hi⟩, hj⟩, hl⟩, hp⟩, hq⟩ := hb
    refine ⟨fun h0 => (by rw [h0] at hr; cases hr), fun x hx => ?_⟩
    rw [hr] at hx
    have hx2 : x = i ∨ x = j := by simpa using hx
    rcases hx2 with rfl | rfl
    · obtain ⟨o, ho⟩ := Option.isSome_iff_exists.1 hi
      refine wpOp_mono (fun a' w' h' => ?_) (wpOp_strict (wpList_one ho h.1))
      exact ⟨fun _ => h'.2.1, plan_step hs p _ a' w' hp h'.2.1 h'.2.2⟩
    · obtain ⟨o, ho⟩ := Option.isSome_iff_exists.1 hj
      refine wpOp_mono (fun a' w' h' => ?_) (wpOp_strict (wpList_one ho h.2))
      have := plan_step hs q _ a' w' hq h'.2.1 h'.2.2
      rw [← hl] at this
      exact ⟨fun _ => h'.2.1, this⟩
/-- THE LAW. -/
theorem wp_region_plan {id : Nat} {a : Act} {w : World} (S : World → Prop) (p : Plan) (hm : P.follows .mixedOrders = true) (hB : p.whole ops = true)
    (hS : S w.drew) (h : wpPlan P ops Q S p a w.drew) : (Code.region id ops true).wp P Q a w := by
  unfold Plan.whole at hB
  simp only [Bool.and_eq_true, beq_iff_eq] at hB
  refine Code.wp_mono Strict.imp (wp_region_any hm ?_)
  rw [← hB.1.1]
  exact wpAny_of_W _ _ _ _ (plan_step hB.1.2 p _ a _ (by rw [hB.1.1]; exact hB.2) hS h)
theorem plan_force {ts : List Nat} {i : Nat} {p : Plan} {a : Act} {w : World}
    (h : wpList P ops (Strict fun _ a' w' => S w' ∧ wpPlan P ops Q S p a' w') ((ts ++ [i]).filterMap fun i => ops[i]?) a w) : wpPlan P ops Q S (.force ts i p) a w := h
theorem plan_yield {ts : List Nat} {i : Nat} {p : Plan} {a : Act} {w : World}
    (h : wpList P ops (Strict fun _ a' w' => ∃ o v, ops[i]? = some o ∧ YieldsIf P ops S o v a' ∧ wpPlan P ops Q S p (a'.put o.dst v) w') ((ts ++ []).filterMap fun i => ops[i]?) a w) : wpPlan P ops Q S (.yield ts i p) a w := h
theorem plan_fork {i j : Nat} {p q : Plan} {a : Act} {w : World} (h1 : wpList P ops (Strict fun _ a' w' => S w' ∧ wpPlan P ops Q S p a' w') ([i].filterMap fun i => ops[i]?) a w)
    (h2 : wpList P ops (Strict fun _ a' w' => S w' ∧ wpPlan P ops Q S q a' w') ([j].filterMap fun i => ops[i]?) a w) : wpPlan P ops Q S (.fork i j p q) a w := ⟨h1, h2⟩
theorem plan_fin {takes : List Nat} {a : Act} {w : World} (h : wpList P ops (Strict Q) (takes.filterMap fun i => ops[i]?) a w) : wpPlan P ops Q S (.fin takes) a w := h
end
end Go.Proofs.Ytalnfphlhcojcaa
