/- The map of leaves: the contract of FromLeaves. -/
import Derived.Test.YtkpcgijdokhjkaaDoorHBlkCut
import Derived.Test.YtkpcgijdokhjkaaDoorHDigBytes
import Derived.Deep.RegionLaw
import Derived.Laws.CopyOwn
import Derived.Handy
import Derived.Test.YtkpcgijdokhjkaaDoorHBiSeek
import Derived.Test.YtkpcgijdokhjkaaDoorHSegsP

namespace Go.Proofs.YtkpcgijdokhjkaaDoor
open Go.RowKit
set_option linter.unusedSimpArgs false
set_option linter.unusedVariables false

theorem va_mem_one (n : Nat) (f : Nat → Nat) : ∀ v ∈ (va n (iv .u8 f)).toList, v.oneCell' = true := fun v hv => by
  rw [va_toList] at hv
  obtain ⟨i, _, rfl⟩ := List.mem_map.1 hv
  rfl
theorem ksize4 : (Tryd.prog.info? 118).map (·.size) = some 4 := by kernel_rfl
theorem ksize8 : (Tryd.prog.info? 121).map (·.size) = some 8 := by kernel_rfl
set_option maxRecDepth 100000 in
set_option maxHeartbeats 4000000 in
theorem lay32_by (f : Nat → Nat) (a : Int) (x : Nat) (F : Nat → Nat) (y : Int)
    (hL0 : ∀ w : World, Calls Tryd.prog 83 #[bkV f, .int .i64 a, .string (strN (dig x) 4)] w fun e w' => e = .returned (.tuple #[bkV F, .int .i64 y]) ∧ Below w.heap.size w w') (w : World) :
    Calls Tryd.prog 80 #[bkV f, .int .i64 a, .int .u32 (x : Int)] w fun e w' => e = .returned (.tuple #[bkV F, .int .i64 y]) ∧ Below w.heap.size w w' := by
  have hL : Hid (∀ w : World, Calls Tryd.prog 83 #[bkV f, .int .i64 a, .string (strN (dig x) 4)] w fun e w' => e = .returned (.tuple #[bkV F, .int .i64 y]) ∧ Below w.heap.size w w') := hL0
  have hB : Hid (∀ w : World, Calls Tryd.prog 84 #[.int .u32 (x : Int)] w fun e w' => e = .returned (.agg (va 4 (iv .u8 (dig x)))) ∧ Below w.heap.size w w') := fun w => bytes32_va x w
  clear hL0
  unfold bkV at *
  have hz := zero_bk
  have b0 : Blk ((w.alloc (Obj.cells (va 256 (iv IntKind.u8 f)) 93)).alloc (Obj.cells (va 256 (iv IntKind.u8 fun x => 0)) 93)) w.heap.size 93 (va 256 (iv .u8 f)) := (Blk.new _ _ _).alloc _
  have b1 := Blk.new1 w (Obj.cells (va 256 (iv IntKind.u8 f)) 93) 93 (va 256 (iv IntKind.u8 fun x => 0))
  have hb := below_new2 w (Obj.cells (va 256 (iv IntKind.u8 f)) 93) (Obj.cells (va 256 (iv IntKind.u8 fun x => 0)) 93)
  go_enter Tryd.func80, Tryd.ntmps80
  go_wp2_with fail
  generalize (w.alloc (Obj.cells (va 256 (iv IntKind.u8 f)) 93)).alloc (Obj.cells (va 256 (iv IntKind.u8 fun x => 0)) 93) = W at *
  refine (hB.out _).mono ?_
  rintro e w1 ⟨rfl, hb1⟩
  have l1 : w.heap.size + 1 < w1.heap.size := Nat.lt_of_lt_of_le b1.lt hb1.size
  have n0 : Blk (w1.alloc (.cells #[.int .u8 0, .int .u8 0, .int .u8 0, .int .u8 0] 118)) w1.heap.size 118 (va 4 (iv .u8 fun _ => 0)) := Blk.new _ _ _
  have c0 := ((b0.below hb1 b0.lt).alloc (.cells #[.int .u8 0, .int .u8 0, .int .u8 0, .int .u8 0] 118)).other (g := w1.heap.size) (va 4 (iv .u8 (dig x))) (by omega)
  have c1 := ((b1.below hb1 b1.lt).alloc (.cells #[.int .u8 0, .int .u8 0, .int .u8 0, .int .u8 0] 118)).other (g := w1.heap.size) (va 4 (iv .u8 (dig x))) (by omega)
  have n1 := n0.set (va 4 (iv .u8 (dig x)))
  have hb2 : Below w.heap.size w ((w1.alloc (.cells #[.int .u8 0, .int .u8 0, .int .u8 0, .int .u8 0] 118)).setRow w1.heap.size (va 4 (iv .u8 (dig x)))) := below_setRow ((hb.trans (hb1.mono hb.size)).alloc (by omega) _) (by omega) _
  clear b0 b1 hb hb1 hB hz
  go_wp2_with (first
    | (refine wpList_store_row (by rfl) 118 _ _ (by rfl) (w1.heap.size) (va 4 (iv .u8 (dig x))) (by rfl) (by rfl) 118 _ n0 (ksize4.trans (by rw [va_size])) (by simp only [va_size]) (iv_one _ _ _) ?_; simp only [Act.put, List.setIfInBounds_toArray, List.set_cons_zero, List.set_cons_succ])
    | fail)
  clear n0
  generalize (w1.alloc (.cells #[.int .u8 0, .int .u8 0, .int .u8 0, .int .u8 0] 118)).setRow w1.heap.size (va 4 (iv .u8 (dig x))) = w2 at *
  have hc := run_bytes_text (P := Tryd.prog) w2.drew 120 5 9 Tryd.underlying120 Tryd.underlying5 Tryd.underlying9 (n1.drew) 0 4 4 (by omega)
  rw [strN_congr (f := fun j => dig x (0 + j)) (g := dig x) fun j _ => by rw [Nat.zero_add]] at hc
  generalize strN (dig x) 4 = S at *
  refine wp_region_partsI [] [([1], 0, true), ([], 2, false), ([], 3, false), ([], 4, false), ([5, 6], 7, false)] [8] [] (w.heap.size + 1) (by kernel_rfl) (by kernel_rfl) (fun _ hx => nomatch hx) (partsI_yield ?_)
  simp only [List.cons_append, List.nil_append, List.append_nil, List.filterMap_cons, List.filterMap_nil, List.getElem?_toArray, List.getElem?_cons_zero, List.getElem?_cons_succ]
  have hS : Below (w.heap.size + 1) w2 w2.drew := (Below.refl _ _).drew
  go_wp2_with fail
  refine ⟨rfl, _, .agg (va 256 (iv .u8 f)), rfl, kyields_load (by rfl) 93 _ (by rfl) (w.heap.size) 256 (iv .u8 f) (by rfl) _ 93 (fun W hW => c0.below hW (Nat.lt_succ_self _)) Tryd.underlying93 rfl sizeBk, partsI_force ?_⟩
  simp only [Act.put, List.setIfInBounds_toArray, List.set_cons_zero, List.set_cons_succ]
  simp only [List.cons_append, List.nil_append, List.append_nil, List.filterMap_cons, List.filterMap_nil, List.getElem?_toArray, List.getElem?_cons_zero, List.getElem?_cons_succ]
  go_wp2_with fail
  refine ⟨rfl, hS, partsI_force ?_⟩
  simp only [List.cons_append, List.nil_append, List.append_nil, List.filterMap_cons, List.filterMap_nil, List.getElem?_toArray, List.getElem?_cons_zero, List.getElem?_cons_succ]
  go_wp2_with fail
  refine ⟨rfl, hS, partsI_force ?_⟩
  simp only [List.cons_append, List.nil_append, List.append_nil, List.filterMap_cons, List.filterMap_nil, List.getElem?_toArray, List.getElem?_cons_zero, List.getElem?_cons_succ]
  go_wp2_with fail
  refine (hL.out _).mono ?_
  rintro e w3 ⟨rfl, hb3⟩
  have hS3 : Below (w.heap.size + 1) w2 w3 := hS.trans (hb3.mono (Nat.le_of_lt c1.lt))
  have c3 := c1.drew.below hb3 c1.lt
  clear hS hb3 hL
  have hS := hS3
  clear hS3
  have hb4 : Below w.heap.size w w3 := hb2.trans (hS.mono (Nat.le_succ _))
  go_wp2_with fail
  refine ⟨rfl, hS, partsI_force ?_⟩
  simp only [List.cons_append, List.nil_append, List.append_nil, List.filterMap_cons, List.filterMap_nil, List.getElem?_toArray, List.getElem?_cons_zero, List.getElem?_cons_succ]
  have hst := Blk.store (P := Tryd.prog) c3 (va 256 (iv .u8 F)) (by simp only [va_size]) (va_mem_one _ _)
  have hvs := va_size 256 (iv .u8 F)
  go_wp2_with fail
  have hS4 := below_setRow hS (Nat.le_refl (w.heap.size + 1)) (va 256 (iv .u8 F))
  clear hS
  have hS := hS4
  clear hS4
  refine ⟨rfl, hS, partsI_last ?_⟩
  simp only [List.cons_append, List.nil_append, List.append_nil, List.filterMap_cons, List.filterMap_nil, List.getElem?_toArray, List.getElem?_cons_zero, List.getElem?_cons_succ]
  go_wp2_with fail
  refine ⟨rfl, ?_⟩
  go_wp2_with fail
  try simp only [Exit.inBlock, Exit.then]
  refine bodyPost_ret (results_row2 Tryd.results80 _ _ (w.heap.size + 1) 93 (va 256 (iv .u8 F)) (0, 0) _ rfl (c3.set _) Tryd.underlying93 rfl (sizeBk.trans (by rw [va_size]))) rfl ?_
  exact ⟨rfl, below_setRow hb4 (Nat.le_succ _) _⟩

set_option maxRecDepth 100000 in
set_option maxHeartbeats 4000000 in
theorem lay64_by (f : Nat → Nat) (a : Int) (x : Nat) (F : Nat → Nat) (y : Int)
    (hL0 : ∀ w : World, Calls Tryd.prog 83 #[bkV f, .int .i64 a, .string (strN (dig x) 8)] w fun e w' => e = .returned (.tuple #[bkV F, .int .i64 y]) ∧ Below w.heap.size w w') (w : World) :
    Calls Tryd.prog 81 #[bkV f, .int .i64 a, .int .u64 (x : Int)] w fun e w' => e = .returned (.tuple #[bkV F, .int .i64 y]) ∧ Below w.heap.size w w' := by
  have hL : Hid (∀ w : World, Calls Tryd.prog 83 #[bkV f, .int .i64 a, .string (strN (dig x) 8)] w fun e w' => e = .returned (.tuple #[bkV F, .int .i64 y]) ∧ Below w.heap.size w w') := hL0
  have hB : Hid (∀ w : World, Calls Tryd.prog 85 #[.int .u64 (x : Int)] w fun e w' => e = .returned (.agg (va 8 (iv .u8 (dig x)))) ∧ Below w.heap.size w w') := fun w => bytes64_va x w
  clear hL0
  unfold bkV at *
  have hz := zero_bk
  have b0 : Blk ((w.alloc (Obj.cells (va 256 (iv IntKind.u8 f)) 93)).alloc (Obj.cells (va 256 (iv IntKind.u8 fun x => 0)) 93)) w.heap.size 93 (va 256 (iv .u8 f)) := (Blk.new _ _ _).alloc _
  have b1 := Blk.new1 w (Obj.cells (va 256 (iv IntKind.u8 f)) 93) 93 (va 256 (iv IntKind.u8 fun x => 0))
  have hb := below_new2 w (Obj.cells (va 256 (iv IntKind.u8 f)) 93) (Obj.cells (va 256 (iv IntKind.u8 fun x => 0)) 93)
  go_enter Tryd.func81, Tryd.ntmps81
  go_wp2_with fail
  generalize (w.alloc (Obj.cells (va 256 (iv IntKind.u8 f)) 93)).alloc (Obj.cells (va 256 (iv IntKind.u8 fun x => 0)) 93) = W at *
  refine (hB.out _).mono ?_
  rintro e w1 ⟨rfl, hb1⟩
  have l1 : w.heap.size + 1 < w1.heap.size := Nat.lt_of_lt_of_le b1.lt hb1.size
  have n0 : Blk (w1.alloc (.cells #[.int .u8 0, .int .u8 0, .int .u8 0, .int .u8 0, .int .u8 0, .int .u8 0, .int .u8 0, .int .u8 0] 121)) w1.heap.size 121 (va 8 (iv .u8 fun _ => 0)) := Blk.new _ _ _
  have c0 := ((b0.below hb1 b0.lt).alloc (.cells #[.int .u8 0, .int .u8 0, .int .u8 0, .int .u8 0, .int .u8 0, .int .u8 0, .int .u8 0, .int .u8 0] 121)).other (g := w1.heap.size) (va 8 (iv .u8 (dig x))) (by omega)
  have c1 := ((b1.below hb1 b1.lt).alloc (.cells #[.int .u8 0, .int .u8 0, .int .u8 0, .int .u8 0, .int .u8 0, .int .u8 0, .int .u8 0, .int .u8 0] 121)).other (g := w1.heap.size) (va 8 (iv .u8 (dig x))) (by omega)
  have n1 := n0.set (va 8 (iv .u8 (dig x)))
  have hb2 : Below w.heap.size w ((w1.alloc (.cells #[.int .u8 0, .int .u8 0, .int .u8 0, .int .u8 0, .int .u8 0, .int .u8 0, .int .u8 0, .int .u8 0] 121)).setRow w1.heap.size (va 8 (iv .u8 (dig x)))) := below_setRow ((hb.trans (hb1.mono hb.size)).alloc (by omega) _) (by omega) _
  clear b0 b1 hb hb1 hB hz
  go_wp2_with (first
    | (refine wpList_store_row (by rfl) 121 _ _ (by rfl) (w1.heap.size) (va 8 (iv .u8 (dig x))) (by rfl) (by rfl) 121 _ n0 (ksize8.trans (by rw [va_size])) (by simp only [va_size]) (iv_one _ _ _) ?_; simp only [Act.put, List.setIfInBounds_toArray, List.set_cons_zero, List.set_cons_succ])
    | fail)
  clear n0
  generalize (w1.alloc (.cells #[.int .u8 0, .int .u8 0, .int .u8 0, .int .u8 0, .int .u8 0, .int .u8 0, .int .u8 0, .int .u8 0] 121)).setRow w1.heap.size (va 8 (iv .u8 (dig x))) = w2 at *
  have hc := run_bytes_text (P := Tryd.prog) w2.drew 120 5 9 Tryd.underlying120 Tryd.underlying5 Tryd.underlying9 (n1.drew) 0 8 8 (by omega)
  rw [strN_congr (f := fun j => dig x (0 + j)) (g := dig x) fun j _ => by rw [Nat.zero_add]] at hc
  generalize strN (dig x) 8 = S at *
  refine wp_region_partsI [] [([1], 0, true), ([], 2, false), ([], 3, false), ([], 4, false), ([5, 6], 7, false)] [8] [] (w.heap.size + 1) (by kernel_rfl) (by kernel_rfl) (fun _ hx => nomatch hx) (partsI_yield ?_)
  simp only [List.cons_append, List.nil_append, List.append_nil, List.filterMap_cons, List.filterMap_nil, List.getElem?_toArray, List.getElem?_cons_zero, List.getElem?_cons_succ]
  have hS : Below (w.heap.size + 1) w2 w2.drew := (Below.refl _ _).drew
  go_wp2_with fail
  refine ⟨rfl, _, .agg (va 256 (iv .u8 f)), rfl, kyields_load (by rfl) 93 _ (by rfl) (w.heap.size) 256 (iv .u8 f) (by rfl) _ 93 (fun W hW => c0.below hW (Nat.lt_succ_self _)) Tryd.underlying93 rfl sizeBk, partsI_force ?_⟩
  simp only [Act.put, List.setIfInBounds_toArray, List.set_cons_zero, List.set_cons_succ]
  simp only [List.cons_append, List.nil_append, List.append_nil, List.filterMap_cons, List.filterMap_nil, List.getElem?_toArray, List.getElem?_cons_zero, List.getElem?_cons_succ]
  go_wp2_with fail
  refine ⟨rfl, hS, partsI_force ?_⟩
  simp only [List.cons_append, List.nil_append, List.append_nil, List.filterMap_cons, List.filterMap_nil, List.getElem?_toArray, List.getElem?_cons_zero, List.getElem?_cons_succ]
  go_wp2_with fail
  refine ⟨rfl, hS, partsI_force ?_⟩
  simp only [List.cons_append, List.nil_append, List.append_nil, List.filterMap_cons, List.filterMap_nil, List.getElem?_toArray, List.getElem?_cons_zero, List.getElem?_cons_succ]
  go_wp2_with fail
  refine (hL.out _).mono ?_
  rintro e w3 ⟨rfl, hb3⟩
  have hS3 : Below (w.heap.size + 1) w2 w3 := hS.trans (hb3.mono (Nat.le_of_lt c1.lt))
  have c3 := c1.drew.below hb3 c1.lt
  clear hS hb3 hL
  have hS := hS3
  clear hS3
  have hb4 : Below w.heap.size w w3 := hb2.trans (hS.mono (Nat.le_succ _))
  go_wp2_with fail
  refine ⟨rfl, hS, partsI_force ?_⟩
  simp only [List.cons_append, List.nil_append, List.append_nil, List.filterMap_cons, List.filterMap_nil, List.getElem?_toArray, List.getElem?_cons_zero, List.getElem?_cons_succ]
  have hst := Blk.store (P := Tryd.prog) c3 (va 256 (iv .u8 F)) (by simp only [va_size]) (va_mem_one _ _)
  have hvs := va_size 256 (iv .u8 F)
  go_wp2_with fail
  have hS4 := below_setRow hS (Nat.le_refl (w.heap.size + 1)) (va 256 (iv .u8 F))
  clear hS
  have hS := hS4
  clear hS4
  refine ⟨rfl, hS, partsI_last ?_⟩
  simp only [List.cons_append, List.nil_append, List.append_nil, List.filterMap_cons, List.filterMap_nil, List.getElem?_toArray, List.getElem?_cons_zero, List.getElem?_cons_succ]
  go_wp2_with fail
  refine ⟨rfl, ?_⟩
  go_wp2_with fail
  try simp only [Exit.inBlock, Exit.then]
  refine bodyPost_ret (results_row2 Tryd.results81 _ _ (w.heap.size + 1) 93 (va 256 (iv .u8 F)) (0, 0) _ rfl (c3.set _) Tryd.underlying93 rfl (sizeBk.trans (by rw [va_size]))) rfl ?_
  exact ⟨rfl, below_setRow hb4 (Nat.le_succ _) _⟩

end Go.Proofs.YtkpcgijdokhjkaaDoor

namespace Go.Proofs.YtkpcgijdokhjkaaDoor
open Go Go.RowKit
set_option linter.unusedVariables false
set_option linter.unusedSimpArgs false
def bitsT : ByteArray := { data := #[98, 105, 116, 115] }
/-- a leaf's bytes when so many of its words are laid -/
def lfF (W : Nat → Nat) (k : Nat) : Nat → Nat → Nat
  | 0 => putAt (tbyte bitsT) 4 4 (tbyte (strN (dig k) 4))
  | i + 1 => putAt (lfF W k i) (128 + 8 * i) 8 (tbyte (strN (dig (W (16 * k + i))) 8))
section
variable {w : World} {B g n b c : Nat} {W : Nat → Nat}
theorem BM.cap (h : BM w B g n b c W) : 16 * lvN n ≤ c := by
  rcases h.row.2 with ⟨hn, _⟩ | ⟨g', cap', cur, hv, hb, hg, hc, _⟩
  · cases hn
  · injection hv with hv1 hv2 hv3
    omega
theorem lay32_leaf (k : Nat) (w : World) : Calls Tryd.prog 80 #[bkV (tbyte bitsT), .int .i64 4, .int .u32 (k : Int)] w fun e w' => e = .returned (.tuple #[bkV (lfF W k 0), .int .i64 0]) ∧ Below w.heap.size w w' :=
  lay32_by (tbyte bitsT) 4 k (lfF W k 0) 0 (fun w => by
    have := lay_fit (tbyte bitsT) 4 (strN (dig k) 4) (by rw [strN_size]; omega) w
    rwa [strN_size] at this) w
theorem lay64_leaf (k i : Nat) (hi : i < 16) (w : World) : Calls Tryd.prog 81 #[bkV (lfF W k i), .int .i64 ((128 + 8 * i : Nat) : Int), .int .u64 ((W (16 * k + i) : Nat) : Int)] w fun e w' => e = .returned (.tuple #[bkV (lfF W k (i + 1)), .int .i64 0]) ∧ Below w.heap.size w w' :=
  lay64_by (lfF W k i) ((128 + 8 * i : Nat) : Int) (W (16 * k + i)) (lfF W k (i + 1)) 0 (fun w => by
    have := lay_fit (lfF W k i) (128 + 8 * i) (strN (dig (W (16 * k + i))) 8) (by rw [strN_size]; omega) w
    rwa [strN_size] at this) w
set_option maxRecDepth 100000 in
set_option maxHeartbeats 4000000 in
theorem leaf_any (w : World) (h : BM w B g n b c W) (k : Nat) (hk : k < lvN n) : Calls Tryd.prog 72 #[.pointer (some ⟨g, 0, none⟩), .int .i64 (k : Int)] w fun e w' => e = .returned (bkV (lfF W k 16)) ∧ Below w.heap.size w w' := by
  have hz := zero_bk
  have hl8 := lvN_le h.n2
  have hcap : 16 * lvN n ≤ c := h.cap
  have hcv : ((k : Int) % 4294967296) = (k : Int) := by omega
  have hmk : wrap64 ((k : Int) * 16) = ((16 * k : Nat) : Int) := by unfold wrap64; omega
  have HO : Hid (∀ w : World, Calls Tryd.prog 79 #[.string { data := #[98, 105, 116, 115] }] w fun e w' => e = .returned (.tuple #[bkV (tbyte bitsT), .int .i64 0]) ∧ Below w.heap.size w w') := fun w => blockOf_fit bitsT (by decide) w
  have HL : Hid (∀ w : World, Calls Tryd.prog 80 #[bkV (tbyte bitsT), .int .i64 4, .int .u32 (k : Int)] w fun e w' => e = .returned (.tuple #[bkV (lfF W k 0), .int .i64 0]) ∧ Below w.heap.size w w') := fun w => lay32_leaf k w
  have HM : Hid (∀ V, Below w.heap.size w V → BM V B g n b c W) := fun V hV => h.below hV
  have a0 : Blk (w.alloc (.cells (va 256 (iv .u8 fun _ => 0)) 93)) w.heap.size 93 (va 256 (iv .u8 fun _ => 0)) := Blk.new _ _ _
  have hb0 : Below w.heap.size w (w.alloc (.cells (va 256 (iv .u8 fun _ => 0)) 93)) := below_new1 _ _
  clear h
  unfold bkV at *
  go_enter Tryd.func72, Tryd.ntmps72
  go_wp2_with fail
  generalize w.alloc (.cells (va 256 (iv .u8 fun _ => 0)) 93) = w1 at *
  refine (HO.out _).mono ?_
  rintro e w2 ⟨rfl, hb2⟩
  have a2 := a0.below hb2 a0.lt
  have hbw2 : Below w.heap.size w w2 := hb0.trans (hb2.mono hb0.size)
  have l2 : w.heap.size < w2.heap.size := a2.lt
  have n0 : Blk (w2.alloc (.cells (va 256 (iv .u8 fun _ => 0)) 93)) w2.heap.size 93 (va 256 (iv .u8 fun _ => 0)) := Blk.new _ _ _
  have a3 := (a2.alloc (.cells (va 256 (iv .u8 fun _ => 0)) 93)).other (g := w2.heap.size) (va 256 (iv .u8 (tbyte bitsT))) (by omega)
  have n1 := n0.set (va 256 (iv .u8 (tbyte bitsT)))
  have hbw3 : Below w.heap.size w ((w2.alloc (.cells (va 256 (iv .u8 fun _ => 0)) 93)).setRow w2.heap.size (va 256 (iv .u8 (tbyte bitsT)))) := below_setRow (hbw2.alloc (by omega) _) (by omega) _
  clear a0 hb0 hb2 HO
  go_wp2_with (first
    | (refine wpList_store_row (by rfl) 93 _ _ (by rfl) (w2.heap.size) (va 256 (iv .u8 (tbyte bitsT))) (by rfl) (by rfl) 93 _ n0 (sizeBk.trans (by rw [va_size])) (by simp only [va_size]) (iv_one _ _ _) ?_; simp only [Act.put, List.setIfInBounds_toArray, List.set_cons_zero, List.set_cons_succ])
    | (refine wpList_load_row (by rfl) 93 _ (by rfl) (w2.heap.size) (by rfl) 93 (va 256 (iv .u8 (tbyte bitsT))) (0, 0) _ n1 Tryd.underlying93 (by rfl) (sizeBk.trans (by rw [va_size])) ?_; simp only [Act.put, List.setIfInBounds_toArray, List.set_cons_zero, List.set_cons_succ])
    | fail)
  clear n0
  have HMs : Hid (BM ((w2.alloc (.cells (va 256 (iv .u8 fun _ => 0)) 93)).setRow w2.heap.size (va 256 (iv .u8 (tbyte bitsT)))) B g n b c W) := HM.out _ hbw3
  generalize (w2.alloc (.cells (va 256 (iv .u8 fun _ => 0)) 93)).setRow w2.heap.size (va 256 (iv .u8 (tbyte bitsT))) = w3 at *
  refine (HL.out _).mono ?_
  rintro e w4 ⟨rfl, hb4⟩
  have a4 := a3.below hb4 a3.lt
  have n4 := n1.below hb4 n1.lt
  have hbw4 : Below w.heap.size w w4 := hbw3.trans (hb4.mono hbw3.size)
  have a5 := a4.other (g := w2.heap.size) (va 256 (iv .u8 (lfF W k 0))) (by omega)
  have n5 := n4.set (va 256 (iv .u8 (lfF W k 0)))
  have hbw5 : Below w.heap.size w (w4.setRow w2.heap.size (va 256 (iv .u8 (lfF W k 0)))) := below_setRow hbw4 (by omega) _
  have c1 := (HM.out _ hbw5).c1
  have hk1 : 16 * k + 16 ≤ 16 * lvN n := by omega
  clear a3 n1 HL HMs hb4 hbw3 hbw2 a2 a4 hbw4
  go_wp2_with (first
    | (refine wpList_store_row (by rfl) 93 _ _ (by rfl) (w2.heap.size) (va 256 (iv .u8 (lfF W k 0))) (by rfl) (by rfl) 93 _ n4 (sizeBk.trans (by rw [va_size])) (by simp only [va_size]) (iv_one _ _ _) ?_; simp only [Act.put, List.setIfInBounds_toArray, List.set_cons_zero, List.set_cons_succ])
    | fail)
  have HX : Hid (Blk (w4.setRow w2.heap.size (va 256 (iv .u8 (lfF W k 0)))) w.heap.size 93 (va 256 (iv .u8 fun _ => 0)) ∧ Blk (w4.setRow w2.heap.size (va 256 (iv .u8 (lfF W k 0)))) w2.heap.size 93 (va 256 (iv .u8 (lfF W k 0))) ∧ Below w.heap.size w (w4.setRow w2.heap.size (va 256 (iv .u8 (lfF W k 0))))) := ⟨a5, n5, hbw5⟩
  clear a5 n5 hbw5 n4
  generalize w4.setRow w2.heap.size (va 256 (iv .u8 (lfF W k 0))) = w5 at *
  go_loopw [29] (fun t wr => Hid (∃ i : Nat, i ≤ 16 ∧ t = .int .i64 (i : Int) ∧ Blk wr w.heap.size 93 (va 256 (iv .u8 fun _ => 0)) ∧ Blk wr w2.heap.size 93 (va 256 (iv .u8 (lfF W k i))) ∧ Below w.heap.size w wr)) (fun t _ => 16 - (intOf t).toNat)
  case atStart => exact ⟨0, by omega, rfl, HX.out.1, HX.out.2.1, HX.out.2.2⟩
  case round =>
    clear HX c1
    obtain ⟨i, hi, rfl, ba, bn, hb⟩ := Hid.out hrel
    by_cases hlt : i < 16
    · have j0 : (0 : Int) ≤ (i : Int) := by omega
      have j1 : (i : Int) < 16 := by omega
      have cw : wr.cell? ⟨b, k * 16 + i, none⟩ = some (.int .u64 ((W (16 * k + i) : Nat) : Int)) := by
        rw [Nat.mul_comm k 16]
        exact (HM.out _ hb).word (i := 16 * k + i) (by omega)
      have HL : Hid (∀ w : World, Calls Tryd.prog 81 #[.agg (va 256 (iv .u8 (lfF W k i))), .int .i64 (128 + (i : Int) * 8), .int .u64 ((W (16 * k + i) : Nat) : Int)] w fun e w' => e = .returned (.tuple #[.agg (va 256 (iv .u8 (lfF W k (i + 1)))), .int .i64 0]) ∧ Below w.heap.size w w') := fun w => by
        have := lay64_leaf (W := W) k i hlt w
        rw [show ((128 + 8 * i : Nat) : Int) = 128 + (i : Int) * 8 by omega] at this
        exact this
      have HJ : Hid (i < 16) := hlt
      clear hrel
      go_wp2_with (first
        | (refine wpList_load_row (by rfl) 93 _ (by rfl) (w2.heap.size) (by rfl) 93 (va 256 (iv .u8 (lfF W k i))) (0, 0) _ bn Tryd.underlying93 (by rfl) (sizeBk.trans (by rw [va_size])) ?_; simp only [Act.put, List.setIfInBounds_toArray, List.set_cons_zero, List.set_cons_succ])
        | fail)
      refine (HL.out _).mono ?_
      rintro e w6 ⟨rfl, hb6⟩
      have ba6 := ba.below hb6 ba.lt
      have bn6 := bn.below hb6 bn.lt
      have hbw6 : Below w.heap.size w w6 := hb.trans (hb6.mono hb.size)
      have HY : Hid (Blk (w6.setRow w2.heap.size (va 256 (iv .u8 (lfF W k (i + 1))))) w.heap.size 93 (va 256 (iv .u8 fun _ => 0)) ∧ Blk (w6.setRow w2.heap.size (va 256 (iv .u8 (lfF W k (i + 1))))) w2.heap.size 93 (va 256 (iv .u8 (lfF W k (i + 1)))) ∧ Below w.heap.size w (w6.setRow w2.heap.size (va 256 (iv .u8 (lfF W k (i + 1)))))) := ⟨ba6.other (g := w2.heap.size) _ (by omega), bn6.set _, below_setRow hbw6 (by omega) _⟩
      clear ba bn hb hb6 ba6 hbw6 HL cw HM
      go_wp2_with (first
        | (refine wpList_store_row (by rfl) 93 _ _ (by rfl) (w2.heap.size) (va 256 (iv .u8 (lfF W k (i + 1)))) (by rfl) (by rfl) 93 _ bn6 (sizeBk.trans (by rw [va_size])) (by simp only [va_size]) (iv_one _ _ _) ?_; simp only [Act.put, List.setIfInBounds_toArray, List.set_cons_zero, List.set_cons_succ])
        | fail)
      clear bn6
      generalize w6.setRow w2.heap.size (va 256 (iv .u8 (lfF W k (i + 1)))) = w7 at *
      go_roundw
      case rel => exact ⟨i + 1, HJ.out, by first | rfl | go_num | simp, HY.out.1, HY.out.2.1, HY.out.2.2⟩
      case measure => simp [intOf]; have := HJ.out; omega
    · obtain rfl : i = 16 := by omega
      have hst : Below w.heap.size w (wr.setRow w.heap.size (va 256 (iv .u8 (lfF W k 16)))) := below_setRow hb (Nat.le_refl _) _
      have ba2 := ba.set (va 256 (iv .u8 (lfF W k 16)))
      clear hrel HM hb
      go_wp2_with (first
        | (refine wpList_load_row (by rfl) 93 _ (by rfl) (w2.heap.size) (by rfl) 93 (va 256 (iv .u8 (lfF W k 16))) (0, 0) _ bn Tryd.underlying93 (by rfl) (sizeBk.trans (by rw [va_size])) ?_; simp only [Act.put, List.setIfInBounds_toArray, List.set_cons_zero, List.set_cons_succ])
        | (refine wpList_store_row (by rfl) 93 _ _ (by rfl) (w.heap.size) (va 256 (iv .u8 (lfF W k 16))) (by rfl) (by rfl) 93 _ ba (sizeBk.trans (by rw [va_size])) (by simp only [va_size]) (iv_one _ _ _) ?_; simp only [Act.put, List.setIfInBounds_toArray, List.set_cons_zero, List.set_cons_succ])
        | fail)
      try simp only [Exit.inBlock, Exit.then]
      refine bodyPost_ret (results_cell_row Tryd.results72 _ _ (w.heap.size) 93 (va 256 (iv .u8 (lfF W k 16))) (0, 0) _ rfl ba2 Tryd.underlying93 rfl (sizeBk.trans (by rw [va_size]))) rfl ?_
      exact ⟨rfl, hst⟩
end
end Go.Proofs.YtkpcgijdokhjkaaDoor

namespace Go.Proofs.YtkpcgijdokhjkaaDoor
open Go Go.RowKit
set_option linter.unusedVariables false
set_option linter.unusedSimpArgs false
/-- all bytes of all leaves -/
def lvsF (W : Nat → Nat) (x : Nat) : Nat := lfF W (x / 256) 16 (x % 256)
theorem lvs_cells (W : Nat → Nat) (k : Nat) : byL (lvsF W) ((k + 1) * 256) = byL (lvsF W) (k * 256) ++ (va 256 (iv .u8 (lfF W k 16))).toList := by
  rw [Nat.succ_mul, byL_add, va_toList]
  refine congrArg (fun l => byL (lvsF W) (k * 256) ++ l) ?_
  unfold byL
  refine List.map_congr_left fun j hj => ?_
  have hj' := List.mem_range.1 hj
  unfold iv lvsF
  show Value.int IntKind.u8 ((lfF W ((k * 256 + j) / 256) 16 ((k * 256 + j) % 256) : Nat) : Int) = _
  rw [show (k * 256 + j) / 256 = k by omega, show (k * 256 + j) % 256 = j by omega]
section
variable {w : World} {B g n b c : Nat} {W : Nat → Nat}
set_option maxRecDepth 100000 in
set_option maxHeartbeats 4000000 in
theorem leavesM_any (w : World) (h : BM w B g n b c W) : Calls Tryd.prog 47 #[.pointer (some ⟨g, 0, none⟩)] w fun e w' => ∃ v, e = .returned v ∧ w'.ownsRow w.heap.size 93 256 v (lvN n) (byL (lvsF W) (lvN n * 256)) ∧ Below w.heap.size w w' := by
  obtain ⟨i0, hi, hz0, hz1, hz2⟩ := info_parts infoBk
  have HS := bsize_any w h
  have hl8 := lvN_le h.n2
  have HV := leaves_any n h.n2 w
  have HM : Hid (∀ V, Below w.heap.size w V → BM V B g n b c W) := fun V hV => h.below hV
  clear h
  go_enter Tryd.func47, Tryd.ntmps47
  go_wp2_with fail
  refine HS.mono ?_
  rintro e w1 ⟨rfl, rfl⟩
  go_wp2_with fail
  refine HV.mono ?_
  rintro e w2 ⟨rfl, rfl⟩
  go_wp2_with fail
  go_loopw [3, 8] (fun v t wr => Hid (∃ (k cap : Nat) (a : Option Addr), k ≤ lvN n ∧ t = .int .i64 (k : Int) ∧ v = .slice a k cap ∧ wr.ownsRow w2.heap.size 93 256 v k (byL (lvsF W) (k * 256)) ∧ Below w2.heap.size w2 wr)) (fun _ t _ => lvN n - (intOf t).toNat)
  case atStart => exact ⟨0, 0, none, by omega, rfl, rfl, World.ownsRow_nil _ _ _ _, Below.refl _ _⟩
  case round =>
    obtain ⟨k, cap, a, hk, rfl, rfl, hown, hb⟩ := Hid.out hrel
    clear hrel HS HV
    by_cases hlt : k < lvN n
    · have j1 : (k : Int) < (lvN n : Int) := by omega
      have HL := leaf_any wr (HM.out _ hb) k hlt
      unfold bkV at HL
      have HJ : Hid (k < lvN n ∧ lvN n ≤ 8) := ⟨hlt, hl8⟩
      go_wp2_with fail
      refine HL.mono ?_
      rintro e w3 ⟨rfl, hb3⟩
      have hown1 := kown_below hown hb3
      have hb1 : Below w2.heap.size w2 w3 := hb.trans (hb3.mono hb.size)
      have hb1s := hb1.size
      have HLC : Hid (byL (lvsF W) ((k + 1) * 256) = byL (lvsF W) (k * 256) ++ (va 256 (iv .u8 (lfF W k 16))).toList) := lvs_cells W k
      have HOWN : Hid ((w3.alloc (.cells (va 256 (iv .u8 (lfF W k 16))) 93)).ownsRow w2.heap.size 93 256 (.slice a k cap) k (byL (lvsF W) (k * 256))) := hown1.alloc _
      have HNEW : Hid (∀ j u, (va 256 (iv .u8 (lfF W k 16))).toList[j]? = some u → (w3.alloc (.cells (va 256 (iv .u8 (lfF W k 16))) 93)).cell? ((⟨w3.heap.size, 0, none⟩ : Addr).add j) = some u) := cells_new w3 _ _
      have HMEM : Hid (∀ u ∈ (va 256 (iv .u8 (lfF W k 16))).toList, u.oneCell' = true) := kva_mem_one 256 (lfF W k 16)
      have HLEN : Hid ((va 256 (iv .u8 (lfF W k 16))).toList.length = 1 * 256) := by
        show _ = _
        rw [va_toList]
        simp
      have HV2 := hown1.lt
      clear hown1 hown hb hb3 HL HM
      go_wp2_with (first
        | (refine wpList_build1 (by rfl) 33 93 _ (by rfl) (va 256 (iv .u8 (lfF W k 16))) (by rfl) i0 _ 256 Tryd.underlying33 hi hz0 hz1 (va_size _ _) (by decide) (by decide) ?_; simp only [Act.put, List.setIfInBounds_toArray, List.set_cons_zero, List.set_cons_succ])
        | (at_builtin; refine wpList_append_own _ rfl _ _ 33 rfl w2.heap.size 93 i0 (.agg (va 256 (iv .u8 fun _ => 0))) 256 256 Tryd.underlying33 hi hz0 hz1 hz2 (va_size _ _) (by decide) _ _ _ rfl HOWN.out ⟨w3.heap.size, 0, none⟩ 1 1 (va 256 (iv .u8 (lfF W k 16))).toList rfl HLEN.out HNEW.out HMEM.out (by unfold maxLen; omega) (by omega) (by simp; omega) ?_)
        | go_in)
      intro v' w4 hown' hgrow _
      have hb2 : Below w2.heap.size w2 w4 := (hb1.alloc hb1s _).grown hgrow (by simp; omega) (fun k hk => (HV2 k hk).1)
      rw [← HLC.out] at hown'
      obtain ⟨g3, cap3, rfl, hg3, hg3'⟩ := kown_form hown' (Nat.succ_pos k)
      have HE : Hid (_ ∧ _) := ⟨hown', hb2⟩
      clear HOWN HNEW HMEM HLEN HV2 hgrow hb1 hown' hb2
      go_wp2_with fail
      go_roundw
      case rel => exact ⟨k + 1, cap3, _, HJ.out.1, by first | rfl | go_num | simp, rfl, HE.out.1, HE.out.2⟩
      case measure => simp [intOf]; have := HJ.out; omega
    · obtain rfl : k = lvN n := by omega
      have j1 : ¬ ((lvN n : Int) < (lvN n : Int)) := by omega
      have HE : Hid (_ ∧ _) := ⟨hown, hb⟩
      clear hown hb HM
      go_wp2_with fail
      go_ret
      exact ⟨_, rfl, HE.out.1, HE.out.2⟩
/-- a leaf's byte -/
theorem lf_byte (W : Nat → Nat) (k : Nat) : ∀ i, i ≤ 16 → ∀ j, lfF W k i j = if 128 ≤ j ∧ j < 128 + 8 * i then dig (W (16 * k + (j - 128) / 8)) ((j - 128) % 8) else lfF W k 0 j
  | 0, _, j => by rw [if_neg (by omega)]
  | i + 1, hi, j => by
    show putAt (lfF W k i) (128 + 8 * i) 8 (tbyte (strN (dig (W (16 * k + i))) 8)) j = _
    unfold putAt
    by_cases h : 128 + 8 * i ≤ j ∧ j < 128 + 8 * i + 8
    · rw [if_pos h, if_pos (by omega), strN_at _ _ _ (by omega) (dig_lt _ _), show (j - 128) / 8 = i by omega, show (j - 128) % 8 = j - (128 + 8 * i) by omega]
    · rw [if_neg h, lf_byte W k i (by omega) j]
      by_cases h2 : 128 ≤ j ∧ j < 128 + 8 * i
      · rw [if_pos h2, if_pos (by omega)]
      · rw [if_neg h2, if_neg (by omega)]
end
end Go.Proofs.YtkpcgijdokhjkaaDoor

namespace Go.Proofs.YtkpcgijdokhjkaaDoor
open Go Go.RowKit
set_option linter.unusedVariables false
set_option linter.unusedSimpArgs false
set_option maxRecDepth 100000 in
set_option maxHeartbeats 4000000 in
theorem eqBlks_any (m d d' : Nat) (hm : m ≤ 9223372036854775807) (a a' : Option Addr) (L M : Nat → Nat → Nat) (w : World) (h : IsBlks w a m L) (h' : IsBlks w a' m M) : Calls Tryd.prog 55 #[.slice a m d, .slice a' m d'] w fun e w' => e = .returned (.bool (decide (∀ i, i < m → bkSame (L i) (M i)))) ∧ Below w.heap.size w w' := by
  have HI : Hid (∀ V, Below w.heap.size w V → IsBlks V a m L ∧ IsBlks V a' m M) := fun V hV => ⟨h.below hV, h'.below hV⟩
  clear h h'
  go_enter Tryd.func55, Tryd.ntmps55
  go_wp2_with fail
  go_loopw [13] (fun t wr => Hid (∃ k : Nat, k ≤ m ∧ t = .int .i64 (k : Int) ∧ (∀ i, i < k → bkSame (L i) (M i)) ∧ Below w.heap.size w wr)) (fun t _ => m - (intOf t).toNat)
  case atStart => exact ⟨0, by omega, rfl, fun i hi => by omega, Below.refl _ _⟩
  case round =>
    obtain ⟨k, hk, rfl, hall, hb⟩ := Hid.out hrel
    clear hrel
    by_cases hlt : k < m
    · obtain ⟨b1, o1, rfl, l1, r1⟩ := (HI.out wr hb).1 k hlt
      obtain ⟨b2, o2, rfl, l2, r2⟩ := (HI.out wr hb).2 k hlt
      have R1 : Hid (wr.rangeAt b1 (o1 + k * 256) ((List.range 256).map (iv .u8 (L k)))) := r1
      have R2 : Hid (wr.rangeAt b2 (o2 + k * 256) ((List.range 256).map (iv .u8 (M k)))) := r2
      have k0 : (0 : Int) ≤ (k : Int) := by omega
      have k1 : (k : Int) < (m : Int) := by omega
      have HJ : Hid (k < m ∧ m ≤ 9223372036854775807 ∧ (∀ i, i < k → bkSame (L i) (M i))) := ⟨hlt, hm, hall⟩
      have hq : ∀ w, (Op.equalIn 10000 93 (.agg (va 256 (iv .u8 (L k)))) (.agg (va 256 (iv .u8 (M k))))).run Tryd.prog w = .ok (decide (bkSame (L k) (M k))) w := fun w => eq_bk 93 Tryd.underlying93 (L k) (M k) w
      have HSM : Hid (decide (bkSame (L k) (M k)) = decide (bkSame (L k) (M k))) := rfl
      generalize hsm : decide (bkSame (L k) (M k)) = sm at hq
      have HS : Hid (decide (bkSame (L k) (M k)) = sm) := hsm
      clear r1 r2 hall hsm HSM
      cases sm
      all_goals
        go_wp2_with fail
        refine wp_region_partsI [] [([0, 1, 2, 4, 5, 6], 3, true), ([], 7, false), ([], 8, false)] [] [] (wr.heap.size) (by kernel_rfl) (by kernel_rfl) (fun _ hx => nomatch hx) (partsI_yield ?_)
        simp only [List.cons_append, List.nil_append, List.append_nil, List.filterMap_cons, List.filterMap_nil, List.getElem?_toArray, List.getElem?_cons_zero, List.getElem?_cons_succ]
        have hS : Below (wr.heap.size) wr wr.drew := (Below.refl _ _).drew
        go_wp2_with fail
        refine ⟨rfl, _, .agg (va 256 (iv .u8 (L k))), rfl, yieldsIf_load_mid (by rfl) 93 _ (by rfl) (b1) (o1 + k * 256) (by rfl) ((List.range 256).map (iv .u8 (L k))) _ (fun W hW => range_below R1.out hW l1) Tryd.underlying93 rfl (sizeBk.trans (by simp)), partsI_force ?_⟩
        simp only [Act.put, List.setIfInBounds_toArray, List.set_cons_zero, List.set_cons_succ]
        simp only [List.cons_append, List.nil_append, List.append_nil, List.filterMap_cons, List.filterMap_nil, List.getElem?_toArray, List.getElem?_cons_zero, List.getElem?_cons_succ]
        refine wpList_load_blk (by rfl) 93 _ (by rfl) (b2) (o2 + k * 256) 256 (iv .u8 (M k)) (by rfl) _ (range_below R2.out hS l2) Tryd.underlying93 rfl sizeBk ?_
        simp only [Act.put, List.setIfInBounds_toArray, List.set_cons_zero, List.set_cons_succ]
        go_wp2_with fail
        refine ⟨rfl, hS, partsI_force ?_⟩
        simp only [List.cons_append, List.nil_append, List.append_nil, List.filterMap_cons, List.filterMap_nil, List.getElem?_toArray, List.getElem?_cons_zero, List.getElem?_cons_succ]
        go_wp2_with fail
        refine ⟨rfl, hS, partsI_last ?_⟩
        simp only [List.cons_append, List.nil_append, List.append_nil, List.filterMap_cons, List.filterMap_nil, List.getElem?_toArray, List.getElem?_cons_zero, List.getElem?_cons_succ]
        refine ⟨rfl, ?_⟩
        go_wp2_with fail
      · go_ret
        refine ⟨?_, hb.trans (hS.mono hb.size)⟩
        rw [decide_eq_false (fun hx => (of_decide_eq_false HS.out) (hx k HJ.out.1))]
        rfl
      · go_roundw
        case rel =>
          refine ⟨k + 1, HJ.out.1, by first | rfl | go_num | simp, fun i hi => ?_, hb.trans (hS.mono hb.size)⟩
          by_cases e : i = k
          · rw [e]; exact of_decide_eq_true HS.out
          · exact HJ.out.2.2 i (by omega)
        case measure => simp [intOf]; have := HJ.out; omega
    · obtain rfl : k = m := by omega
      have j1 : ¬ ((k : Int) < (k : Int)) := by omega
      have HA : Hid (∀ i, i < k → bkSame (L i) (M i)) := hall
      clear hall
      go_wp2_with fail
      go_ret
      exact ⟨by rw [decide_eq_true HA.out]; rfl, hb⟩
end Go.Proofs.YtkpcgijdokhjkaaDoor

namespace Go.Proofs.YtkpcgijdokhjkaaDoor
open Go Go.RowKit
set_option linter.unusedVariables false
set_option linter.unusedSimpArgs false
/-- the bit of a place, in leaves -/
def bitL (L : Nat → Nat → Nat) (p : Nat) : Bool := (L (p / 1024) (128 + p % 1024 / 8)).testBit (p % 1024 % 8)
theorem and_one_bit (x s : Nat) (hx : x < 256) : (bits .and .u8 ((x : Int) / 2 ^ s) 1 == 1) = x.testBit s := by
  have e : ((x : Int) / 2 ^ s) = ((x / 2 ^ s : Nat) : Int) := by
    rw [Int.natCast_ediv]
    congr 1
  have hlt : x / 2 ^ s < 256 := Nat.lt_of_le_of_lt (Nat.div_le_self _ _) hx
  rw [e, show (1 : Int) = ((1 : Nat) : Int) from rfl, u8_and_nat _ 1 hlt (by decide), Nat.and_one_is_mod, Nat.testBit_eq_decide_div_mod_eq]
  by_cases h : x / 2 ^ s % 2 = 1
  · rw [h]; rfl
  · have h0 : x / 2 ^ s % 2 = 0 := by omega
    rw [h0]; rfl
theorem put_ifL (W : Nat → Nat) (p q : Nat) : bitF (putW W p) q = if q = p then true else bitF W q := by
  rw [bitF_put]; by_cases h : q = p <;> simp [h]
section
variable {w : World} {n : Nat}
set_option maxRecDepth 100000 in
set_option maxHeartbeats 4000000 in
theorem from_ok (h1 : 1 ≤ n) (h2 : n ≤ 8192) (a : Option Addr) (cc : Nat) (L : Nat → Nat → Nat) (hL : ∀ i j, L i j < 256) (w : World) (hI : IsBlks w a (lvN n) L) : Calls Tryd.prog 25 #[.int .i64 (n : Int), .slice a (lvN n) cc] w fun e w' => ∃ g b c W, BM w' w.heap.size g n b c W ∧ (∀ p, bitF W p = (decide (p < n) && bitL L p)) ∧ e = .returned (if (∀ i, i < lvN n → bkSame (lfF W i 16) (L i)) then .tuple #[.pointer (some ⟨g, 0, none⟩), .int .i64 0] else .tuple #[.pointer none, .int .i64 111]) ∧ Below w.heap.size w w' := by
  have HN := newM_ok n h1 h2 w
  have hl8 := lvN_le h2
  have hge := lvN_ge (n := n)
  have HV : Hid (∀ w : World, Calls Tryd.prog 54 #[.int .i64 (n : Int)] w fun e w' => e = .returned (.int .i64 (lvN n : Int)) ∧ w' = w) := leaves_any n h2
  have HI : Hid (∀ V, Below w.heap.size w V → IsBlks V a (lvN n) L) := fun V hV => hI.below hV
  have HL : Hid (∀ i j, L i j < 256) := hL
  clear hI hL
  go_enter Tryd.func25, Tryd.ntmps25
  go_wp2_with fail
  refine HN.mono ?_
  rintro e w1 ⟨g, b, c, rfl, hM1, hb1⟩
  have HM1 : Hid (BM w1 w.heap.size g n b c (fun _ => 0) ∧ Below w.heap.size w w1) := ⟨hM1, hb1⟩
  clear hM1 hb1 HN
  go_wp2_with fail
  refine (HV.out _).mono ?_
  rintro e w2 ⟨rfl, hw2⟩
  subst hw2
  clear HV
  go_wp2_with fail
  go_loopw [24] (fun t wr => Hid (∃ (j : Nat) (W : Nat → Nat), j ≤ n ∧ t = .int .i64 (j : Int) ∧ BM wr w.heap.size g n b c W ∧ (∀ p, bitF W p = (decide (p < j) && bitL L p)) ∧ Below w.heap.size w wr)) (fun t _ => n - (intOf t).toNat)
  case atStart => exact ⟨0, fun _ => 0, by omega, rfl, HM1.out.1, fun p => by rw [bitF_zero]; simp, HM1.out.2⟩
  case round =>
    obtain ⟨j, W, hj, rfl, hM, hbits, hb⟩ := Hid.out hrel
    clear hrel HM1
    by_cases hlt : j < n
    · have j0 : (0 : Int) ≤ (j : Int) := by omega
      have j1 : (j : Int) < (n : Int) := by omega
      obtain ⟨bb, oo, rfl, hbl, hr⟩ := HI.out wr hb (j / 1024) (by omega)
      have cw : wr.cell? ⟨bb, oo + j / 1024 * 256 + (128 + j % 1024 / 8), none⟩ = some (.int .u8 ((L (j / 1024) (128 + j % 1024 / 8) : Nat) : Int)) := by
        have := hr (128 + j % 1024 / 8) (.int .u8 ((L (j / 1024) (128 + j % 1024 / 8) : Nat) : Int)) (by rw [List.getElem?_map, List.getElem?_range (by omega)]; rfl)
        exact this
      have r1 : (j : Int).tmod 1024 = ((j % 1024 : Nat) : Int) := rfl
      have r2 : (j : Int).tdiv 1024 = ((j / 1024 : Nat) : Int) := rfl
      have r3 : (((j % 1024 : Nat) : Int)).tdiv 8 = ((j % 1024 / 8 : Nat) : Int) := rfl
      have r4 : (((j % 1024 : Nat) : Int)).tmod 8 = ((j % 1024 % 8 : Nat) : Int) := rfl
      have q1 : ((j / 1024 : Nat) : Int) < (lvN n : Int) := by omega
      have q2 : (128 : Int) + ((j % 1024 / 8 : Nat) : Int) < 256 := by omega
      have HBV : Hid ((bits .and .u8 (((L (j / 1024) (128 + j % 1024 / 8) : Nat) : Int) / 2 ^ (j % 8)) 1 == 1) = bitL L j) := by
        show (bits .and .u8 (((L (j / 1024) (128 + j % 1024 / 8) : Nat) : Int) / 2 ^ (j % 8)) 1 == 1) = bitL L j
        rw [and_one_bit _ _ (HL.out _ _)]
        unfold bitL
        rw [show j % 1024 % 8 = j % 8 by omega]
      have HS := set_in wr hM j hlt
      have HJ : Hid (j < n ∧ n ≤ 8192) := ⟨hlt, h2⟩
      have HMM : Hid (BM wr w.heap.size g n b c W ∧ (∀ p, bitF W p = (decide (p < j) && bitL L p)) ∧ Below w.heap.size w wr) := ⟨hM, hbits, hb⟩
      clear hr hM hbits HI hb
      go_wp2_with fail
      · rename_i hh K9 a9
        have hbt : bitL L j = true := HBV.out.symm.trans hh
        clear hh HBV
        refine HS.mono ?_
        rintro e w3 ⟨rfl, hM3, hO3⟩
        have HE : Hid (BM w3 w.heap.size g n b c (putW W j) ∧ (∀ p, bitF (putW W j) p = (decide (p < j + 1) && bitL L p)) ∧ Below w.heap.size w w3) := by
          obtain ⟨q1, q2, q3⟩ := HMM.out
          refine ⟨hM3, fun p => ?_, q3.trans (hO3.below q3.size hM3.blt.1)⟩
          rw [put_ifL, q2]
          by_cases e : p = j
          · subst e
            simp [hbt]
          · rw [if_neg e]
            by_cases e2 : p < j
            · have e3 : p < j + 1 := by omega
              simp [e2, e3]
            · have e3 : ¬ p < j + 1 := by omega
              simp [e2, e3]
        clear hM3 hO3 HS HMM hbt cw
        go_wp2_with fail
        go_roundw
        case rel => exact ⟨j + 1, putW W j, HJ.out.1, by first | rfl | go_num | simp, HE.out.1, HE.out.2.1, HE.out.2.2⟩
        case measure => simp [intOf]; have := HJ.out; omega
      · rename_i hh
        have hbf : bitL L j = false := HBV.out.symm.trans (by assumption)
        have HE : Hid (BM wr w.heap.size g n b c W ∧ (∀ p, bitF W p = (decide (p < j + 1) && bitL L p)) ∧ Below w.heap.size w wr) := by
          obtain ⟨q1, q2, q3⟩ := HMM.out
          refine ⟨q1, fun p => ?_, q3⟩
          rw [q2]
          by_cases e : p = j
          · subst e
            simp [hbf]
          · by_cases e2 : p < j
            · have e3 : p < j + 1 := by omega
              simp [e2, e3]
            · have e3 : ¬ p < j + 1 := by omega
              simp [e2, e3]
        go_roundw
        case rel => exact ⟨j + 1, W, HJ.out.1, by first | rfl | go_num | simp, HE.out.1, HE.out.2.1, HE.out.2.2⟩
        case measure => simp [intOf]; have := HJ.out; omega
    · obtain rfl : j = n := by omega
      have j1 : ¬ ((j : Int) < (j : Int)) := by omega
      have HLV := leavesM_any wr hM
      have HMM : Hid (∀ V, Below wr.heap.size wr V → BM V w.heap.size g j b c W ∧ IsBlks V a (lvN j) L ∧ Below w.heap.size w V) := fun V hV => ⟨hM.below hV, HI.out V (hb.trans (hV.mono hb.size)), hb.trans (hV.mono hb.size)⟩
      have HBT : Hid (∀ p, bitF W p = (decide (p < j) && bitL L p)) := hbits
      have HLL : Hid (lvN j ≤ 8) := hl8
      clear hM hbits HI hb
      go_wp2_with fail
      refine HLV.mono ?_
      rintro e w3 ⟨v, rfl, hown, hb3⟩
      obtain ⟨a2, cap2, rfl, hI2⟩ := own_blks hown
      have hI3 : IsBlks w3 a2 (lvN j) (fun i => lfF W i 16) := fun i hi => by
        obtain ⟨b0, o0, e0, l0, r0⟩ := hI2 i hi
        refine ⟨b0, o0, e0, l0, ?_⟩
        have he : (List.range 256).map (iv .u8 (fun x => lvsF W (256 * i + x))) = (List.range 256).map (iv .u8 (lfF W i 16)) := List.map_congr_left fun x hx => by
          have hx' := List.mem_range.1 hx
          show Value.int .u8 ((lfF W ((256 * i + x) / 256) 16 ((256 * i + x) % 256) : Nat) : Int) = _
          rw [show (256 * i + x) / 256 = i by omega, show (256 * i + x) % 256 = x by omega]
          rfl
        rw [← he]
        exact r0
      have HQ : Hid (Calls Tryd.prog 55 #[.slice a2 (lvN j) cap2, .slice a (lvN j) cc] w3 fun e w' => e = .returned (.bool (decide (∀ i, i < lvN j → bkSame (lfF W i 16) (L i)))) ∧ Below w3.heap.size w3 w') := eqBlks_any (lvN j) cap2 cc (by have := HLL.out; omega) a2 a _ L w3 hI3 (HMM.out w3 hb3).2.1
      have HB3 : Hid (Below wr.heap.size wr w3) := hb3
      clear hown hI2 hI3 hb3 HLV
      go_wp2_with fail
      refine HQ.out.mono ?_
      rintro e w4 ⟨rfl, hb4⟩
      have hb34 := HB3.out.trans (hb4.mono HB3.out.size)
      obtain ⟨hM4, _, hbw4⟩ := HMM.out w4 hb34
      have HF : Hid (BM w4 w.heap.size g j b c W ∧ Below w.heap.size w w4) := ⟨hM4, hbw4⟩
      clear hM4 hbw4 hb34 hb4 HMM HB3 HQ
      by_cases hgd : ∀ i, i < lvN j → bkSame (lfF W i 16) (L i)
      · rw [decide_eq_true hgd]
        have HG : Hid (∀ i, i < lvN j → bkSame (lfF W i 16) (L i)) := hgd
        clear hgd
        go_wp2_with fail
        go_ret2
        exact ⟨g, b, c, W, HF.out.1, HBT.out, by rw [if_pos HG.out]; rfl, HF.out.2⟩
      · rw [decide_eq_false hgd]
        have HG : Hid (¬ ∀ i, i < lvN j → bkSame (lfF W i 16) (L i)) := hgd
        clear hgd
        go_wp2_with fail
        go_ret2
        exact ⟨g, b, c, W, HF.out.1, HBT.out, by rw [if_neg HG.out]; rfl, HF.out.2⟩
end
end Go.Proofs.YtkpcgijdokhjkaaDoor
