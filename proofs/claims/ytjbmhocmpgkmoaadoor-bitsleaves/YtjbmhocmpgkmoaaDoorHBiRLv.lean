/- Maps of bits in leaves: the document's Leaves. -/
import Derived.Test.YtjbmhocmpgkmoaaDoorHEqState
import Derived.Test.YtjbmhocmpgkmoaaDoorHMathDigest
import Derived.Handy
import Derived.Test.YtjbmhocmpgkmoaaDoorHBlkCut
import Derived.Deep.RegionLaw
import Derived.Laws.CopyOwn

namespace Go.Proofs.YtjbmhocmpgkmoaaDoor
open Go.RowKit

theorem infoU8 : (Tryd.prog.info? 5).map (fun i => (i.zero, i.size, i.bytes)) = some (some (.int .u8 0), 1, 1) := by kernel_rfl

set_option maxHeartbeats 1000000 in
theorem bytes32_any (x : Nat) (w : World) :
    Calls Tryd.prog 88 #[.int .u32 (x : Int)] w fun e w' => e = .returned (.agg #[.int .u8 ((x % 256 : Nat) : Int), .int .u8 ((x / 256 % 256 : Nat) : Int), .int .u8 ((x / 65536 % 256 : Nat) : Int), .int .u8 ((x / 16777216 % 256 : Nat) : Int)]) ∧ Below w.heap.size w w' := by
  go_enter Tryd.func88, Tryd.ntmps88
  go_wp2
  go_rounds 5
  go_returns
  refine ⟨by simp, ?_⟩
  go_grown

set_option maxHeartbeats 1000000 in
theorem bytes64_any (x : Nat) (w : World) :
    Calls Tryd.prog 89 #[.int .u64 (x : Int)] w fun e w' => e = .returned (.agg #[.int .u8 ((x % 256 : Nat) : Int), .int .u8 ((x / 256 % 256 : Nat) : Int), .int .u8 ((x / 65536 % 256 : Nat) : Int), .int .u8 ((x / 16777216 % 256 : Nat) : Int), .int .u8 ((x / 4294967296 % 256 : Nat) : Int), .int .u8 ((x / 1099511627776 % 256 : Nat) : Int), .int .u8 ((x / 281474976710656 % 256 : Nat) : Int), .int .u8 ((x / 72057594037927936 % 256 : Nat) : Int)]) ∧ Below w.heap.size w w' := by
  go_enter Tryd.func89, Tryd.ntmps89
  go_wp2
  go_rounds 9
  go_returns
  refine ⟨by simp, ?_⟩
  go_grown

set_option maxHeartbeats 1000000 in
theorem refBytes_own (n k : Nat) (hk : k ≤ 8) (hn : n < 18446744073709551616) (w : World) :
    Calls Tryd.prog 48 #[.int .u64 (n : Int), .int .i64 (k : Int)] w fun e w' => ∃ v, e = .returned v ∧ w'.ownsRow w.heap.size 5 1 v k ((digs n k).map (Value.int .u8)) ∧ Below w.heap.size w w' := by
  obtain ⟨i0, hi, hz0, hz1, hz2⟩ := info_parts infoU8
  go_enter Tryd.func48, Tryd.ntmps48
  go_wp2
  go_loopw [0, 5, 6] (fun m v i wr => ∃ j : Nat, j ≤ k ∧ i = .int .i64 j ∧ m = .int .u64 ((n / 256 ^ j : Nat) : Int) ∧ wr.ownsRow w.heap.size 5 1 v j ((digs n j).map (Value.int .u8)) ∧ Below w.heap.size w wr) (fun _ _ i _ => k - (intOf i).toNat)
  case atStart =>
    refine ⟨0, by omega, rfl, by simp, ?_, (Below.refl _ _).alloc (Nat.le_refl _) _⟩
    exact World.ownsRow_lit w #[] 0 (Nat.le_refl _) (by decide) rfl
  case round =>
    obtain ⟨j, hj, rfl, rfl, hown, hbel⟩ := hrel
    by_cases hlt : j < k
    · have hv := hown.lt
      have hqn : n / 256 ^ j ≤ n := Nat.div_le_self _ _
      have HD := digs_succ n j
      have HQ : n / 256 ^ (j + 1) = n / 256 ^ j / 256 := by rw [Nat.pow_succ, Nat.div_div_eq_div_mul]
      generalize hq : n / 256 ^ j = q at *
      have HD' : Hid (digs n (j + 1) = digs n j ++ [((q % 256 : Nat) : Int)]) := HD
      have HQ' : Hid (n / 256 ^ (j + 1) = q / 256) := HQ
      clear HD HQ hq
      go_wp2_with (first
        | (at_builtin; refine wpList_append_own _ rfl _ _ 92 rfl w.heap.size 5 i0 (.int .u8 0) 1 1 Tryd.underlying92 hi hz0 hz1 hz2 rfl (by decide) _ _ _ rfl (hown.alloc _) ⟨wr.heap.size, 0, none⟩ 1 1 [.int .u8 ((q : Int) % 256)] rfl rfl (cell_one_new _ _ _) (fun x hx => by simp at hx; subst hx; rfl) (by unfold maxLen; omega) (by omega) (by have := hbel.size; simp; omega) ?_)
        | go_in)
      intro v' w1 hown' hgrow _
      have hb1 : Below w.heap.size w w1 := (hbel.alloc (by have := hbel.size; omega) _).grown hgrow (by have := hbel.size; simp; omega) (fun k hk => (hv k hk).1)
      clear hown hv hgrow hbel
      go_wp2
      go_roundw
      case rel =>
        refine ⟨j + 1, by omega, by go_num, ?_, ?_, hb1⟩
        · rw [HQ'.out]; simp
        · rw [HD'.out]; simpa using hown'
      case measure => simp [intOf]; omega
    · go_wp2
      go_ret
      have : j = k := by omega
      subst this
      exact ⟨_, rfl, hown, hbel⟩

theorem va4 (f : Nat → Value) : va 4 f = #[f 0, f 1, f 2, f 3] := rfl
theorem va8 (f : Nat → Value) : va 8 f = #[f 0, f 1, f 2, f 3, f 4, f 5, f 6, f 7] := rfl
theorem bytes32_va (x : Nat) (w : World) :
    Calls Tryd.prog 88 #[.int .u32 (x : Int)] w fun e w' => e = .returned (.agg (va 4 (iv .u8 (dig x)))) ∧ Below w.heap.size w w' := by
  refine (bytes32_any x w).mono ?_
  rintro e w' ⟨rfl, hb⟩
  refine ⟨?_, hb⟩
  simp [va4, iv, dig]
theorem bytes64_va (x : Nat) (w : World) :
    Calls Tryd.prog 89 #[.int .u64 (x : Int)] w fun e w' => e = .returned (.agg (va 8 (iv .u8 (dig x)))) ∧ Below w.heap.size w w' := by
  refine (bytes64_any x w).mono ?_
  rintro e w' ⟨rfl, hb⟩
  refine ⟨?_, hb⟩
  simp [va8, iv, dig]
end Go.Proofs.YtjbmhocmpgkmoaaDoor

namespace Go.Proofs.YtjbmhocmpgkmoaaDoor
open Go.RowKit
set_option linter.unusedSimpArgs false
set_option linter.unusedVariables false

theorem va_mem_one (n : Nat) (f : Nat → Nat) : ∀ v ∈ (va n (iv .u8 f)).toList, v.oneCell' = true := fun v hv => by
  rw [va_toList] at hv
  obtain ⟨i, _, rfl⟩ := List.mem_map.1 hv
  rfl
theorem ksize4 : (Tryd.prog.info? 134).map (·.size) = some 4 := by kernel_rfl
theorem ksize8 : (Tryd.prog.info? 136).map (·.size) = some 8 := by kernel_rfl
set_option maxRecDepth 100000 in
set_option maxHeartbeats 4000000 in
theorem lay32_by (f : Nat → Nat) (a : Int) (x : Nat) (F : Nat → Nat) (y : Int)
    (hL0 : ∀ w : World, Calls Tryd.prog 87 #[bkV f, .int .i64 a, .string (strN (dig x) 4)] w fun e w' => e = .returned (.tuple #[bkV F, .int .i64 y]) ∧ Below w.heap.size w w') (w : World) :
    Calls Tryd.prog 76 #[bkV f, .int .i64 a, .int .u32 (x : Int)] w fun e w' => e = .returned (.tuple #[bkV F, .int .i64 y]) ∧ Below w.heap.size w w' := by
  have hL : Hid (∀ w : World, Calls Tryd.prog 87 #[bkV f, .int .i64 a, .string (strN (dig x) 4)] w fun e w' => e = .returned (.tuple #[bkV F, .int .i64 y]) ∧ Below w.heap.size w w') := hL0
  have hB : Hid (∀ w : World, Calls Tryd.prog 88 #[.int .u32 (x : Int)] w fun e w' => e = .returned (.agg (va 4 (iv .u8 (dig x)))) ∧ Below w.heap.size w w') := fun w => bytes32_va x w
  clear hL0
  unfold bkV at *
  have hz := zero_bk
  have b0 : Blk ((w.alloc (Obj.cells (va 256 (iv IntKind.u8 f)) 33)).alloc (Obj.cells (va 256 (iv IntKind.u8 fun x => 0)) 33)) w.heap.size 33 (va 256 (iv .u8 f)) := (Blk.new _ _ _).alloc _
  have b1 := Blk.new1 w (Obj.cells (va 256 (iv IntKind.u8 f)) 33) 33 (va 256 (iv IntKind.u8 fun x => 0))
  have hb := below_new2 w (Obj.cells (va 256 (iv IntKind.u8 f)) 33) (Obj.cells (va 256 (iv IntKind.u8 fun x => 0)) 33)
  go_enter Tryd.func76, Tryd.ntmps76
  go_wp2_with fail
  generalize (w.alloc (Obj.cells (va 256 (iv IntKind.u8 f)) 33)).alloc (Obj.cells (va 256 (iv IntKind.u8 fun x => 0)) 33) = W at *
  refine (hB.out _).mono ?_
  rintro e w1 ⟨rfl, hb1⟩
  have l1 : w.heap.size + 1 < w1.heap.size := Nat.lt_of_lt_of_le b1.lt hb1.size
  have n0 : Blk (w1.alloc (.cells #[.int .u8 0, .int .u8 0, .int .u8 0, .int .u8 0] 134)) w1.heap.size 134 (va 4 (iv .u8 fun _ => 0)) := Blk.new _ _ _
  have c0 := ((b0.below hb1 b0.lt).alloc (.cells #[.int .u8 0, .int .u8 0, .int .u8 0, .int .u8 0] 134)).other (g := w1.heap.size) (va 4 (iv .u8 (dig x))) (by omega)
  have c1 := ((b1.below hb1 b1.lt).alloc (.cells #[.int .u8 0, .int .u8 0, .int .u8 0, .int .u8 0] 134)).other (g := w1.heap.size) (va 4 (iv .u8 (dig x))) (by omega)
  have n1 := n0.set (va 4 (iv .u8 (dig x)))
  have hb2 : Below w.heap.size w ((w1.alloc (.cells #[.int .u8 0, .int .u8 0, .int .u8 0, .int .u8 0] 134)).setRow w1.heap.size (va 4 (iv .u8 (dig x)))) := below_setRow ((hb.trans (hb1.mono hb.size)).alloc (by omega) _) (by omega) _
  clear b0 b1 hb hb1 hB hz
  go_wp2_with (first
    | (refine wpList_store_row (by rfl) 134 _ _ (by rfl) (w1.heap.size) (va 4 (iv .u8 (dig x))) (by rfl) (by rfl) 134 _ n0 (ksize4.trans (by rw [va_size])) (by simp only [va_size]) (iv_one _ _ _) ?_; simp only [Act.put, List.setIfInBounds_toArray, List.set_cons_zero, List.set_cons_succ])
    | fail)
  clear n0
  generalize (w1.alloc (.cells #[.int .u8 0, .int .u8 0, .int .u8 0, .int .u8 0] 134)).setRow w1.heap.size (va 4 (iv .u8 (dig x))) = w2 at *
  have hc := run_bytes_text (P := Tryd.prog) w2.drew 92 5 9 Tryd.underlying92 Tryd.underlying5 Tryd.underlying9 (n1.drew) 0 4 4 (by omega)
  rw [strN_congr (f := fun j => dig x (0 + j)) (g := dig x) fun j _ => by rw [Nat.zero_add]] at hc
  generalize strN (dig x) 4 = S at *
  refine wp_region_partsI [] [([1], 0, true), ([], 2, false), ([], 3, false), ([], 4, false), ([5, 6], 7, false)] [8] [] (w.heap.size + 1) (by kernel_rfl) (by kernel_rfl) (fun _ hx => nomatch hx) (partsI_yield ?_)
  simp only [List.cons_append, List.nil_append, List.append_nil, List.filterMap_cons, List.filterMap_nil, List.getElem?_toArray, List.getElem?_cons_zero, List.getElem?_cons_succ]
  have hS : Below (w.heap.size + 1) w2 w2.drew := (Below.refl _ _).drew
  go_wp2_with fail
  refine ⟨rfl, _, .agg (va 256 (iv .u8 f)), rfl, kyields_load (by rfl) 33 _ (by rfl) (w.heap.size) 256 (iv .u8 f) (by rfl) _ 33 (fun W hW => c0.below hW (Nat.lt_succ_self _)) Tryd.underlying33 rfl sizeBk, partsI_force ?_⟩
  simp only [Act.put, List.setIfInBounds_toArray, List.set_cons_zero, List.set_cons_succ]
  simp only [List.cons_append, List.nil_append, List.append_nil, List.filterMap_cons, List.filterMap_nil, List.getElem?_toArray, List.getElem?_cons_zero, List.getElem?_cons_succ]
  go_wp2_with fail
  refine ⟨rfl, hS, partsI_force ?_⟩
  simp only [List.cons_append, List.nil_append, List.append_nil, List.filterMap_cons, List.filterMap_nil, List.getElem?_toArray, List.getElem?_cons_zero, List.getElem?_cons_succ]
  go_wp2_with fail
  refine ⟨rfl, hS, partsI_force ?_⟩
  simp only [List.cons_append, List.nil_append, List.append_nil, List.filterMap_cons, List.filterMap_nil, List.getElem?_toArray, List.getElem?_cons_zero, List.getElem?_cons_succ]
  go_wp2_with fail
  refine (hL.out _).mono ?_
  rintro e w3 ⟨rfl, hb3⟩
  have hS3 : Below (w.heap.size + 1) w2 w3 := hS.trans (hb3.mono (Nat.le_of_lt c1.lt))
  have c3 := c1.drew.below hb3 c1.lt
  clear hS hb3 hL
  have hS := hS3
  clear hS3
  have hb4 : Below w.heap.size w w3 := hb2.trans (hS.mono (Nat.le_succ _))
  go_wp2_with fail
  refine ⟨rfl, hS, partsI_force ?_⟩
  simp only [List.cons_append, List.nil_append, List.append_nil, List.filterMap_cons, List.filterMap_nil, List.getElem?_toArray, List.getElem?_cons_zero, List.getElem?_cons_succ]
  have hst := Blk.store (P := Tryd.prog) c3 (va 256 (iv .u8 F)) (by simp only [va_size]) (va_mem_one _ _)
  have hvs := va_size 256 (iv .u8 F)
  go_wp2_with fail
  have hS4 := below_setRow hS (Nat.le_refl (w.heap.size + 1)) (va 256 (iv .u8 F))
  clear hS
  have hS := hS4
  clear hS4
  refine ⟨rfl, hS, partsI_last ?_⟩
  simp only [List.cons_append, List.nil_append, List.append_nil, List.filterMap_cons, List.filterMap_nil, List.getElem?_toArray, List.getElem?_cons_zero, List.getElem?_cons_succ]
  go_wp2_with fail
  refine ⟨rfl, ?_⟩
  go_wp2_with fail
  try simp only [Exit.inBlock, Exit.then]
  refine bodyPost_ret (results_row2 Tryd.results76 _ _ (w.heap.size + 1) 33 (va 256 (iv .u8 F)) (0, 0) _ rfl (c3.set _) Tryd.underlying33 rfl (sizeBk.trans (by rw [va_size]))) rfl ?_
  exact ⟨rfl, below_setRow hb4 (Nat.le_succ _) _⟩

set_option maxRecDepth 100000 in
set_option maxHeartbeats 4000000 in
theorem lay64_by (f : Nat → Nat) (a : Int) (x : Nat) (F : Nat → Nat) (y : Int)
    (hL0 : ∀ w : World, Calls Tryd.prog 87 #[bkV f, .int .i64 a, .string (strN (dig x) 8)] w fun e w' => e = .returned (.tuple #[bkV F, .int .i64 y]) ∧ Below w.heap.size w w') (w : World) :
    Calls Tryd.prog 77 #[bkV f, .int .i64 a, .int .u64 (x : Int)] w fun e w' => e = .returned (.tuple #[bkV F, .int .i64 y]) ∧ Below w.heap.size w w' := by
  have hL : Hid (∀ w : World, Calls Tryd.prog 87 #[bkV f, .int .i64 a, .string (strN (dig x) 8)] w fun e w' => e = .returned (.tuple #[bkV F, .int .i64 y]) ∧ Below w.heap.size w w') := hL0
  have hB : Hid (∀ w : World, Calls Tryd.prog 89 #[.int .u64 (x : Int)] w fun e w' => e = .returned (.agg (va 8 (iv .u8 (dig x)))) ∧ Below w.heap.size w w') := fun w => bytes64_va x w
  clear hL0
  unfold bkV at *
  have hz := zero_bk
  have b0 : Blk ((w.alloc (Obj.cells (va 256 (iv IntKind.u8 f)) 33)).alloc (Obj.cells (va 256 (iv IntKind.u8 fun x => 0)) 33)) w.heap.size 33 (va 256 (iv .u8 f)) := (Blk.new _ _ _).alloc _
  have b1 := Blk.new1 w (Obj.cells (va 256 (iv IntKind.u8 f)) 33) 33 (va 256 (iv IntKind.u8 fun x => 0))
  have hb := below_new2 w (Obj.cells (va 256 (iv IntKind.u8 f)) 33) (Obj.cells (va 256 (iv IntKind.u8 fun x => 0)) 33)
  go_enter Tryd.func77, Tryd.ntmps77
  go_wp2_with fail
  generalize (w.alloc (Obj.cells (va 256 (iv IntKind.u8 f)) 33)).alloc (Obj.cells (va 256 (iv IntKind.u8 fun x => 0)) 33) = W at *
  refine (hB.out _).mono ?_
  rintro e w1 ⟨rfl, hb1⟩
  have l1 : w.heap.size + 1 < w1.heap.size := Nat.lt_of_lt_of_le b1.lt hb1.size
  have n0 : Blk (w1.alloc (.cells #[.int .u8 0, .int .u8 0, .int .u8 0, .int .u8 0, .int .u8 0, .int .u8 0, .int .u8 0, .int .u8 0] 136)) w1.heap.size 136 (va 8 (iv .u8 fun _ => 0)) := Blk.new _ _ _
  have c0 := ((b0.below hb1 b0.lt).alloc (.cells #[.int .u8 0, .int .u8 0, .int .u8 0, .int .u8 0, .int .u8 0, .int .u8 0, .int .u8 0, .int .u8 0] 136)).other (g := w1.heap.size) (va 8 (iv .u8 (dig x))) (by omega)
  have c1 := ((b1.below hb1 b1.lt).alloc (.cells #[.int .u8 0, .int .u8 0, .int .u8 0, .int .u8 0, .int .u8 0, .int .u8 0, .int .u8 0, .int .u8 0] 136)).other (g := w1.heap.size) (va 8 (iv .u8 (dig x))) (by omega)
  have n1 := n0.set (va 8 (iv .u8 (dig x)))
  have hb2 : Below w.heap.size w ((w1.alloc (.cells #[.int .u8 0, .int .u8 0, .int .u8 0, .int .u8 0, .int .u8 0, .int .u8 0, .int .u8 0, .int .u8 0] 136)).setRow w1.heap.size (va 8 (iv .u8 (dig x)))) := below_setRow ((hb.trans (hb1.mono hb.size)).alloc (by omega) _) (by omega) _
  clear b0 b1 hb hb1 hB hz
  go_wp2_with (first
    | (refine wpList_store_row (by rfl) 136 _ _ (by rfl) (w1.heap.size) (va 8 (iv .u8 (dig x))) (by rfl) (by rfl) 136 _ n0 (ksize8.trans (by rw [va_size])) (by simp only [va_size]) (iv_one _ _ _) ?_; simp only [Act.put, List.setIfInBounds_toArray, List.set_cons_zero, List.set_cons_succ])
    | fail)
  clear n0
  generalize (w1.alloc (.cells #[.int .u8 0, .int .u8 0, .int .u8 0, .int .u8 0, .int .u8 0, .int .u8 0, .int .u8 0, .int .u8 0] 136)).setRow w1.heap.size (va 8 (iv .u8 (dig x))) = w2 at *
  have hc := run_bytes_text (P := Tryd.prog) w2.drew 92 5 9 Tryd.underlying92 Tryd.underlying5 Tryd.underlying9 (n1.drew) 0 8 8 (by omega)
  rw [strN_congr (f := fun j => dig x (0 + j)) (g := dig x) fun j _ => by rw [Nat.zero_add]] at hc
  generalize strN (dig x) 8 = S at *
  refine wp_region_partsI [] [([1], 0, true), ([], 2, false), ([], 3, false), ([], 4, false), ([5, 6], 7, false)] [8] [] (w.heap.size + 1) (by kernel_rfl) (by kernel_rfl) (fun _ hx => nomatch hx) (partsI_yield ?_)
  simp only [List.cons_append, List.nil_append, List.append_nil, List.filterMap_cons, List.filterMap_nil, List.getElem?_toArray, List.getElem?_cons_zero, List.getElem?_cons_succ]
  have hS : Below (w.heap.size + 1) w2 w2.drew := (Below.refl _ _).drew
  go_wp2_with fail
  refine ⟨rfl, _, .agg (va 256 (iv .u8 f)), rfl, kyields_load (by rfl) 33 _ (by rfl) (w.heap.size) 256 (iv .u8 f) (by rfl) _ 33 (fun W hW => c0.below hW (Nat.lt_succ_self _)) Tryd.underlying33 rfl sizeBk, partsI_force ?_⟩
  simp only [Act.put, List.setIfInBounds_toArray, List.set_cons_zero, List.set_cons_succ]
  simp only [List.cons_append, List.nil_append, List.append_nil, List.filterMap_cons, List.filterMap_nil, List.getElem?_toArray, List.getElem?_cons_zero, List.getElem?_cons_succ]
  go_wp2_with fail
  refine ⟨rfl, hS, partsI_force ?_⟩
  simp only [List.cons_append, List.nil_append, List.append_nil, List.filterMap_cons, List.filterMap_nil, List.getElem?_toArray, List.getElem?_cons_zero, List.getElem?_cons_succ]
  go_wp2_with fail
  refine ⟨rfl, hS, partsI_force ?_⟩
  simp only [List.cons_append, List.nil_append, List.append_nil, List.filterMap_cons, List.filterMap_nil, List.getElem?_toArray, List.getElem?_cons_zero, List.getElem?_cons_succ]
  go_wp2_with fail
  refine (hL.out _).mono ?_
  rintro e w3 ⟨rfl, hb3⟩
  have hS3 : Below (w.heap.size + 1) w2 w3 := hS.trans (hb3.mono (Nat.le_of_lt c1.lt))
  have c3 := c1.drew.below hb3 c1.lt
  clear hS hb3 hL
  have hS := hS3
  clear hS3
  have hb4 : Below w.heap.size w w3 := hb2.trans (hS.mono (Nat.le_succ _))
  go_wp2_with fail
  refine ⟨rfl, hS, partsI_force ?_⟩
  simp only [List.cons_append, List.nil_append, List.append_nil, List.filterMap_cons, List.filterMap_nil, List.getElem?_toArray, List.getElem?_cons_zero, List.getElem?_cons_succ]
  have hst := Blk.store (P := Tryd.prog) c3 (va 256 (iv .u8 F)) (by simp only [va_size]) (va_mem_one _ _)
  have hvs := va_size 256 (iv .u8 F)
  go_wp2_with fail
  have hS4 := below_setRow hS (Nat.le_refl (w.heap.size + 1)) (va 256 (iv .u8 F))
  clear hS
  have hS := hS4
  clear hS4
  refine ⟨rfl, hS, partsI_last ?_⟩
  simp only [List.cons_append, List.nil_append, List.append_nil, List.filterMap_cons, List.filterMap_nil, List.getElem?_toArray, List.getElem?_cons_zero, List.getElem?_cons_succ]
  go_wp2_with fail
  refine ⟨rfl, ?_⟩
  go_wp2_with fail
  try simp only [Exit.inBlock, Exit.then]
  refine bodyPost_ret (results_row2 Tryd.results77 _ _ (w.heap.size + 1) 33 (va 256 (iv .u8 F)) (0, 0) _ rfl (c3.set _) Tryd.underlying33 rfl (sizeBk.trans (by rw [va_size]))) rfl ?_
  exact ⟨rfl, below_setRow hb4 (Nat.le_succ _) _⟩

end Go.Proofs.YtjbmhocmpgkmoaaDoor

namespace Go.Proofs.YtjbmhocmpgkmoaaDoor
open Go Go.RowKit
set_option linter.unusedVariables false
set_option linter.unusedSimpArgs false
def bitsT : ByteArray := { data := #[98, 105, 116, 115] }
/-- a leaf's bytes when so many of its words are laid -/
def lfF (W : Nat → Nat) (k : Nat) : Nat → Nat → Nat
  | 0 => putAt (tbyte bitsT) 4 4 (tbyte (strN (dig k) 4))
  | i + 1 => putAt (lfF W k i) (128 + 8 * i) 8 (tbyte (strN (dig (W (16 * k + i))) 8))
section
variable {w : World} {B g n b c : Nat} {W : Nat → Nat}
theorem BM.cap (h : BM w B g n b c W) : 16 * lvN n ≤ c := by
  rcases h.row.2 with ⟨hn, _⟩ | ⟨g', cap', cur, hv, hb, hg, hc, _⟩
  · cases hn
  · injection hv with hv1 hv2 hv3
    omega
theorem lay32_leaf (k : Nat) (w : World) : Calls Tryd.prog 76 #[bkV (tbyte bitsT), .int .i64 4, .int .u32 (k : Int)] w fun e w' => e = .returned (.tuple #[bkV (lfF W k 0), .int .i64 0]) ∧ Below w.heap.size w w' :=
  lay32_by (tbyte bitsT) 4 k (lfF W k 0) 0 (fun w => by
    have := lay_fit (tbyte bitsT) 4 (strN (dig k) 4) (by rw [strN_size]; omega) w
    rwa [strN_size] at this) w
theorem lay64_leaf (k i : Nat) (hi : i < 16) (w : World) : Calls Tryd.prog 77 #[bkV (lfF W k i), .int .i64 ((128 + 8 * i : Nat) : Int), .int .u64 ((W (16 * k + i) : Nat) : Int)] w fun e w' => e = .returned (.tuple #[bkV (lfF W k (i + 1)), .int .i64 0]) ∧ Below w.heap.size w w' :=
  lay64_by (lfF W k i) ((128 + 8 * i : Nat) : Int) (W (16 * k + i)) (lfF W k (i + 1)) 0 (fun w => by
    have := lay_fit (lfF W k i) (128 + 8 * i) (strN (dig (W (16 * k + i))) 8) (by rw [strN_size]; omega) w
    rwa [strN_size] at this) w
set_option maxRecDepth 100000 in
set_option maxHeartbeats 4000000 in
theorem leaf_any (w : World) (h : BM w B g n b c W) (k : Nat) (hk : k < lvN n) : Calls Tryd.prog 47 #[.pointer (some ⟨g, 0, none⟩), .int .i64 (k : Int)] w fun e w' => e = .returned (bkV (lfF W k 16)) ∧ Below w.heap.size w w' := by
  have hz := zero_bk
  have hl8 := lvN_le h.n2
  have hcap : 16 * lvN n ≤ c := h.cap
  have hcv : ((k : Int) % 4294967296) = (k : Int) := by omega
  have hmk : wrap64 ((k : Int) * 16) = ((16 * k : Nat) : Int) := by unfold wrap64; omega
  have HO : Hid (∀ w : World, Calls Tryd.prog 75 #[.string { data := #[98, 105, 116, 115] }] w fun e w' => e = .returned (.tuple #[bkV (tbyte bitsT), .int .i64 0]) ∧ Below w.heap.size w w') := fun w => blockOf_fit bitsT (by decide) w
  have HL : Hid (∀ w : World, Calls Tryd.prog 76 #[bkV (tbyte bitsT), .int .i64 4, .int .u32 (k : Int)] w fun e w' => e = .returned (.tuple #[bkV (lfF W k 0), .int .i64 0]) ∧ Below w.heap.size w w') := fun w => lay32_leaf k w
  have HM : Hid (∀ V, Below w.heap.size w V → BM V B g n b c W) := fun V hV => h.below hV
  have a0 : Blk (w.alloc (.cells (va 256 (iv .u8 fun _ => 0)) 33)) w.heap.size 33 (va 256 (iv .u8 fun _ => 0)) := Blk.new _ _ _
  have hb0 : Below w.heap.size w (w.alloc (.cells (va 256 (iv .u8 fun _ => 0)) 33)) := below_new1 _ _
  clear h
  unfold bkV at *
  go_enter Tryd.func47, Tryd.ntmps47
  go_wp2_with fail
  generalize w.alloc (.cells (va 256 (iv .u8 fun _ => 0)) 33) = w1 at *
  refine (HO.out _).mono ?_
  rintro e w2 ⟨rfl, hb2⟩
  have a2 := a0.below hb2 a0.lt
  have hbw2 : Below w.heap.size w w2 := hb0.trans (hb2.mono hb0.size)
  have l2 : w.heap.size < w2.heap.size := a2.lt
  have n0 : Blk (w2.alloc (.cells (va 256 (iv .u8 fun _ => 0)) 33)) w2.heap.size 33 (va 256 (iv .u8 fun _ => 0)) := Blk.new _ _ _
  have a3 := (a2.alloc (.cells (va 256 (iv .u8 fun _ => 0)) 33)).other (g := w2.heap.size) (va 256 (iv .u8 (tbyte bitsT))) (by omega)
  have n1 := n0.set (va 256 (iv .u8 (tbyte bitsT)))
  have hbw3 : Below w.heap.size w ((w2.alloc (.cells (va 256 (iv .u8 fun _ => 0)) 33)).setRow w2.heap.size (va 256 (iv .u8 (tbyte bitsT)))) := below_setRow (hbw2.alloc (by omega) _) (by omega) _
  clear a0 hb0 hb2 HO
  go_wp2_with (first
    | (refine wpList_store_row (by rfl) 33 _ _ (by rfl) (w2.heap.size) (va 256 (iv .u8 (tbyte bitsT))) (by rfl) (by rfl) 33 _ n0 (sizeBk.trans (by rw [va_size])) (by simp only [va_size]) (iv_one _ _ _) ?_; simp only [Act.put, List.setIfInBounds_toArray, List.set_cons_zero, List.set_cons_succ])
    | (refine wpList_load_row (by rfl) 33 _ (by rfl) (w2.heap.size) (by rfl) 33 (va 256 (iv .u8 (tbyte bitsT))) (0, 0) _ n1 Tryd.underlying33 (by rfl) (sizeBk.trans (by rw [va_size])) ?_; simp only [Act.put, List.setIfInBounds_toArray, List.set_cons_zero, List.set_cons_succ])
    | fail)
  clear n0
  have HMs : Hid (BM ((w2.alloc (.cells (va 256 (iv .u8 fun _ => 0)) 33)).setRow w2.heap.size (va 256 (iv .u8 (tbyte bitsT)))) B g n b c W) := HM.out _ hbw3
  generalize (w2.alloc (.cells (va 256 (iv .u8 fun _ => 0)) 33)).setRow w2.heap.size (va 256 (iv .u8 (tbyte bitsT))) = w3 at *
  refine (HL.out _).mono ?_
  rintro e w4 ⟨rfl, hb4⟩
  have a4 := a3.below hb4 a3.lt
  have n4 := n1.below hb4 n1.lt
  have hbw4 : Below w.heap.size w w4 := hbw3.trans (hb4.mono hbw3.size)
  have a5 := a4.other (g := w2.heap.size) (va 256 (iv .u8 (lfF W k 0))) (by omega)
  have n5 := n4.set (va 256 (iv .u8 (lfF W k 0)))
  have hbw5 : Below w.heap.size w (w4.setRow w2.heap.size (va 256 (iv .u8 (lfF W k 0)))) := below_setRow hbw4 (by omega) _
  have c1 := (HM.out _ hbw5).c1
  have hk1 : 16 * k + 16 ≤ 16 * lvN n := by omega
  clear a3 n1 HL HMs hb4 hbw3 hbw2 a2 a4 hbw4
  go_wp2_with (first
    | (refine wpList_store_row (by rfl) 33 _ _ (by rfl) (w2.heap.size) (va 256 (iv .u8 (lfF W k 0))) (by rfl) (by rfl) 33 _ n4 (sizeBk.trans (by rw [va_size])) (by simp only [va_size]) (iv_one _ _ _) ?_; simp only [Act.put, List.setIfInBounds_toArray, List.set_cons_zero, List.set_cons_succ])
    | fail)
  have HX : Hid (Blk (w4.setRow w2.heap.size (va 256 (iv .u8 (lfF W k 0)))) w.heap.size 33 (va 256 (iv .u8 fun _ => 0)) ∧ Blk (w4.setRow w2.heap.size (va 256 (iv .u8 (lfF W k 0)))) w2.heap.size 33 (va 256 (iv .u8 (lfF W k 0))) ∧ Below w.heap.size w (w4.setRow w2.heap.size (va 256 (iv .u8 (lfF W k 0))))) := ⟨a5, n5, hbw5⟩
  clear a5 n5 hbw5 n4
  generalize w4.setRow w2.heap.size (va 256 (iv .u8 (lfF W k 0))) = w5 at *
  go_loopw [29] (fun t wr => Hid (∃ i : Nat, i ≤ 16 ∧ t = .int .i64 (i : Int) ∧ Blk wr w.heap.size 33 (va 256 (iv .u8 fun _ => 0)) ∧ Blk wr w2.heap.size 33 (va 256 (iv .u8 (lfF W k i))) ∧ Below w.heap.size w wr)) (fun t _ => 16 - (intOf t).toNat)
  case atStart => exact ⟨0, by omega, rfl, HX.out.1, HX.out.2.1, HX.out.2.2⟩
  case round =>
    clear HX c1
    obtain ⟨i, hi, rfl, ba, bn, hb⟩ := Hid.out hrel
    by_cases hlt : i < 16
    · have j0 : (0 : Int) ≤ (i : Int) := by omega
      have j1 : (i : Int) < 16 := by omega
      have cw : wr.cell? ⟨b, k * 16 + i, none⟩ = some (.int .u64 ((W (16 * k + i) : Nat) : Int)) := by
        rw [Nat.mul_comm k 16]
        exact (HM.out _ hb).word (i := 16 * k + i) (by omega)
      have HL : Hid (∀ w : World, Calls Tryd.prog 77 #[.agg (va 256 (iv .u8 (lfF W k i))), .int .i64 (128 + (i : Int) * 8), .int .u64 ((W (16 * k + i) : Nat) : Int)] w fun e w' => e = .returned (.tuple #[.agg (va 256 (iv .u8 (lfF W k (i + 1)))), .int .i64 0]) ∧ Below w.heap.size w w') := fun w => by
        have := lay64_leaf (W := W) k i hlt w
        rw [show ((128 + 8 * i : Nat) : Int) = 128 + (i : Int) * 8 by omega] at this
        exact this
      have HJ : Hid (i < 16) := hlt
      clear hrel
      go_wp2_with (first
        | (refine wpList_load_row (by rfl) 33 _ (by rfl) (w2.heap.size) (by rfl) 33 (va 256 (iv .u8 (lfF W k i))) (0, 0) _ bn Tryd.underlying33 (by rfl) (sizeBk.trans (by rw [va_size])) ?_; simp only [Act.put, List.setIfInBounds_toArray, List.set_cons_zero, List.set_cons_succ])
        | fail)
      refine (HL.out _).mono ?_
      rintro e w6 ⟨rfl, hb6⟩
      have ba6 := ba.below hb6 ba.lt
      have bn6 := bn.below hb6 bn.lt
      have hbw6 : Below w.heap.size w w6 := hb.trans (hb6.mono hb.size)
      have HY : Hid (Blk (w6.setRow w2.heap.size (va 256 (iv .u8 (lfF W k (i + 1))))) w.heap.size 33 (va 256 (iv .u8 fun _ => 0)) ∧ Blk (w6.setRow w2.heap.size (va 256 (iv .u8 (lfF W k (i + 1))))) w2.heap.size 33 (va 256 (iv .u8 (lfF W k (i + 1)))) ∧ Below w.heap.size w (w6.setRow w2.heap.size (va 256 (iv .u8 (lfF W k (i + 1)))))) := ⟨ba6.other (g := w2.heap.size) _ (by omega), bn6.set _, below_setRow hbw6 (by omega) _⟩
      clear ba bn hb hb6 ba6 hbw6 HL cw HM
      go_wp2_with (first
        | (refine wpList_store_row (by rfl) 33 _ _ (by rfl) (w2.heap.size) (va 256 (iv .u8 (lfF W k (i + 1)))) (by rfl) (by rfl) 33 _ bn6 (sizeBk.trans (by rw [va_size])) (by simp only [va_size]) (iv_one _ _ _) ?_; simp only [Act.put, List.setIfInBounds_toArray, List.set_cons_zero, List.set_cons_succ])
        | fail)
      clear bn6
      generalize w6.setRow w2.heap.size (va 256 (iv .u8 (lfF W k (i + 1)))) = w7 at *
      go_roundw
      case rel => exact ⟨i + 1, HJ.out, by first | rfl | go_num | simp, HY.out.1, HY.out.2.1, HY.out.2.2⟩
      case measure => simp [intOf]; have := HJ.out; omega
    · obtain rfl : i = 16 := by omega
      have hst : Below w.heap.size w (wr.setRow w.heap.size (va 256 (iv .u8 (lfF W k 16)))) := below_setRow hb (Nat.le_refl _) _
      have ba2 := ba.set (va 256 (iv .u8 (lfF W k 16)))
      clear hrel HM hb
      go_wp2_with (first
        | (refine wpList_load_row (by rfl) 33 _ (by rfl) (w2.heap.size) (by rfl) 33 (va 256 (iv .u8 (lfF W k 16))) (0, 0) _ bn Tryd.underlying33 (by rfl) (sizeBk.trans (by rw [va_size])) ?_; simp only [Act.put, List.setIfInBounds_toArray, List.set_cons_zero, List.set_cons_succ])
        | (refine wpList_store_row (by rfl) 33 _ _ (by rfl) (w.heap.size) (va 256 (iv .u8 (lfF W k 16))) (by rfl) (by rfl) 33 _ ba (sizeBk.trans (by rw [va_size])) (by simp only [va_size]) (iv_one _ _ _) ?_; simp only [Act.put, List.setIfInBounds_toArray, List.set_cons_zero, List.set_cons_succ])
        | fail)
      try simp only [Exit.inBlock, Exit.then]
      refine bodyPost_ret (results_cell_row Tryd.results47 _ _ (w.heap.size) 33 (va 256 (iv .u8 (lfF W k 16))) (0, 0) _ rfl ba2 Tryd.underlying33 rfl (sizeBk.trans (by rw [va_size]))) rfl ?_
      exact ⟨rfl, hst⟩
end
end Go.Proofs.YtjbmhocmpgkmoaaDoor

namespace Go.Proofs.YtjbmhocmpgkmoaaDoor
open Go Go.RowKit
set_option linter.unusedVariables false
set_option linter.unusedSimpArgs false
/-- all bytes of all leaves -/
def lvsF (W : Nat → Nat) (x : Nat) : Nat := lfF W (x / 256) 16 (x % 256)
theorem lvs_cells (W : Nat → Nat) (k : Nat) : byL (lvsF W) ((k + 1) * 256) = byL (lvsF W) (k * 256) ++ (va 256 (iv .u8 (lfF W k 16))).toList := by
  rw [Nat.succ_mul, byL_add, va_toList]
  refine congrArg (fun l => byL (lvsF W) (k * 256) ++ l) ?_
  unfold byL
  refine List.map_congr_left fun j hj => ?_
  have hj' := List.mem_range.1 hj
  unfold iv lvsF
  show Value.int IntKind.u8 ((lfF W ((k * 256 + j) / 256) 16 ((k * 256 + j) % 256) : Nat) : Int) = _
  rw [show (k * 256 + j) / 256 = k by omega, show (k * 256 + j) % 256 = j by omega]
section
variable {w : World} {B g n b c : Nat} {W : Nat → Nat}
set_option maxRecDepth 100000 in
set_option maxHeartbeats 4000000 in
theorem leavesM_any (w : World) (h : BM w B g n b c W) : Calls Tryd.prog 8 #[.pointer (some ⟨g, 0, none⟩)] w fun e w' => ∃ v, e = .returned v ∧ w'.ownsRow w.heap.size 33 256 v (lvN n) (byL (lvsF W) (lvN n * 256)) ∧ Below w.heap.size w w' := by
  obtain ⟨i0, hi, hz0, hz1, hz2⟩ := info_parts infoBk
  have HS := bsize_any w h
  have hl8 := lvN_le h.n2
  have HV := leaves_any n h.n2 w
  have HM : Hid (∀ V, Below w.heap.size w V → BM V B g n b c W) := fun V hV => h.below hV
  clear h
  go_enter Tryd.func8, Tryd.ntmps8
  go_wp2_with fail
  refine HS.mono ?_
  rintro e w1 ⟨rfl, rfl⟩
  go_wp2_with fail
  refine HV.mono ?_
  rintro e w2 ⟨rfl, rfl⟩
  go_wp2_with fail
  go_loopw [3, 8] (fun v t wr => Hid (∃ (k cap : Nat) (a : Option Addr), k ≤ lvN n ∧ t = .int .i64 (k : Int) ∧ v = .slice a k cap ∧ wr.ownsRow w2.heap.size 33 256 v k (byL (lvsF W) (k * 256)) ∧ Below w2.heap.size w2 wr)) (fun _ t _ => lvN n - (intOf t).toNat)
  case atStart => exact ⟨0, 0, none, by omega, rfl, rfl, World.ownsRow_nil _ _ _ _, Below.refl _ _⟩
  case round =>
    obtain ⟨k, cap, a, hk, rfl, rfl, hown, hb⟩ := Hid.out hrel
    clear hrel HS HV
    by_cases hlt : k < lvN n
    · have j1 : (k : Int) < (lvN n : Int) := by omega
      have HL := leaf_any wr (HM.out _ hb) k hlt
      unfold bkV at HL
      have HJ : Hid (k < lvN n ∧ lvN n ≤ 8) := ⟨hlt, hl8⟩
      go_wp2_with fail
      refine HL.mono ?_
      rintro e w3 ⟨rfl, hb3⟩
      have hown1 := kown_below hown hb3
      have hb1 : Below w2.heap.size w2 w3 := hb.trans (hb3.mono hb.size)
      have hb1s := hb1.size
      have HLC : Hid (byL (lvsF W) ((k + 1) * 256) = byL (lvsF W) (k * 256) ++ (va 256 (iv .u8 (lfF W k 16))).toList) := lvs_cells W k
      have HOWN : Hid ((w3.alloc (.cells (va 256 (iv .u8 (lfF W k 16))) 33)).ownsRow w2.heap.size 33 256 (.slice a k cap) k (byL (lvsF W) (k * 256))) := hown1.alloc _
      have HNEW : Hid (∀ j u, (va 256 (iv .u8 (lfF W k 16))).toList[j]? = some u → (w3.alloc (.cells (va 256 (iv .u8 (lfF W k 16))) 33)).cell? ((⟨w3.heap.size, 0, none⟩ : Addr).add j) = some u) := cells_new w3 _ _
      have HMEM : Hid (∀ u ∈ (va 256 (iv .u8 (lfF W k 16))).toList, u.oneCell' = true) := kva_mem_one 256 (lfF W k 16)
      have HLEN : Hid ((va 256 (iv .u8 (lfF W k 16))).toList.length = 1 * 256) := by
        show _ = _
        rw [va_toList]
        simp
      have HV2 := hown1.lt
      clear hown1 hown hb hb3 HL HM
      go_wp2_with (first
        | (refine wpList_build1 (by rfl) 28 33 _ (by rfl) (va 256 (iv .u8 (lfF W k 16))) (by rfl) i0 _ 256 Tryd.underlying28 hi hz0 hz1 (va_size _ _) (by decide) (by decide) ?_; simp only [Act.put, List.setIfInBounds_toArray, List.set_cons_zero, List.set_cons_succ])
        | (at_builtin; refine wpList_append_own _ rfl _ _ 28 rfl w2.heap.size 33 i0 (.agg (va 256 (iv .u8 fun _ => 0))) 256 256 Tryd.underlying28 hi hz0 hz1 hz2 (va_size _ _) (by decide) _ _ _ rfl HOWN.out ⟨w3.heap.size, 0, none⟩ 1 1 (va 256 (iv .u8 (lfF W k 16))).toList rfl HLEN.out HNEW.out HMEM.out (by unfold maxLen; omega) (by omega) (by simp; omega) ?_)
        | go_in)
      intro v' w4 hown' hgrow _
      have hb2 : Below w2.heap.size w2 w4 := (hb1.alloc hb1s _).grown hgrow (by simp; omega) (fun k hk => (HV2 k hk).1)
      rw [← HLC.out] at hown'
      obtain ⟨g3, cap3, rfl, hg3, hg3'⟩ := kown_form hown' (Nat.succ_pos k)
      have HE : Hid (_ ∧ _) := ⟨hown', hb2⟩
      clear HOWN HNEW HMEM HLEN HV2 hgrow hb1 hown' hb2
      go_wp2_with fail
      go_roundw
      case rel => exact ⟨k + 1, cap3, _, HJ.out.1, by first | rfl | go_num | simp, rfl, HE.out.1, HE.out.2⟩
      case measure => simp [intOf]; have := HJ.out; omega
    · obtain rfl : k = lvN n := by omega
      have j1 : ¬ ((lvN n : Int) < (lvN n : Int)) := by omega
      have HE : Hid (_ ∧ _) := ⟨hown, hb⟩
      clear hown hb HM
      go_wp2_with fail
      go_ret
      exact ⟨_, rfl, HE.out.1, HE.out.2⟩
/-- a leaf's byte -/
theorem lf_byte (W : Nat → Nat) (k : Nat) : ∀ i, i ≤ 16 → ∀ j, lfF W k i j = if 128 ≤ j ∧ j < 128 + 8 * i then dig (W (16 * k + (j - 128) / 8)) ((j - 128) % 8) else lfF W k 0 j
  | 0, _, j => by rw [if_neg (by omega)]
  | i + 1, hi, j => by
    show putAt (lfF W k i) (128 + 8 * i) 8 (tbyte (strN (dig (W (16 * k + i))) 8)) j = _
    unfold putAt
    by_cases h : 128 + 8 * i ≤ j ∧ j < 128 + 8 * i + 8
    · rw [if_pos h, if_pos (by omega), strN_at _ _ _ (by omega) (dig_lt _ _), show (j - 128) / 8 = i by omega, show (j - 128) % 8 = j - (128 + 8 * i) by omega]
    · rw [if_neg h, lf_byte W k i (by omega) j]
      by_cases h2 : 128 ≤ j ∧ j < 128 + 8 * i
      · rw [if_pos h2, if_pos (by omega)]
      · rw [if_neg h2, if_neg (by omega)]
end
end Go.Proofs.YtjbmhocmpgkmoaaDoor

namespace Go.Proofs.YtjbmhocmpgkmoaaDoor
set_option maxRecDepth 20000
open Go Go.RowKit
set_option linter.unusedVariables false
set_option linter.unusedSimpArgs false
/-- eight bits as a byte -/
def by8 (g : Nat → Bool) : Nat := (g 0).toNat + (g 1).toNat * 2 + (g 2).toNat * 4 + (g 3).toNat * 8 + (g 4).toNat * 16 + (g 5).toNat * 32 + (g 6).toNat * 64 + (g 7).toNat * 128
theorem by8_lt (g : Nat → Bool) : by8 g < 256 := by
  have h : ∀ b : Bool, b.toNat ≤ 1 := fun b => by cases b <;> decide
  have := h (g 0); have := h (g 1); have := h (g 2); have := h (g 3); have := h (g 4); have := h (g 5); have := h (g 6); have := h (g 7)
  unfold by8
  omega
theorem by8_congr {g h : Nat → Bool} (e : ∀ i, i < 8 → g i = h i) : by8 g = by8 h := by
  unfold by8
  rw [e 0 (by decide), e 1 (by decide), e 2 (by decide), e 3 (by decide), e 4 (by decide), e 5 (by decide), e 6 (by decide), e 7 (by decide)]
/-- one bit more -/
theorem or8 : ∀ b0 b1 b2 b3 b4 b5 b6 b7 : Bool, ∀ i, i < 8 → ([b0, b1, b2, b3, b4, b5, b6, b7].getD i false = false) →
    (b0.toNat + b1.toNat * 2 + b2.toNat * 4 + b3.toNat * 8 + b4.toNat * 16 + b5.toNat * 32 + b6.toNat * 64 + b7.toNat * 128) ||| 2 ^ i = (b0.toNat + b1.toNat * 2 + b2.toNat * 4 + b3.toNat * 8 + b4.toNat * 16 + b5.toNat * 32 + b6.toNat * 64 + b7.toNat * 128) + 2 ^ i := by decide
theorem by8_or (g : Nat → Bool) (i : Nat) (hi : i < 8) (hg : g i = false) : by8 g ||| 2 ^ i = by8 fun j => if j = i then true else g j := by
  have h := or8 (g 0) (g 1) (g 2) (g 3) (g 4) (g 5) (g 6) (g 7) i hi (by
    match i, hi with
    | 0, _ => exact hg
    | 1, _ => exact hg
    | 2, _ => exact hg
    | 3, _ => exact hg
    | 4, _ => exact hg
    | 5, _ => exact hg
    | 6, _ => exact hg
    | 7, _ => exact hg)
  show (_ : Nat) ||| 2 ^ i = _
  unfold by8
  rw [h]
  match i, hi with
  | 0, _ => rw [hg]; simp <;> omega
  | 1, _ => rw [hg]; simp <;> omega
  | 2, _ => rw [hg]; simp <;> omega
  | 3, _ => rw [hg]; simp <;> omega
  | 4, _ => rw [hg]; simp <;> omega
  | 5, _ => rw [hg]; simp <;> omega
  | 6, _ => rw [hg]; simp <;> omega
  | 7, _ => rw [hg]; simp <;> omega
/-- the head of a leaf: four letters, its number -/
def hdB (k j : Nat) : Nat := if j < 4 then tbyte bitsT j else if j < 8 then dig k (j - 4) else 0
/-- the document's leaf k, its first m bits laid -/
def rlF (F : Nat → Bool) (n k m j : Nat) : Nat := if 128 ≤ j ∧ j < 256 then by8 (fun i => decide (8 * (j - 128) + i < m) && (decide (1024 * k + 8 * (j - 128) + i < n) && F (1024 * k + 8 * (j - 128) + i))) else hdB k j
theorem rlF_zero (F : Nat → Bool) (n k j : Nat) : rlF F n k 0 j = hdB k j := by
  unfold rlF
  split
  · rw [by8_congr (h := fun _ => false) fun i _ => by simp]
    unfold hdB
    rw [if_neg (by omega), if_neg (by omega)]
    rfl
  · rfl
theorem rlF_skip (F : Nat → Bool) (n k m j : Nat) (h : F (1024 * k + m) = false ∨ n ≤ 1024 * k + m) : rlF F n k (m + 1) j = rlF F n k m j := by
  unfold rlF
  split
  · refine by8_congr fun i hi => ?_
    by_cases e : 8 * (j - 128) + i = m
    · have e2 : 1024 * k + 8 * (j - 128) + i = 1024 * k + m := by omega
      rw [e2]
      rcases h with h | h
      · rw [h]; simp
      · rw [decide_eq_false (show ¬ 1024 * k + m < n by omega)]; simp
    · have : decide (8 * (j - 128) + i < m + 1) = decide (8 * (j - 128) + i < m) := by
        rw [decide_eq_decide]; omega
      rw [this]
  · rfl
theorem rlF_bit (F : Nat → Bool) (n k m : Nat) (hm : m < 1024) (hn : 1024 * k + m < n) (h : F (1024 * k + m) = true) : rlF F n k m (128 + m / 8) ||| 2 ^ (m % 8) = rlF F n k (m + 1) (128 + m / 8) := by
  unfold rlF
  rw [if_pos (by omega), if_pos (by omega), by8_or _ (m % 8) (Nat.mod_lt _ (by decide)) (by rw [decide_eq_false (by omega)]; rfl)]
  refine by8_congr fun i hi => ?_
  by_cases e : i = m % 8
  · rw [if_pos e]
    have e2 : 1024 * k + 8 * (128 + m / 8 - 128) + i = 1024 * k + m := by omega
    rw [e2, h, decide_eq_true hn, decide_eq_true (by omega)]
    rfl
  · rw [if_neg e]
    have : decide (8 * (128 + m / 8 - 128) + i < m + 1) = decide (8 * (128 + m / 8 - 128) + i < m) := by
      rw [decide_eq_decide]; omega
    rw [this]
theorem rlF_other (F : Nat → Bool) (n k m j : Nat) (hm : m < 1024) (hj : j ≠ 128 + m / 8) : rlF F n k (m + 1) j = rlF F n k m j := by
  unfold rlF
  split
  · refine by8_congr fun i hi => ?_
    have : decide (8 * (j - 128) + i < m + 1) = decide (8 * (j - 128) + i < m) := by
      rw [decide_eq_decide]; omega
    rw [this]
  · rfl
def rlA (F : Nat → Bool) (n x : Nat) : Nat := rlF F n (x / 256) 1024 (x % 256)
theorem rlA_cells (F : Nat → Bool) (n k : Nat) : byL (rlA F n) ((k + 1) * 256) = byL (rlA F n) (k * 256) ++ (va 256 (iv .u8 (rlF F n k 1024))).toList := by
  rw [Nat.succ_mul, byL_add, va_toList]
  refine congrArg (fun l => byL (rlA F n) (k * 256) ++ l) ?_
  unfold byL
  refine List.map_congr_left fun j hj => ?_
  have hj' : j < 256 := List.mem_range.1 hj
  show Value.int .u8 ((rlF F n ((k * 256 + j) / 256) 1024 ((k * 256 + j) % 256) : Nat) : Int) = Value.int .u8 ((rlF F n k 1024 j : Nat) : Int)
  rw [show (k * 256 + j) / 256 = k by omega, show (k * 256 + j) % 256 = j by omega]
theorem infoRb : (Tryd.prog.info? 32).map (fun i => (i.zero, i.size, i.bytes)) = some (some (.agg (va 256 (iv .u8 fun _ => 0))), 256, 256) := by kernel_rfl
theorem sizeRb : (Tryd.prog.info? 32).map (·.size) = some 256 := by kernel_rfl
theorem zero_rb (w : World) : (zeroValue 32).run Tryd.prog w = .ok (.agg (va 256 (iv .u8 fun _ => 0))) w := by
  have h : (Tryd.prog.info? 32).map (·.zero) = some (some (.agg (va 256 (iv .u8 fun _ => 0)))) := by kernel_rfl
  cases hq : Tryd.prog.info? 32 with
  | none => simp [hq] at h
  | some i =>
    have hz : i.zero = some (.agg (va 256 (iv .u8 fun _ => 0))) := by simpa [hq] using h
    simp [zeroValue, typeInfo, hq, hz]
def hd0 (j : Nat) : Nat := if j = 0 then 98 else if j = 1 then 105 else if j = 2 then 116 else if j = 3 then 115 else 0
theorem built_hd : Tryd.prog.built 32 [(0, .int .u8 98), (1, .int .u8 105), (2, .int .u8 116), (3, .int .u8 115)] = some (va 256 (iv .u8 hd0)) := by kernel_rfl
theorem wpList_build4c {P : Program} {ops : Array Oper} {rest : List Oper} {o : Oper} {a : Act} {w : World} {Q : Exit → Act → World → Prop} (hg : o.guard = none) (t : TypeId) (x0 x1 x2 x3 : Operand) (ho : o.op = .build t #[(0, x0), (1, x1), (2, x2), (3, x3)]) (v0 v1 v2 v3 : Value) (h0 : a.eval x0 = v0) (h1 : a.eval x1 = v1) (h2 : a.eval x2 = v2) (h3 : a.eval x3 = v3)
    (cells : Array Value) (hf : P.built t [(0, v0), (1, v1), (2, v2), (3, v3)] = some cells) (h : wpList P ops Q rest (a.put o.dst (.agg cells)) w) : wpList P ops Q (o :: rest) a w := by
  refine wpList_buildTo hg t _ ho o.dst rfl cells ?_ h
  have e : (Array.map (fun (x : Nat × Operand) => match x with | (i, x) => (i, a.eval x)) #[(0, x0), (1, x1), (2, x2), (3, x3)]).toList = [(0, v0), (1, v1), (2, v2), (3, v3)] := by simp [h0, h1, h2, h3]
  rw [e]
  exact hf
end Go.Proofs.YtjbmhocmpgkmoaaDoor
