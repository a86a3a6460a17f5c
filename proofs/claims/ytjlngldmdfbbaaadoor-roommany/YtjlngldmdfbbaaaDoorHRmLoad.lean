/- Rooms of map leaves: Load, Leaves; the law's blocks. -/
import Derived.Test.YtjlngldmdfbbaaaDoorHRmRef
import Derived.Handy
import Derived.Test.YtjlngldmdfbbaaaDoorHEqState
import Derived.Laws.BytesArg
import Derived.Test.YtjlngldmdfbbaaaDoorHBlkCut
import Derived.Deep.RegionLaw
import Derived.Laws.CopyOwn
import Derived.Test.YtjlngldmdfbbaaaDoorHBiSeek
import Derived.Test.YtjlngldmdfbbaaaDoorHSegsP

namespace Go.Proofs.YtjlngldmdfbbaaaDoor
open Go Go.RowKit
set_option linter.unusedVariables false
set_option linter.unusedSimpArgs false
def slLen : Value → Nat
  | .slice _ n _ => n
  | _ => 0
def freshS (p : Nat) : Int := if p = 0 then 0 else 1
theorem newS_put (A : Nat → Nat) (j : Nat) (hz : A j ≠ 0) : (fun q => if q = A j then (2 : Int) else newS A j q) = newS A (j + 1) := by
  funext q
  unfold newS
  by_cases h : q = A j
  · subst h
    rw [if_pos rfl, if_neg hz]
    show (2 : Int) = if (if A j = A j then true else memA A j (A j)) = true then 2 else 1
    rw [if_pos rfl]
    rfl
  · rw [if_neg h]
    by_cases h0 : q = 0
    · rw [if_pos h0, if_pos h0]
    · rw [if_neg h0, if_neg h0]
      show (if memA A j q = true then (2 : Int) else 1) = if (if q = A j then true else memA A j q) = true then 2 else 1
      rw [if_neg h]
section
variable {n : Nat}
set_option maxRecDepth 100000 in
set_option maxHeartbeats 4000000 in
theorem rref_any (h1 : 16 ≤ n) (h2 : n ≤ 8192) (a : Option Addr) (N cc : Nat) (hN : N ≤ 9223372036854775807) (A : Nat → Nat) (w : World) (hD : IsU32s w a N A) : Calls Tryd.prog 5 #[.int .i64 (n : Int), .slice a N cc] w fun e w' =>
    ((∃ k c, e = .returned (.tuple #[.slice (some ⟨k, 0, none⟩) n c, .int .i64 0, .int .i64 0]) ∧ GoodA A n N ∧ SA w' w.heap.size k n c (newS A N)) ∨
    (∃ m : Nat, m < N ∧ e = .returned (.tuple #[.slice none 0 0, .int .i64 (m : Int), .int .i64 121]) ∧ GoodA A n m ∧ ¬ OkAt A n m)) ∧ Below w.heap.size w w' := by
  obtain ⟨i0, hi, hz0, hz1, hz2⟩ := info_parts infoInt
  have i1 : ¬ ((n : Int) < 16) := by omega
  have i2 : ¬ ((8192 : Int) < (n : Int)) := by omega
  have HD : Hid (∀ V : World, Below w.heap.size w V → IsU32s V a N A) := fun V hV => hD.below hV
  have hb0 : Below w.heap.size w (w.alloc (.cells #[.int .i64 0] 3)) := below_new1 _ _
  have HO0 : Hid ((w.alloc (.cells #[.int .i64 0] 3)).ownsRow w.heap.size 3 1 (.slice (some ⟨w.heap.size, 0, none⟩) 1 1) 1 (stL freshS 1)) := ⟨rfl, .inr ⟨w.heap.size, 1, #[.int .i64 0], rfl, Nat.le_refl _, World.alloc_heap_new w _, by decide, by decide, rfl, rfl⟩⟩
  clear hD
  go_enter Tryd.func5, Tryd.ntmps5
  go_wp2_with fail
  generalize w.alloc (.cells #[.int .i64 0] 3) = w1 at *
  go_loopw [7] (fun v wr => Hid (∃ (k cap g : Nat), 1 ≤ k ∧ k ≤ n ∧ v = .slice (some ⟨g, 0, none⟩) k cap ∧ wr.ownsRow w.heap.size 3 1 v k (stL freshS k) ∧ Below w.heap.size w wr)) (fun v _ => n - slLen v)
  case atStart => exact ⟨1, 1, w.heap.size, by omega, by omega, rfl, HO0.out, hb0⟩
  case round =>
    obtain ⟨k, cap, g, hk1, hk, rfl, hown, hb⟩ := Hid.out hrel
    clear hrel HO0 hb0
    by_cases hlt : k < n
    · have j1 : (k : Int) < (n : Int) := by omega
      have hsz := hb.size
      have HOWN : Hid ((wr.alloc (.cells #[.int .i64 1] 3)).ownsRow w.heap.size 3 1 (.slice (some ⟨g, 0, none⟩) k cap) k (stL freshS k)) := hown.alloc _
      have HV2 := (hown.alloc (.cells #[.int .i64 1] 3)).lt
      have HJ : Hid (1 ≤ k ∧ k < n ∧ n ≤ 8192) := ⟨hk1, hlt, h2⟩
      have hml : k + 1 ≤ maxLen := Nat.le_trans (Nat.le_trans (Nat.succ_le_of_lt hlt) h2) (by decide)
      have hbA : Below w.heap.size w (wr.alloc (.cells #[.int .i64 1] 3)) := hb.alloc hsz _
      clear hown hb HD
      go_wp2_with (first
        | (at_builtin; refine wpList_append_own _ rfl _ _ 29 rfl w.heap.size 3 i0 (.int .i64 0) 1 8 Tryd.underlying29 hi hz0 hz1 hz2 rfl (by decide) _ _ _ rfl HOWN.out ⟨wr.heap.size, 0, none⟩ 1 1 [.int .i64 1] rfl rfl (cell_one_new _ _ _) (by simp [Value.oneCell']) hml (by omega) (by simp; omega) ?_)
        | go_in)
      intro v' w2 hown' hgrow _
      have hb2 : Below w.heap.size w w2 := hbA.grown hgrow (by simp; omega) (fun q hq => (HV2 q hq).1)
      have hst : stL freshS k ++ [Value.int .i64 1] = stL freshS (k + 1) := by
        rw [stL_snoc]
        have : freshS k = 1 := by unfold freshS; rw [if_neg (by have := HJ.out; omega)]
        rw [this]
      rw [hst] at hown'
      obtain ⟨g3, cap3, rfl, hg3, hg3'⟩ := kown_form hown' (Nat.succ_pos k)
      have HE : Hid (_ ∧ _) := ⟨hown', hb2⟩
      clear HOWN HV2 hgrow hbA hown' hb2 hst
      go_wp2_with fail
      go_roundw
      case rel => exact ⟨k + 1, cap3, g3, by omega, HJ.out.2.1, rfl, HE.out.1, HE.out.2⟩
      case measure => simp [slLen]; have := HJ.out; omega
    · obtain rfl : k = n := by omega
      have j1 : ¬ ((k : Int) < (k : Int)) := by omega
      have HE : Hid (SA wr w.heap.size g k cap (newS A 0) ∧ Below w.heap.size w wr) := ⟨⟨h2, hown⟩, hb⟩
      clear hown hb
      go_wp2_with fail
      have HW : Hid (w.heap.size ≤ w.heap.size) := Nat.le_refl _
      go_loopw [26] (fun t wq => Hid (∃ j : Nat, j ≤ N ∧ t = .int .i64 (j : Int) ∧ GoodA A k j ∧ SA wq w.heap.size g k cap (newS A j) ∧ Below w.heap.size w wq)) (fun t _ => N - (intOf t).toNat)
      case atStart => exact ⟨0, by omega, rfl, fun i hi => by omega, HE.out.1, HE.out.2⟩
      case round =>
        obtain ⟨j, hj, rfl, hal, hS, hb⟩ := Hid.out hrel
        clear hrel HE
        by_cases hlt2 : j < N
        · obtain ⟨hau, ab, ao, rfl, hab, cw⟩ := HD.out wr hb j hlt2
          have j0 : (0 : Int) ≤ (j : Int) := by omega
          have j1 : (j : Int) < (N : Int) := by omega
          have HJ : Hid (j < N ∧ N ≤ 9223372036854775807) := ⟨hlt2, hN⟩
          by_cases hz : A j = 0
          · rw [hz] at cw
            have HBAD : Hid (¬ OkAt A k j) := fun h => h.1 hz
            have HF : Hid (_ ∧ _) := ⟨hal, hb⟩
            clear hS hal hb HD
            go_wp2_with fail
            go_ret3
            exact ⟨.inr ⟨j, HJ.out.1, rfl, HF.out.1, HBAD.out⟩, HF.out.2⟩
          · have hzi : ¬ ((A j : Int) = 0) := by omega
            by_cases hge : k ≤ A j
            · have hgi : (k : Int) ≤ (A j : Int) := by omega
              have HBAD : Hid (¬ OkAt A k j) := fun h => by have := h.2.1; omega
              have HF : Hid (_ ∧ _) := ⟨hal, hb⟩
              clear hS hal hb HD
              generalize A j = x at cw hzi hgi hau
              go_wp2_with fail
              go_ret3
              exact ⟨.inr ⟨j, HJ.out.1, rfl, HF.out.1, HBAD.out⟩, HF.out.2⟩
            · have hgi : ¬ ((k : Int) ≤ (A j : Int)) := by omega
              have hgl : (A j : Int) < (k : Int) := by omega
              have cs := hS.at (i := A j) (by omega)
              have fs := hS.frozen (A j)
              cases hm : memA A j (A j) with
              | true =>
                have hv : newS A j (A j) = 2 := by unfold newS; rw [if_neg hz, if_pos hm]
                rw [hv] at cs
                have HBAD : Hid (¬ OkAt A k j) := fun h => by have := h.2.2; rw [hm] at this; cases this
                have HF : Hid (_ ∧ _) := ⟨hal, hb⟩
                clear hS hal hb HD fs hv
                generalize A j = x at cw hzi hgi hau cs hgl
                go_wp2_with fail
                go_ret3
                exact ⟨.inr ⟨j, HJ.out.1, rfl, HF.out.1, HBAD.out⟩, HF.out.2⟩
              | false =>
                have hv : newS A j (A j) = 1 := by unfold newS; rw [if_neg hz, if_neg (by rw [hm]; decide)]
                rw [hv] at cs
                have HF : Hid (GoodA A k (j + 1) ∧ SA (wr.setCell ⟨g, A j, none⟩ (.int .i64 2)) w.heap.size g k cap (newS A (j + 1)) ∧ Below w.heap.size w (wr.setCell ⟨g, A j, none⟩ (.int .i64 2))) := ⟨hal.succ ⟨hz, by omega, hm⟩, by rw [← newS_put A j hz]; exact hS.put (A j) 2, hb.setCell (p := ⟨g, A j, none⟩) hS.lt.1 _⟩
                clear hS hal hb HD hv hm
                generalize A j = x at cw hzi hgi hau cs fs hgl HF
                go_wp2_with fail
                generalize wr.setCell ⟨g, x, none⟩ (.int .i64 2) = w5 at *
                go_roundw
                case rel => exact ⟨j + 1, HJ.out.1, by first | rfl | go_num | simp, HF.out.1, HF.out.2.1, HF.out.2.2⟩
                case measure => simp [intOf]; have := HJ.out; omega
        · obtain rfl : j = N := by omega
          have j1 : ¬ ((j : Int) < (j : Int)) := by omega
          have HF : Hid (_ ∧ _ ∧ _) := ⟨hal, hS, hb⟩
          clear hS hal hb HD
          go_wp2_with fail
          go_ret3
          exact ⟨.inl ⟨g, cap, rfl, HF.out.1, HF.out.2.1⟩, HF.out.2.2⟩
end
end Go.Proofs.YtjlngldmdfbbaaaDoor

namespace Go.Proofs.YtjlngldmdfbbaaaDoor

def dig (x i : Nat) : Nat := x / 256 ^ i % 256
def St.of (f : Nat → Nat) : St := ⟨f 0, f 1, f 2, f 3, f 4, f 5, f 6, f 7, f 8, f 9, f 10, f 11, f 12, f 13, f 14, f 15⟩
theorem St.of_ok (f : Nat → Nat) (h : ∀ i, i < 16 → f i < 4294967296) : (St.of f).ok :=
  ⟨h 0 (by decide), h 1 (by decide), h 2 (by decide), h 3 (by decide), h 4 (by decide), h 5 (by decide), h 6 (by decide), h 7 (by decide), h 8 (by decide), h 9 (by decide), h 10 (by decide), h 11 (by decide), h 12 (by decide), h 13 (by decide), h 14 (by decide), h 15 (by decide)⟩
end Go.Proofs.YtjlngldmdfbbaaaDoor

namespace Go.Proofs.YtjlngldmdfbbaaaDoor
open Go.RowKit

set_option maxHeartbeats 1000000 in
theorem bytes32_any (x : Nat) (w : World) :
    Calls Tryd.prog 71 #[.int .u32 (x : Int)] w fun e w' => e = .returned (.agg #[.int .u8 ((x % 256 : Nat) : Int), .int .u8 ((x / 256 % 256 : Nat) : Int), .int .u8 ((x / 65536 % 256 : Nat) : Int), .int .u8 ((x / 16777216 % 256 : Nat) : Int)]) ∧ Below w.heap.size w w' := by
  go_enter Tryd.func71, Tryd.ntmps71
  go_wp2
  go_rounds 5
  go_returns
  refine ⟨by simp, ?_⟩
  go_grown

set_option maxHeartbeats 1000000 in
theorem bytes64_any (x : Nat) (w : World) :
    Calls Tryd.prog 72 #[.int .u64 (x : Int)] w fun e w' => e = .returned (.agg #[.int .u8 ((x % 256 : Nat) : Int), .int .u8 ((x / 256 % 256 : Nat) : Int), .int .u8 ((x / 65536 % 256 : Nat) : Int), .int .u8 ((x / 16777216 % 256 : Nat) : Int), .int .u8 ((x / 4294967296 % 256 : Nat) : Int), .int .u8 ((x / 1099511627776 % 256 : Nat) : Int), .int .u8 ((x / 281474976710656 % 256 : Nat) : Int), .int .u8 ((x / 72057594037927936 % 256 : Nat) : Int)]) ∧ Below w.heap.size w w' := by
  go_enter Tryd.func72, Tryd.ntmps72
  go_wp2
  go_rounds 9
  go_returns
  refine ⟨by simp, ?_⟩
  go_grown

theorem va4 (f : Nat → Value) : va 4 f = #[f 0, f 1, f 2, f 3] := rfl
theorem va8 (f : Nat → Value) : va 8 f = #[f 0, f 1, f 2, f 3, f 4, f 5, f 6, f 7] := rfl
theorem bytes32_va (x : Nat) (w : World) :
    Calls Tryd.prog 71 #[.int .u32 (x : Int)] w fun e w' => e = .returned (.agg (va 4 (iv .u8 (dig x)))) ∧ Below w.heap.size w w' := by
  refine (bytes32_any x w).mono ?_
  rintro e w' ⟨rfl, hb⟩
  refine ⟨?_, hb⟩
  simp [va4, iv, dig]
theorem bytes64_va (x : Nat) (w : World) :
    Calls Tryd.prog 72 #[.int .u64 (x : Int)] w fun e w' => e = .returned (.agg (va 8 (iv .u8 (dig x)))) ∧ Below w.heap.size w w' := by
  refine (bytes64_any x w).mono ?_
  rintro e w' ⟨rfl, hb⟩
  refine ⟨?_, hb⟩
  simp [va8, iv, dig]
end Go.Proofs.YtjlngldmdfbbaaaDoor

namespace Go.Proofs.YtjlngldmdfbbaaaDoor
open Go.RowKit
set_option linter.unusedSimpArgs false
set_option linter.unusedVariables false

theorem va_mem_one (n : Nat) (f : Nat → Nat) : ∀ v ∈ (va n (iv .u8 f)).toList, v.oneCell' = true := fun v hv => by
  rw [va_toList] at hv
  obtain ⟨i, _, rfl⟩ := List.mem_map.1 hv
  rfl
theorem ksize4 : (Tryd.prog.info? 104).map (·.size) = some 4 := by kernel_rfl
theorem ksize8 : (Tryd.prog.info? 107).map (·.size) = some 8 := by kernel_rfl
set_option maxRecDepth 100000 in
set_option maxHeartbeats 4000000 in
theorem lay32_by (f : Nat → Nat) (a : Int) (x : Nat) (F : Nat → Nat) (y : Int)
    (hL0 : ∀ w : World, Calls Tryd.prog 70 #[bkV f, .int .i64 a, .string (strN (dig x) 4)] w fun e w' => e = .returned (.tuple #[bkV F, .int .i64 y]) ∧ Below w.heap.size w w') (w : World) :
    Calls Tryd.prog 67 #[bkV f, .int .i64 a, .int .u32 (x : Int)] w fun e w' => e = .returned (.tuple #[bkV F, .int .i64 y]) ∧ Below w.heap.size w w' := by
  have hL : Hid (∀ w : World, Calls Tryd.prog 70 #[bkV f, .int .i64 a, .string (strN (dig x) 4)] w fun e w' => e = .returned (.tuple #[bkV F, .int .i64 y]) ∧ Below w.heap.size w w') := hL0
  have hB : Hid (∀ w : World, Calls Tryd.prog 71 #[.int .u32 (x : Int)] w fun e w' => e = .returned (.agg (va 4 (iv .u8 (dig x)))) ∧ Below w.heap.size w w') := fun w => bytes32_va x w
  clear hL0
  unfold bkV at *
  have hz := zero_bk
  have b0 : Blk ((w.alloc (Obj.cells (va 256 (iv IntKind.u8 f)) 89)).alloc (Obj.cells (va 256 (iv IntKind.u8 fun x => 0)) 89)) w.heap.size 89 (va 256 (iv .u8 f)) := (Blk.new _ _ _).alloc _
  have b1 := Blk.new1 w (Obj.cells (va 256 (iv IntKind.u8 f)) 89) 89 (va 256 (iv IntKind.u8 fun x => 0))
  have hb := below_new2 w (Obj.cells (va 256 (iv IntKind.u8 f)) 89) (Obj.cells (va 256 (iv IntKind.u8 fun x => 0)) 89)
  go_enter Tryd.func67, Tryd.ntmps67
  go_wp2_with fail
  generalize (w.alloc (Obj.cells (va 256 (iv IntKind.u8 f)) 89)).alloc (Obj.cells (va 256 (iv IntKind.u8 fun x => 0)) 89) = W at *
  refine (hB.out _).mono ?_
  rintro e w1 ⟨rfl, hb1⟩
  have l1 : w.heap.size + 1 < w1.heap.size := Nat.lt_of_lt_of_le b1.lt hb1.size
  have n0 : Blk (w1.alloc (.cells #[.int .u8 0, .int .u8 0, .int .u8 0, .int .u8 0] 104)) w1.heap.size 104 (va 4 (iv .u8 fun _ => 0)) := Blk.new _ _ _
  have c0 := ((b0.below hb1 b0.lt).alloc (.cells #[.int .u8 0, .int .u8 0, .int .u8 0, .int .u8 0] 104)).other (g := w1.heap.size) (va 4 (iv .u8 (dig x))) (by omega)
  have c1 := ((b1.below hb1 b1.lt).alloc (.cells #[.int .u8 0, .int .u8 0, .int .u8 0, .int .u8 0] 104)).other (g := w1.heap.size) (va 4 (iv .u8 (dig x))) (by omega)
  have n1 := n0.set (va 4 (iv .u8 (dig x)))
  have hb2 : Below w.heap.size w ((w1.alloc (.cells #[.int .u8 0, .int .u8 0, .int .u8 0, .int .u8 0] 104)).setRow w1.heap.size (va 4 (iv .u8 (dig x)))) := below_setRow ((hb.trans (hb1.mono hb.size)).alloc (by omega) _) (by omega) _
  clear b0 b1 hb hb1 hB hz
  go_wp2_with (first
    | (refine wpList_store_row (by rfl) 104 _ _ (by rfl) (w1.heap.size) (va 4 (iv .u8 (dig x))) (by rfl) (by rfl) 104 _ n0 (ksize4.trans (by rw [va_size])) (by simp only [va_size]) (iv_one _ _ _) ?_; simp only [Act.put, List.setIfInBounds_toArray, List.set_cons_zero, List.set_cons_succ])
    | fail)
  clear n0
  generalize (w1.alloc (.cells #[.int .u8 0, .int .u8 0, .int .u8 0, .int .u8 0] 104)).setRow w1.heap.size (va 4 (iv .u8 (dig x))) = w2 at *
  have hc := run_bytes_text (P := Tryd.prog) w2.drew 106 5 9 Tryd.underlying106 Tryd.underlying5 Tryd.underlying9 (n1.drew) 0 4 4 (by omega)
  rw [strN_congr (f := fun j => dig x (0 + j)) (g := dig x) fun j _ => by rw [Nat.zero_add]] at hc
  generalize strN (dig x) 4 = S at *
  refine wp_region_partsI [] [([1], 0, true), ([], 2, false), ([], 3, false), ([], 4, false), ([5, 6], 7, false)] [8] [] (w.heap.size + 1) (by kernel_rfl) (by kernel_rfl) (fun _ hx => nomatch hx) (partsI_yield ?_)
  simp only [List.cons_append, List.nil_append, List.append_nil, List.filterMap_cons, List.filterMap_nil, List.getElem?_toArray, List.getElem?_cons_zero, List.getElem?_cons_succ]
  have hS : Below (w.heap.size + 1) w2 w2.drew := (Below.refl _ _).drew
  go_wp2_with fail
  refine ⟨rfl, _, .agg (va 256 (iv .u8 f)), rfl, kyields_load (by rfl) 89 _ (by rfl) (w.heap.size) 256 (iv .u8 f) (by rfl) _ 89 (fun W hW => c0.below hW (Nat.lt_succ_self _)) Tryd.underlying89 rfl sizeBk, partsI_force ?_⟩
  simp only [Act.put, List.setIfInBounds_toArray, List.set_cons_zero, List.set_cons_succ]
  simp only [List.cons_append, List.nil_append, List.append_nil, List.filterMap_cons, List.filterMap_nil, List.getElem?_toArray, List.getElem?_cons_zero, List.getElem?_cons_succ]
  go_wp2_with fail
  refine ⟨rfl, hS, partsI_force ?_⟩
  simp only [List.cons_append, List.nil_append, List.append_nil, List.filterMap_cons, List.filterMap_nil, List.getElem?_toArray, List.getElem?_cons_zero, List.getElem?_cons_succ]
  go_wp2_with fail
  refine ⟨rfl, hS, partsI_force ?_⟩
  simp only [List.cons_append, List.nil_append, List.append_nil, List.filterMap_cons, List.filterMap_nil, List.getElem?_toArray, List.getElem?_cons_zero, List.getElem?_cons_succ]
  go_wp2_with fail
  refine (hL.out _).mono ?_
  rintro e w3 ⟨rfl, hb3⟩
  have hS3 : Below (w.heap.size + 1) w2 w3 := hS.trans (hb3.mono (Nat.le_of_lt c1.lt))
  have c3 := c1.drew.below hb3 c1.lt
  clear hS hb3 hL
  have hS := hS3
  clear hS3
  have hb4 : Below w.heap.size w w3 := hb2.trans (hS.mono (Nat.le_succ _))
  go_wp2_with fail
  refine ⟨rfl, hS, partsI_force ?_⟩
  simp only [List.cons_append, List.nil_append, List.append_nil, List.filterMap_cons, List.filterMap_nil, List.getElem?_toArray, List.getElem?_cons_zero, List.getElem?_cons_succ]
  have hst := Blk.store (P := Tryd.prog) c3 (va 256 (iv .u8 F)) (by simp only [va_size]) (va_mem_one _ _)
  have hvs := va_size 256 (iv .u8 F)
  go_wp2_with fail
  have hS4 := below_setRow hS (Nat.le_refl (w.heap.size + 1)) (va 256 (iv .u8 F))
  clear hS
  have hS := hS4
  clear hS4
  refine ⟨rfl, hS, partsI_last ?_⟩
  simp only [List.cons_append, List.nil_append, List.append_nil, List.filterMap_cons, List.filterMap_nil, List.getElem?_toArray, List.getElem?_cons_zero, List.getElem?_cons_succ]
  go_wp2_with fail
  refine ⟨rfl, ?_⟩
  go_wp2_with fail
  try simp only [Exit.inBlock, Exit.then]
  refine bodyPost_ret (results_row2 Tryd.results67 _ _ (w.heap.size + 1) 89 (va 256 (iv .u8 F)) (0, 0) _ rfl (c3.set _) Tryd.underlying89 rfl (sizeBk.trans (by rw [va_size]))) rfl ?_
  exact ⟨rfl, below_setRow hb4 (Nat.le_succ _) _⟩

set_option maxRecDepth 100000 in
set_option maxHeartbeats 4000000 in
theorem lay64_by (f : Nat → Nat) (a : Int) (x : Nat) (F : Nat → Nat) (y : Int)
    (hL0 : ∀ w : World, Calls Tryd.prog 70 #[bkV f, .int .i64 a, .string (strN (dig x) 8)] w fun e w' => e = .returned (.tuple #[bkV F, .int .i64 y]) ∧ Below w.heap.size w w') (w : World) :
    Calls Tryd.prog 68 #[bkV f, .int .i64 a, .int .u64 (x : Int)] w fun e w' => e = .returned (.tuple #[bkV F, .int .i64 y]) ∧ Below w.heap.size w w' := by
  have hL : Hid (∀ w : World, Calls Tryd.prog 70 #[bkV f, .int .i64 a, .string (strN (dig x) 8)] w fun e w' => e = .returned (.tuple #[bkV F, .int .i64 y]) ∧ Below w.heap.size w w') := hL0
  have hB : Hid (∀ w : World, Calls Tryd.prog 72 #[.int .u64 (x : Int)] w fun e w' => e = .returned (.agg (va 8 (iv .u8 (dig x)))) ∧ Below w.heap.size w w') := fun w => bytes64_va x w
  clear hL0
  unfold bkV at *
  have hz := zero_bk
  have b0 : Blk ((w.alloc (Obj.cells (va 256 (iv IntKind.u8 f)) 89)).alloc (Obj.cells (va 256 (iv IntKind.u8 fun x => 0)) 89)) w.heap.size 89 (va 256 (iv .u8 f)) := (Blk.new _ _ _).alloc _
  have b1 := Blk.new1 w (Obj.cells (va 256 (iv IntKind.u8 f)) 89) 89 (va 256 (iv IntKind.u8 fun x => 0))
  have hb := below_new2 w (Obj.cells (va 256 (iv IntKind.u8 f)) 89) (Obj.cells (va 256 (iv IntKind.u8 fun x => 0)) 89)
  go_enter Tryd.func68, Tryd.ntmps68
  go_wp2_with fail
  generalize (w.alloc (Obj.cells (va 256 (iv IntKind.u8 f)) 89)).alloc (Obj.cells (va 256 (iv IntKind.u8 fun x => 0)) 89) = W at *
  refine (hB.out _).mono ?_
  rintro e w1 ⟨rfl, hb1⟩
  have l1 : w.heap.size + 1 < w1.heap.size := Nat.lt_of_lt_of_le b1.lt hb1.size
  have n0 : Blk (w1.alloc (.cells #[.int .u8 0, .int .u8 0, .int .u8 0, .int .u8 0, .int .u8 0, .int .u8 0, .int .u8 0, .int .u8 0] 107)) w1.heap.size 107 (va 8 (iv .u8 fun _ => 0)) := Blk.new _ _ _
  have c0 := ((b0.below hb1 b0.lt).alloc (.cells #[.int .u8 0, .int .u8 0, .int .u8 0, .int .u8 0, .int .u8 0, .int .u8 0, .int .u8 0, .int .u8 0] 107)).other (g := w1.heap.size) (va 8 (iv .u8 (dig x))) (by omega)
  have c1 := ((b1.below hb1 b1.lt).alloc (.cells #[.int .u8 0, .int .u8 0, .int .u8 0, .int .u8 0, .int .u8 0, .int .u8 0, .int .u8 0, .int .u8 0] 107)).other (g := w1.heap.size) (va 8 (iv .u8 (dig x))) (by omega)
  have n1 := n0.set (va 8 (iv .u8 (dig x)))
  have hb2 : Below w.heap.size w ((w1.alloc (.cells #[.int .u8 0, .int .u8 0, .int .u8 0, .int .u8 0, .int .u8 0, .int .u8 0, .int .u8 0, .int .u8 0] 107)).setRow w1.heap.size (va 8 (iv .u8 (dig x)))) := below_setRow ((hb.trans (hb1.mono hb.size)).alloc (by omega) _) (by omega) _
  clear b0 b1 hb hb1 hB hz
  go_wp2_with (first
    | (refine wpList_store_row (by rfl) 107 _ _ (by rfl) (w1.heap.size) (va 8 (iv .u8 (dig x))) (by rfl) (by rfl) 107 _ n0 (ksize8.trans (by rw [va_size])) (by simp only [va_size]) (iv_one _ _ _) ?_; simp only [Act.put, List.setIfInBounds_toArray, List.set_cons_zero, List.set_cons_succ])
    | fail)
  clear n0
  generalize (w1.alloc (.cells #[.int .u8 0, .int .u8 0, .int .u8 0, .int .u8 0, .int .u8 0, .int .u8 0, .int .u8 0, .int .u8 0] 107)).setRow w1.heap.size (va 8 (iv .u8 (dig x))) = w2 at *
  have hc := run_bytes_text (P := Tryd.prog) w2.drew 106 5 9 Tryd.underlying106 Tryd.underlying5 Tryd.underlying9 (n1.drew) 0 8 8 (by omega)
  rw [strN_congr (f := fun j => dig x (0 + j)) (g := dig x) fun j _ => by rw [Nat.zero_add]] at hc
  generalize strN (dig x) 8 = S at *
  refine wp_region_partsI [] [([1], 0, true), ([], 2, false), ([], 3, false), ([], 4, false), ([5, 6], 7, false)] [8] [] (w.heap.size + 1) (by kernel_rfl) (by kernel_rfl) (fun _ hx => nomatch hx) (partsI_yield ?_)
  simp only [List.cons_append, List.nil_append, List.append_nil, List.filterMap_cons, List.filterMap_nil, List.getElem?_toArray, List.getElem?_cons_zero, List.getElem?_cons_succ]
  have hS : Below (w.heap.size + 1) w2 w2.drew := (Below.refl _ _).drew
  go_wp2_with fail
  refine ⟨rfl, _, .agg (va 256 (iv .u8 f)), rfl, kyields_load (by rfl) 89 _ (by rfl) (w.heap.size) 256 (iv .u8 f) (by rfl) _ 89 (fun W hW => c0.below hW (Nat.lt_succ_self _)) Tryd.underlying89 rfl sizeBk, partsI_force ?_⟩
  simp only [Act.put, List.setIfInBounds_toArray, List.set_cons_zero, List.set_cons_succ]
  simp only [List.cons_append, List.nil_append, List.append_nil, List.filterMap_cons, List.filterMap_nil, List.getElem?_toArray, List.getElem?_cons_zero, List.getElem?_cons_succ]
  go_wp2_with fail
  refine ⟨rfl, hS, partsI_force ?_⟩
  simp only [List.cons_append, List.nil_append, List.append_nil, List.filterMap_cons, List.filterMap_nil, List.getElem?_toArray, List.getElem?_cons_zero, List.getElem?_cons_succ]
  go_wp2_with fail
  refine ⟨rfl, hS, partsI_force ?_⟩
  simp only [List.cons_append, List.nil_append, List.append_nil, List.filterMap_cons, List.filterMap_nil, List.getElem?_toArray, List.getElem?_cons_zero, List.getElem?_cons_succ]
  go_wp2_with fail
  refine (hL.out _).mono ?_
  rintro e w3 ⟨rfl, hb3⟩
  have hS3 : Below (w.heap.size + 1) w2 w3 := hS.trans (hb3.mono (Nat.le_of_lt c1.lt))
  have c3 := c1.drew.below hb3 c1.lt
  clear hS hb3 hL
  have hS := hS3
  clear hS3
  have hb4 : Below w.heap.size w w3 := hb2.trans (hS.mono (Nat.le_succ _))
  go_wp2_with fail
  refine ⟨rfl, hS, partsI_force ?_⟩
  simp only [List.cons_append, List.nil_append, List.append_nil, List.filterMap_cons, List.filterMap_nil, List.getElem?_toArray, List.getElem?_cons_zero, List.getElem?_cons_succ]
  have hst := Blk.store (P := Tryd.prog) c3 (va 256 (iv .u8 F)) (by simp only [va_size]) (va_mem_one _ _)
  have hvs := va_size 256 (iv .u8 F)
  go_wp2_with fail
  have hS4 := below_setRow hS (Nat.le_refl (w.heap.size + 1)) (va 256 (iv .u8 F))
  clear hS
  have hS := hS4
  clear hS4
  refine ⟨rfl, hS, partsI_last ?_⟩
  simp only [List.cons_append, List.nil_append, List.append_nil, List.filterMap_cons, List.filterMap_nil, List.getElem?_toArray, List.getElem?_cons_zero, List.getElem?_cons_succ]
  go_wp2_with fail
  refine ⟨rfl, ?_⟩
  go_wp2_with fail
  try simp only [Exit.inBlock, Exit.then]
  refine bodyPost_ret (results_row2 Tryd.results68 _ _ (w.heap.size + 1) 89 (va 256 (iv .u8 F)) (0, 0) _ rfl (c3.set _) Tryd.underlying89 rfl (sizeBk.trans (by rw [va_size]))) rfl ?_
  exact ⟨rfl, below_setRow hb4 (Nat.le_succ _) _⟩

end Go.Proofs.YtjlngldmdfbbaaaDoor

namespace Go.Proofs.YtjlngldmdfbbaaaDoor
open Go Go.RowKit
set_option linter.unusedVariables false
set_option linter.unusedSimpArgs false
def bitsT : ByteArray := { data := #[98, 105, 116, 115] }
/-- a leaf's bytes when so many of its words are laid -/
def lfF (W : Nat → Nat) (k : Nat) : Nat → Nat → Nat
  | 0 => putAt (tbyte bitsT) 4 4 (tbyte (strN (dig k) 4))
  | i + 1 => putAt (lfF W k i) (128 + 8 * i) 8 (tbyte (strN (dig (W (16 * k + i))) 8))
section
variable {w : World} {B g n b c : Nat} {W : Nat → Nat}
theorem BM.cap (h : BM w B g n b c W) : 16 * lvN n ≤ c := by
  rcases h.row.2 with ⟨hn, _⟩ | ⟨g', cap', cur, hv, hb, hg, hc, _⟩
  · cases hn
  · injection hv with hv1 hv2 hv3
    omega
theorem lay32_leaf (k : Nat) (w : World) : Calls Tryd.prog 67 #[bkV (tbyte bitsT), .int .i64 4, .int .u32 (k : Int)] w fun e w' => e = .returned (.tuple #[bkV (lfF W k 0), .int .i64 0]) ∧ Below w.heap.size w w' :=
  lay32_by (tbyte bitsT) 4 k (lfF W k 0) 0 (fun w => by
    have := lay_fit (tbyte bitsT) 4 (strN (dig k) 4) (by rw [strN_size]; omega) w
    rwa [strN_size] at this) w
theorem lay64_leaf (k i : Nat) (hi : i < 16) (w : World) : Calls Tryd.prog 68 #[bkV (lfF W k i), .int .i64 ((128 + 8 * i : Nat) : Int), .int .u64 ((W (16 * k + i) : Nat) : Int)] w fun e w' => e = .returned (.tuple #[bkV (lfF W k (i + 1)), .int .i64 0]) ∧ Below w.heap.size w w' :=
  lay64_by (lfF W k i) ((128 + 8 * i : Nat) : Int) (W (16 * k + i)) (lfF W k (i + 1)) 0 (fun w => by
    have := lay_fit (lfF W k i) (128 + 8 * i) (strN (dig (W (16 * k + i))) 8) (by rw [strN_size]; omega) w
    rwa [strN_size] at this) w
set_option maxRecDepth 100000 in
set_option maxHeartbeats 4000000 in
theorem leaf_any (w : World) (h : BM w B g n b c W) (k : Nat) (hk : k < lvN n) : Calls Tryd.prog 63 #[.pointer (some ⟨g, 0, none⟩), .int .i64 (k : Int)] w fun e w' => e = .returned (bkV (lfF W k 16)) ∧ Below w.heap.size w w' := by
  have hz := zero_bk
  have hl8 := lvN_le h.n2
  have hcap : 16 * lvN n ≤ c := h.cap
  have hcv : ((k : Int) % 4294967296) = (k : Int) := by omega
  have hmk : wrap64 ((k : Int) * 16) = ((16 * k : Nat) : Int) := by unfold wrap64; omega
  have HO : Hid (∀ w : World, Calls Tryd.prog 66 #[.string { data := #[98, 105, 116, 115] }] w fun e w' => e = .returned (.tuple #[bkV (tbyte bitsT), .int .i64 0]) ∧ Below w.heap.size w w') := fun w => blockOf_fit bitsT (by decide) w
  have HL : Hid (∀ w : World, Calls Tryd.prog 67 #[bkV (tbyte bitsT), .int .i64 4, .int .u32 (k : Int)] w fun e w' => e = .returned (.tuple #[bkV (lfF W k 0), .int .i64 0]) ∧ Below w.heap.size w w') := fun w => lay32_leaf k w
  have HM : Hid (∀ V, Below w.heap.size w V → BM V B g n b c W) := fun V hV => h.below hV
  have a0 : Blk (w.alloc (.cells (va 256 (iv .u8 fun _ => 0)) 89)) w.heap.size 89 (va 256 (iv .u8 fun _ => 0)) := Blk.new _ _ _
  have hb0 : Below w.heap.size w (w.alloc (.cells (va 256 (iv .u8 fun _ => 0)) 89)) := below_new1 _ _
  clear h
  unfold bkV at *
  go_enter Tryd.func63, Tryd.ntmps63
  go_wp2_with fail
  generalize w.alloc (.cells (va 256 (iv .u8 fun _ => 0)) 89) = w1 at *
  refine (HO.out _).mono ?_
  rintro e w2 ⟨rfl, hb2⟩
  have a2 := a0.below hb2 a0.lt
  have hbw2 : Below w.heap.size w w2 := hb0.trans (hb2.mono hb0.size)
  have l2 : w.heap.size < w2.heap.size := a2.lt
  have n0 : Blk (w2.alloc (.cells (va 256 (iv .u8 fun _ => 0)) 89)) w2.heap.size 89 (va 256 (iv .u8 fun _ => 0)) := Blk.new _ _ _
  have a3 := (a2.alloc (.cells (va 256 (iv .u8 fun _ => 0)) 89)).other (g := w2.heap.size) (va 256 (iv .u8 (tbyte bitsT))) (by omega)
  have n1 := n0.set (va 256 (iv .u8 (tbyte bitsT)))
  have hbw3 : Below w.heap.size w ((w2.alloc (.cells (va 256 (iv .u8 fun _ => 0)) 89)).setRow w2.heap.size (va 256 (iv .u8 (tbyte bitsT)))) := below_setRow (hbw2.alloc (by omega) _) (by omega) _
  clear a0 hb0 hb2 HO
  go_wp2_with (first
    | (refine wpList_store_row (by rfl) 89 _ _ (by rfl) (w2.heap.size) (va 256 (iv .u8 (tbyte bitsT))) (by rfl) (by rfl) 89 _ n0 (sizeBk.trans (by rw [va_size])) (by simp only [va_size]) (iv_one _ _ _) ?_; simp only [Act.put, List.setIfInBounds_toArray, List.set_cons_zero, List.set_cons_succ])
    | (refine wpList_load_row (by rfl) 89 _ (by rfl) (w2.heap.size) (by rfl) 89 (va 256 (iv .u8 (tbyte bitsT))) (0, 0) _ n1 Tryd.underlying89 (by rfl) (sizeBk.trans (by rw [va_size])) ?_; simp only [Act.put, List.setIfInBounds_toArray, List.set_cons_zero, List.set_cons_succ])
    | fail)
  clear n0
  have HMs : Hid (BM ((w2.alloc (.cells (va 256 (iv .u8 fun _ => 0)) 89)).setRow w2.heap.size (va 256 (iv .u8 (tbyte bitsT)))) B g n b c W) := HM.out _ hbw3
  generalize (w2.alloc (.cells (va 256 (iv .u8 fun _ => 0)) 89)).setRow w2.heap.size (va 256 (iv .u8 (tbyte bitsT))) = w3 at *
  refine (HL.out _).mono ?_
  rintro e w4 ⟨rfl, hb4⟩
  have a4 := a3.below hb4 a3.lt
  have n4 := n1.below hb4 n1.lt
  have hbw4 : Below w.heap.size w w4 := hbw3.trans (hb4.mono hbw3.size)
  have a5 := a4.other (g := w2.heap.size) (va 256 (iv .u8 (lfF W k 0))) (by omega)
  have n5 := n4.set (va 256 (iv .u8 (lfF W k 0)))
  have hbw5 : Below w.heap.size w (w4.setRow w2.heap.size (va 256 (iv .u8 (lfF W k 0)))) := below_setRow hbw4 (by omega) _
  have c1 := (HM.out _ hbw5).c1
  have hk1 : 16 * k + 16 ≤ 16 * lvN n := by omega
  clear a3 n1 HL HMs hb4 hbw3 hbw2 a2 a4 hbw4
  go_wp2_with (first
    | (refine wpList_store_row (by rfl) 89 _ _ (by rfl) (w2.heap.size) (va 256 (iv .u8 (lfF W k 0))) (by rfl) (by rfl) 89 _ n4 (sizeBk.trans (by rw [va_size])) (by simp only [va_size]) (iv_one _ _ _) ?_; simp only [Act.put, List.setIfInBounds_toArray, List.set_cons_zero, List.set_cons_succ])
    | fail)
  have HX : Hid (Blk (w4.setRow w2.heap.size (va 256 (iv .u8 (lfF W k 0)))) w.heap.size 89 (va 256 (iv .u8 fun _ => 0)) ∧ Blk (w4.setRow w2.heap.size (va 256 (iv .u8 (lfF W k 0)))) w2.heap.size 89 (va 256 (iv .u8 (lfF W k 0))) ∧ Below w.heap.size w (w4.setRow w2.heap.size (va 256 (iv .u8 (lfF W k 0))))) := ⟨a5, n5, hbw5⟩
  clear a5 n5 hbw5 n4
  generalize w4.setRow w2.heap.size (va 256 (iv .u8 (lfF W k 0))) = w5 at *
  go_loopw [29] (fun t wr => Hid (∃ i : Nat, i ≤ 16 ∧ t = .int .i64 (i : Int) ∧ Blk wr w.heap.size 89 (va 256 (iv .u8 fun _ => 0)) ∧ Blk wr w2.heap.size 89 (va 256 (iv .u8 (lfF W k i))) ∧ Below w.heap.size w wr)) (fun t _ => 16 - (intOf t).toNat)
  case atStart => exact ⟨0, by omega, rfl, HX.out.1, HX.out.2.1, HX.out.2.2⟩
  case round =>
    clear HX c1
    obtain ⟨i, hi, rfl, ba, bn, hb⟩ := Hid.out hrel
    by_cases hlt : i < 16
    · have j0 : (0 : Int) ≤ (i : Int) := by omega
      have j1 : (i : Int) < 16 := by omega
      have cw : wr.cell? ⟨b, k * 16 + i, none⟩ = some (.int .u64 ((W (16 * k + i) : Nat) : Int)) := by
        rw [Nat.mul_comm k 16]
        exact (HM.out _ hb).word (i := 16 * k + i) (by omega)
      have HL : Hid (∀ w : World, Calls Tryd.prog 68 #[.agg (va 256 (iv .u8 (lfF W k i))), .int .i64 (128 + (i : Int) * 8), .int .u64 ((W (16 * k + i) : Nat) : Int)] w fun e w' => e = .returned (.tuple #[.agg (va 256 (iv .u8 (lfF W k (i + 1)))), .int .i64 0]) ∧ Below w.heap.size w w') := fun w => by
        have := lay64_leaf (W := W) k i hlt w
        rw [show ((128 + 8 * i : Nat) : Int) = 128 + (i : Int) * 8 by omega] at this
        exact this
      have HJ : Hid (i < 16) := hlt
      clear hrel
      go_wp2_with (first
        | (refine wpList_load_row (by rfl) 89 _ (by rfl) (w2.heap.size) (by rfl) 89 (va 256 (iv .u8 (lfF W k i))) (0, 0) _ bn Tryd.underlying89 (by rfl) (sizeBk.trans (by rw [va_size])) ?_; simp only [Act.put, List.setIfInBounds_toArray, List.set_cons_zero, List.set_cons_succ])
        | fail)
      refine (HL.out _).mono ?_
      rintro e w6 ⟨rfl, hb6⟩
      have ba6 := ba.below hb6 ba.lt
      have bn6 := bn.below hb6 bn.lt
      have hbw6 : Below w.heap.size w w6 := hb.trans (hb6.mono hb.size)
      have HY : Hid (Blk (w6.setRow w2.heap.size (va 256 (iv .u8 (lfF W k (i + 1))))) w.heap.size 89 (va 256 (iv .u8 fun _ => 0)) ∧ Blk (w6.setRow w2.heap.size (va 256 (iv .u8 (lfF W k (i + 1))))) w2.heap.size 89 (va 256 (iv .u8 (lfF W k (i + 1)))) ∧ Below w.heap.size w (w6.setRow w2.heap.size (va 256 (iv .u8 (lfF W k (i + 1)))))) := ⟨ba6.other (g := w2.heap.size) _ (by omega), bn6.set _, below_setRow hbw6 (by omega) _⟩
      clear ba bn hb hb6 ba6 hbw6 HL cw HM
      go_wp2_with (first
        | (refine wpList_store_row (by rfl) 89 _ _ (by rfl) (w2.heap.size) (va 256 (iv .u8 (lfF W k (i + 1)))) (by rfl) (by rfl) 89 _ bn6 (sizeBk.trans (by rw [va_size])) (by simp only [va_size]) (iv_one _ _ _) ?_; simp only [Act.put, List.setIfInBounds_toArray, List.set_cons_zero, List.set_cons_succ])
        | fail)
      clear bn6
      generalize w6.setRow w2.heap.size (va 256 (iv .u8 (lfF W k (i + 1)))) = w7 at *
      go_roundw
      case rel => exact ⟨i + 1, HJ.out, by first | rfl | go_num | simp, HY.out.1, HY.out.2.1, HY.out.2.2⟩
      case measure => simp [intOf]; have := HJ.out; omega
    · obtain rfl : i = 16 := by omega
      have hst : Below w.heap.size w (wr.setRow w.heap.size (va 256 (iv .u8 (lfF W k 16)))) := below_setRow hb (Nat.le_refl _) _
      have ba2 := ba.set (va 256 (iv .u8 (lfF W k 16)))
      clear hrel HM hb
      go_wp2_with (first
        | (refine wpList_load_row (by rfl) 89 _ (by rfl) (w2.heap.size) (by rfl) 89 (va 256 (iv .u8 (lfF W k 16))) (0, 0) _ bn Tryd.underlying89 (by rfl) (sizeBk.trans (by rw [va_size])) ?_; simp only [Act.put, List.setIfInBounds_toArray, List.set_cons_zero, List.set_cons_succ])
        | (refine wpList_store_row (by rfl) 89 _ _ (by rfl) (w.heap.size) (va 256 (iv .u8 (lfF W k 16))) (by rfl) (by rfl) 89 _ ba (sizeBk.trans (by rw [va_size])) (by simp only [va_size]) (iv_one _ _ _) ?_; simp only [Act.put, List.setIfInBounds_toArray, List.set_cons_zero, List.set_cons_succ])
        | fail)
      try simp only [Exit.inBlock, Exit.then]
      refine bodyPost_ret (results_cell_row Tryd.results63 _ _ (w.heap.size) 89 (va 256 (iv .u8 (lfF W k 16))) (0, 0) _ rfl ba2 Tryd.underlying89 rfl (sizeBk.trans (by rw [va_size]))) rfl ?_
      exact ⟨rfl, hst⟩
end
end Go.Proofs.YtjlngldmdfbbaaaDoor

namespace Go.Proofs.YtjlngldmdfbbaaaDoor
open Go Go.RowKit
set_option linter.unusedVariables false
set_option linter.unusedSimpArgs false
/-- all bytes of all leaves -/
def lvsF (W : Nat → Nat) (x : Nat) : Nat := lfF W (x / 256) 16 (x % 256)
theorem lvs_cells (W : Nat → Nat) (k : Nat) : byL (lvsF W) ((k + 1) * 256) = byL (lvsF W) (k * 256) ++ (va 256 (iv .u8 (lfF W k 16))).toList := by
  rw [Nat.succ_mul, byL_add, va_toList]
  refine congrArg (fun l => byL (lvsF W) (k * 256) ++ l) ?_
  unfold byL
  refine List.map_congr_left fun j hj => ?_
  have hj' := List.mem_range.1 hj
  unfold iv lvsF
  show Value.int IntKind.u8 ((lfF W ((k * 256 + j) / 256) 16 ((k * 256 + j) % 256) : Nat) : Int) = _
  rw [show (k * 256 + j) / 256 = k by omega, show (k * 256 + j) % 256 = j by omega]
section
variable {w : World} {B g n b c : Nat} {W : Nat → Nat}
set_option maxRecDepth 100000 in
set_option maxHeartbeats 4000000 in
theorem leavesM_any (w : World) (h : BM w B g n b c W) : Calls Tryd.prog 51 #[.pointer (some ⟨g, 0, none⟩)] w fun e w' => ∃ v, e = .returned v ∧ w'.ownsRow w.heap.size 89 256 v (lvN n) (byL (lvsF W) (lvN n * 256)) ∧ Below w.heap.size w w' := by
  obtain ⟨i0, hi, hz0, hz1, hz2⟩ := info_parts infoBk
  have HS := bsize_any w h
  have hl8 := lvN_le h.n2
  have HV := leaves_any n h.n2 w
  have HM : Hid (∀ V, Below w.heap.size w V → BM V B g n b c W) := fun V hV => h.below hV
  clear h
  go_enter Tryd.func51, Tryd.ntmps51
  go_wp2_with fail
  refine HS.mono ?_
  rintro e w1 ⟨rfl, rfl⟩
  go_wp2_with fail
  refine HV.mono ?_
  rintro e w2 ⟨rfl, rfl⟩
  go_wp2_with fail
  go_loopw [3, 8] (fun v t wr => Hid (∃ (k cap : Nat) (a : Option Addr), k ≤ lvN n ∧ t = .int .i64 (k : Int) ∧ v = .slice a k cap ∧ wr.ownsRow w2.heap.size 89 256 v k (byL (lvsF W) (k * 256)) ∧ Below w2.heap.size w2 wr)) (fun _ t _ => lvN n - (intOf t).toNat)
  case atStart => exact ⟨0, 0, none, by omega, rfl, rfl, World.ownsRow_nil _ _ _ _, Below.refl _ _⟩
  case round =>
    obtain ⟨k, cap, a, hk, rfl, rfl, hown, hb⟩ := Hid.out hrel
    clear hrel HS HV
    by_cases hlt : k < lvN n
    · have j1 : (k : Int) < (lvN n : Int) := by omega
      have HL := leaf_any wr (HM.out _ hb) k hlt
      unfold bkV at HL
      have HJ : Hid (k < lvN n ∧ lvN n ≤ 8) := ⟨hlt, hl8⟩
      go_wp2_with fail
      refine HL.mono ?_
      rintro e w3 ⟨rfl, hb3⟩
      have hown1 := kown_below hown hb3
      have hb1 : Below w2.heap.size w2 w3 := hb.trans (hb3.mono hb.size)
      have hb1s := hb1.size
      have HLC : Hid (byL (lvsF W) ((k + 1) * 256) = byL (lvsF W) (k * 256) ++ (va 256 (iv .u8 (lfF W k 16))).toList) := lvs_cells W k
      have HOWN : Hid ((w3.alloc (.cells (va 256 (iv .u8 (lfF W k 16))) 89)).ownsRow w2.heap.size 89 256 (.slice a k cap) k (byL (lvsF W) (k * 256))) := hown1.alloc _
      have HNEW : Hid (∀ j u, (va 256 (iv .u8 (lfF W k 16))).toList[j]? = some u → (w3.alloc (.cells (va 256 (iv .u8 (lfF W k 16))) 89)).cell? ((⟨w3.heap.size, 0, none⟩ : Addr).add j) = some u) := cells_new w3 _ _
      have HMEM : Hid (∀ u ∈ (va 256 (iv .u8 (lfF W k 16))).toList, u.oneCell' = true) := kva_mem_one 256 (lfF W k 16)
      have HLEN : Hid ((va 256 (iv .u8 (lfF W k 16))).toList.length = 1 * 256) := by
        show _ = _
        rw [va_toList]
        simp
      have HV2 := hown1.lt
      clear hown1 hown hb hb3 HL HM
      go_wp2_with (first
        | (refine wpList_build1 (by rfl) 69 89 _ (by rfl) (va 256 (iv .u8 (lfF W k 16))) (by rfl) i0 _ 256 Tryd.underlying69 hi hz0 hz1 (va_size _ _) (by decide) (by decide) ?_; simp only [Act.put, List.setIfInBounds_toArray, List.set_cons_zero, List.set_cons_succ])
        | (at_builtin; refine wpList_append_own _ rfl _ _ 69 rfl w2.heap.size 89 i0 (.agg (va 256 (iv .u8 fun _ => 0))) 256 256 Tryd.underlying69 hi hz0 hz1 hz2 (va_size _ _) (by decide) _ _ _ rfl HOWN.out ⟨w3.heap.size, 0, none⟩ 1 1 (va 256 (iv .u8 (lfF W k 16))).toList rfl HLEN.out HNEW.out HMEM.out (by unfold maxLen; omega) (by omega) (by simp; omega) ?_)
        | go_in)
      intro v' w4 hown' hgrow _
      have hb2 : Below w2.heap.size w2 w4 := (hb1.alloc hb1s _).grown hgrow (by simp; omega) (fun k hk => (HV2 k hk).1)
      rw [← HLC.out] at hown'
      obtain ⟨g3, cap3, rfl, hg3, hg3'⟩ := kown_form hown' (Nat.succ_pos k)
      have HE : Hid (_ ∧ _) := ⟨hown', hb2⟩
      clear HOWN HNEW HMEM HLEN HV2 hgrow hb1 hown' hb2
      go_wp2_with fail
      go_roundw
      case rel => exact ⟨k + 1, cap3, _, HJ.out.1, by first | rfl | go_num | simp, rfl, HE.out.1, HE.out.2⟩
      case measure => simp [intOf]; have := HJ.out; omega
    · obtain rfl : k = lvN n := by omega
      have j1 : ¬ ((lvN n : Int) < (lvN n : Int)) := by omega
      have HE : Hid (_ ∧ _) := ⟨hown, hb⟩
      clear hown hb HM
      go_wp2_with fail
      go_ret
      exact ⟨_, rfl, HE.out.1, HE.out.2⟩
end
end Go.Proofs.YtjlngldmdfbbaaaDoor

namespace Go.Proofs.YtjlngldmdfbbaaaDoor
open Go Go.RowKit
set_option linter.unusedVariables false
set_option linter.unusedSimpArgs false
theorem put_ifL (W : Nat → Nat) (p q : Nat) : bitF (putW W p) q = if q = p then true else bitF W q := by
  rw [bitF_put]; by_cases h : q = p <;> simp [h]
section
variable {w : World} {n : Nat}
end
end Go.Proofs.YtjlngldmdfbbaaaDoor

namespace Go.Proofs.YtjlngldmdfbbaaaDoor
open Go Go.RowKit
set_option linter.unusedVariables false
set_option linter.unusedSimpArgs false
set_option maxRecDepth 100000 in
set_option maxHeartbeats 4000000 in
theorem lawBlocks_any (m d d' : Nat) (hm : m ≤ 9223372036854775807) (a a' : Option Addr) (L M : Nat → Nat → Nat) (w : World) (h : IsBlks w a m L) (h' : IsBlks w a' m M) : Calls Tryd.prog 32 #[.slice a m d, .slice a' m d'] w fun e w' => e = .returned (.bool (decide (∀ i, i < m → bkSame (L i) (M i)))) ∧ Below w.heap.size w w' := by
  have HI : Hid (∀ V, Below w.heap.size w V → IsBlks V a m L ∧ IsBlks V a' m M) := fun V hV => ⟨h.below hV, h'.below hV⟩
  clear h h'
  go_enter Tryd.func32, Tryd.ntmps32
  go_wp2_with fail
  go_loopw [13] (fun t wr => Hid (∃ k : Nat, k ≤ m ∧ t = .int .i64 (k : Int) ∧ (∀ i, i < k → bkSame (L i) (M i)) ∧ Below w.heap.size w wr)) (fun t _ => m - (intOf t).toNat)
  case atStart => exact ⟨0, by omega, rfl, fun i hi => by omega, Below.refl _ _⟩
  case round =>
    obtain ⟨k, hk, rfl, hall, hb⟩ := Hid.out hrel
    clear hrel
    by_cases hlt : k < m
    · obtain ⟨b1, o1, rfl, l1, r1⟩ := (HI.out wr hb).1 k hlt
      obtain ⟨b2, o2, rfl, l2, r2⟩ := (HI.out wr hb).2 k hlt
      have R1 : Hid (wr.rangeAt b1 (o1 + k * 256) ((List.range 256).map (iv .u8 (L k)))) := r1
      have R2 : Hid (wr.rangeAt b2 (o2 + k * 256) ((List.range 256).map (iv .u8 (M k)))) := r2
      have k0 : (0 : Int) ≤ (k : Int) := by omega
      have k1 : (k : Int) < (m : Int) := by omega
      have HJ : Hid (k < m ∧ m ≤ 9223372036854775807 ∧ (∀ i, i < k → bkSame (L i) (M i))) := ⟨hlt, hm, hall⟩
      have hq : ∀ w, (Op.equalIn 10000 89 (.agg (va 256 (iv .u8 (L k)))) (.agg (va 256 (iv .u8 (M k))))).run Tryd.prog w = .ok (decide (bkSame (L k) (M k))) w := fun w => eq_bk 89 Tryd.underlying89 (L k) (M k) w
      have HSM : Hid (decide (bkSame (L k) (M k)) = decide (bkSame (L k) (M k))) := rfl
      generalize hsm : decide (bkSame (L k) (M k)) = sm at hq
      have HS : Hid (decide (bkSame (L k) (M k)) = sm) := hsm
      clear r1 r2 hall hsm HSM
      cases sm
      all_goals
        go_wp2_with fail
        refine wp_region_partsI [] [([0, 1, 2, 4, 5, 6], 3, true), ([], 7, false), ([], 8, false)] [] [] (wr.heap.size) (by kernel_rfl) (by kernel_rfl) (fun _ hx => nomatch hx) (partsI_yield ?_)
        simp only [List.cons_append, List.nil_append, List.append_nil, List.filterMap_cons, List.filterMap_nil, List.getElem?_toArray, List.getElem?_cons_zero, List.getElem?_cons_succ]
        have hS : Below (wr.heap.size) wr wr.drew := (Below.refl _ _).drew
        go_wp2_with fail
        refine ⟨rfl, _, .agg (va 256 (iv .u8 (L k))), rfl, yieldsIf_load_mid (by rfl) 89 _ (by rfl) (b1) (o1 + k * 256) (by rfl) ((List.range 256).map (iv .u8 (L k))) _ (fun W hW => range_below R1.out hW l1) Tryd.underlying89 rfl (sizeBk.trans (by simp)), partsI_force ?_⟩
        simp only [Act.put, List.setIfInBounds_toArray, List.set_cons_zero, List.set_cons_succ]
        simp only [List.cons_append, List.nil_append, List.append_nil, List.filterMap_cons, List.filterMap_nil, List.getElem?_toArray, List.getElem?_cons_zero, List.getElem?_cons_succ]
        refine wpList_load_blk (by rfl) 89 _ (by rfl) (b2) (o2 + k * 256) 256 (iv .u8 (M k)) (by rfl) _ (range_below R2.out hS l2) Tryd.underlying89 rfl sizeBk ?_
        simp only [Act.put, List.setIfInBounds_toArray, List.set_cons_zero, List.set_cons_succ]
        go_wp2_with fail
        refine ⟨rfl, hS, partsI_force ?_⟩
        simp only [List.cons_append, List.nil_append, List.append_nil, List.filterMap_cons, List.filterMap_nil, List.getElem?_toArray, List.getElem?_cons_zero, List.getElem?_cons_succ]
        go_wp2_with fail
        refine ⟨rfl, hS, partsI_last ?_⟩
        simp only [List.cons_append, List.nil_append, List.append_nil, List.filterMap_cons, List.filterMap_nil, List.getElem?_toArray, List.getElem?_cons_zero, List.getElem?_cons_succ]
        refine ⟨rfl, ?_⟩
        go_wp2_with fail
      · go_ret
        refine ⟨?_, hb.trans (hS.mono hb.size)⟩
        rw [decide_eq_false (fun hx => (of_decide_eq_false HS.out) (hx k HJ.out.1))]
        rfl
      · go_roundw
        case rel =>
          refine ⟨k + 1, HJ.out.1, by first | rfl | go_num | simp, fun i hi => ?_, hb.trans (hS.mono hb.size)⟩
          by_cases e : i = k
          · rw [e]; exact of_decide_eq_true HS.out
          · exact HJ.out.2.2 i (by omega)
        case measure => simp [intOf]; have := HJ.out; omega
    · obtain rfl : k = m := by omega
      have j1 : ¬ ((k : Int) < (k : Int)) := by omega
      have HA : Hid (∀ i, i < k → bkSame (L i) (M i)) := hall
      clear hall
      go_wp2_with fail
      go_ret
      exact ⟨by rw [decide_eq_true HA.out]; rfl, hb⟩
section
variable {w : World} {P : Nat → Prop} {r n : Nat} {F G : Nat → Bool}
theorem rleaves_any (h : RoomIs w P r n F G) : Calls Tryd.prog 33 #[.pointer (some ⟨r, 0, none⟩)] w fun e w' => ∃ v X, e = .returned v ∧ (∀ i, X i < 18446744073709551616) ∧ (∀ p, bitF X p = G p) ∧ w'.ownsRow w.heap.size 89 256 v (lvN n) (byL (lvsF X) (lvN n * 256)) ∧ Below w.heap.size w w' := by
  obtain ⟨gu, bu, cu, gn, bn, cn, U, X, hR, hF, hG⟩ := h
  have HM := rmaps_any hR
  have HL : Hid (∀ m, Calls Tryd.prog 51 #[.pointer (some ⟨gn, 0, none⟩)] (w.drewN m) fun e w' => ∃ v, e = .returned v ∧ w'.ownsRow w.heap.size 89 256 v (lvN n) (byL (lvsF X) (lvN n * 256)) ∧ Below w.heap.size w w') := fun m => by
    refine (leavesM_any _ (hR.x.dN m)).mono ?_
    rintro e w' ⟨v, rfl, h1, h2⟩
    exact ⟨v, rfl, h1, ⟨h2.os, h2.tape, h2.output, h2.size, h2.block⟩⟩
  have hlt := hR.x.lt
  clear hR
  go_enter Tryd.func33, Tryd.ntmps33
  go_wp2_with fail
  refine HM.mono ?_
  rintro e w1 ⟨rfl, m, rfl⟩
  go_wp2_with fail
  refine (HL.out m).mono ?_
  rintro e w2 ⟨v, rfl, h1, h2⟩
  have HE : Hid (_ ∧ _) := ⟨h1, h2⟩
  clear h1 h2
  go_wp2_with fail
  go_ret
  exact ⟨v, X, rfl, hlt, hG, HE.out.1, HE.out.2⟩
end
end Go.Proofs.YtjlngldmdfbbaaaDoor
