/- The block that is nearest to another one: the program's contract of Near. -/
import Derived.Test.YtaoglljkghkbpabBlkArg
import Derived.Test.YtaoglljkghkbpabBlkDiff
import Derived.Handy
namespace Go.Proofs.Ytaoglljkghkbpab
open Go.RowKit
set_option linter.unusedSimpArgs false
set_option linter.unusedVariables false

/-- of the first k blocks the place of the nearest, and at how many places it differs -/
def nearN (L : Nat → Nat → Nat) (f : Nat → Nat) : Nat → Int × Nat
  | 0 => (-1, 0)
  | k + 1 => if (nearN L f k).1 < 0 ∨ dcnt (L k) f 256 < (nearN L f k).2 then ((k : Int), dcnt (L k) f 256) else nearN L f k

set_option maxRecDepth 100000 in
set_option maxHeartbeats 8000000 in
theorem near_any (a0 : Option Addr) (n cap : Nat) (hn : n ≤ 9223372036854775806) (L : Nat → Nat → Nat) (f : Nat → Nat) (w : World) (h : IsBlks w a0 n L) :
    Calls Try.prog 10 #[.slice a0 n cap, bkV f] w fun e w' => e = .returned (.tuple #[.int .i64 (nearN L f n).1, .int .i64 ((nearN L f n).2 : Int)]) ∧ Below w.heap.size w w' := by
  have hI : Hid (IsBlks w a0 n L) := h
  have hD : Hid (∀ (k : Nat) (w : World), Calls Try.prog 8 #[.agg (va 256 (iv .u8 (L k))), .agg (va 256 (iv .u8 f))] w fun e w' => e = .returned (.tuple #[.int .i64 (dfst (L k) f 256), .int .i64 (dcnt (L k) f 256 : Int)]) ∧ Below w.heap.size w w') := fun k w => differ_any (L k) f w
  clear h
  unfold bkV
  have b0 := Blk.new w 23 (va 256 (iv .u8 f))
  have hb := below_new1 w (Obj.cells (va 256 (iv IntKind.u8 f)) 23)
  go_enter Try.func10, Try.ntmps10
  go_wp2_with fail
  generalize w.alloc (Obj.cells (va 256 (iv IntKind.u8 f)) 23) = W at *
  go_loopw [6, 7, 13] (fun a m i wr => ∃ k : Nat, k ≤ n ∧ i = .int .i64 k ∧ a = .int .i64 (nearN L f k).1 ∧ m = .int .i64 ((nearN L f k).2 : Int) ∧ Blk wr w.heap.size 23 (va 256 (iv .u8 f)) ∧ Below w.heap.size w wr) (fun _ _ i _ => n - (intOf i).toNat)
  case atStart => exact ⟨0, Nat.zero_le _, rfl, rfl, rfl, b0, hb⟩
  case round =>
    clear b0 hb
    obtain ⟨k, hk, rfl, rfl, rfl, b0, hb⟩ := hrel
    by_cases hlt : k < n
    · obtain ⟨b, o, rfl, hbl, hr⟩ := hI.out k hlt
      have HR : Hid (wr.rangeAt b (o + k * 256) ((List.range 256).map (iv .u8 (L k)))) := range_below hr hb hbl
      have HBL : Hid (b < wr.heap.size) := Nat.lt_of_lt_of_le hbl hb.size
      have k0 : (0 : Int) ≤ (k : Int) := by omega
      have k1 : (k : Int) < (n : Int) := by omega
      have HDk : Hid (∀ w : World, Calls Try.prog 8 #[.agg (va 256 (iv .u8 (L k))), .agg (va 256 (iv .u8 f))] w fun e w' => e = .returned (.tuple #[.int .i64 (dfst (L k) f 256), .int .i64 (dcnt (L k) f 256 : Int)]) ∧ Below w.heap.size w w') := hD.out k
      have HN : Hid (nearN L f (k + 1) = if (nearN L f k).1 < 0 ∨ dcnt (L k) f 256 < (nearN L f k).2 then ((k : Int), dcnt (L k) f 256) else nearN L f k) := rfl
      generalize dcnt (L k) f 256 = c at *
      generalize dfst (L k) f 256 = q at *
      generalize nearN L f k = N at *
      obtain ⟨p, m⟩ := N
      dsimp only at *
      clear hr hbl
      go_wp2_with fail
      refine wp_region_partsI [] [([0, 1, 2], 3, true), ([], 4, false), ([], 5, false)] [6, 7, 8, 9, 10] [] wr.heap.size (by kernel_rfl) (by kernel_rfl) (fun _ hx => nomatch hx) (partsI_yield ?_)
      simp only [List.cons_append, List.nil_append, List.append_nil, List.filterMap_cons, List.filterMap_nil, List.getElem?_toArray, List.getElem?_cons_zero, List.getElem?_cons_succ]
      have hS : Below wr.heap.size wr wr.drew := (Below.refl _ _).drew
      go_wp2_with fail
      refine ⟨rfl, _, .agg (va 256 (iv .u8 (L k))), rfl, yieldsIf_load_mid (by rfl) 23 _ (by rfl) (b) (o + k * 256) (by rfl) ((List.range 256).map (iv .u8 (L k))) _ (fun W hW => range_below HR.out hW HBL.out) Try.underlying23 rfl (sizeBk.trans (by simp)), partsI_force ?_⟩
      simp only [Act.put, List.setIfInBounds_toArray, List.set_cons_zero, List.set_cons_succ]
      simp only [List.cons_append, List.nil_append, List.append_nil, List.filterMap_cons, List.filterMap_nil, List.getElem?_toArray, List.getElem?_cons_zero, List.getElem?_cons_succ]
      (refine wpList_load_rowg (by rfl) 23 _ (by rfl) (w.heap.size) (by rfl) 23 (va 256 (iv .u8 f)) (0, 0) _ (b0.below hS b0.lt) Try.underlying23 (by rfl) (sizeBk.trans (by rw [va_size])) ?_; simp only [Act.put, List.setIfInBounds_toArray, List.set_cons_zero, List.set_cons_succ])
      go_wp2_with fail
      refine ⟨rfl, hS, partsI_force ?_⟩
      simp only [List.cons_append, List.nil_append, List.append_nil, List.filterMap_cons, List.filterMap_nil, List.getElem?_toArray, List.getElem?_cons_zero, List.getElem?_cons_succ]
      go_wp2_with fail
      refine (HDk.out _).mono ?_
      rintro e w3 ⟨rfl, hb3⟩
      have hS3 : Below wr.heap.size wr w3 := hS.trans (hb3.mono hS.size)
      clear hS hb3 HDk
      have hS := hS3
      clear hS3
      go_wp2_with fail
      refine ⟨rfl, hS, partsI_last ?_⟩
      simp only [List.cons_append, List.nil_append, List.append_nil, List.filterMap_cons, List.filterMap_nil, List.getElem?_toArray, List.getElem?_cons_zero, List.getElem?_cons_succ]
      go_wp2_with fail
      refine ⟨rfl, ?_⟩
      have b1 := b0.below hS b0.lt
      have hb1 : Below w.heap.size w w3 := hb.trans (hS.mono hb.size)
      clear b0 hb hS
      by_cases h1 : p < 0
      · rw [if_pos (Or.inl h1)] at HN
        go_wp2_with fail
        refine ⟨⟨k + 1, by omega, by simp, by rw [HN.out], by rw [HN.out], b1, hb1⟩, ?_⟩
        simp [intOf]
        omega
      · by_cases h2 : c < m
        · rw [if_pos (Or.inr h2)] at HN
          have h2' : (c : Int) < (m : Int) := by omega
          go_wp2_with fail
          refine ⟨⟨k + 1, by omega, by simp, by rw [HN.out], by rw [HN.out], b1, hb1⟩, ?_⟩
          simp [intOf]
          omega
        · rw [if_neg (fun h => h.elim h1 h2)] at HN
          have h2' : ¬ (c : Int) < (m : Int) := by omega
          go_wp2_with fail
          refine ⟨⟨k + 1, by omega, by simp, by rw [HN.out], by rw [HN.out], b1, hb1⟩, ?_⟩
          simp [intOf]
          omega
    · obtain rfl : k = n := by omega
      go_wp2_with fail
      try simp only [Exit.inBlock, Exit.then]
      refine bodyPost_ret (results_tmp2 Try.results10 _ _ _) rfl ?_
      exact ⟨rfl, hb⟩
end Go.Proofs.Ytaoglljkghkbpab
