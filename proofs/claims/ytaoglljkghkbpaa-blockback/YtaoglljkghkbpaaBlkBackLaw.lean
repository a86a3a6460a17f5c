/- The statement BlockBack, if what it calls returns what it does. -/
import Derived.Test.YtaoglljkghkbpaaBlkPartsLaw
import Derived.Test.YtaoglljkghkbpaaBlkJoin
import Derived.BigQuiet
import Derived.Deep.QuietTactic
import Derived.Handy
namespace Go.Proofs.Ytaoglljkghkbpaa
open Go.RowKit
set_option linter.unusedSimpArgs false
set_option linter.unusedVariables false

theorem leaves_le (n : Nat) : n ≤ leavesN n * 256 := by
  unfold leavesN
  omega
theorem join_cut (s : ByteArray) (hs : s.size ≤ 140737488351232) (a : Option Addr) (cap : Nat) (w : World) (h : IsBlks w a (leavesN s.size) fun i j => tbyte s (256 * i + j)) :
    Calls Try.prog 27 #[.slice a (leavesN s.size) cap, .int .i64 (s.size : Int)] w fun e w' => e = .returned (.tuple #[.string s, .int .i64 0]) ∧ Below w.heap.size w w' := by
  have := join_ok a (leavesN s.size) cap (by unfold leavesN; omega) _ s.size (leaves_le _) w h
  rw [show strN (flatL fun i j => tbyte s (256 * i + j)) s.size = s from by
    rw [strN_congr (g := tbyte s) fun j _ => by
      show tbyte s (256 * (j / 256) + j % 256) = tbyte s j
      rw [Nat.div_add_mod]]
    exact strN_text s] at this
  exact this

set_option maxRecDepth 100000 in
set_option maxHeartbeats 16000000 in
theorem blockBackLaw (f : Nat → Nat) (hf : ∀ i, f i < 256) (a nn x y : Int) (ha : -9223372036854775808 ≤ a ∧ a ≤ 9223372036854775807) (s : ByteArray) (hs : s.size ≤ 140737488351232) (w : World) :
    Calls Try.prog 7 #[bkV f, .agg #[.int .i64 a, .int .i64 nn, .string s, .int .u32 x, .int .u64 y]] w fun e w' => e = .returned (.bool true) ∧ Below w.heap.size w w' := by
  have hA0 : ∀ w : World, Calls Try.prog 9 #[] w fun e w' => e = .returned (.bool true) ∧ Below w.heap.size w w' := fun w => awake4_any w
  have hC : Hid (∀ w : World, Calls Try.prog 25 #[.string s] w fun e w' => ∃ q cap, e = .returned (.slice q (leavesN s.size) cap) ∧ IsBlks w' q (leavesN s.size) (fun i j => tbyte s (256 * i + j)) ∧ Below w.heap.size w w') := fun w => (cut_any s hs w).mono (by
    rintro e w' ⟨v, rfl, hown, hb⟩
    obtain ⟨q, cap, rfl, hq⟩ := own_blks hown
    exact ⟨q, cap, rfl, hq, hb⟩)
  have hJ : Hid (∀ (q : Option Addr) (cap : Nat) (w : World), IsBlks w q (leavesN s.size) (fun i j => tbyte s (256 * i + j)) → Calls Try.prog 27 #[.slice q (leavesN s.size) cap, .int .i64 (s.size : Int)] w fun e w' => e = .returned (.tuple #[.string s, .int .i64 0]) ∧ Below w.heap.size w w') := fun q cap w h => join_cut s hs q cap w h
  generalize hLv : leavesN s.size = lv at *
  clear hLv
  have hA : Hid (∀ w : World, Calls Try.prog 9 #[] w fun e w' => e = .returned (.bool true) ∧ Below w.heap.size w w') := hA0
  obtain ⟨F, e0, hL0, hfit⟩ : ∃ (F : Nat → Nat) (e0 : Int), (∀ w : World, Calls Try.prog 15 #[bkV f, .int .i64 a, .string s] w fun e w' => e = .returned (.tuple #[bkV F, .int .i64 e0]) ∧ Below w.heap.size w w') ∧
      ((e0 = 40 ∧ F = fun _ => 0) ∨ (e0 = 0 ∧ ∃ r : Nat, a = (r : Int) ∧ r + s.size ≤ 256 ∧ F = putAt f r s.size (tbyte s))) := by
    by_cases h : Fit a (s.size : Int)
    · obtain ⟨h1, h2, h3⟩ := h
      obtain ⟨r, rfl⟩ : ∃ r : Nat, a = (r : Int) := ⟨a.toNat, by omega⟩
      exact ⟨_, 0, lay_fit f r s (by omega), .inr ⟨rfl, r, rfl, by omega, rfl⟩⟩
    · exact ⟨_, 40, lay_bad f a ha s (by omega) h, .inl ⟨rfl, rfl⟩⟩
  have hL : Hid (∀ w : World, Calls Try.prog 15 #[bkV f, .int .i64 a, .string s] w fun e w' => e = .returned (.tuple #[bkV F, .int .i64 e0]) ∧ Below w.heap.size w w') := hL0
  have HFIT : Hid ((e0 = 40 ∧ F = fun _ => 0) ∨ (e0 = 0 ∧ ∃ r : Nat, a = (r : Int) ∧ r + s.size ≤ 256 ∧ F = putAt f r s.size (tbyte s))) := hfit
  have HQ0 : Hid (∀ w, (Op.equalIn 10000 23 (bkV fun _ => 0) (bkV fun _ => 0)).run Try.prog w = .ok true w) := fun w => by
    rw [eq_bk 23 Try.underlying23, decide_eq_true (fun _ _ => rfl)]
  clear hA0 hL0 hfit ha hf
  have HS : Hid (s.size ≤ 140737488351232) := hs
  unfold bkV at *
  have hz := zero_bk
  have hP0 : PartAt ((w.alloc (Obj.cells (va 256 (iv IntKind.u8 f)) 23)).alloc (Obj.cells #[.int .i64 a, .int .i64 nn, .string s, .int .u32 x, .int .u64 y] 38)) w.heap.size f #[.int .i64 a, .int .i64 nn, .string s, .int .u32 x, .int .u64 y] := ⟨(Blk.new _ _ _).alloc _, Blk.new1 _ _ _ _⟩
  have hb0 := below_new2 w (Obj.cells (va 256 (iv IntKind.u8 f)) 23) (Obj.cells #[.int .i64 a, .int .i64 nn, .string s, .int .u32 x, .int .u64 y] 38)
  go_enter Try.func7, Try.ntmps7
  go_wp2_with fail
  generalize (w.alloc (Obj.cells (va 256 (iv IntKind.u8 f)) 23)).alloc (Obj.cells #[.int .i64 a, .int .i64 nn, .string s, .int .u32 x, .int .u64 y] 38) = w0 at *
  refine (hA.out _).mono ?_
  rintro e w1 ⟨rfl, hh⟩
  have hP1 := hP0.below hh hP0.lt
  have hb1 : Below w.heap.size w w1 := hb0.trans (hh.mono hb0.size)
  clear hP0 hb0 hh hA
  go_wp2_with fail
  refine wp_region_partsI [] [([], 0, true), ([], 1, true), ([], 3, true), ([], 4, true), ([], 5, true), ([], 2, false), ([], 6, false)] [7, 8, 9, 10, 11] [] (w1.heap.size) (by kernel_rfl) (by kernel_rfl) (fun _ hx => nomatch hx) (partsI_yield ?_)
  simp only [List.cons_append, List.nil_append, List.append_nil, List.filterMap_cons, List.filterMap_nil, List.getElem?_toArray, List.getElem?_cons_zero, List.getElem?_cons_succ]
  have hS : Below (w1.heap.size) w1 w1.drew := (Below.refl _ _).drew
  go_wp2_with fail
  refine ⟨rfl, _, .pointer (some ⟨w.heap.size + 1, 2, none⟩), rfl, Or.inl ⟨by rfl, fun W hW => by go_simp⟩, partsI_yield ?_⟩
  simp only [Act.put, List.setIfInBounds_toArray, List.set_cons_zero, List.set_cons_succ]
  simp only [List.cons_append, List.nil_append, List.append_nil, List.filterMap_cons, List.filterMap_nil, List.getElem?_toArray, List.getElem?_cons_zero, List.getElem?_cons_succ]
  go_wp2_with fail
  refine ⟨rfl, _, .string s, rfl, Or.inl ⟨by rfl, fun W hW => by have hc := (hP1.below hW hP1.lt).cells.2.2.1; go_simp⟩, partsI_yield ?_⟩
  simp only [Act.put, List.setIfInBounds_toArray, List.set_cons_zero, List.set_cons_succ]
  simp only [List.cons_append, List.nil_append, List.append_nil, List.filterMap_cons, List.filterMap_nil, List.getElem?_toArray, List.getElem?_cons_zero, List.getElem?_cons_succ]
  go_wp2_with fail
  refine ⟨rfl, _, .pointer (some ⟨w.heap.size + 1, 2, none⟩), rfl, Or.inl ⟨by rfl, fun W hW => by go_simp⟩, partsI_yield ?_⟩
  simp only [Act.put, List.setIfInBounds_toArray, List.set_cons_zero, List.set_cons_succ]
  simp only [List.cons_append, List.nil_append, List.append_nil, List.filterMap_cons, List.filterMap_nil, List.getElem?_toArray, List.getElem?_cons_zero, List.getElem?_cons_succ]
  go_wp2_with fail
  refine ⟨rfl, _, .string s, rfl, Or.inl ⟨by rfl, fun W hW => by have hc := (hP1.below hW hP1.lt).cells.2.2.1; go_simp⟩, partsI_yield ?_⟩
  simp only [Act.put, List.setIfInBounds_toArray, List.set_cons_zero, List.set_cons_succ]
  simp only [List.cons_append, List.nil_append, List.append_nil, List.filterMap_cons, List.filterMap_nil, List.getElem?_toArray, List.getElem?_cons_zero, List.getElem?_cons_succ]
  go_wp2_with fail
  refine ⟨rfl, _, .int .i64 (s.size : Int), rfl, Or.inl ⟨by rfl, fun W hW => by go_simp⟩, partsI_force ?_⟩
  simp only [Act.put, List.setIfInBounds_toArray, List.set_cons_zero, List.set_cons_succ]
  simp only [List.cons_append, List.nil_append, List.append_nil, List.filterMap_cons, List.filterMap_nil, List.getElem?_toArray, List.getElem?_cons_zero, List.getElem?_cons_succ]
  go_wp2_with fail
  refine (hC.out _).mono ?_
  rintro e w2 ⟨q2, cap2, rfl, hB2, hh⟩
  have hS2 : Below w1.heap.size w1 w2 := hS.trans (hh.mono hS.size)
  clear hS hh hC
  have hS := hS2
  clear hS2
  go_wp2_with fail
  refine ⟨rfl, hS, partsI_force ?_⟩
  simp only [List.cons_append, List.nil_append, List.append_nil, List.filterMap_cons, List.filterMap_nil, List.getElem?_toArray, List.getElem?_cons_zero, List.getElem?_cons_succ]
  go_wp2_with fail
  refine (hJ.out _ _ _ hB2).mono ?_
  rintro e w3 ⟨rfl, hh⟩
  have hS2 : Below w1.heap.size w1 w3 := hS.trans (hh.mono hS.size)
  clear hS hh hJ hB2
  have hS := hS2
  clear hS2
  go_wp2_with fail
  refine ⟨rfl, hS, partsI_last ?_⟩
  simp only [List.cons_append, List.nil_append, List.append_nil, List.filterMap_cons, List.filterMap_nil, List.getElem?_toArray, List.getElem?_cons_zero, List.getElem?_cons_succ]
  go_wp2_with fail
  refine ⟨rfl, ?_⟩
  have hP3 := hP1.below hS hP1.lt
  have hb3 : Below w.heap.size w w3 := hb1.trans (hS.mono hb1.size)
  clear hP1 hb1 hS
  obtain ⟨p0, p1, p2, p3, p4⟩ := hP3.cells
  go_wp2_with (first
    | (refine wpList_load_row (by rfl) 23 _ (by rfl) (w.heap.size) (by rfl) 23 (va 256 (iv .u8 f)) (0, 0) _ hP3.1 Try.underlying23 (by rfl) (sizeBk.trans (by rw [va_size])) ?_; simp only [Act.put, List.setIfInBounds_toArray, List.set_cons_zero, List.set_cons_succ])
    | fail)
  refine (hL.out _).mono ?_
  rintro e w4 ⟨rfl, hh⟩
  have hP4 := hP3.below hh hP3.lt
  have hb4 : Below w.heap.size w w4 := hb3.trans (hh.mono hb3.size)
  clear hP3 hb3 hh hL p0 p1 p2 p3 p4
  have n4 := Blk.new w4 23 (va 256 (iv .u8 fun _ => 0))
  have hP5 : PartAt ((w4.alloc (Obj.cells (va 256 (iv IntKind.u8 fun _ => 0)) 23)).setRow w4.heap.size (va 256 (iv .u8 F))) w.heap.size f #[.int .i64 a, .int .i64 nn, .string s, .int .u32 x, .int .u64 y] := (hP4.alloc (Obj.cells (va 256 (iv IntKind.u8 fun _ => 0)) 23)).other _ hP4.lt
  have hb5 : Below w.heap.size w ((w4.alloc (Obj.cells (va 256 (iv IntKind.u8 fun _ => 0)) 23)).setRow w4.heap.size (va 256 (iv .u8 F))) := below_setRow (hb4.alloc hb4.size _) hb4.size _
  have gc5 := n4.set (va 256 (iv .u8 F))
  have lgc : w.heap.size + 2 ≤ w4.heap.size := hP4.lt
  clear hP4 hb4
  obtain ⟨p0, p1, p2, p3, p4⟩ := hP5.cells
  rcases HFIT.out with ⟨rfl, rfl⟩ | ⟨rfl, r, rfl, hr, hF⟩
  · have hq := HQ0.out
    go_wp2_with (first
      | (refine wpList_store_row (by rfl) 23 _ _ (by rfl) (w4.heap.size) (va 256 (iv .u8 fun _ => 0)) (by rfl) (by rfl) 23 _ n4 (sizeBk.trans (by rw [va_size])) (by simp only [va_size]) (iv_one _ _ _) ?_; simp only [Act.put, List.setIfInBounds_toArray, List.set_cons_zero, List.set_cons_succ])
      | (refine wpList_load_rowg (by rfl) 23 _ (by rfl) (w4.heap.size) (by rfl) 23 (va 256 (iv .u8 fun _ => 0)) (0, 0) _ gc5 Try.underlying23 (by rfl) (sizeBk.trans (by rw [va_size])) ?_; simp only [Act.put, List.setIfInBounds_toArray, List.set_cons_zero, List.set_cons_succ])
      | fail)
    go_ret
    exact ⟨rfl, hb5⟩
  · have HF : Hid (F = putAt f r s.size (tbyte s)) := hF
    have hT : Hid (∀ w : World, Calls Try.prog 17 #[.agg (va 256 (iv .u8 F)), .int .i64 (r : Int), .int .i64 (s.size : Int)] w fun e w' => e = .returned (.tuple #[.string s, .int .i64 0]) ∧ Below w.heap.size w w') := fun w => by
      have := take_fit F r s.size hr w
      rw [show strN (fun j => F (r + j)) s.size = s from by
        rw [strN_congr (g := tbyte s) fun j hj => by
          rw [hF]
          unfold putAt
          rw [if_pos (by omega), show r + j - r = j by omega]]
        exact strN_text s] at this
      exact this
    have HR : Hid (r + s.size ≤ 256) := hr
    have HOUT : Hid (∀ i, (i < r ∨ r + s.size ≤ i) → F i = f i) := fun i hi => by
      rw [hF]
      unfold putAt
      rw [if_neg (by omega)]
    have hs2 : s.size ≤ 256 := by omega
    have hr2 : r ≤ 256 := by omega
    clear hF HF hr HFIT HQ0 hs
    go_wp2_with (first
      | (refine wpList_store_row (by rfl) 23 _ _ (by rfl) (w4.heap.size) (va 256 (iv .u8 F)) (by rfl) (by rfl) 23 _ n4 (sizeBk.trans (by rw [va_size])) (by simp only [va_size]) (iv_one _ _ _) ?_; simp only [Act.put, List.setIfInBounds_toArray, List.set_cons_zero, List.set_cons_succ])
      | (refine wpList_load_row (by rfl) 23 _ (by rfl) (w4.heap.size) (by rfl) 23 (va 256 (iv .u8 F)) (0, 0) _ gc5 Try.underlying23 (by rfl) (sizeBk.trans (by rw [va_size])) ?_; simp only [Act.put, List.setIfInBounds_toArray, List.set_cons_zero, List.set_cons_succ])
      | fail)
    clear n4 hz
    generalize (w4.alloc (Obj.cells (va 256 (iv IntKind.u8 fun _ => 0)) 23)).setRow w4.heap.size (va 256 (iv .u8 F)) = w5 at *
    refine (hT.out _).mono ?_
    rintro e w6 ⟨rfl, hh⟩
    have hP6 := hP5.below hh hP5.lt
    have gc6 := gc5.below hh gc5.lt
    have hb6 : Below w.heap.size w w6 := hb5.trans (hh.mono hb5.size)
    clear hP5 hb5 gc5 hh hT p0 p1 p2 p3 p4
    obtain ⟨p0, p1, p2, p3, p4⟩ := hP6.cells
    go_wp2_with fail
    go_loopw [66] (fun i wr => ∃ k : Nat, k ≤ 256 ∧ i = .int .i64 k ∧ PartAt wr w.heap.size f #[.int .i64 (r : Int), .int .i64 nn, .string s, .int .u32 x, .int .u64 y] ∧ Blk wr w4.heap.size 23 (va 256 (iv .u8 F)) ∧ Below w.heap.size w wr) (fun i _ => 256 - (intOf i).toNat)
    case atStart => exact ⟨0, by omega, rfl, hP6, gc6, hb6⟩
    case round =>
      clear hP6 gc6 hb6 p0 p1 p2 p3 p4
      obtain ⟨k, hk, rfl, hP, gc, hb⟩ := hrel
      by_cases hlt : k < 256
      · obtain ⟨p0, p1, p2, p3, p4⟩ := hP.cells
        have k0 : (0 : Int) ≤ (k : Int) := by omega
        have k1 : (k : Int) < 256 := by omega
        have d0 := hP.1.cv (i := k) hlt
        have d1 := gc.cv (i := k) hlt
        unfold iv at d0 d1
        obtain ⟨m, hm⟩ : ∃ m : Nat, m = r + s.size := ⟨_, rfl⟩
        have e1 : (r : Int) + (s.size : Int) = (m : Int) := by omega
        have hm2 : m ≤ 256 := by have := HR.out; omega
        by_cases h1 : k < r
        · have t1 : (k : Int) < (r : Int) := by omega
          have t2 : decide ((k : Int) < (r : Int)) = true := decide_eq_true t1
          rw [HOUT.out k (.inl h1)] at d1
          clear hm
          go_wp2_with fail
          go_quiet (fail)
          go_wp2_with fail
          refine ⟨⟨k + 1, by omega, by simp, hP, gc, kbelow_drewN hb _⟩, ?_⟩
          simp [intOf]
          omega
        · have t1 : ¬ (k : Int) < (r : Int) := by omega
          have t2 : decide ((k : Int) < (r : Int)) = false := decide_eq_false t1
          by_cases h2 : m ≤ k
          · have t3 : (m : Int) ≤ (k : Int) := by omega
            rw [HOUT.out k (.inr (by omega))] at d1
            clear hm
            go_wp2_with fail
            go_quiet (fail)
            go_wp2_with fail
            refine ⟨⟨k + 1, by omega, by simp, hP, gc, kbelow_drewN hb _⟩, ?_⟩
            simp [intOf]
            omega
          · have t3 : ¬ (m : Int) ≤ (k : Int) := by omega
            clear hm
            go_wp2_with fail
            go_quiet (fail)
            go_wp2_with fail
            refine ⟨⟨k + 1, by omega, by simp, hP, gc, kbelow_drewN hb _⟩, ?_⟩
            simp [intOf]
            omega
      · obtain rfl : k = 256 := by omega
        go_wp2_with fail
        go_ret
        exact ⟨rfl, hb⟩
end Go.Proofs.Ytaoglljkghkbpaa
