/- The statement BlockNear, if what it calls returns what it does. -/
import Derived.Test.YtaoglljkghkbpabBlkNear
import Derived.Handy
namespace Go.Proofs.Ytaoglljkghkbpab
open Go.RowKit
set_option linter.unusedSimpArgs false
set_option linter.unusedVariables false

set_option maxRecDepth 100000 in
set_option maxHeartbeats 8000000 in
theorem blockNearLaw (a0 : Option Addr) (n cap : Nat) (hn : n ≤ 9223372036854775806) (L : Nat → Nat → Nat) (f : Nat → Nat) (w : World) (h : IsBlks w a0 n L) :
    Calls Try.prog 4 #[.slice a0 n cap, bkV f] w fun e w' => e = .returned (.bool true) ∧ Below w.heap.size w w' := by
  have hI : Hid (IsBlks w a0 n L) := h
  have hN : Hid (∀ w : World, IsBlks w a0 n L → Calls Try.prog 10 #[.slice a0 n cap, bkV f] w fun e w' => e = .returned (.tuple #[.int .i64 (nearN L f n).1, .int .i64 ((nearN L f n).2 : Int)]) ∧ Below w.heap.size w w') := fun w h => near_any a0 n cap hn L f w h
  have hA : Hid (∀ w : World, Calls Try.prog 5 #[] w fun e w' => e = .returned (.bool true) ∧ Below w.heap.size w w') := fun w => awake4_any w
  clear h
  unfold bkV at *
  have hz := zero_bk
  have b0 := Blk.new w 23 (va 256 (iv .u8 f))
  have hb := below_new1 w (Obj.cells (va 256 (iv IntKind.u8 f)) 23)
  go_enter Try.func4, Try.ntmps4
  go_wp2_with fail
  generalize w.alloc (Obj.cells (va 256 (iv IntKind.u8 f)) 23) = W at *
  go_loopw [5, 6, 15] (fun a m i wr => ∃ k : Nat, k ≤ n ∧ i = .int .i64 k ∧ a = .int .i64 (nearN L f k).1 ∧ m = .int .i64 ((nearN L f k).2 : Int) ∧ Blk wr w.heap.size 23 (va 256 (iv .u8 f)) ∧ Below w.heap.size w wr) (fun _ _ i _ => n - (intOf i).toNat)
  case atStart => exact ⟨0, Nat.zero_le _, rfl, rfl, rfl, b0, hb⟩
  case round =>
    clear b0 hb
    obtain ⟨k, hk, rfl, rfl, rfl, b0, hb⟩ := hrel
    by_cases hlt : k < n
    · obtain ⟨b, o, rfl, hbl, hr⟩ := hI.out k hlt
      have HR : Hid (wr.rangeAt b (o + k * 256) ((List.range 256).map (iv .u8 (L k)))) := range_below hr hb hbl
      have k0 : (0 : Int) ≤ (k : Int) := by omega
      have k1 : (k : Int) < (n : Int) := by omega
      have HN : Hid (nearN L f (k + 1) = if (nearN L f k).1 < 0 ∨ dcnt (L k) f 256 < (nearN L f k).2 then ((k : Int), dcnt (L k) f 256) else nearN L f k) := rfl
      generalize nearN L f k = N at *
      obtain ⟨p, m⟩ := N
      dsimp only at *
      have hsz := hb.size
      have c1 := Blk.new wr 23 (va 256 (iv .u8 fun _ => 0))
      have b1 := b0.alloc (Obj.cells (va 256 (iv IntKind.u8 fun _ => 0)) 23)
      have hb1 := hb.alloc hsz (Obj.cells (va 256 (iv IntKind.u8 fun _ => 0)) 23)
      have c2 := c1.set (va 256 (iv .u8 (L k)))
      have b2 := b1.other (g := wr.heap.size) (va 256 (iv .u8 (L k))) (Nat.ne_of_lt b0.lt)
      have hb2 := below_setRow hb1 hsz (va 256 (iv .u8 (L k)))
      clear hr hbl b0 hb b1 hb1
      go_wp2_with (first
        | (refine wpList_load_mid (by rfl) 23 _ (by rfl) b (o + k * 256) (by rfl) ((List.range 256).map (iv .u8 (L k))) _ HR.out Try.underlying23 rfl (sizeBk.trans (by simp)) ?_; simp only [Act.put, List.setIfInBounds_toArray, List.set_cons_zero, List.set_cons_succ])
        | (refine wpList_store_row (by rfl) 23 _ _ (by rfl) (wr.heap.size) (va 256 (iv .u8 (L k))) (by rfl) (by rfl) 23 _ c1 (sizeBk.trans (by rw [va_size])) (by simp only [va_size]) (iv_one _ _ _) ?_; simp only [Act.put, List.setIfInBounds_toArray, List.set_cons_zero, List.set_cons_succ])
        | fail)
      clear c1 HR
      generalize (wr.alloc (Obj.cells (va 256 (iv IntKind.u8 fun _ => 0)) 23)).setRow wr.heap.size (va 256 (iv .u8 (L k))) = w1 at *
      go_loopw [9, 20] (fun c i wr2 => ∃ j : Nat, j ≤ 256 ∧ i = .int .i64 j ∧ c = .int .i64 (dcnt (L k) f j : Int) ∧ Blk wr2 wr.heap.size 23 (va 256 (iv .u8 (L k))) ∧ Blk wr2 w.heap.size 23 (va 256 (iv .u8 f)) ∧ Below w.heap.size w wr2) (fun _ i _ => 256 - (intOf i).toNat)
      case atStart => exact ⟨0, by omega, rfl, rfl, c2, b2, hb2⟩
      case round =>
        clear c2 b2 hb2
        obtain ⟨j, hj, rfl, rfl, c2, b2, hb2⟩ := hrel
        by_cases hjl : j < 256
        · have j0 : (0 : Int) ≤ (j : Int) := by omega
          have j1 : (j : Int) < 256 := by omega
          have d0 := c2.cv (i := j) hjl
          have d1 := b2.cv (i := j) hjl
          unfold iv at d0 d1
          have hle := dcnt_le (L k) f j
          have HD : Hid (dcnt (L k) f (j + 1) = dcnt (L k) f j + (if L k j = f j then 0 else 1)) := rfl
          generalize dcnt (L k) f j = c at *
          by_cases he : L k j = f j
          · rw [if_pos he] at HD
            rw [← he] at d1
            clear he
            go_wp2_with fail
            go_quiet (fail)
            go_wp2_with fail
            refine ⟨⟨j + 1, by omega, by simp, by rw [HD.out]; rfl, c2, b2, kbelow_drewN hb2 _⟩, ?_⟩
            simp [intOf]
            omega
          · rw [if_neg he] at HD
            have he' : ¬ ((L k j : Nat) : Int) = ((f j : Nat) : Int) := by omega
            go_wp2_with fail
            go_quiet (fail)
            go_wp2_with fail
            refine ⟨⟨j + 1, by omega, by simp, by rw [HD.out]; simp, c2, b2, kbelow_drewN hb2 _⟩, ?_⟩
            simp [intOf]
            omega
        · obtain rfl : j = 256 := by omega
          generalize dcnt (L k) f 256 = c at *
          clear c2
          by_cases h1 : p < 0
          · rw [if_pos (Or.inl h1)] at HN
            go_wp2_with fail
            refine ⟨⟨k + 1, by omega, by simp, by rw [HN.out], by rw [HN.out], b2, hb2⟩, ?_⟩
            simp [intOf]
            omega
          · by_cases h2 : c < m
            · rw [if_pos (Or.inr h2)] at HN
              have h2' : (c : Int) < (m : Int) := by omega
              go_wp2_with fail
              refine ⟨⟨k + 1, by omega, by simp, by rw [HN.out], by rw [HN.out], b2, hb2⟩, ?_⟩
              simp [intOf]
              omega
            · rw [if_neg (fun h => h.elim h1 h2)] at HN
              have h2' : ¬ (c : Int) < (m : Int) := by omega
              go_wp2_with fail
              refine ⟨⟨k + 1, by omega, by simp, by rw [HN.out], by rw [HN.out], b2, hb2⟩, ?_⟩
              simp [intOf]
              omega
    · obtain rfl : k = n := by omega
      have HW : Hid (IsBlks wr a0 k L) := hI.out.below hb
      generalize nearN L f k = N at *
      obtain ⟨p, m⟩ := N
      dsimp only at *
      go_wp2_with (first
        | (refine wpList_load_row (by rfl) 23 _ (by rfl) (w.heap.size) (by rfl) 23 (va 256 (iv .u8 f)) (0, 0) _ b0 Try.underlying23 (by rfl) (sizeBk.trans (by rw [va_size])) ?_; simp only [Act.put, List.setIfInBounds_toArray, List.set_cons_zero, List.set_cons_succ])
        | fail)
      refine (hN.out _ HW.out).mono ?_
      rintro e w2 ⟨rfl, hb2⟩
      have hb3 : Below w.heap.size w w2 := hb.trans (hb2.mono hb.size)
      clear hb hb2 b0
      go_wp2_with fail
      refine (hA.out _).mono ?_
      rintro e w4 ⟨rfl, hb4⟩
      have hb5 : Below w.heap.size w w4 := hb3.trans (hb4.mono hb3.size)
      clear hb3 hb4
      go_wp2_with fail
      go_ret
      exact ⟨rfl, hb5⟩
end Go.Proofs.Ytaoglljkghkbpab
