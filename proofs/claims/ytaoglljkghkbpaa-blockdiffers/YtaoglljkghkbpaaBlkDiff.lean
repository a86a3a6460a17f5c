/- At how many places two blocks differ, and where first: the program's contract of Differ. -/
import Derived.Test.YtaoglljkghkbpaaBlkKit
import Derived.BigQuiet
import Derived.Deep.QuietTactic
import Derived.Handy
namespace Go.Proofs.Ytaoglljkghkbpaa
open Go.RowKit
set_option linter.unusedSimpArgs false
set_option linter.unusedVariables false

/-- at how many of the first k places two blocks differ -/
def dcnt (f g : Nat → Nat) : Nat → Nat
  | 0 => 0
  | k + 1 => dcnt f g k + (if f k = g k then 0 else 1)
/-- the first of them, or -1 -/
def dfst (f g : Nat → Nat) : Nat → Int
  | 0 => -1
  | k + 1 => if f k = g k then dfst f g k else if dcnt f g k = 0 then (k : Int) else dfst f g k
theorem dcnt_le (f g : Nat → Nat) : ∀ k, dcnt f g k ≤ k
  | 0 => Nat.le_refl _
  | k + 1 => by
    have := dcnt_le f g k
    unfold dcnt
    split <;> omega
theorem dcnt_congr {f g f' g' : Nat → Nat} : ∀ k, (∀ i, i < k → f i = f' i ∧ g i = g' i) → dcnt f g k = dcnt f' g' k
  | 0, _ => rfl
  | k + 1, h => by
    unfold dcnt
    rw [dcnt_congr k fun i hi => h i (by omega), (h k (by omega)).1, (h k (by omega)).2]
theorem kbelow_drewN {B : Nat} {w0 w : World} (h : Below B w0 w) (n : Nat) : Below B w0 (w.drewN n) := ⟨h.1, h.2, h.3, h.4, h.5⟩

set_option maxRecDepth 100000 in
set_option maxHeartbeats 4000000 in
theorem differ_any (f g : Nat → Nat) (w : World) :
    Calls Try.prog 28 #[bkV f, bkV g] w fun e w' => e = .returned (.tuple #[.int .i64 (dfst f g 256), .int .i64 (dcnt f g 256 : Int)]) ∧ Below w.heap.size w w' := by
  unfold bkV
  have b0 : Blk ((w.alloc (Obj.cells (va 256 (iv IntKind.u8 f)) 23)).alloc (Obj.cells (va 256 (iv IntKind.u8 g)) 23)) w.heap.size 23 (va 256 (iv .u8 f)) := (Blk.new _ _ _).alloc _
  have b1 := Blk.new1 w (Obj.cells (va 256 (iv IntKind.u8 f)) 23) 23 (va 256 (iv IntKind.u8 g))
  have hb := below_new2 w (Obj.cells (va 256 (iv IntKind.u8 f)) 23) (Obj.cells (va 256 (iv IntKind.u8 g)) 23)
  go_enter Try.func28, Try.ntmps28
  go_wp2_with fail
  generalize (w.alloc (Obj.cells (va 256 (iv IntKind.u8 f)) 23)).alloc (Obj.cells (va 256 (iv IntKind.u8 g)) 23) = W at *
  go_loopw [6, 7, 9] (fun a m i wr => ∃ k : Nat, k ≤ 256 ∧ i = .int .i64 k ∧ a = .int .i64 (dfst f g k) ∧ m = .int .i64 (dcnt f g k : Int) ∧ Blk wr w.heap.size 23 (va 256 (iv .u8 f)) ∧ Blk wr (w.heap.size + 1) 23 (va 256 (iv .u8 g)) ∧ Below w.heap.size w wr) (fun _ _ i _ => 256 - (intOf i).toNat)
  case atStart => exact ⟨0, by omega, rfl, rfl, rfl, b0, b1, hb⟩
  case round =>
    clear b0 b1 hb
    obtain ⟨k, hk, rfl, rfl, rfl, b0, b1, hb⟩ := hrel
    by_cases hlt : k < 256
    · have k0 : (0 : Int) ≤ (k : Int) := by omega
      have k1 : (k : Int) < 256 := by omega
      have c0 := b0.cv (i := k) hlt
      have c1 := b1.cv (i := k) hlt
      unfold iv at c0 c1
      have hle := dcnt_le f g k
      have HD : Hid (dcnt f g (k + 1) = dcnt f g k + (if f k = g k then 0 else 1)) := rfl
      have HF : Hid (dfst f g (k + 1) = if f k = g k then dfst f g k else if dcnt f g k = 0 then (k : Int) else dfst f g k) := rfl
      generalize dcnt f g k = c at *
      generalize dfst f g k = p at *
      by_cases he : f k = g k
      · rw [if_pos he] at HD HF
        have HE : Hid (f k = g k) := he
        rw [← he] at c1
        clear he
        go_wp2_with fail
        go_quiet (fail)
        go_wp2_with fail
        refine ⟨⟨k + 1, by omega, by simp, by rw [HF.out], by rw [HD.out]; rfl, b0, b1, kbelow_drewN hb _⟩, ?_⟩
        simp [intOf]
        omega
      · rw [if_neg he] at HD HF
        have he' : ¬ ((f k : Nat) : Int) = ((g k : Nat) : Int) := by omega
        by_cases h0 : c = 0
        · rw [if_pos h0] at HF
          subst h0
          go_wp2_with fail
          go_quiet (fail)
          go_wp2_with fail
          refine ⟨⟨k + 1, by omega, by simp, by rw [HF.out], by rw [HD.out]; simp, b0, b1, kbelow_drewN hb _⟩, ?_⟩
          simp [intOf]
          omega
        · rw [if_neg h0] at HF
          have h0' : ¬ (c : Int) = 0 := by omega
          go_wp2_with fail
          go_quiet (fail)
          go_wp2_with fail
          refine ⟨⟨k + 1, by omega, by simp, by rw [HF.out], by rw [HD.out]; simp, b0, b1, kbelow_drewN hb _⟩, ?_⟩
          simp [intOf]
          omega
    · obtain rfl : k = 256 := by omega
      go_wp2_with fail
      try simp only [Exit.inBlock, Exit.then]
      refine bodyPost_ret (results_tmp2 Try.results28 _ _ _) rfl ?_
      exact ⟨rfl, hb⟩
end Go.Proofs.Ytaoglljkghkbpaa
