/- The end of a stretch of places at which two blocks differ: the program's contract of stretch. -/
import Derived.Test.YtaoglljkghkbpabBlkDiff
import Derived.Handy
namespace Go.Proofs.Ytaoglljkghkbpab
open Go.RowKit
set_option linter.unusedSimpArgs false
set_option linter.unusedVariables false

/-- from a on two blocks differ just up to e -/
def EndIs (f g : Nat → Nat) (a e : Nat) : Prop := a ≤ e ∧ e ≤ 256 ∧ (∀ j, a ≤ j → j < e → f j ≠ g j) ∧ (e < 256 → f e = g e)
theorem EndIs.same {f g : Nat → Nat} {a e e' : Nat} (h : EndIs f g a e) (h' : EndIs f g a e') : e' = e := by
  obtain ⟨h1, h2, h3, h4⟩ := h
  obtain ⟨g1, g2, g3, g4⟩ := h'
  rcases Nat.lt_trichotomy e' e with q | q | q
  · exact absurd (g4 (by omega)) (h3 e' g1 q)
  · exact q
  · exact absurd (h4 (by omega)) (g3 e h1 q)

set_option maxRecDepth 100000 in
set_option maxHeartbeats 4000000 in
theorem stretch_any (f g : Nat → Nat) (a : Nat) (ha : a ≤ 256) (w : World) :
    Calls Try.prog 14 #[bkV f, bkV g, .int .i64 (a : Int)] w fun x w' => ∃ e : Nat, x = .returned (.int .i64 (e : Int)) ∧ EndIs f g a e ∧ Below w.heap.size w w' := by
  unfold bkV
  have b0 : Blk ((w.alloc (Obj.cells (va 256 (iv IntKind.u8 f)) 23)).alloc (Obj.cells (va 256 (iv IntKind.u8 g)) 23)) w.heap.size 23 (va 256 (iv .u8 f)) := (Blk.new _ _ _).alloc _
  have b1 := Blk.new1 w (Obj.cells (va 256 (iv IntKind.u8 f)) 23) 23 (va 256 (iv IntKind.u8 g))
  have hb := below_new2 w (Obj.cells (va 256 (iv IntKind.u8 f)) 23) (Obj.cells (va 256 (iv IntKind.u8 g)) 23)
  go_enter Try.func14, Try.ntmps14
  go_wp2_with fail
  generalize (w.alloc (Obj.cells (va 256 (iv IntKind.u8 f)) 23)).alloc (Obj.cells (va 256 (iv IntKind.u8 g)) 23) = W at *
  go_loopw [2] (fun i wr => ∃ k : Nat, a ≤ k ∧ k ≤ 256 ∧ i = .int .i64 k ∧ (∀ j, a ≤ j → j < k → f j ≠ g j) ∧ Blk wr w.heap.size 23 (va 256 (iv .u8 f)) ∧ Blk wr (w.heap.size + 1) 23 (va 256 (iv .u8 g)) ∧ Below w.heap.size w wr) (fun i _ => 256 - (intOf i).toNat)
  case atStart => exact ⟨a, Nat.le_refl _, ha, rfl, fun j h1 h2 => absurd h2 (by omega), b0, b1, hb⟩
  case round =>
    clear b0 b1 hb
    obtain ⟨k, hak, hk, rfl, hd, b0, b1, hb⟩ := hrel
    have HD : Hid (∀ j, a ≤ j → j < k → f j ≠ g j) := hd
    clear hd
    by_cases hlt : k < 256
    · have k0 : (0 : Int) ≤ (k : Int) := by omega
      have k1 : (k : Int) < 256 := by omega
      have k2 : decide ((k : Int) < 256) = true := decide_eq_true k1
      have c0 := b0.cv (i := k) hlt
      have c1 := b1.cv (i := k) hlt
      unfold iv at c0 c1
      by_cases he : f k = g k
      · rw [← he] at c1
        have HE : Hid (f k = g k) := he
        clear he
        go_wp2_with fail
        go_quiet (fail)
        go_wp2_with fail
        go_ret
        exact ⟨k, rfl, ⟨hak, by omega, HD.out, fun _ => HE.out⟩, kbelow_drewN hb _⟩
      · have he' : ¬ ((f k : Nat) : Int) = ((g k : Nat) : Int) := by omega
        have HE : Hid (f k ≠ g k) := he
        go_wp2_with fail
        go_quiet (fail)
        go_wp2_with fail
        refine ⟨⟨k + 1, by omega, by omega, by simp, fun j h1 h2 => ?_, b0, b1, kbelow_drewN hb _⟩, ?_⟩
        · by_cases hj : j = k
          · rw [hj]
            exact HE.out
          · exact HD.out j h1 (by omega)
        · simp [intOf]
          omega
    · obtain rfl : k = 256 := by omega
      have k2 : decide (((256 : Nat) : Int) < 256) = false := by decide
      go_wp2_with fail
      go_quiet (fail)
      go_wp2_with fail
      go_ret
      exact ⟨256, rfl, ⟨hak, by omega, HD.out, fun h => absurd h (by omega)⟩, kbelow_drewN hb _⟩
end Go.Proofs.Ytaoglljkghkbpab
