/- A round of the program and its undoing, for every state: the state that the numbers say; nothing below the top of the heap is changed. -/
import Derived.Test.YtaoglljkghkbpaaMathState
import Derived.Test.YtaoglljkghkbpaaRoundEven
import Derived.Test.YtaoglljkghkbpaaRoundOdd
import Derived.Test.YtaoglljkghkbpaaUnroundEven
import Derived.Test.YtaoglljkghkbpaaUnroundOdd
namespace Go.Proofs.Ytaoglljkghkbpaa
open Go.RowKit

theorem round_any (odd : Bool) (s : St) (h : s.ok) (w : World) :
    Calls Try.prog 57 #[.agg (stA s), .bool odd] w fun e w' => e = .returned (.agg (stA (roundN odd s))) ∧ Below w.heap.size w w' := by
  obtain ⟨h0, h1, h2, h3, h4, h5, h6, h7, h8, h9, h10, h11, h12, h13, h14, h15⟩ := h
  cases odd
  · exact roundEven_core s.x0 s.x1 s.x2 s.x3 s.x4 s.x5 s.x6 s.x7 s.x8 s.x9 s.x10 s.x11 s.x12 s.x13 s.x14 s.x15 (quarterN ⟨s.x0, s.x4, s.x8, s.x12⟩).a (quarterN ⟨s.x1, s.x5, s.x9, s.x13⟩).a (quarterN ⟨s.x2, s.x6, s.x10, s.x14⟩).a (quarterN ⟨s.x3, s.x7, s.x11, s.x15⟩).a (quarterN ⟨s.x0, s.x4, s.x8, s.x12⟩).b (quarterN ⟨s.x1, s.x5, s.x9, s.x13⟩).b (quarterN ⟨s.x2, s.x6, s.x10, s.x14⟩).b (quarterN ⟨s.x3, s.x7, s.x11, s.x15⟩).b (quarterN ⟨s.x0, s.x4, s.x8, s.x12⟩).c (quarterN ⟨s.x1, s.x5, s.x9, s.x13⟩).c (quarterN ⟨s.x2, s.x6, s.x10, s.x14⟩).c (quarterN ⟨s.x3, s.x7, s.x11, s.x15⟩).c (quarterN ⟨s.x0, s.x4, s.x8, s.x12⟩).d (quarterN ⟨s.x1, s.x5, s.x9, s.x13⟩).d (quarterN ⟨s.x2, s.x6, s.x10, s.x14⟩).d (quarterN ⟨s.x3, s.x7, s.x11, s.x15⟩).d (fun w => quarter_any _ _ _ _ h0 h4 h8 h12 _ rfl w) (fun w => quarter_any _ _ _ _ h1 h5 h9 h13 _ rfl w) (fun w => quarter_any _ _ _ _ h2 h6 h10 h14 _ rfl w) (fun w => quarter_any _ _ _ _ h3 h7 h11 h15 _ rfl w) w
  · exact roundOdd_core s.x0 s.x1 s.x2 s.x3 s.x4 s.x5 s.x6 s.x7 s.x8 s.x9 s.x10 s.x11 s.x12 s.x13 s.x14 s.x15 (quarterN ⟨s.x0, s.x5, s.x10, s.x15⟩).a (quarterN ⟨s.x1, s.x6, s.x11, s.x12⟩).a (quarterN ⟨s.x2, s.x7, s.x8, s.x13⟩).a (quarterN ⟨s.x3, s.x4, s.x9, s.x14⟩).a (quarterN ⟨s.x3, s.x4, s.x9, s.x14⟩).b (quarterN ⟨s.x0, s.x5, s.x10, s.x15⟩).b (quarterN ⟨s.x1, s.x6, s.x11, s.x12⟩).b (quarterN ⟨s.x2, s.x7, s.x8, s.x13⟩).b (quarterN ⟨s.x2, s.x7, s.x8, s.x13⟩).c (quarterN ⟨s.x3, s.x4, s.x9, s.x14⟩).c (quarterN ⟨s.x0, s.x5, s.x10, s.x15⟩).c (quarterN ⟨s.x1, s.x6, s.x11, s.x12⟩).c (quarterN ⟨s.x1, s.x6, s.x11, s.x12⟩).d (quarterN ⟨s.x2, s.x7, s.x8, s.x13⟩).d (quarterN ⟨s.x3, s.x4, s.x9, s.x14⟩).d (quarterN ⟨s.x0, s.x5, s.x10, s.x15⟩).d (fun w => quarter_any _ _ _ _ h0 h5 h10 h15 _ rfl w) (fun w => quarter_any _ _ _ _ h1 h6 h11 h12 _ rfl w) (fun w => quarter_any _ _ _ _ h2 h7 h8 h13 _ rfl w) (fun w => quarter_any _ _ _ _ h3 h4 h9 h14 _ rfl w) w
theorem unround_any (odd : Bool) (s : St) (h : s.ok) (w : World) :
    Calls Try.prog 55 #[.agg (stA s), .bool odd] w fun e w' => e = .returned (.agg (stA (unroundN odd s))) ∧ Below w.heap.size w w' := by
  obtain ⟨h0, h1, h2, h3, h4, h5, h6, h7, h8, h9, h10, h11, h12, h13, h14, h15⟩ := h
  cases odd
  · exact unroundEven_core s.x0 s.x1 s.x2 s.x3 s.x4 s.x5 s.x6 s.x7 s.x8 s.x9 s.x10 s.x11 s.x12 s.x13 s.x14 s.x15 (undoN ⟨s.x0, s.x4, s.x8, s.x12⟩).a (undoN ⟨s.x1, s.x5, s.x9, s.x13⟩).a (undoN ⟨s.x2, s.x6, s.x10, s.x14⟩).a (undoN ⟨s.x3, s.x7, s.x11, s.x15⟩).a (undoN ⟨s.x0, s.x4, s.x8, s.x12⟩).b (undoN ⟨s.x1, s.x5, s.x9, s.x13⟩).b (undoN ⟨s.x2, s.x6, s.x10, s.x14⟩).b (undoN ⟨s.x3, s.x7, s.x11, s.x15⟩).b (undoN ⟨s.x0, s.x4, s.x8, s.x12⟩).c (undoN ⟨s.x1, s.x5, s.x9, s.x13⟩).c (undoN ⟨s.x2, s.x6, s.x10, s.x14⟩).c (undoN ⟨s.x3, s.x7, s.x11, s.x15⟩).c (undoN ⟨s.x0, s.x4, s.x8, s.x12⟩).d (undoN ⟨s.x1, s.x5, s.x9, s.x13⟩).d (undoN ⟨s.x2, s.x6, s.x10, s.x14⟩).d (undoN ⟨s.x3, s.x7, s.x11, s.x15⟩).d (fun w => undo_any _ _ _ _ h0 h4 h8 h12 _ rfl w) (fun w => undo_any _ _ _ _ h1 h5 h9 h13 _ rfl w) (fun w => undo_any _ _ _ _ h2 h6 h10 h14 _ rfl w) (fun w => undo_any _ _ _ _ h3 h7 h11 h15 _ rfl w) w
  · exact unroundOdd_core s.x0 s.x1 s.x2 s.x3 s.x4 s.x5 s.x6 s.x7 s.x8 s.x9 s.x10 s.x11 s.x12 s.x13 s.x14 s.x15 (undoN ⟨s.x0, s.x5, s.x10, s.x15⟩).a (undoN ⟨s.x1, s.x6, s.x11, s.x12⟩).a (undoN ⟨s.x2, s.x7, s.x8, s.x13⟩).a (undoN ⟨s.x3, s.x4, s.x9, s.x14⟩).a (undoN ⟨s.x3, s.x4, s.x9, s.x14⟩).b (undoN ⟨s.x0, s.x5, s.x10, s.x15⟩).b (undoN ⟨s.x1, s.x6, s.x11, s.x12⟩).b (undoN ⟨s.x2, s.x7, s.x8, s.x13⟩).b (undoN ⟨s.x2, s.x7, s.x8, s.x13⟩).c (undoN ⟨s.x3, s.x4, s.x9, s.x14⟩).c (undoN ⟨s.x0, s.x5, s.x10, s.x15⟩).c (undoN ⟨s.x1, s.x6, s.x11, s.x12⟩).c (undoN ⟨s.x1, s.x6, s.x11, s.x12⟩).d (undoN ⟨s.x2, s.x7, s.x8, s.x13⟩).d (undoN ⟨s.x3, s.x4, s.x9, s.x14⟩).d (undoN ⟨s.x0, s.x5, s.x10, s.x15⟩).d (fun w => undo_any _ _ _ _ h0 h5 h10 h15 _ rfl w) (fun w => undo_any _ _ _ _ h1 h6 h11 h12 _ rfl w) (fun w => undo_any _ _ _ _ h2 h7 h8 h13 _ rfl w) (fun w => undo_any _ _ _ _ h3 h4 h9 h14 _ rfl w) w

theorem sizeState {s : St} : (Try.prog.info? 112).map (·.size) = some (stA s).size := by
  show _ = some 16
  kernel_rfl

theorem isOdd_any (k : Nat) (w : World) :
    Calls Try.prog 56 #[.int .i64 (k : Int)] w fun e w' => e = .returned (.bool (decide (k % 2 = 1))) ∧ w' = w := by
  have H : Hid (decide ((k : Int).tmod 2 = 1) = decide (k % 2 = 1)) := by
    show decide ((k : Int).tmod 2 = 1) = decide (k % 2 = 1)
    rw [Int.tmod_eq_emod_of_nonneg (by omega)]
    exact decide_eq_decide.2 (by omega)
  go_enter Try.func56, Try.ntmps56
  go_wp2
  go_ret
  exact ⟨by rw [← H.out]; rfl, rfl⟩

end Go.Proofs.Ytaoglljkghkbpaa
