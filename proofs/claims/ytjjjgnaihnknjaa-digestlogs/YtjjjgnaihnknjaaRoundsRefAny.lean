/- A round of the document's answer and its undoing, for every state: the state that the numbers say; nothing below the top of the heap is changed. -/
import Derived.Test.YtjjjgnaihnknjaaMathState
import Derived.Test.YtjjjgnaihnknjaaQuarterRef
import Derived.Test.YtjjjgnaihnknjaaUndoRef
import Derived.Test.YtjjjgnaihnknjaaRefRoundEven
import Derived.Test.YtjjjgnaihnknjaaRefRoundOdd
import Derived.Test.YtjjjgnaihnknjaaRefUnroundEven
import Derived.Test.YtjjjgnaihnknjaaRefUnroundOdd
namespace Go.Proofs.Ytjjjgnaihnknjaa
open Go.RowKit

theorem refRound_any (odd : Bool) (s : St) (h : s.ok) (w : World) :
    Calls Try.prog 40 #[.agg (stA s), .bool odd, .bool false] w fun e w' => e = .returned (.agg (stA (roundN odd s))) ∧ Below w.heap.size w w' := by
  obtain ⟨h0, h1, h2, h3, h4, h5, h6, h7, h8, h9, h10, h11, h12, h13, h14, h15⟩ := h
  cases odd
  · exact refRoundEven_core s.x0 s.x1 s.x2 s.x3 s.x4 s.x5 s.x6 s.x7 s.x8 s.x9 s.x10 s.x11 s.x12 s.x13 s.x14 s.x15 (quarterN ⟨s.x0, s.x4, s.x8, s.x12⟩).a (quarterN ⟨s.x1, s.x5, s.x9, s.x13⟩).a (quarterN ⟨s.x2, s.x6, s.x10, s.x14⟩).a (quarterN ⟨s.x3, s.x7, s.x11, s.x15⟩).a (quarterN ⟨s.x0, s.x4, s.x8, s.x12⟩).b (quarterN ⟨s.x1, s.x5, s.x9, s.x13⟩).b (quarterN ⟨s.x2, s.x6, s.x10, s.x14⟩).b (quarterN ⟨s.x3, s.x7, s.x11, s.x15⟩).b (quarterN ⟨s.x0, s.x4, s.x8, s.x12⟩).c (quarterN ⟨s.x1, s.x5, s.x9, s.x13⟩).c (quarterN ⟨s.x2, s.x6, s.x10, s.x14⟩).c (quarterN ⟨s.x3, s.x7, s.x11, s.x15⟩).c (quarterN ⟨s.x0, s.x4, s.x8, s.x12⟩).d (quarterN ⟨s.x1, s.x5, s.x9, s.x13⟩).d (quarterN ⟨s.x2, s.x6, s.x10, s.x14⟩).d (quarterN ⟨s.x3, s.x7, s.x11, s.x15⟩).d (fun w => refQuarter_any _ _ _ _ h0 h4 h8 h12 _ rfl w) (fun w => refQuarter_any _ _ _ _ h1 h5 h9 h13 _ rfl w) (fun w => refQuarter_any _ _ _ _ h2 h6 h10 h14 _ rfl w) (fun w => refQuarter_any _ _ _ _ h3 h7 h11 h15 _ rfl w) w
  · exact refRoundOdd_core s.x0 s.x1 s.x2 s.x3 s.x4 s.x5 s.x6 s.x7 s.x8 s.x9 s.x10 s.x11 s.x12 s.x13 s.x14 s.x15 (quarterN ⟨s.x0, s.x5, s.x10, s.x15⟩).a (quarterN ⟨s.x1, s.x6, s.x11, s.x12⟩).a (quarterN ⟨s.x2, s.x7, s.x8, s.x13⟩).a (quarterN ⟨s.x3, s.x4, s.x9, s.x14⟩).a (quarterN ⟨s.x3, s.x4, s.x9, s.x14⟩).b (quarterN ⟨s.x0, s.x5, s.x10, s.x15⟩).b (quarterN ⟨s.x1, s.x6, s.x11, s.x12⟩).b (quarterN ⟨s.x2, s.x7, s.x8, s.x13⟩).b (quarterN ⟨s.x2, s.x7, s.x8, s.x13⟩).c (quarterN ⟨s.x3, s.x4, s.x9, s.x14⟩).c (quarterN ⟨s.x0, s.x5, s.x10, s.x15⟩).c (quarterN ⟨s.x1, s.x6, s.x11, s.x12⟩).c (quarterN ⟨s.x1, s.x6, s.x11, s.x12⟩).d (quarterN ⟨s.x2, s.x7, s.x8, s.x13⟩).d (quarterN ⟨s.x3, s.x4, s.x9, s.x14⟩).d (quarterN ⟨s.x0, s.x5, s.x10, s.x15⟩).d (fun w => refQuarter_any _ _ _ _ h0 h5 h10 h15 _ rfl w) (fun w => refQuarter_any _ _ _ _ h1 h6 h11 h12 _ rfl w) (fun w => refQuarter_any _ _ _ _ h2 h7 h8 h13 _ rfl w) (fun w => refQuarter_any _ _ _ _ h3 h4 h9 h14 _ rfl w) w
theorem refUnround_any (odd : Bool) (s : St) (h : s.ok) (w : World) :
    Calls Try.prog 40 #[.agg (stA s), .bool odd, .bool true] w fun e w' => e = .returned (.agg (stA (unroundN odd s))) ∧ Below w.heap.size w w' := by
  obtain ⟨h0, h1, h2, h3, h4, h5, h6, h7, h8, h9, h10, h11, h12, h13, h14, h15⟩ := h
  cases odd
  · exact refUnroundEven_core s.x0 s.x1 s.x2 s.x3 s.x4 s.x5 s.x6 s.x7 s.x8 s.x9 s.x10 s.x11 s.x12 s.x13 s.x14 s.x15 (undoN ⟨s.x0, s.x4, s.x8, s.x12⟩).a (undoN ⟨s.x1, s.x5, s.x9, s.x13⟩).a (undoN ⟨s.x2, s.x6, s.x10, s.x14⟩).a (undoN ⟨s.x3, s.x7, s.x11, s.x15⟩).a (undoN ⟨s.x0, s.x4, s.x8, s.x12⟩).b (undoN ⟨s.x1, s.x5, s.x9, s.x13⟩).b (undoN ⟨s.x2, s.x6, s.x10, s.x14⟩).b (undoN ⟨s.x3, s.x7, s.x11, s.x15⟩).b (undoN ⟨s.x0, s.x4, s.x8, s.x12⟩).c (undoN ⟨s.x1, s.x5, s.x9, s.x13⟩).c (undoN ⟨s.x2, s.x6, s.x10, s.x14⟩).c (undoN ⟨s.x3, s.x7, s.x11, s.x15⟩).c (undoN ⟨s.x0, s.x4, s.x8, s.x12⟩).d (undoN ⟨s.x1, s.x5, s.x9, s.x13⟩).d (undoN ⟨s.x2, s.x6, s.x10, s.x14⟩).d (undoN ⟨s.x3, s.x7, s.x11, s.x15⟩).d (fun w => refUndo_any _ _ _ _ h3 h7 h11 h15 _ rfl w) (fun w => refUndo_any _ _ _ _ h2 h6 h10 h14 _ rfl w) (fun w => refUndo_any _ _ _ _ h1 h5 h9 h13 _ rfl w) (fun w => refUndo_any _ _ _ _ h0 h4 h8 h12 _ rfl w) w
  · exact refUnroundOdd_core s.x0 s.x1 s.x2 s.x3 s.x4 s.x5 s.x6 s.x7 s.x8 s.x9 s.x10 s.x11 s.x12 s.x13 s.x14 s.x15 (undoN ⟨s.x0, s.x5, s.x10, s.x15⟩).a (undoN ⟨s.x1, s.x6, s.x11, s.x12⟩).a (undoN ⟨s.x2, s.x7, s.x8, s.x13⟩).a (undoN ⟨s.x3, s.x4, s.x9, s.x14⟩).a (undoN ⟨s.x3, s.x4, s.x9, s.x14⟩).b (undoN ⟨s.x0, s.x5, s.x10, s.x15⟩).b (undoN ⟨s.x1, s.x6, s.x11, s.x12⟩).b (undoN ⟨s.x2, s.x7, s.x8, s.x13⟩).b (undoN ⟨s.x2, s.x7, s.x8, s.x13⟩).c (undoN ⟨s.x3, s.x4, s.x9, s.x14⟩).c (undoN ⟨s.x0, s.x5, s.x10, s.x15⟩).c (undoN ⟨s.x1, s.x6, s.x11, s.x12⟩).c (undoN ⟨s.x1, s.x6, s.x11, s.x12⟩).d (undoN ⟨s.x2, s.x7, s.x8, s.x13⟩).d (undoN ⟨s.x3, s.x4, s.x9, s.x14⟩).d (undoN ⟨s.x0, s.x5, s.x10, s.x15⟩).d (fun w => refUndo_any _ _ _ _ h3 h4 h9 h14 _ rfl w) (fun w => refUndo_any _ _ _ _ h2 h7 h8 h13 _ rfl w) (fun w => refUndo_any _ _ _ _ h1 h6 h11 h12 _ rfl w) (fun w => refUndo_any _ _ _ _ h0 h5 h10 h15 _ rfl w) w

end Go.Proofs.Ytjjjgnaihnknjaa
