/- A state as a block of memory: loaded and stored whole; what lies below, and beside it, stays. -/
import Derived.Test.YtaoglljkghkbpaaMathState
import Derived.Laws.Rows
import Derived.Laws.Tables
import Derived.Laws.CopyOwn
import Derived.Below
namespace Go.Proofs.Ytaoglljkghkbpaa
open Go Go.RowKit

/-- block g holds the cells, of type t -/
def Blk (w : World) (g : Nat) (t : TypeId) (cs : Array Value) : Prop := w.heap[g]? = some (.cells cs t (0, 0))

theorem Blk.lt {w : World} {g : Nat} {t : TypeId} {cs : Array Value} (h : Blk w g t cs) : g < w.heap.size := (Array.getElem?_eq_some_iff.1 h).1
theorem Blk.below {w w' : World} {g B : Nat} {t : TypeId} {cs : Array Value} (h : Blk w g t cs) (hb : Below B w w') (hg : g < B) : Blk w' g t cs := by
  unfold Blk at *; rw [hb.block g hg]; exact h
theorem Blk.drew {w : World} {g : Nat} {t : TypeId} {cs : Array Value} (h : Blk w g t cs) : Blk w.drew g t cs := h
theorem Blk.alloc {w : World} {g : Nat} {t : TypeId} {cs : Array Value} (h : Blk w g t cs) (o : Obj) : Blk (w.alloc o) g t cs := by
  have := h.lt
  unfold Blk at *; rw [Below.heap_alloc w o g this]; exact h
theorem Blk.new (w : World) (t : TypeId) (cs : Array Value) : Blk (w.alloc (.cells cs t)) w.heap.size t cs := heap_alloc_new w _
theorem Blk.set {w : World} {g : Nat} {t : TypeId} {old : Array Value} (h : Blk w g t old) (cs : Array Value) : Blk (w.setRow g cs) g t cs := setRow_heap w g old cs t _ h
theorem Blk.other {w : World} {g k : Nat} {t : TypeId} {old : Array Value} (h : Blk w k t old) (cs : Array Value) (hk : k ≠ g) : Blk (w.setRow g cs) k t old := by
  unfold Blk at *; rw [setRow_other w g k cs hk]; exact h
theorem Blk.cell {w : World} {g : Nat} {t : TypeId} {cs : Array Value} (h : Blk w g t cs) (i : Nat) : w.cell? ⟨g, i, none⟩ = cs[i]? := cell_of_row _ _ i cs t (0, 0) h

theorem Blk.load {P : Program} {w : World} {g : Nat} {t : TypeId} {cs : Array Value} (h : Blk w g t cs) {n : Nat} (hn : cs.size = n) :
    (loadCellsFrom ⟨g, 0, none⟩ 0 n #[]).run P w = .ok cs w := by
  subst hn
  have := run_loadCells_list (P := P) w ⟨g, 0, none⟩ cs.toList (fun j v hv => by
    have hadd : (⟨g, 0, none⟩ : Addr).add j = ⟨g, j, none⟩ := by unfold Addr.add; split <;> simp_all
    rw [hadd, h.cell]
    simpa using hv)
  simpa [loadCells] using this
theorem Blk.store {P : Program} {w : World} {g : Nat} {t : TypeId} {old : Array Value} (h : Blk w g t old) (cs : Array Value) (hn : old.size = cs.size) (h1 : ∀ v ∈ cs.toList, v.oneCell' = true) :
    (storeCells ⟨g, 0, none⟩ cs.toList 0).run P w = .ok () (w.setRow g cs) := by
  have := run_storeCells_from (P := P) g t cs.toList 0 old w h (by simp; omega) h1
  rw [this]; simp
theorem stA_one (s : St) : ∀ v ∈ (stA s).toList, v.oneCell' = true := by
  intro v hv
  simp only [stA, List.mem_cons, List.not_mem_nil, or_false] at hv
  rcases hv with h | h | h | h | h | h | h | h | h | h | h | h | h | h | h | h <;> (subst h; rfl)

-- sixteen cells
/-- sixteen cells, of a state -/
structure Cells (w : World) (g : Nat) (s : St) : Prop where
  c0 : w.cell? ⟨g, 0, none⟩ = some (.int .u32 (s.x0 : Int))
  c1 : w.cell? ⟨g, 1, none⟩ = some (.int .u32 (s.x1 : Int))
  c2 : w.cell? ⟨g, 2, none⟩ = some (.int .u32 (s.x2 : Int))
  c3 : w.cell? ⟨g, 3, none⟩ = some (.int .u32 (s.x3 : Int))
  c4 : w.cell? ⟨g, 4, none⟩ = some (.int .u32 (s.x4 : Int))
  c5 : w.cell? ⟨g, 5, none⟩ = some (.int .u32 (s.x5 : Int))
  c6 : w.cell? ⟨g, 6, none⟩ = some (.int .u32 (s.x6 : Int))
  c7 : w.cell? ⟨g, 7, none⟩ = some (.int .u32 (s.x7 : Int))
  c8 : w.cell? ⟨g, 8, none⟩ = some (.int .u32 (s.x8 : Int))
  c9 : w.cell? ⟨g, 9, none⟩ = some (.int .u32 (s.x9 : Int))
  c10 : w.cell? ⟨g, 10, none⟩ = some (.int .u32 (s.x10 : Int))
  c11 : w.cell? ⟨g, 11, none⟩ = some (.int .u32 (s.x11 : Int))
  c12 : w.cell? ⟨g, 12, none⟩ = some (.int .u32 (s.x12 : Int))
  c13 : w.cell? ⟨g, 13, none⟩ = some (.int .u32 (s.x13 : Int))
  c14 : w.cell? ⟨g, 14, none⟩ = some (.int .u32 (s.x14 : Int))
  c15 : w.cell? ⟨g, 15, none⟩ = some (.int .u32 (s.x15 : Int))
/-- sixteen cells that may be written -/
structure Frees (w : World) (g : Nat) : Prop where
  f0 : w.frozen? ⟨g, 0, none⟩ = false
  f1 : w.frozen? ⟨g, 1, none⟩ = false
  f2 : w.frozen? ⟨g, 2, none⟩ = false
  f3 : w.frozen? ⟨g, 3, none⟩ = false
  f4 : w.frozen? ⟨g, 4, none⟩ = false
  f5 : w.frozen? ⟨g, 5, none⟩ = false
  f6 : w.frozen? ⟨g, 6, none⟩ = false
  f7 : w.frozen? ⟨g, 7, none⟩ = false
  f8 : w.frozen? ⟨g, 8, none⟩ = false
  f9 : w.frozen? ⟨g, 9, none⟩ = false
  f10 : w.frozen? ⟨g, 10, none⟩ = false
  f11 : w.frozen? ⟨g, 11, none⟩ = false
  f12 : w.frozen? ⟨g, 12, none⟩ = false
  f13 : w.frozen? ⟨g, 13, none⟩ = false
  f14 : w.frozen? ⟨g, 14, none⟩ = false
  f15 : w.frozen? ⟨g, 15, none⟩ = false
theorem Blk.cells {w : World} {g : Nat} {t : TypeId} {s : St} (h : Blk w g t (stA s)) : Cells w g s :=
  ⟨by rw [h.cell]; rfl, by rw [h.cell]; rfl, by rw [h.cell]; rfl, by rw [h.cell]; rfl, by rw [h.cell]; rfl, by rw [h.cell]; rfl, by rw [h.cell]; rfl, by rw [h.cell]; rfl, by rw [h.cell]; rfl, by rw [h.cell]; rfl, by rw [h.cell]; rfl, by rw [h.cell]; rfl, by rw [h.cell]; rfl, by rw [h.cell]; rfl, by rw [h.cell]; rfl, by rw [h.cell]; rfl⟩
theorem Blk.frees {w : World} {g : Nat} {t : TypeId} {cs : Array Value} (h : Blk w g t cs) : Frees w g := by
  have : ∀ i, w.frozen? ⟨g, i, none⟩ = false := fun i => by unfold Blk at h; simp [World.frozen?, h]
  exact ⟨this 0, this 1, this 2, this 3, this 4, this 5, this 6, this 7, this 8, this 9, this 10, this 11, this 12, this 13, this 14, this 15⟩
theorem Blk.put {w : World} {g : Nat} {t : TypeId} {cs : Array Value} (h : Blk w g t cs) (i : Nat) (v : Value) : Blk (w.setCell ⟨g, i, none⟩ v) g t (cs.setIfInBounds i v) := by
  rw [setCell_eq_setRow w g i cs t (0, 0) v h]; exact h.set _
theorem Blk.put_other {w : World} {g k : Nat} {t : TypeId} {cs : Array Value} (h : Blk w k t cs) (i : Nat) (v : Value) (hk : k ≠ g) : Blk (w.setCell ⟨g, i, none⟩ v) k t cs := by
  unfold Blk at *; rw [Below.heap_setCell w ⟨g, i, none⟩ v k hk]; exact h
/-- a world, and sixteen cells of a block written one by one -/
def put16 (w : World) (g : Nat) (s : St) : World :=
  (((((((((((((((w.setCell ⟨g, 0, none⟩ (.int .u32 (s.x0 : Int))).setCell ⟨g, 1, none⟩ (.int .u32 (s.x1 : Int))).setCell ⟨g, 2, none⟩ (.int .u32 (s.x2 : Int))).setCell ⟨g, 3, none⟩ (.int .u32 (s.x3 : Int))).setCell ⟨g, 4, none⟩ (.int .u32 (s.x4 : Int))).setCell ⟨g, 5, none⟩ (.int .u32 (s.x5 : Int))).setCell ⟨g, 6, none⟩ (.int .u32 (s.x6 : Int))).setCell ⟨g, 7, none⟩ (.int .u32 (s.x7 : Int))).setCell ⟨g, 8, none⟩ (.int .u32 (s.x8 : Int))).setCell ⟨g, 9, none⟩ (.int .u32 (s.x9 : Int))).setCell ⟨g, 10, none⟩ (.int .u32 (s.x10 : Int))).setCell ⟨g, 11, none⟩ (.int .u32 (s.x11 : Int))).setCell ⟨g, 12, none⟩ (.int .u32 (s.x12 : Int))).setCell ⟨g, 13, none⟩ (.int .u32 (s.x13 : Int))).setCell ⟨g, 14, none⟩ (.int .u32 (s.x14 : Int))).setCell ⟨g, 15, none⟩ (.int .u32 (s.x15 : Int))
theorem blk_put16 {w : World} {g : Nat} {t : TypeId} {o : St} (h : Blk w g t (stA o)) (s : St) : Blk (put16 w g s) g t (stA s) := by
  have := (((((((((((((((h.put 0 (.int .u32 (s.x0 : Int))).put 1 (.int .u32 (s.x1 : Int))).put 2 (.int .u32 (s.x2 : Int))).put 3 (.int .u32 (s.x3 : Int))).put 4 (.int .u32 (s.x4 : Int))).put 5 (.int .u32 (s.x5 : Int))).put 6 (.int .u32 (s.x6 : Int))).put 7 (.int .u32 (s.x7 : Int))).put 8 (.int .u32 (s.x8 : Int))).put 9 (.int .u32 (s.x9 : Int))).put 10 (.int .u32 (s.x10 : Int))).put 11 (.int .u32 (s.x11 : Int))).put 12 (.int .u32 (s.x12 : Int))).put 13 (.int .u32 (s.x13 : Int))).put 14 (.int .u32 (s.x14 : Int))).put 15 (.int .u32 (s.x15 : Int))
  simp only [stA, List.setIfInBounds_toArray, List.set_cons_zero, List.set_cons_succ] at this
  unfold put16
  exact this
theorem blk_put16_other {w : World} {g k : Nat} {t : TypeId} {cs : Array Value} (h : Blk w k t cs) (s : St) (hk : k ≠ g) : Blk (put16 w g s) k t cs := by
  have := (((((((((((((((h.put_other 0 (.int .u32 (s.x0 : Int)) hk).put_other 1 (.int .u32 (s.x1 : Int)) hk).put_other 2 (.int .u32 (s.x2 : Int)) hk).put_other 3 (.int .u32 (s.x3 : Int)) hk).put_other 4 (.int .u32 (s.x4 : Int)) hk).put_other 5 (.int .u32 (s.x5 : Int)) hk).put_other 6 (.int .u32 (s.x6 : Int)) hk).put_other 7 (.int .u32 (s.x7 : Int)) hk).put_other 8 (.int .u32 (s.x8 : Int)) hk).put_other 9 (.int .u32 (s.x9 : Int)) hk).put_other 10 (.int .u32 (s.x10 : Int)) hk).put_other 11 (.int .u32 (s.x11 : Int)) hk).put_other 12 (.int .u32 (s.x12 : Int)) hk).put_other 13 (.int .u32 (s.x13 : Int)) hk).put_other 14 (.int .u32 (s.x14 : Int)) hk).put_other 15 (.int .u32 (s.x15 : Int)) hk
  exact this
theorem below_put16 {B g : Nat} {w0 w : World} (h : Below B w0 w) (hg : B ≤ g) (s : St) : Below B w0 (put16 w g s) := by
  have := (((((((((((((((h.setCell (p := ⟨g, 0, none⟩) hg (.int .u32 (s.x0 : Int))).setCell (p := ⟨g, 1, none⟩) hg (.int .u32 (s.x1 : Int))).setCell (p := ⟨g, 2, none⟩) hg (.int .u32 (s.x2 : Int))).setCell (p := ⟨g, 3, none⟩) hg (.int .u32 (s.x3 : Int))).setCell (p := ⟨g, 4, none⟩) hg (.int .u32 (s.x4 : Int))).setCell (p := ⟨g, 5, none⟩) hg (.int .u32 (s.x5 : Int))).setCell (p := ⟨g, 6, none⟩) hg (.int .u32 (s.x6 : Int))).setCell (p := ⟨g, 7, none⟩) hg (.int .u32 (s.x7 : Int))).setCell (p := ⟨g, 8, none⟩) hg (.int .u32 (s.x8 : Int))).setCell (p := ⟨g, 9, none⟩) hg (.int .u32 (s.x9 : Int))).setCell (p := ⟨g, 10, none⟩) hg (.int .u32 (s.x10 : Int))).setCell (p := ⟨g, 11, none⟩) hg (.int .u32 (s.x11 : Int))).setCell (p := ⟨g, 12, none⟩) hg (.int .u32 (s.x12 : Int))).setCell (p := ⟨g, 13, none⟩) hg (.int .u32 (s.x13 : Int))).setCell (p := ⟨g, 14, none⟩) hg (.int .u32 (s.x14 : Int))).setCell (p := ⟨g, 15, none⟩) hg (.int .u32 (s.x15 : Int))
  exact this

end Go.Proofs.Ytaoglljkghkbpaa
