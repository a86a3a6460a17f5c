/- An entry more in a disk's log: what is built, and the disk behind it. -/
import Derived.Test.YtkhfggmjhpbajaaDkLay
import Derived.Handy
namespace Go.Proofs.Ytkhfggmjhpbajaa
open Go Go.RowKit
set_option linter.unusedSimpArgs false
set_option linter.unusedVariables false

/-- an entry's cells -/
def rawF (kd at0 : Int) (b : Nat → Nat) : Nat → Value := fun i => if i = 0 then .int .i64 kd else if i = 1 then .int .i64 at0 else .int .u8 ((b (i - 2) : Nat) : Int)
set_option maxRecDepth 100000 in
theorem built_raw (kd at0 : Int) (b : Nat → Nat) : Try.prog.built 69 [(0, .int .i64 kd), (1, .int .i64 at0), (2, .agg (va 256 (iv .u8 b)))] = some (va 258 (rawF kd at0 b)) := by kernel_rfl
theorem build_raw (kd at0 : Int) (b : Nat → Nat) (w : World) : (Instr.build 69 #[(0, .int .i64 kd), (1, .int .i64 at0), (2, .agg (va 256 (iv .u8 b)))]).run Try.prog w = .ok (.agg (va 258 (rawF kd at0 b))) w := run_build w _ _ _ (built_raw kd at0 b)
theorem infoRaw : (Try.prog.info? 69).map (fun i => (i.zero, i.size, i.bytes)) = some (some (.agg (va 258 (rawF 0 0 fun _ => 0))), 258, 272) := by kernel_rfl
theorem raw_one (kd at0 : Int) (b : Nat → Nat) : ∀ u ∈ (va 258 (rawF kd at0 b)).toList, u.oneCell' = true := fun u hu => by
  rw [va_toList] at hu
  obtain ⟨i, _, rfl⟩ := List.mem_map.1 hu
  unfold rawF
  split
  · rfl
  · split <;> rfl
theorem Blk.loadMid {P : Program} {w : World} {g t M o n : Nat} {f : Nat → Value} (h : Blk w g t (va M f)) (ho : o + n ≤ M) : (loadCellsFrom ⟨g, o, none⟩ 0 n #[]).run P w = .ok (va n fun j => f (o + j)) w := by
  have := run_loadCells_list (P := P) w ⟨g, o, none⟩ ((List.range n).map fun j => f (o + j)) (fun j v hv => by
    rw [Addr.add_mid]
    exact h.range o n ho j v hv)
  rw [List.length_map, List.length_range] at this
  exact this
/-- a struct of three parts -/
theorem wpList_build3 {P : Program} {ops : Array Oper} {rest : List Oper} {o : Oper} {a : Act} {w : World} {Q : Exit → Act → World → Prop} (hg : o.guard = none) (t : TypeId) (x y z : Operand) (ho : o.op = .build t #[(0, x), (1, y), (2, z)]) (vx vy vz : Value) (hx : a.eval x = vx) (hy : a.eval y = vy) (hz : a.eval z = vz)
    (cells : Array Value) (hf : P.built t [(0, vx), (1, vy), (2, vz)] = some cells) (h : wpList P ops Q rest (a.put o.dst (.agg cells)) w) : wpList P ops Q (o :: rest) a w := by
  refine wpList_buildTo hg t _ ho o.dst rfl cells ?_ h
  have e : (Array.map (fun (x : Nat × Operand) => match x with | (i, x) => (i, a.eval x)) #[(0, x), (1, y), (2, z)]).toList = [(0, vx), (1, vy), (2, vz)] := by simp [hx, hy, hz]
  rw [e]
  exact hf
section
variable {w w1 w2 : World} {B g N k lg : Nat} {F : Nat → Nat} {q : QD}
theorem DiskQ.logged (h : DiskQ w B g N F k lg q) (c : Array Value) {v' : Value} (hrow : w2.ownsRow B 69 258 v' (lg + 1) (q.xs ++ c.toList)) (hg : (w.alloc (.cells c 69)).grownBy w2 q.lv.ownBlock) (hv : v'.ownBlock = q.lv.ownBlock ∨ v'.ownBlock = some (w.alloc (.cells c 69)).heap.size) :
    Blk w2 g 88 (dcells q N k) ∧ DiskQ (w2.setCell ⟨g, 8, none⟩ v') B g N F k (lg + 1) { q with lv := v', xs := q.xs ++ c.toList } ∧ Moved g N q { q with lv := v', xs := q.xs ++ c.toList } w (w2.setCell ⟨g, 8, none⟩ v') := by
  have hlv := own_ne h.log h.cells (by decide)
  have b2 : ∀ z, z < w.heap.size → q.lv.ownBlock ≠ some z → w2.heap[z]? = w.heap[z]? := fun z hz1 hz2 => by
    rw [hg.block z (by simp; omega) (fun e => hz2 e.symm)]
    exact heap_alloc_old _ _ hz1
  have hB2 : Blk w2 g 88 (dcells q N k) := (b2 g h.cells.lt hlv).trans h.cells
  have hvg : v'.ownBlock ≠ some g := own_ne hrow hB2 (by decide)
  have hsz := hg.size
  simp at hsz
  refine ⟨hB2, h.relog v' _ (hB2.put 8 v') ?_ fun z hf h1 h2 => ?_, ⟨hg.os, hg.tape, hg.output, ?_, fun z hz hf => ?_⟩, fun z hz => ?_⟩
  · exact own_block hrow fun z hz => Deep.blk_setCell_other w2 ⟨g, 8, none⟩ _ z fun e => hvg (by rw [← (show z = g from e)]; exact hz)
  · rw [Deep.blk_setCell_other w2 ⟨g, 8, none⟩ _ z h1]
    exact b2 z (h.foots z hf).2 h2
  · rw [Deep.nblk_setCell]
    omega
  · rw [Deep.blk_setCell_other w2 ⟨g, 8, none⟩ _ z fun e => hf (.inl e)]
    exact b2 z hz fun e => hf (.inr (.inr (.inr (.inr (.inl e)))))
  · rcases hz with e | e | e | e | e | e | e
    · exact .inl (.inl e)
    · exact .inl (.inr (.inl e))
    · exact .inl (.inr (.inr (.inl e)))
    · exact .inl (.inr (.inr (.inr (.inl e))))
    · have e' : v'.ownBlock = some z := e
      rcases hv with e2 | e2
      · exact .inl (.inr (.inr (.inr (.inr (.inl (by rw [← e2]; exact e'))))))
      · rw [e2] at e'
        injection e' with e'
        simp at e'
        exact .inr (by omega)
    · exact .inl (.inr (.inr (.inr (.inr (.inr (.inl e))))))
    · exact .inl (.inr (.inr (.inr (.inr (.inr (.inr e))))))
end
end Go.Proofs.Ytkhfggmjhpbajaa
