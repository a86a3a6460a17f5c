/- Two disks that share no memory, and a map beside them: what is done to one of the three leaves the others as they were. -/
import Derived.Test.YtkhfggmjhpbajaaDkClone
import Derived.Handy
namespace Go.Proofs.Ytkhfggmjhpbajaa
open Go Go.RowKit
set_option linter.unusedSimpArgs false
set_option linter.unusedVariables false

/-- something done to a disk, as a slice that came in holds it -/
def IsActs (w : World) (a : Option Addr) (n : Nat) (K A : Nat → Int) (C : Nat → Nat) : Prop :=
  ∀ i, i < n → ∃ b o, a = some ⟨b, o, none⟩ ∧ b < w.heap.size ∧ w.cell? ⟨b, o + i * 6, none⟩ = some (.int .i64 (K i)) ∧ w.cell? ⟨b, o + i * 6 + 1, none⟩ = some (.int .i64 (A i)) ∧ w.cell? ⟨b, o + i * 6 + 2, none⟩ = some (.int .u8 ((C i : Nat) : Int)) ∧ (-9223372036854775808 ≤ A i ∧ A i ≤ 9223372036854775807)
theorem IsActs.below {w w' : World} {a : Option Addr} {n : Nat} {K A : Nat → Int} {C : Nat → Nat} (h : IsActs w a n K A C) (hb : Below w.heap.size w w') : IsActs w' a n K A C := fun i hi => by
  obtain ⟨b, o, e, h1, h2, h3, h4, h5⟩ := h i hi
  have hblk := hb.block b h1
  refine ⟨b, o, e, Nat.lt_of_lt_of_le h1 hb.size, ?_, ?_, ?_, h5⟩
  · rw [← h2]
    simp [World.cell?, hblk]
  · rw [← h3]
    simp [World.cell?, hblk]
  · rw [← h4]
    simp [World.cell?, hblk]
structure Two (w : World) (B gd go mp : Nat) (F : Nat → Nat) (f : Int → Option Nat) (kd ld ko lo : Nat) (qd qo : QD) : Prop where
  d : DiskQ w B gd 20 F kd ld qd
  dq : Quiet qd kd
  o : DiskQ w B go 20 (fun _ => 0) ko lo qo
  oq : Quiet qo ko
  ap : ∀ b, foot gd 20 qd b → ¬ foot go 20 qo b
  m : IMap w mp f
  mB : B ≤ mp
  md : ¬ foot gd 20 qd mp
  mo : ¬ foot go 20 qo mp
section
variable {w w' : World} {B gd go m kd ld ko lo : Nat} {F : Nat → Nat} {f : Int → Option Nat} {qd qo : QD}
theorem Two.below (h : Two w B gd go m F f kd ld ko lo qd qo) (hb : Below w.heap.size w w') : Two w' B gd go m F f kd ld ko lo qd qo :=
  ⟨h.d.below hb, h.dq, h.o.below hb, h.oq, h.ap, h.m.keep (hb.block m h.m.lt), h.mB, h.md, h.mo⟩
theorem Two.doD (h : Two w B gd go m F f kd ld ko lo qd qo) {F' : Nat → Nat} {kd' ld' : Nat} {qd' : QD} (hd : DiskQ w' B gd 20 F' kd' ld' qd') (hq : Quiet qd' kd') (hm : Moved gd 20 qd qd' w w') : Two w' B gd go m F' f kd' ld' ko lo qd' qo := by
  refine ⟨hd, hq, h.o.kept fun b hb => hm.1.block b (h.o.foots b hb).2 fun e => h.ap b e hb, h.oq, fun b hb ho => ?_, h.m.keep (hm.1.block m h.m.lt h.md), h.mB, fun e => ?_, h.mo⟩
  · rcases hm.2 b hb with e | e
    · exact h.ap b e ho
    · have := (h.o.foots b ho).2
      omega
  · rcases hm.2 m e with e | e
    · exact h.md e
    · have := h.m.lt
      omega
theorem Two.doO (h : Two w B gd go m F f kd ld ko lo qd qo) {ko' lo' : Nat} {qo' : QD} (ho : DiskQ w' B go 20 (fun _ => 0) ko' lo' qo') (hq : Quiet qo' ko') (hm : Moved go 20 qo qo' w w') : Two w' B gd go m F f kd ld ko' lo' qd qo' := by
  refine ⟨h.d.kept fun b hb => hm.1.block b (h.d.foots b hb).2 fun e => h.ap b hb e, h.dq, ho, hq, fun b hb ho' => ?_, h.m.keep (hm.1.block m h.m.lt h.mo), h.mB, h.md, fun e => ?_⟩
  · rcases hm.2 b ho' with e | e
    · exact h.ap b hb e
    · have := (h.d.foots b hb).2
      omega
  · rcases hm.2 m e with e | e
    · exact h.mo e
    · have := h.m.lt
      omega
theorem Two.put (h : Two w B gd go m F f kd ld ko lo qd qo) {f' : Int → Option Nat} (hi : IMap w' m f') (hT : Turns (fun z => z = m) w w') : Two w' B gd go m F f' kd ld ko lo qd qo :=
  ⟨h.d.kept fun b hb => hT.block b (h.d.foots b hb).2 fun e => h.md (e ▸ hb), h.dq, h.o.kept fun b hb => hT.block b (h.o.foots b hb).2 fun e => h.mo (e ▸ hb), h.oq, h.ap, hi, h.mB, h.md, h.mo⟩
theorem Two.lowD (h : Two w B gd go m F f kd ld ko lo qd qo) {qd' : QD} (hB : B ≤ w.heap.size) (hm : Moved gd 20 qd qd' w w') : Below B w w' := hm.1.below hB fun b hb => (h.d.foots b hb).1
theorem Two.lowO (h : Two w B gd go m F f kd ld ko lo qd qo) {qo' : QD} (hB : B ≤ w.heap.size) (hm : Moved go 20 qo qo' w w') : Below B w w' := hm.1.below hB fun b hb => (h.o.foots b hb).1
end
theorem own_there {w : World} {B e size n g cap : Nat} {xs : List Value} (h : w.ownsRow B e size (.slice (some ⟨g, 0, none⟩) n cap) n xs) (o k : Nat) (hk : o + k ≤ n * size) : w.there g o k ∧ B ≤ g := by
  rcases h.2 with ⟨hn, _⟩ | ⟨g', cap', cur, hv, hb, hg, h1, h2, h3, h4⟩
  · cases hn
  · injection hv with hv1 hv2 hv3
    injection hv1 with hv1
    injection hv1 with hv1
    subst hv1 hv3
    refine ⟨(show Blk w g e cur from hg).there o k ?_, hb⟩
    have := Nat.mul_le_mul_right size h1
    omega
/-- cells laid into a slice that the program made -/
theorem own_store {P : Program} {w : World} {g o : Nat} {cs : Array Value} (ht : w.there g o cs.size) (h1 : ∀ v ∈ cs.toList, v.oneCell' = true) : (storeCells ⟨g, o, none⟩ cs.toList).run P w = .ok () (w.setCells g o cs.toList) := by
  have := run_storeCells_cells (P := P) g o cs.toList 0 w (fun j hj => by simpa using (ht j (by simpa using hj)).1) (fun j hj => by simpa using (ht j (by simpa using hj)).2) h1
  simpa using this
set_option maxRecDepth 100000 in
theorem built_raw0 : Try.prog.built 69 [] = some (va 258 (rawF 0 0 fun _ => 0)) := by kernel_rfl
/-- what the blocks hold is what the map tells -/
def Tells (F : Nat → Nat) (f : Int → Option Nat) : Prop := ∀ a, a < 20 → ∀ j, j < 256 → F (a * 256 + j) = (f (a : Int)).getD 0
theorem Tells.put {F : Nat → Nat} {f : Int → Option Nat} (h : Tells F f) (a x : Nat) : Tells (putAt F (a * 256) 256 fun _ => x) (fun b => if b = (a : Int) then some x else f b) := fun c hc j hj => by
  show putAt F (a * 256) 256 (fun _ => x) (c * 256 + j) = (if (c : Int) = (a : Int) then some x else f (c : Int)).getD 0
  unfold putAt
  by_cases hca : c = a
  · subst hca
    rw [if_pos (by omega), if_pos rfl]
    rfl
  · rw [if_neg (by omega), if_neg (by omega)]
    exact h c hc j hj
theorem Tells.eq {F : Nat → Nat} {f : Int → Option Nat} (h : Tells F f) (a : Nat) (ha : a < 20) (w : World) : (Op.equalIn 10000 55 (.agg (va 256 (iv .u8 fun j => F (a * 256 + j)))) (.agg (va 256 (iv .u8 fun _ => (f (a : Int)).getD 0)))).run Try.prog w = .ok true w := by
  have := eq_bk 55 Try.underlying55 (fun j => F (a * 256 + j)) (fun _ => (f (a : Int)).getD 0) w
  rw [decide_eq_true (fun j hj => h a ha j hj)] at this
  exact this
end Go.Proofs.Ytkhfggmjhpbajaa
