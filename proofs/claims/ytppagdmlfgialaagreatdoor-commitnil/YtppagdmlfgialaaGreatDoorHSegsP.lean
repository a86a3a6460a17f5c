/- A region that draws its order, by a plan: operations that are taken ahead, operations that are shown to yield, operations that are forced, and forks where two are ready. No program in it. -/
import Derived.Test.YtppagdmlfgialaaGreatDoorHDkWrite
import Derived.Handy
import Derived.Laws.MakeOwn
import Derived.Laws.OwnMore
import Derived.Test.YtppagdmlfgialaaGreatDoorHNdKit
import Derived.Test.YtppagdmlfgialaaGreatDoorHBlkGrp
import Derived.Test.YtppagdmlfgialaaGreatDoorHDigRow
import Derived.Test.YtppagdmlfgialaaGreatDoorHDkKeep
import Derived.Great.BuildSlice
import Derived.BigQuiet
import Derived.Deep.QuietTactic
import Derived.Deep.DeepCutAuto
import Derived.Deep.Cut

namespace Go.Proofs.YtppagdmlfgialaaGreatDoor
theorem sgLHSegsP : (∀ (α : Type) (a : α) (l r : List α), (a :: l) ++ r = a :: (l ++ r)) ∧ (∀ (α : Type) (l : List α), [] ++ l = l) ∧ (∀ (α : Type) (l : List α), l ++ [] = l) ∧ (∀ (α β : Type) (f : α → Option β) (a : α) (l : List α), (a :: l).filterMap f = match f a with | none => l.filterMap f | some b => b :: l.filterMap f) ∧ (∀ (α β : Type) (f : α → Option β), [].filterMap f = []) ∧ (∀ (α : Type) (l : List α) (i : Nat), l.toArray[i]? = l[i]?) ∧ (∀ (α : Type) (a : α) (l : List α), (a :: l)[0]? = some a) ∧ (∀ (α : Type) (a : α) (l : List α) (i : Nat), (a :: l)[i + 1]? = l[i]?) :=
  ⟨fun _ _ _ _ => List.cons_append, fun _ _ => List.nil_append _, fun _ _ => List.append_nil _, fun _ _ _ _ _ => List.filterMap_cons, fun _ _ _ => List.filterMap_nil, fun _ _ _ => List.getElem?_toArray, fun _ _ _ => List.getElem?_cons_zero, fun _ _ _ _ => List.getElem?_cons_succ⟩
theorem sgPHSegsP : (∀ (α : Type) (l : List α) (i : Nat) (a : α), l.toArray.setIfInBounds i a = (l.set i a).toArray) ∧ (∀ (α : Type) (a b : α) (l : List α), (a :: l).set 0 b = b :: l) ∧ (∀ (α : Type) (a b : α) (l : List α) (i : Nat), (a :: l).set (i + 1) b = a :: l.set i b) :=
  ⟨fun _ _ _ _ => List.setIfInBounds_toArray _ _ _, fun _ _ _ _ => List.set_cons_zero, fun _ _ _ _ _ => List.set_cons_succ⟩
end Go.Proofs.YtppagdmlfgialaaGreatDoor
namespace Go.Proofs.YtppagdmlfgialaaGreatDoor
open Go Go.RowKit
set_option linter.unusedSimpArgs false
set_option linter.unusedVariables false

theorem made_one (v : Value) (n : Nat) : madeCells #[v] n = va n fun _ => v := by
  refine va_ext (size_madeCells _ _) fun i hi => ?_
  unfold madeCells
  simp [hi, Nat.mod_one]
theorem made_const (z : Array Value) (v : Value) (m : Nat) (hz : z.size = m) (hm : 0 < m) (h : ∀ j, j < m → z[j]? = some v) (n : Nat) : madeCells z n = va n fun _ => v := by
  refine va_ext (size_madeCells _ _) fun i hi => ?_
  unfold madeCells
  rw [Array.getElem?_map, Array.getElem?_range, if_pos hi, Option.map_some, getElem!_def, hz, h _ (Nat.mod_lt _ hm)]
theorem made_bks (n : Nat) : madeCells (va 256 (iv .u8 fun _ => 0)) (n * 256) = va (n * 256) (iv .u8 fun _ => 0) :=
  made_const _ _ 256 (va_size _ _) (by decide) (fun j hj => va_at (iv .u8 fun _ => 0) hj) _
theorem make_bks (n : Nat) (hn : n ≤ 8192) (w : World) : (Instr.makeSlice 80 (.int .i64 (n : Int)) (.int .i64 (n : Int))).run Tryz.prog w = .ok (.slice (some ⟨w.heap.size, 0, none⟩) n n) (w.alloc (.cells (va (n * 256) (iv .u8 fun _ => 0)) 141)) := by
  obtain ⟨i0, hi, hz0, hz1, hz2⟩ := info_parts infoBk
  have := run_make (P := Tryz.prog) w 80 141 i0 (.agg (va 256 (iv .u8 fun _ => 0))) Tryz.underlying80 hi hz0 .i64 .i64 (n : Int) (n : Int) (by omega) (Int.le_refl _) (by rw [hz2]; omega) (by omega)
  rw [hz1] at this
  simp only [Int.toNat_natCast, Value.cells, made_bks] at this
  exact this
theorem make_ints (n : Nat) (hn : n ≤ 8192) (w : World) : (Instr.makeSlice 135 (.int .i64 (n : Int)) (.int .i64 (n : Int))).run Tryz.prog w = .ok (.slice (some ⟨w.heap.size, 0, none⟩) n n) (w.alloc (.cells (va n fun _ => .int .i64 0) 3)) := by
  obtain ⟨i0, hi, hz0, hz1, hz2⟩ := info_parts infoInt
  have := run_make (P := Tryz.prog) w 135 3 i0 (.int .i64 0) Tryz.underlying135 hi hz0 .i64 .i64 (n : Int) (n : Int) (by omega) (Int.le_refl _) (by rw [hz2]; omega) (by omega)
  rw [hz1] at this
  simp only [Int.toNat_natCast, Value.cells, made_one, Nat.mul_one] at this
  exact this
theorem make_rows (n : Nat) (hn : n ≤ 8192) (w : World) : (Instr.makeSlice 131 (.int .i64 (n : Int)) (.int .i64 (n : Int))).run Tryz.prog w = .ok (.slice (some ⟨w.heap.size, 0, none⟩) n n) (w.alloc (.cells (va n fun _ => .slice none 0 0) 135)) := by
  obtain ⟨i0, hi, hz0, hz1, hz2⟩ := info_parts infoInts
  have := run_make (P := Tryz.prog) w 131 135 i0 (.slice none 0 0) Tryz.underlying131 hi hz0 .i64 .i64 (n : Int) (n : Int) (by omega) (Int.le_refl _) (by rw [hz2]; omega) (by omega)
  rw [hz1] at this
  simp only [Int.toNat_natCast, Value.cells, made_one, Nat.mul_one] at this
  exact this
theorem own_made {w : World} {g t n size : Nat} {f : Nat → Value} (h : Blk w g t (va (n * size) f)) (hn : n ≤ 8192) (B : Nat) (hB : B ≤ g) : w.ownsRow B t size (.slice (some ⟨g, 0, none⟩) n n) n ((List.range (n * size)).map f) :=
  ⟨by simp, .inr ⟨g, n, _, rfl, hB, h, Nat.le_refl _, by unfold maxLen; omega, by rw [va_size], by rw [va_toList, List.take_of_length_le (by simp)]⟩⟩
set_option maxRecDepth 100000 in
set_option maxHeartbeats 2000000 in
theorem newPast_any (n : Nat) (hn : n ≤ 8192) (w : World) : Calls Tryz.prog 50 #[.int .i64 (n : Int)] w fun e w' => ∃ r gs, e = .returned (.agg #[.map (some r), .slice (some ⟨gs, 0, none⟩) n n]) ∧ w.heap.size ≤ r ∧ MapIs (α := Int × Int) (β := Vector Nat 256) momK bK w' r [] ∧ GrpAt w' w.heap.size (.slice (some ⟨gs, 0, none⟩) n n) (List.replicate n []) (List.replicate n (.slice none 0 0)) ∧ Below w.heap.size w w' := by
  have hmm := @run_makeMap Tryz.prog
  have hmk := make_rows n hn
  go_enter Tryz.func50, Tryz.ntmps50
  go_wp2_with fail
  have k0 : Blk (((w.alloc (.cells #[.map (some (w.heap.size + 1)), .slice (some ⟨w.heap.size + 1 + 1, 0, none⟩) n n] 133)).alloc (.map #[] 0)).alloc (.cells (va n fun _ => .slice none 0 0) 135)) w.heap.size 133 #[.map (some (w.heap.size + 1)), .slice (some ⟨w.heap.size + 1 + 1, 0, none⟩) n n] := ((Blk.new _ _ _).alloc _).alloc _
  have k2 : Blk (((w.alloc (.cells #[.map (some (w.heap.size + 1)), .slice (some ⟨w.heap.size + 1 + 1, 0, none⟩) n n] 133)).alloc (.map #[] 0)).alloc (.cells (va n fun _ => .slice none 0 0) 135)) (w.heap.size + 2) 135 (va n fun _ => .slice none 0 0) := Blk.new2 _ _ _ _ _
  have hb := below_new3 w (.cells #[.map (some (w.heap.size + 1)), .slice (some ⟨w.heap.size + 1 + 1, 0, none⟩) n n] 133) (.map #[] 0) (.cells (va n fun _ => .slice none 0 0) 135)
  have hm : MapIs (α := Int × Int) (β := Vector Nat 256) momK bK (((w.alloc (.cells #[.map (some (w.heap.size + 1)), .slice (some ⟨w.heap.size + 1 + 1, 0, none⟩) n n] 133)).alloc (.map #[] 0)).alloc (.cells (va n fun _ => .slice none 0 0) 135)) (w.heap.size + 1) [] := by
    refine ⟨#[], 0, ?_, rfl⟩
    rw [heap_alloc_old _ _ (by simp)]
    have := heap_alloc_new (w.alloc (.cells #[.map (some (w.heap.size + 1)), .slice (some ⟨w.heap.size + 1 + 1, 0, none⟩) n n] 133)) (.map #[] 0)
    rwa [show (w.alloc (.cells #[.map (some (w.heap.size + 1)), .slice (some ⟨w.heap.size + 1 + 1, 0, none⟩) n n] 133)).heap.size = w.heap.size + 1 by simp] at this
  generalize (((w.alloc (.cells #[.map (some (w.heap.size + 1)), .slice (some ⟨w.heap.size + 1 + 1, 0, none⟩) n n] 133)).alloc (.map #[] 0)).alloc (.cells (va n fun _ => .slice none 0 0) 135)) = w1 at *
  refine bodyPost_ret (results_cell_row Tryz.results50 _ _ w.heap.size 133 #[.map (some (w.heap.size + 1)), .slice (some ⟨w.heap.size + 1 + 1, 0, none⟩) n n] (0, 0) _ rfl k0 Tryz.underlying133 rfl (by kernel_rfl)) rfl ?_
  have h2 : Blk w1 (w.heap.size + 2) 135 (va (n * 1) fun _ => .slice none 0 0) := by rw [Nat.mul_one]; exact k2
  have hrow := own_made h2 hn w.heap.size (by omega)
  have hrep : (List.range (n * 1)).map (fun _ => Value.slice none 0 0) = List.replicate n (.slice none 0 0) := by
    rw [Nat.mul_one]
    apply List.ext_getElem?
    intro i
    simp [List.getElem?_replicate]
    by_cases hi : i < n <;> simp [hi]
  rw [hrep] at hrow
  have hG : ∀ j, (List.replicate n ([] : List Nat)).getD j [] = [] := fun j => by
    simp only [List.getD_eq_getElem?_getD, List.getElem?_replicate]
    split <;> rfl
  refine ⟨_, _, rfl, by omega, hm, ⟨by rw [List.length_replicate]; exact hrow, fun j hj => ?_, fun i j _ hi hj z hz => ?_⟩, hb⟩
  · rw [hG j]
    rw [List.length_replicate] at hj
    have e : (List.replicate n (Value.slice none 0 0)).getD j undef = .slice none 0 0 := by
      simp [List.getD_eq_getElem?_getD, List.getElem?_replicate, hj]
    rw [e]
    exact World.ownsRow_nil _ _ _ _
  · rw [List.length_replicate] at hi
    have e : (List.replicate n (Value.slice none 0 0)).getD i undef = .slice none 0 0 := by
      simp [List.getD_eq_getElem?_getD, List.getElem?_replicate, hi]
    rw [e] at hz
    cases hz
/-- the three things that a new disk is made of; each is there still when more is made -/
def New1 (B n gn : Nat) (W : World) : Prop := B ≤ gn ∧ Blk W gn 141 (va (n * 256) (iv .u8 fun _ => 0))
def New3 (B n r gs : Nat) (W : World) : Prop := B ≤ r ∧ MapIs (α := Int × Int) (β := Vector Nat 256) momK bK W r [] ∧ GrpAt W B (.slice (some ⟨gs, 0, none⟩) n n) (List.replicate n []) (List.replicate n (.slice none 0 0))
def New5 (B n gw : Nat) (W : World) : Prop := B ≤ gw ∧ Blk W gw 3 (va n fun _ => .int .i64 0)
section
variable {B n a r : Nat} {W W' : World}
theorem New1.below (h : New1 B n a W) (hb : Below W.heap.size W W') : New1 B n a W' := ⟨h.1, h.2.below hb h.2.lt⟩
theorem New5.below (h : New5 B n a W) (hb : Below W.heap.size W W') : New5 B n a W' := ⟨h.1, h.2.below hb h.2.lt⟩
theorem New3.below (h : New3 B n r a W) (hb : Below W.heap.size W W') : New3 B n r a W' := by
  refine ⟨h.1, ?_, h.2.2.below hb⟩
  obtain ⟨es, cl, hg, he⟩ := h.2.1
  exact ⟨es, cl, (hb.block r (Array.getElem?_eq_some_iff.1 hg).1).trans hg, he⟩
end
theorem New3.mono {B B' n r gs : Nat} {W : World} (h : New3 B' n r gs W) (hB : B ≤ B') : New3 B n r gs W := ⟨Nat.le_trans hB h.1, h.2.1, ⟨kown_mono h.2.2.row hB, fun j hj => kown_mono (h.2.2.each j hj) hB, h.2.2.apart⟩⟩
def newQD (n gn r gs gw : Nat) : QD := ⟨gn, r, .slice (some ⟨gs, 0, none⟩) n n, .map none, .slice none 0 0, false, 0, .slice none 0 0, .slice (some ⟨gw, 0, none⟩) n n, [], List.replicate n [], List.replicate n (.slice none 0 0), [], (List.range n).map fun _ => .int .i64 0⟩
theorem newQD_disk {B n gn r gs gw g : Nat} {W : World} (hn : n ≤ 8192) (h1 : New1 B n gn W) (h3 : New3 B n r gs W) (h5 : New5 B n gw W) (hB : B ≤ g) (hg : Blk W g 140 (dcells (newQD n gn r gs gw) n 0)) : DiskQ W B g n (fun _ => 0) 0 0 (newQD n gn r gs gw) := by
  have hw5 : Blk W gw 3 (va (n * 1) fun _ => .int .i64 0) := by rw [Nat.mul_one]; exact h5.2
  have hr5 := own_made hw5 hn B h5.1
  rw [Nat.mul_one] at hr5
  refine ⟨hB, hg, h1.1, h1.2, h3.1, h3.2.1, (fun p hp => by cases hp), h3.2.2, List.length_replicate, fun j => ?_, World.ownsRow_nil _ _ _ _, hr5, fun j hj => ⟨0, by simp [newQD, hj]⟩, fun j hj z hz => ?_⟩
  · have : (List.replicate n ([] : List Nat)).getD j [] = [] := by
      simp only [List.getD_eq_getElem?_getD, List.getElem?_replicate]
      split <;> rfl
    show ((List.replicate n ([] : List Nat)).getD j []).length ≤ 0 + 1
    rw [this]
    decide
  · have e : (List.replicate n (Value.slice none 0 0)).getD j undef = .slice none 0 0 := by
      simp [List.getD_eq_getElem?_getD, List.getElem?_replicate, hj]
    have hz' : ((List.replicate n (Value.slice none 0 0)).getD j undef).ownBlock = some z := hz
    rw [e] at hz'
    cases hz'
theorem newQD_G (n gn r gs gw : Nat) (j : Nat) : (newQD n gn r gs gw).G.getD j [] = [] := by
  show (List.replicate n ([] : List Nat)).getD j [] = []
  simp only [List.getD_eq_getElem?_getD, List.getElem?_replicate]
  split <;> rfl
theorem quiet_new (n gn r gs gw : Nat) : Quiet (newQD n gn r gs gw) 0 := ⟨rfl, rfl, rfl, Int.le_refl _, Int.le_refl _, fun u hu => by cases hu⟩
theorem treeS_three {P : Program} {ops : Array Oper} {Q : Exit → Act → World → Prop} {S : World → Prop} {n : Nat} {listed : Array Bool} {a : Act} {w : World} (i j l : Nat) (hr : (Region.ready .any ops listed == [i, j, l]) = true)
    (h : wpList P ops (Strict fun _ a' w' => S w' ∧ wpTreeS P ops Q S n (listed.setIfInBounds i true) a' w') ([i].filterMap fun i => ops[i]?) a w)
    (h2 : wpList P ops (Strict fun _ a' w' => S w' ∧ wpTreeS P ops Q S n (listed.setIfInBounds j true) a' w') ([j].filterMap fun i => ops[i]?) a w)
    (h3 : wpList P ops (Strict fun _ a' w' => S w' ∧ wpTreeS P ops Q S n (listed.setIfInBounds l true) a' w') ([l].filterMap fun i => ops[i]?) a w) : wpTreeS P ops Q S (n + 1) listed a w :=
  treeS_step [i, j, l] hr fun k hk => by
    have : k = i ∨ k = j ∨ k = l := by simpa using hk
    rcases this with rfl | rfl | rfl
    · exact h
    · exact h2
    · exact h3
set_option maxRecDepth 100000 in
set_option maxHeartbeats 8000000 in
theorem diskNew_new (n : Nat) (h16 : 16 ≤ n) (hn : n ≤ 8192) (w : World) : Calls Tryz.prog 20 #[.int .i64 (n : Int)] w fun e w' => ∃ g q, e = .returned (.tuple #[.pointer (some ⟨g, 0, none⟩), .int .i64 0]) ∧ DiskQ w' w.heap.size g n (fun _ => 0) 0 0 q ∧ Quiet q 0 ∧ Below w.heap.size w w' ∧ q.l = [] ∧ ∀ j, q.G.getD j [] = [] := by
  have hm1 := make_bks n hn
  have hm5 := make_ints n hn
  have hP : Hid (∀ w : World, Calls Tryz.prog 50 #[.int .i64 (n : Int)] w fun e w' => ∃ r gs, e = .returned (.agg #[.map (some r), .slice (some ⟨gs, 0, none⟩) n n]) ∧ New3 w.heap.size n r gs w' ∧ Below w.heap.size w w') := fun w => (newPast_any n hn w).mono fun e w' ⟨r, gs, h1, h2, h3, h4, h5⟩ => ⟨r, gs, h1, ⟨h2, h3, h4⟩, h5⟩
  have j0 : (16 : Int) ≤ (n : Int) := by omega
  have j1 : (n : Int) ≤ 8192 := by omega
  go_enter Tryz.func20, Tryz.ntmps20
  go_wp2_with fail
  refine wp_region_tree [] [0, 2, 4] w.heap.size (by kernel_rfl) (by kernel_rfl) (fun _ hx => nomatch hx) ?_
  simp only [sgLHSegsP]
  have b0 : Below w.heap.size w w.drew := (Below.refl _ _).drew
  go_wp2_with fail
  generalize w.drew = v0 at *
  refine ⟨rfl, treeS_three 1 3 5 (by kernel_rfl) ?_ ?_ ?_⟩
  · simp only [sgLHSegsP]
    go_wp2_with fail
    have x10 : New1 w.heap.size n v0.heap.size (v0.alloc (.cells (va (n * 256) (iv .u8 fun _ => 0)) 141)) := ⟨b0.size, Blk.new _ _ _⟩
    have b1 : Below w.heap.size w (v0.alloc (.cells (va (n * 256) (iv .u8 fun _ => 0)) 141)) := b0.alloc b0.size _
    generalize (v0.alloc (.cells (va (n * 256) (iv .u8 fun _ => 0)) 141)) = v1 at *
    refine ⟨rfl, b1, treeS_two 3 5 (by kernel_rfl) ?_ ?_⟩
    · simp only [sgLHSegsP]
      go_wp2_with fail
      refine (hP.out _).mono ?_
      rintro e v2 ⟨r, gs, rfl, h3, hb3⟩
      have x31 := h3.mono b1.size
      have x11 := x10.below hb3
      have b2 : Below w.heap.size w v2 := b1.trans (hb3.mono b1.size)
      clear h3 hb3 x10
      go_wp2_with fail
      refine ⟨rfl, b2, treeS_one 5 (by kernel_rfl) ?_⟩
      · simp only [sgLHSegsP]
        go_wp2_with fail
        have x52 : New5 w.heap.size n v2.heap.size (v2.alloc (.cells (va n fun _ => .int .i64 0) 3)) := ⟨b2.size, Blk.new _ _ _⟩
        have x12 := x11.below (below_new1 v2 (.cells (va n fun _ => .int .i64 0) 3))
        have x32 := x31.below (below_new1 v2 (.cells (va n fun _ => .int .i64 0) 3))
        have b3 : Below w.heap.size w (v2.alloc (.cells (va n fun _ => .int .i64 0) 3)) := b2.alloc b2.size _
        clear x11 x31
        generalize (v2.alloc (.cells (va n fun _ => .int .i64 0) 3)) = v3 at *
        refine ⟨rfl, b3, treeS_one 6 (by kernel_rfl) ?_⟩
        simp only [sgLHSegsP]
        go_wp2_with fail
        refine ⟨rfl, b3, treeS_one 7 (by kernel_rfl) ?_⟩
        simp only [sgLHSegsP]
        go_wp2_with fail
        refine ⟨rfl, b3.alloc b3.size _, treeS_one 8 (by kernel_rfl) ?_⟩
        simp only [sgLHSegsP]
        go_wp2_with fail
        refine ⟨rfl, b3.alloc b3.size _, treeS_one 9 (by kernel_rfl) ?_⟩
        simp only [sgLHSegsP]
        go_wp2_with fail
        refine ⟨rfl, b3.alloc b3.size _, treeS_last ?_⟩
        refine ⟨rfl, ?_⟩
        go_wp2_with fail
        try simp only [Exit.inBlock, Exit.then]
        refine bodyPost_ret (results_tmp2 Tryz.results20 _ _ _) rfl ?_
        exact ⟨_, _, rfl, newQD_disk hn (x12.below (below_new1 _ _)) (x32.below (below_new1 _ _)) (x52.below (below_new1 _ _)) b3.size (Blk.new _ _ _), quiet_new _ _ _ _ _, b3.alloc b3.size _, rfl, newQD_G _ _ _ _ _⟩
    · simp only [sgLHSegsP]
      go_wp2_with fail
      have x51 : New5 w.heap.size n v1.heap.size (v1.alloc (.cells (va n fun _ => .int .i64 0) 3)) := ⟨b1.size, Blk.new _ _ _⟩
      have x11 := x10.below (below_new1 v1 (.cells (va n fun _ => .int .i64 0) 3))
      have b2 : Below w.heap.size w (v1.alloc (.cells (va n fun _ => .int .i64 0) 3)) := b1.alloc b1.size _
      clear x10
      generalize (v1.alloc (.cells (va n fun _ => .int .i64 0) 3)) = v2 at *
      refine ⟨rfl, b2, treeS_one 3 (by kernel_rfl) ?_⟩
      · simp only [sgLHSegsP]
        go_wp2_with fail
        refine (hP.out _).mono ?_
        rintro e v3 ⟨r, gs, rfl, h3, hb3⟩
        have x32 := h3.mono b2.size
        have x12 := x11.below hb3
        have x52 := x51.below hb3
        have b3 : Below w.heap.size w v3 := b2.trans (hb3.mono b2.size)
        clear h3 hb3 x11 x51
        go_wp2_with fail
        refine ⟨rfl, b3, treeS_one 6 (by kernel_rfl) ?_⟩
        simp only [sgLHSegsP]
        go_wp2_with fail
        refine ⟨rfl, b3, treeS_one 7 (by kernel_rfl) ?_⟩
        simp only [sgLHSegsP]
        go_wp2_with fail
        refine ⟨rfl, b3.alloc b3.size _, treeS_one 8 (by kernel_rfl) ?_⟩
        simp only [sgLHSegsP]
        go_wp2_with fail
        refine ⟨rfl, b3.alloc b3.size _, treeS_one 9 (by kernel_rfl) ?_⟩
        simp only [sgLHSegsP]
        go_wp2_with fail
        refine ⟨rfl, b3.alloc b3.size _, treeS_last ?_⟩
        refine ⟨rfl, ?_⟩
        go_wp2_with fail
        try simp only [Exit.inBlock, Exit.then]
        refine bodyPost_ret (results_tmp2 Tryz.results20 _ _ _) rfl ?_
        exact ⟨_, _, rfl, newQD_disk hn (x12.below (below_new1 _ _)) (x32.below (below_new1 _ _)) (x52.below (below_new1 _ _)) b3.size (Blk.new _ _ _), quiet_new _ _ _ _ _, b3.alloc b3.size _, rfl, newQD_G _ _ _ _ _⟩
  · simp only [sgLHSegsP]
    go_wp2_with fail
    refine (hP.out _).mono ?_
    rintro e v1 ⟨r, gs, rfl, h3, hb3⟩
    have x30 := h3.mono b0.size
    have b1 : Below w.heap.size w v1 := b0.trans (hb3.mono b0.size)
    clear h3 hb3
    go_wp2_with fail
    refine ⟨rfl, b1, treeS_two 1 5 (by kernel_rfl) ?_ ?_⟩
    · simp only [sgLHSegsP]
      go_wp2_with fail
      have x11 : New1 w.heap.size n v1.heap.size (v1.alloc (.cells (va (n * 256) (iv .u8 fun _ => 0)) 141)) := ⟨b1.size, Blk.new _ _ _⟩
      have x31 := x30.below (below_new1 v1 (.cells (va (n * 256) (iv .u8 fun _ => 0)) 141))
      have b2 : Below w.heap.size w (v1.alloc (.cells (va (n * 256) (iv .u8 fun _ => 0)) 141)) := b1.alloc b1.size _
      clear x30
      generalize (v1.alloc (.cells (va (n * 256) (iv .u8 fun _ => 0)) 141)) = v2 at *
      refine ⟨rfl, b2, treeS_one 5 (by kernel_rfl) ?_⟩
      · simp only [sgLHSegsP]
        go_wp2_with fail
        have x52 : New5 w.heap.size n v2.heap.size (v2.alloc (.cells (va n fun _ => .int .i64 0) 3)) := ⟨b2.size, Blk.new _ _ _⟩
        have x32 := x31.below (below_new1 v2 (.cells (va n fun _ => .int .i64 0) 3))
        have x12 := x11.below (below_new1 v2 (.cells (va n fun _ => .int .i64 0) 3))
        have b3 : Below w.heap.size w (v2.alloc (.cells (va n fun _ => .int .i64 0) 3)) := b2.alloc b2.size _
        clear x31 x11
        generalize (v2.alloc (.cells (va n fun _ => .int .i64 0) 3)) = v3 at *
        refine ⟨rfl, b3, treeS_one 6 (by kernel_rfl) ?_⟩
        simp only [sgLHSegsP]
        go_wp2_with fail
        refine ⟨rfl, b3, treeS_one 7 (by kernel_rfl) ?_⟩
        simp only [sgLHSegsP]
        go_wp2_with fail
        refine ⟨rfl, b3.alloc b3.size _, treeS_one 8 (by kernel_rfl) ?_⟩
        simp only [sgLHSegsP]
        go_wp2_with fail
        refine ⟨rfl, b3.alloc b3.size _, treeS_one 9 (by kernel_rfl) ?_⟩
        simp only [sgLHSegsP]
        go_wp2_with fail
        refine ⟨rfl, b3.alloc b3.size _, treeS_last ?_⟩
        refine ⟨rfl, ?_⟩
        go_wp2_with fail
        try simp only [Exit.inBlock, Exit.then]
        refine bodyPost_ret (results_tmp2 Tryz.results20 _ _ _) rfl ?_
        exact ⟨_, _, rfl, newQD_disk hn (x12.below (below_new1 _ _)) (x32.below (below_new1 _ _)) (x52.below (below_new1 _ _)) b3.size (Blk.new _ _ _), quiet_new _ _ _ _ _, b3.alloc b3.size _, rfl, newQD_G _ _ _ _ _⟩
    · simp only [sgLHSegsP]
      go_wp2_with fail
      have x51 : New5 w.heap.size n v1.heap.size (v1.alloc (.cells (va n fun _ => .int .i64 0) 3)) := ⟨b1.size, Blk.new _ _ _⟩
      have x31 := x30.below (below_new1 v1 (.cells (va n fun _ => .int .i64 0) 3))
      have b2 : Below w.heap.size w (v1.alloc (.cells (va n fun _ => .int .i64 0) 3)) := b1.alloc b1.size _
      clear x30
      generalize (v1.alloc (.cells (va n fun _ => .int .i64 0) 3)) = v2 at *
      refine ⟨rfl, b2, treeS_one 1 (by kernel_rfl) ?_⟩
      · simp only [sgLHSegsP]
        go_wp2_with fail
        have x12 : New1 w.heap.size n v2.heap.size (v2.alloc (.cells (va (n * 256) (iv .u8 fun _ => 0)) 141)) := ⟨b2.size, Blk.new _ _ _⟩
        have x32 := x31.below (below_new1 v2 (.cells (va (n * 256) (iv .u8 fun _ => 0)) 141))
        have x52 := x51.below (below_new1 v2 (.cells (va (n * 256) (iv .u8 fun _ => 0)) 141))
        have b3 : Below w.heap.size w (v2.alloc (.cells (va (n * 256) (iv .u8 fun _ => 0)) 141)) := b2.alloc b2.size _
        clear x31 x51
        generalize (v2.alloc (.cells (va (n * 256) (iv .u8 fun _ => 0)) 141)) = v3 at *
        refine ⟨rfl, b3, treeS_one 6 (by kernel_rfl) ?_⟩
        simp only [sgLHSegsP]
        go_wp2_with fail
        refine ⟨rfl, b3, treeS_one 7 (by kernel_rfl) ?_⟩
        simp only [sgLHSegsP]
        go_wp2_with fail
        refine ⟨rfl, b3.alloc b3.size _, treeS_one 8 (by kernel_rfl) ?_⟩
        simp only [sgLHSegsP]
        go_wp2_with fail
        refine ⟨rfl, b3.alloc b3.size _, treeS_one 9 (by kernel_rfl) ?_⟩
        simp only [sgLHSegsP]
        go_wp2_with fail
        refine ⟨rfl, b3.alloc b3.size _, treeS_last ?_⟩
        refine ⟨rfl, ?_⟩
        go_wp2_with fail
        try simp only [Exit.inBlock, Exit.then]
        refine bodyPost_ret (results_tmp2 Tryz.results20 _ _ _) rfl ?_
        exact ⟨_, _, rfl, newQD_disk hn (x12.below (below_new1 _ _)) (x32.below (below_new1 _ _)) (x52.below (below_new1 _ _)) b3.size (Blk.new _ _ _), quiet_new _ _ _ _ _, b3.alloc b3.size _, rfl, newQD_G _ _ _ _ _⟩
  · simp only [sgLHSegsP]
    go_wp2_with fail
    have x50 : New5 w.heap.size n v0.heap.size (v0.alloc (.cells (va n fun _ => .int .i64 0) 3)) := ⟨b0.size, Blk.new _ _ _⟩
    have b1 : Below w.heap.size w (v0.alloc (.cells (va n fun _ => .int .i64 0) 3)) := b0.alloc b0.size _
    generalize (v0.alloc (.cells (va n fun _ => .int .i64 0) 3)) = v1 at *
    refine ⟨rfl, b1, treeS_two 1 3 (by kernel_rfl) ?_ ?_⟩
    · simp only [sgLHSegsP]
      go_wp2_with fail
      have x11 : New1 w.heap.size n v1.heap.size (v1.alloc (.cells (va (n * 256) (iv .u8 fun _ => 0)) 141)) := ⟨b1.size, Blk.new _ _ _⟩
      have x51 := x50.below (below_new1 v1 (.cells (va (n * 256) (iv .u8 fun _ => 0)) 141))
      have b2 : Below w.heap.size w (v1.alloc (.cells (va (n * 256) (iv .u8 fun _ => 0)) 141)) := b1.alloc b1.size _
      clear x50
      generalize (v1.alloc (.cells (va (n * 256) (iv .u8 fun _ => 0)) 141)) = v2 at *
      refine ⟨rfl, b2, treeS_one 3 (by kernel_rfl) ?_⟩
      · simp only [sgLHSegsP]
        go_wp2_with fail
        refine (hP.out _).mono ?_
        rintro e v3 ⟨r, gs, rfl, h3, hb3⟩
        have x32 := h3.mono b2.size
        have x52 := x51.below hb3
        have x12 := x11.below hb3
        have b3 : Below w.heap.size w v3 := b2.trans (hb3.mono b2.size)
        clear h3 hb3 x51 x11
        go_wp2_with fail
        refine ⟨rfl, b3, treeS_one 6 (by kernel_rfl) ?_⟩
        simp only [sgLHSegsP]
        go_wp2_with fail
        refine ⟨rfl, b3, treeS_one 7 (by kernel_rfl) ?_⟩
        simp only [sgLHSegsP]
        go_wp2_with fail
        refine ⟨rfl, b3.alloc b3.size _, treeS_one 8 (by kernel_rfl) ?_⟩
        simp only [sgLHSegsP]
        go_wp2_with fail
        refine ⟨rfl, b3.alloc b3.size _, treeS_one 9 (by kernel_rfl) ?_⟩
        simp only [sgLHSegsP]
        go_wp2_with fail
        refine ⟨rfl, b3.alloc b3.size _, treeS_last ?_⟩
        refine ⟨rfl, ?_⟩
        go_wp2_with fail
        try simp only [Exit.inBlock, Exit.then]
        refine bodyPost_ret (results_tmp2 Tryz.results20 _ _ _) rfl ?_
        exact ⟨_, _, rfl, newQD_disk hn (x12.below (below_new1 _ _)) (x32.below (below_new1 _ _)) (x52.below (below_new1 _ _)) b3.size (Blk.new _ _ _), quiet_new _ _ _ _ _, b3.alloc b3.size _, rfl, newQD_G _ _ _ _ _⟩
    · simp only [sgLHSegsP]
      go_wp2_with fail
      refine (hP.out _).mono ?_
      rintro e v2 ⟨r, gs, rfl, h3, hb3⟩
      have x31 := h3.mono b1.size
      have x51 := x50.below hb3
      have b2 : Below w.heap.size w v2 := b1.trans (hb3.mono b1.size)
      clear h3 hb3 x50
      go_wp2_with fail
      refine ⟨rfl, b2, treeS_one 1 (by kernel_rfl) ?_⟩
      · simp only [sgLHSegsP]
        go_wp2_with fail
        have x12 : New1 w.heap.size n v2.heap.size (v2.alloc (.cells (va (n * 256) (iv .u8 fun _ => 0)) 141)) := ⟨b2.size, Blk.new _ _ _⟩
        have x52 := x51.below (below_new1 v2 (.cells (va (n * 256) (iv .u8 fun _ => 0)) 141))
        have x32 := x31.below (below_new1 v2 (.cells (va (n * 256) (iv .u8 fun _ => 0)) 141))
        have b3 : Below w.heap.size w (v2.alloc (.cells (va (n * 256) (iv .u8 fun _ => 0)) 141)) := b2.alloc b2.size _
        clear x51 x31
        generalize (v2.alloc (.cells (va (n * 256) (iv .u8 fun _ => 0)) 141)) = v3 at *
        refine ⟨rfl, b3, treeS_one 6 (by kernel_rfl) ?_⟩
        simp only [sgLHSegsP]
        go_wp2_with fail
        refine ⟨rfl, b3, treeS_one 7 (by kernel_rfl) ?_⟩
        simp only [sgLHSegsP]
        go_wp2_with fail
        refine ⟨rfl, b3.alloc b3.size _, treeS_one 8 (by kernel_rfl) ?_⟩
        simp only [sgLHSegsP]
        go_wp2_with fail
        refine ⟨rfl, b3.alloc b3.size _, treeS_one 9 (by kernel_rfl) ?_⟩
        simp only [sgLHSegsP]
        go_wp2_with fail
        refine ⟨rfl, b3.alloc b3.size _, treeS_last ?_⟩
        refine ⟨rfl, ?_⟩
        go_wp2_with fail
        try simp only [Exit.inBlock, Exit.then]
        refine bodyPost_ret (results_tmp2 Tryz.results20 _ _ _) rfl ?_
        exact ⟨_, _, rfl, newQD_disk hn (x12.below (below_new1 _ _)) (x32.below (below_new1 _ _)) (x52.below (below_new1 _ _)) b3.size (Blk.new _ _ _), quiet_new _ _ _ _ _, b3.alloc b3.size _, rfl, newQD_G _ _ _ _ _⟩
end Go.Proofs.YtppagdmlfgialaaGreatDoor

namespace Go.Proofs.YtppagdmlfgialaaGreatDoor
open Go Go.RowKit
set_option linter.unusedSimpArgs false
set_option linter.unusedVariables false

theorem wpList_build_at {P : Program} {ops : Array Oper} {rest : List Oper} {o : Oper} {a : Act} {w : World} {Q : Exit → Act → World → Prop} (hw : Region.wanted o (yielded ops a.tmps) = true) (t : TypeId) (parts : Array (Nat × Operand)) (ho : o.op = .build t parts) (vals : List (Nat × Value))
    (hv : (parts.map fun (i, x) => (i, a.eval x)).toList = vals) (cells : Array Value) (hf : P.built t vals = some cells) (h : wpList P ops Q rest (a.put o.dst (.agg cells)) w) : wpList P ops Q (o :: rest) a w :=
  wpList_step fun K hK => by
    rw [if_pos hw]
    subst hv
    refine wp_build t parts ho (by rw [hf]; rfl) ?_
    rw [hf]
    exact hK _ _ h
/-- a block whose first byte is 7 -/
def f7 : Nat → Nat := fun j => if j = 0 then 7 else 0
end Go.Proofs.YtppagdmlfgialaaGreatDoor

namespace Go.Proofs.YtppagdmlfgialaaGreatDoor
open Go.RowKit
set_option linter.unusedSimpArgs false
set_option linter.unusedVariables false

theorem LogAt.setRow {w : World} {g r b t : Nat} {v : Value} {E : List (Nat × ByteArray)} {old : Array Value} (h : LogAt w g r v E) (hb : Blk w b t old) (h1 : 438 ≠ t) (h2 : 433 ≠ t) (cs : Array Value) : LogAt (w.setRow b cs) g r v E := by
  obtain ⟨hB, hown, es, cl, hg, he⟩ := h
  refine ⟨hB.other cs fun q => ?_, own_block hown fun k hk => setRow_other w b k cs fun q => ?_, es, cl, ?_, he⟩
  · subst q
    unfold Blk at hB hb
    rw [hB] at hb
    simp at hb
    exact h1 hb.2
  · subst q
    exact own_ne hown hb h2 hk
  · rw [setRow_other w b r cs (map_blk hg hb)]
    exact hg
theorem LogKeeps.laid {g r : Nat} {v : Value} {w w1 w2 : World} {b : Nat} (h1 : Below w.heap.size w w1) (h2 : LogKeeps g r v w1 w2) (hb : w.heap.size ≤ b) (cs : Array Value) : LogKeeps g r v w (w2.setRow b cs) := by
  have h3 : Below w.heap.size w2 (w2.setRow b cs) := below_setRow (Below.refl _ _) hb cs
  have hs1 := h1.size
  have hs2 := h2.2.2.2.1
  have hs3 := h3.size
  refine ⟨h3.os.trans (h2.1.trans h1.os), h3.tape.trans (h2.2.1.trans h1.tape), h3.output.trans (h2.2.2.1.trans h1.output), by omega, fun k hk a b c => ?_⟩
  rw [h3.block k hk, h2.2.2.2.2 k (by omega) a b c, h1.block k hk]

end Go.Proofs.YtppagdmlfgialaaGreatDoor

namespace Go.Proofs.YtppagdmlfgialaaGreatDoor
open Go Go.RowKit
set_option linter.unusedSimpArgs false
set_option linter.unusedVariables false

/-- a reference as a key -/
def rfV (r : Rf) : Value := .agg (rfC r)
/-- a pointer to a block -/
def ptV (b : Nat) : Value := .pointer (some ⟨b, 0, none⟩)
/-- a cache's cells -/
def caC (dp lp : Option Addr) (room : Int) (m : Nat) (o n : Option Addr) (h r b c : Int) : Array Value := #[.pointer dp, .pointer lp, .int .i64 room, .map (some m), .pointer o, .pointer n, .int .i64 h, .int .i64 r, .int .i64 b, .int .i64 c]
/-- an entry's cells -/
def enF (r : Rf) (f : Nat → Nat) (o n : Option Addr) : Nat → Value := fun i => if i < 33 then rfF r.1 r.2 i else if i < 289 then .int .u8 ((f (i - 33) : Nat) : Int) else if i = 289 then .pointer o else .pointer n
def enC (r : Rf) (f : Nat → Nat) (o n : Option Addr) : Array Value := va 291 (enF r f o n)
section
variable {w : World} {b : Nat} {r : Rf} {f : Nat → Nat} {o n : Option Addr}
end
section
variable {g b m : Nat} {dp lp o n o0 n0 : Option Addr} {room h r bd c : Int} {R : Rf} {f : Nat → Nat}
end
end Go.Proofs.YtppagdmlfgialaaGreatDoor

namespace Go.Proofs.YtppagdmlfgialaaGreatDoor
open Go Go.RowKit
set_option linter.unusedSimpArgs false
set_option linter.unusedVariables false

/-- a block's digest -/
def dgB (f : Nat → Nat) : Vector Nat 32 := sumD (sumOf (1, strN f 256))
theorem dgB_cells (f : Nat → Nat) : va 32 (iv .u8 (sumOf (1, strN f 256))) = va 32 (iv .u8 (dF (dgB f))) := va_congr fun i hi => by unfold iv dgB; rw [dF_sumD _ i hi]
set_option maxRecDepth 100000 in
set_option maxHeartbeats 4000000 in
theorem mayBeRoom_ok (x : Int) (h0 : 0 ≤ x) (h1 : x ≤ 4096) (w : World) : Calls Tryz.prog 52 #[.int .i64 x] w fun e w' => e = .returned (.bool true) ∧ w = w' := by
  go_enter Tryz.func52, Tryz.ntmps52
  go_wp2_with fail
  go_ret
  exact ⟨rfl, rfl⟩
/-- no entries: the cells of their holder -/
def esC (m : Nat) : Array Value := #[.map (some m), .pointer none, .pointer none]
theorem sizeEs : (Tryz.prog.info? 146).map (·.size) = some 3 := by kernel_rfl
set_option maxRecDepth 100000 in
set_option maxHeartbeats 4000000 in
theorem caNone_any (w : World) : Calls Tryz.prog 53 #[] w fun e w' => ∃ m, e = .returned (.agg (esC m)) ∧ w.heap.size ≤ m ∧ MapIs rfV ptV w' m [] ∧ Below w.heap.size w w' := by
  have hmm := @run_makeMap Tryz.prog
  go_enter Tryz.func53, Tryz.ntmps53
  go_wp2_with fail
  try simp only [Exit.inBlock, Exit.then]
  refine bodyPost_ret (results_cell_row Tryz.results53 _ _ w.heap.size 146 (esC (w.heap.size + 1)) (0, 0) _ rfl ((Blk.new _ _ _).alloc _) Tryz.underlying146 rfl (sizeEs.trans (by rfl))) rfl ?_
  refine ⟨_, rfl, Nat.le_succ _, ⟨#[], 0, ?_, rfl⟩, below_new2 _ _ _⟩
  have := heap_alloc_new (w.alloc (Obj.cells (esC (w.heap.size + 1)) 146)) (Obj.map #[] 0)
  rw [show (w.alloc (Obj.cells (esC (w.heap.size + 1)) 146)).heap.size = w.heap.size + 1 by simp] at this
  exact this
set_option maxRecDepth 100000 in
set_option maxHeartbeats 4000000 in
theorem caNew_ok (g : Nat) (lp : Option Addr) (room : Int) (h0 : 0 ≤ room) (h1 : room ≤ 4096) (w : World) : Calls Tryz.prog 23 #[.pointer (some ⟨g, 0, none⟩), .pointer lp, .int .i64 room] w fun e w' => ∃ c m, e = .returned (.tuple #[.pointer (some ⟨c, 0, none⟩), .int .i64 0]) ∧ (w.heap.size ≤ c ∧ w.heap.size ≤ m) ∧ Blk w' c 151 (caC (some ⟨g, 0, none⟩) lp room m none none 0 0 0 0) ∧ MapIs rfV ptV w' m [] ∧ Below w.heap.size w w' := by
  have hR : Hid (∀ w : World, Calls Tryz.prog 52 #[.int .i64 room] w fun e w' => e = .returned (.bool true) ∧ w = w') := mayBeRoom_ok room h0 h1
  have hN : Hid (∀ w : World, Calls Tryz.prog 53 #[] w fun e w' => ∃ m, e = .returned (.agg #[.map (some m), .pointer none, .pointer none]) ∧ w.heap.size ≤ m ∧ MapIs rfV ptV w' m [] ∧ Below w.heap.size w w') := caNone_any
  clear h0 h1
  go_enter Tryz.func23, Tryz.ntmps23
  go_wp2_with fail
  refine (hR.out _).mono ?_
  rintro e _ ⟨rfl, rfl⟩
  go_wp2_with fail
  refine (hN.out _).mono ?_
  rintro e w1 ⟨m, rfl, hm, hmap, hb1⟩
  have HM : Hid (MapIs rfV ptV w1 m []) := hmap
  clear hmap
  go_wp2_with fail
  try simp only [Exit.inBlock, Exit.then]
  refine bodyPost_ret (results_tmp2 Tryz.results23 _ _ _) rfl ?_
  have hb2 : Below w1.heap.size w1 (w1.alloc (.cells (caC (some ⟨g, 0, none⟩) lp room m none none 0 0 0 0) 151)) := below_new1 _ _
  exact ⟨w1.heap.size, m, rfl, ⟨hb1.size, hm⟩, Blk.new _ _ _, HM.out.below hb2 (by
    obtain ⟨es, cl, hg, _⟩ := HM.out
    exact (Array.getElem?_eq_some_iff.1 hg).1), hb1.trans (hb2.mono hb1.size)⟩
end Go.Proofs.YtppagdmlfgialaaGreatDoor

namespace Go.Proofs.YtppagdmlfgialaaGreatDoor
open Go Go.RowKit
set_option linter.unusedVariables false

/-- an image with one block more -/
def apX (X : Nat → Nat) (n : Nat) (f : Nat → Nat) : Nat → Nat := fun x => if x < n * 256 then X x else f (x - n * 256)
/-- what Put makes of an image and a block -/
def PutR (X : Nat → Nat) (n : Nat) (f : Nat → Nat) (X' : Nat → Nat) (n' : Nat) (r : Rf) : Prop := (bkSame f (fun _ => 0) ∧ n' = n ∧ X' = X ∧ r = rf0) ∨ (¬ bkSame f (fun _ => 0) ∧ n' = n + 1 ∧ X' = apX X n f ∧ r = (n, dgB f))
end Go.Proofs.YtppagdmlfgialaaGreatDoor

namespace Go.Proofs.YtppagdmlfgialaaGreatDoor
open Go Go.RowKit
set_option linter.unusedSimpArgs false
set_option linter.unusedVariables false

theorem MapIs.lt {α β : Type} {K : α → Value} {V : β → Value} {w : World} {r : Nat} {l : List (α × β)} (h : MapIs K V w r l) : r < w.heap.size := by
  obtain ⟨es, cl, hg, _⟩ := h
  exact (Array.getElem?_eq_some_iff.1 hg).1
theorem MapIs.of {α β : Type} {K : α → Value} {V : β → Value} {w w' : World} {r : Nat} {l : List (α × β)} (h : MapIs K V w r l) (hk : w'.heap[r]? = w.heap[r]?) : MapIs K V w' r l := by
  obtain ⟨es, cl, hg, he⟩ := h
  exact ⟨es, cl, hk.trans hg, he⟩
theorem MapIs.ne {α β : Type} {K : α → Value} {V : β → Value} {w : World} {r b t : Nat} {cs : Array Value} {l : List (α × β)} (h : MapIs K V w r l) (hb : Blk w b t cs) : r ≠ b := fun e => by
  obtain ⟨es, cl, hg, _⟩ := h
  subst e
  have := hg.symm.trans hb
  simp at this
theorem map_len {w : World} {m : Nat} {l : List (Rf × Nat)} (h : MapIs rfV ptV w m l) (ty : TypeId) : (Builtin.len_ #[143] ty #[.map (some m)]).run Tryz.prog w = .ok (.int .i64 (l.length : Int)) w := by
  obtain ⟨es, cl, hg, he⟩ := h
  have hgo : (getObj m).run Tryz.prog w = .ok (.map es cl) w := by simp [getObj, Sem.run, hg]
  have hl : es.size = l.length := by
    have := congrArg List.length he
    simpa using this
  simp [Builtin.len_, run_underlying Tryz.underlying143, hgo, goInt, hl]
section
variable {c m : Nat} {dp lp o n : Option Addr} {room h r bd cn : Int}
end
end Go.Proofs.YtppagdmlfgialaaGreatDoor

namespace Go.Proofs.YtppagdmlfgialaaGreatDoor
open Go Go.RowKit
set_option linter.unusedSimpArgs false
set_option linter.unusedVariables false

/-- a block in which nothing is turned -/
theorem Turns.blk {S : Nat → Prop} {w w' : World} (h : Turns S w w') {b t : Nat} {cs : Array Value} (hb : Blk w b t cs) (hn : ¬ S b) : Blk w' b t cs := (h.block b hb.lt hn).trans hb
section
variable {c m : Nat} {dp lp o n : Option Addr} {room h r bd cn : Int}
end
end Go.Proofs.YtppagdmlfgialaaGreatDoor

namespace Go.Proofs.YtppagdmlfgialaaGreatDoor
open Go Go.RowKit

/-- the plan of a region's walk -/
inductive Plan where
  | fin (takes : List Nat)
  | force (ts : List Nat) (i : Nat) (next : Plan)
  | yield (ts : List Nat) (i : Nat) (next : Plan)
  | fork (i j : Nat) (p q : Plan)
def Plan.len : Plan → Nat
  | .fin takes => takes.length
  | .force ts _ p => ts.length + (1 + p.len)
  | .yield ts _ p => ts.length + (1 + p.len)
  | .fork _ _ p _ => p.len + 1
/-- the check -/
def Plan.ok (ops : Array Oper) : Plan → Array Bool → Bool
  | .fin takes, listed => match takesB .any ops [] [] takes listed with
    | some l => (Region.ready .any ops l).isEmpty
    | none => false
  | .force ts i p, listed => match takesB .any ops [] [] ts listed with
    | some l => forceW .any ops l i && p.ok ops (l.setIfInBounds i true)
    | none => false
  | .yield ts i p, listed => match takesB .any ops [] [] ts listed with
    | some l => yieldW .any ops l [] i && p.ok ops (l.setIfInBounds i true)
    | none => false
  | .fork i j p q, listed => Region.ready .any ops listed == [i, j] && (ops[i]?).isSome && (ops[j]?).isSome && p.len == q.len && p.ok ops (listed.setIfInBounds i true) && q.ok ops (listed.setIfInBounds j true)
def Plan.whole (ops : Array Oper) (p : Plan) : Bool := p.len == ops.size && Region.noSelect ops && p.ok ops (Array.replicate ops.size false)
section
variable {P : Program} {ops : Array Oper} {Q : Exit → Act → World → Prop} {S : World → Prop}
/-- the walk -/
def wpPlan (P : Program) (ops : Array Oper) (Q : Exit → Act → World → Prop) (S : World → Prop) : Plan → Act → World → Prop
  | .fin takes, a, w => wpList P ops (Strict Q) (takes.filterMap fun i => ops[i]?) a w
  | .force ts i p, a, w => wpList P ops (Strict fun _ a' w' => S w' ∧ wpPlan P ops Q S p a' w') ((ts ++ [i]).filterMap fun i => ops[i]?) a w
  | .yield ts i p, a, w => wpList P ops (Strict fun _ a' w' => ∃ o v, ops[i]? = some o ∧ YieldsIf P ops S o v a' ∧ wpPlan P ops Q S p (a'.put o.dst v) w') ((ts ++ []).filterMap fun i => ops[i]?) a w
  | .fork i j p q, a, w => wpList P ops (Strict fun _ a' w' => S w' ∧ wpPlan P ops Q S p a' w') ([i].filterMap fun i => ops[i]?) a w ∧ wpList P ops (Strict fun _ a' w' => S w' ∧ wpPlan P ops Q S q a' w') ([j].filterMap fun i => ops[i]?) a w
theorem plan_step (hs : Region.noSelect ops = true) : ∀ (p : Plan) (listed : Array Bool) (a : Act) (w : World), p.ok ops listed = true → S w →
      wpPlan P ops Q S p a w → wpAnyW P .any ops (Strict Q) S (([] : List Nat).contains ·) p.len listed a w
  | .fin takes, listed, a, w, hb, hS, h => by
    unfold Plan.ok at hb
    split at hb
    · rename_i l2 hl2
      have h2 : wpList P ops (Strict Q) ((takes ++ []).filterMap fun i => ops[i]?) a w := by
        rw [List.append_nil]
        exact h
      exact takesS_step hs [] 0 Q takes listed l2 a w hl2 (fun a' w' _ h' => ⟨by simpa using hb, h'⟩) hS h2
    · cases hb
  | .force ts i p, listed, a, w, hb, hS, h => by
    unfold Plan.ok at hb
    split at hb
    · rename_i l2 hl2
      simp only [Bool.and_eq_true] at hb
      refine takesS_step hs [i] _ _ ts listed l2 a w hl2 (fun a' w' _ h' => ?_) hS h
      obtain ⟨o, ho⟩ := has_op' hb.1
      rw [Nat.add_comm 1]
      refine forceS_step hb.1 (wpOp_mono (fun a2 w2 h2 => ?_) (wpOp_strict (wpList_one ho h')))
      have h3 := h2.2
      exact ⟨fun _ => h3.1, plan_step hs p _ a2 w2 hb.2 h3.1 h3.2⟩
    · cases hb
  | .yield ts i p, listed, a, w, hb, hS, h => by
    unfold Plan.ok at hb
    split at hb
    · rename_i l2 hl2
      simp only [Bool.and_eq_true] at hb
      refine takesS_step hs [] _ _ ts listed l2 a w hl2 (fun a' w' hS' h' => ?_) hS h
      obtain ⟨-, o, v, ho, hy, hn⟩ := h'
      have hc := hb.1
      unfold yieldW at hc
      rw [ho] at hc
      simp only [Bool.and_eq_true, Bool.not_eq_true'] at hc
      rw [Nat.add_comm 1]
      exact takeS_gen hs ho hc.1.1.1 hc.1.1.2 hc.1.2 hc.2 hy hS' (plan_step hs p _ _ w' hb.2 hS' hn)
    · cases hb
  | .fork i j p q, listed, a, w, hb, hS, h => by
    simp only [Plan.ok, Bool.and_eq_true, beq_iff_eq] at hb
    obtain ⟨⟨⟨⟨⟨hr, hi⟩, hj⟩, hl⟩, hp⟩, hq⟩ := hb
    refine ⟨fun h0 => (by rw [h0] at hr; cases hr), fun x hx => ?_⟩
    rw [hr] at hx
    have hx2 : x = i ∨ x = j := by simpa using hx
    rcases hx2 with rfl | rfl
    · obtain ⟨o, ho⟩ := Option.isSome_iff_exists.1 hi
      refine wpOp_mono (fun a' w' h' => ?_) (wpOp_strict (wpList_one ho h.1))
      exact ⟨fun _ => h'.2.1, plan_step hs p _ a' w' hp h'.2.1 h'.2.2⟩
    · obtain ⟨o, ho⟩ := Option.isSome_iff_exists.1 hj
      refine wpOp_mono (fun a' w' h' => ?_) (wpOp_strict (wpList_one ho h.2))
      have := plan_step hs q _ a' w' hq h'.2.1 h'.2.2
      rw [← hl] at this
      exact ⟨fun _ => h'.2.1, this⟩
/-- THE LAW. -/
theorem wp_region_plan {id : Nat} {a : Act} {w : World} (S : World → Prop) (p : Plan) (hm : P.follows .mixedOrders = true) (hB : p.whole ops = true)
    (hS : S w.drew) (h : wpPlan P ops Q S p a w.drew) : (Code.region id ops true).wp P Q a w := by
  unfold Plan.whole at hB
  simp only [Bool.and_eq_true, beq_iff_eq] at hB
  refine Code.wp_mono Strict.imp (wp_region_any hm ?_)
  rw [← hB.1.1]
  exact wpAny_of_W _ _ _ _ (plan_step hB.1.2 p _ a _ (by rw [hB.1.1]; exact hB.2) hS h)
theorem plan_force {ts : List Nat} {i : Nat} {p : Plan} {a : Act} {w : World}
    (h : wpList P ops (Strict fun _ a' w' => S w' ∧ wpPlan P ops Q S p a' w') ((ts ++ [i]).filterMap fun i => ops[i]?) a w) : wpPlan P ops Q S (.force ts i p) a w := h
theorem plan_yield {ts : List Nat} {i : Nat} {p : Plan} {a : Act} {w : World}
    (h : wpList P ops (Strict fun _ a' w' => ∃ o v, ops[i]? = some o ∧ YieldsIf P ops S o v a' ∧ wpPlan P ops Q S p (a'.put o.dst v) w') ((ts ++ []).filterMap fun i => ops[i]?) a w) : wpPlan P ops Q S (.yield ts i p) a w := h
theorem plan_fork {i j : Nat} {p q : Plan} {a : Act} {w : World} (h1 : wpList P ops (Strict fun _ a' w' => S w' ∧ wpPlan P ops Q S p a' w') ([i].filterMap fun i => ops[i]?) a w)
    (h2 : wpList P ops (Strict fun _ a' w' => S w' ∧ wpPlan P ops Q S q a' w') ([j].filterMap fun i => ops[i]?) a w) : wpPlan P ops Q S (.fork i j p q) a w := ⟨h1, h2⟩
theorem plan_fin {takes : List Nat} {a : Act} {w : World} (h : wpList P ops (Strict Q) (takes.filterMap fun i => ops[i]?) a w) : wpPlan P ops Q S (.fin takes) a w := h
end
end Go.Proofs.YtppagdmlfgialaaGreatDoor
