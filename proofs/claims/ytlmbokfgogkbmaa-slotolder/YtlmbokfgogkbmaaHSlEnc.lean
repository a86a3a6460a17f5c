/- Numbers in a slot's bytes: the program's contracts of laid and taken. -/
import Derived.Test.YtlmbokfgogkbmaaHDkRead
import Derived.Laws.MakeOwn
import Derived.Laws.OwnMore
import Derived.Handy
import Derived.Test.YtlmbokfgogkbmaaHBlkKey

namespace Go.Proofs.Ytlmbokfgogkbmaa
open Go Go.RowKit
set_option linter.unusedSimpArgs false
set_option linter.unusedVariables false

theorem made_one (v : Value) (n : Nat) : madeCells #[v] n = va n fun _ => v := by
  refine va_ext (size_madeCells _ _) fun i hi => ?_
  unfold madeCells
  simp [hi, Nat.mod_one]
theorem made_const (z : Array Value) (v : Value) (m : Nat) (hz : z.size = m) (hm : 0 < m) (h : ∀ j, j < m → z[j]? = some v) (n : Nat) : madeCells z n = va n fun _ => v := by
  refine va_ext (size_madeCells _ _) fun i hi => ?_
  unfold madeCells
  rw [Array.getElem?_map, Array.getElem?_range, if_pos hi, Option.map_some, getElem!_def, hz, h _ (Nat.mod_lt _ hm)]
theorem made_bks (n : Nat) : madeCells (va 256 (iv .u8 fun _ => 0)) (n * 256) = va (n * 256) (iv .u8 fun _ => 0) :=
  made_const _ _ 256 (va_size _ _) (by decide) (fun j hj => va_at (iv .u8 fun _ => 0) hj) _
theorem make_bks (n : Nat) (hn : n ≤ 8192) (w : World) : (Instr.makeSlice 86 (.int .i64 (n : Int)) (.int .i64 (n : Int))).run Try.prog w = .ok (.slice (some ⟨w.heap.size, 0, none⟩) n n) (w.alloc (.cells (va (n * 256) (iv .u8 fun _ => 0)) 60)) := by
  obtain ⟨i0, hi, hz0, hz1, hz2⟩ := info_parts infoBk
  have := run_make (P := Try.prog) w 86 60 i0 (.agg (va 256 (iv .u8 fun _ => 0))) Try.underlying86 hi hz0 .i64 .i64 (n : Int) (n : Int) (by omega) (Int.le_refl _) (by rw [hz2]; omega) (by omega)
  rw [hz1] at this
  simp only [Int.toNat_natCast, Value.cells, made_bks] at this
  exact this
theorem make_ints (n : Nat) (hn : n ≤ 8192) (w : World) : (Instr.makeSlice 92 (.int .i64 (n : Int)) (.int .i64 (n : Int))).run Try.prog w = .ok (.slice (some ⟨w.heap.size, 0, none⟩) n n) (w.alloc (.cells (va n fun _ => .int .i64 0) 3)) := by
  obtain ⟨i0, hi, hz0, hz1, hz2⟩ := info_parts infoInt
  have := run_make (P := Try.prog) w 92 3 i0 (.int .i64 0) Try.underlying92 hi hz0 .i64 .i64 (n : Int) (n : Int) (by omega) (Int.le_refl _) (by rw [hz2]; omega) (by omega)
  rw [hz1] at this
  simp only [Int.toNat_natCast, Value.cells, made_one, Nat.mul_one] at this
  exact this
theorem make_rows (n : Nat) (hn : n ≤ 8192) (w : World) : (Instr.makeSlice 88 (.int .i64 (n : Int)) (.int .i64 (n : Int))).run Try.prog w = .ok (.slice (some ⟨w.heap.size, 0, none⟩) n n) (w.alloc (.cells (va n fun _ => .slice none 0 0) 92)) := by
  obtain ⟨i0, hi, hz0, hz1, hz2⟩ := info_parts infoInts
  have := run_make (P := Try.prog) w 88 92 i0 (.slice none 0 0) Try.underlying88 hi hz0 .i64 .i64 (n : Int) (n : Int) (by omega) (Int.le_refl _) (by rw [hz2]; omega) (by omega)
  rw [hz1] at this
  simp only [Int.toNat_natCast, Value.cells, made_one, Nat.mul_one] at this
  exact this
theorem own_made {w : World} {g t n size : Nat} {f : Nat → Value} (h : Blk w g t (va (n * size) f)) (hn : n ≤ 8192) (B : Nat) (hB : B ≤ g) : w.ownsRow B t size (.slice (some ⟨g, 0, none⟩) n n) n ((List.range (n * size)).map f) :=
  ⟨by simp, .inr ⟨g, n, _, rfl, hB, h, Nat.le_refl _, by unfold maxLen; omega, by rw [va_size], by rw [va_toList, List.take_of_length_le (by simp)]⟩⟩
set_option maxRecDepth 100000 in
set_option maxHeartbeats 2000000 in
theorem newPast_any (n : Nat) (hn : n ≤ 8192) (w : World) : Calls Try.prog 35 #[.int .i64 (n : Int)] w fun e w' => ∃ r gs, e = .returned (.agg #[.map (some r), .slice (some ⟨gs, 0, none⟩) n n]) ∧ w.heap.size ≤ r ∧ MapIs (α := Int × Int) (β := Vector Nat 256) momK bK w' r [] ∧ GrpAt w' w.heap.size (.slice (some ⟨gs, 0, none⟩) n n) (List.replicate n []) (List.replicate n (.slice none 0 0)) ∧ Below w.heap.size w w' := by
  have hmm := @run_makeMap Try.prog
  have hmk := make_rows n hn
  go_enter Try.func35, Try.ntmps35
  go_wp2_with fail
  have k0 : Blk (((w.alloc (.cells #[.map (some (w.heap.size + 1)), .slice (some ⟨w.heap.size + 1 + 1, 0, none⟩) n n] 90)).alloc (.map #[] 0)).alloc (.cells (va n fun _ => .slice none 0 0) 92)) w.heap.size 90 #[.map (some (w.heap.size + 1)), .slice (some ⟨w.heap.size + 1 + 1, 0, none⟩) n n] := ((Blk.new _ _ _).alloc _).alloc _
  have k2 : Blk (((w.alloc (.cells #[.map (some (w.heap.size + 1)), .slice (some ⟨w.heap.size + 1 + 1, 0, none⟩) n n] 90)).alloc (.map #[] 0)).alloc (.cells (va n fun _ => .slice none 0 0) 92)) (w.heap.size + 2) 92 (va n fun _ => .slice none 0 0) := Blk.new2 _ _ _ _ _
  have hb := below_new3 w (.cells #[.map (some (w.heap.size + 1)), .slice (some ⟨w.heap.size + 1 + 1, 0, none⟩) n n] 90) (.map #[] 0) (.cells (va n fun _ => .slice none 0 0) 92)
  have hm : MapIs (α := Int × Int) (β := Vector Nat 256) momK bK (((w.alloc (.cells #[.map (some (w.heap.size + 1)), .slice (some ⟨w.heap.size + 1 + 1, 0, none⟩) n n] 90)).alloc (.map #[] 0)).alloc (.cells (va n fun _ => .slice none 0 0) 92)) (w.heap.size + 1) [] := by
    refine ⟨#[], 0, ?_, rfl⟩
    rw [heap_alloc_old _ _ (by simp)]
    have := heap_alloc_new (w.alloc (.cells #[.map (some (w.heap.size + 1)), .slice (some ⟨w.heap.size + 1 + 1, 0, none⟩) n n] 90)) (.map #[] 0)
    rwa [show (w.alloc (.cells #[.map (some (w.heap.size + 1)), .slice (some ⟨w.heap.size + 1 + 1, 0, none⟩) n n] 90)).heap.size = w.heap.size + 1 by simp] at this
  generalize (((w.alloc (.cells #[.map (some (w.heap.size + 1)), .slice (some ⟨w.heap.size + 1 + 1, 0, none⟩) n n] 90)).alloc (.map #[] 0)).alloc (.cells (va n fun _ => .slice none 0 0) 92)) = w1 at *
  refine bodyPost_ret (results_cell_row Try.results35 _ _ w.heap.size 90 #[.map (some (w.heap.size + 1)), .slice (some ⟨w.heap.size + 1 + 1, 0, none⟩) n n] (0, 0) _ rfl k0 Try.underlying90 rfl (by kernel_rfl)) rfl ?_
  have h2 : Blk w1 (w.heap.size + 2) 92 (va (n * 1) fun _ => .slice none 0 0) := by rw [Nat.mul_one]; exact k2
  have hrow := own_made h2 hn w.heap.size (by omega)
  have hrep : (List.range (n * 1)).map (fun _ => Value.slice none 0 0) = List.replicate n (.slice none 0 0) := by
    rw [Nat.mul_one]
    apply List.ext_getElem?
    intro i
    simp [List.getElem?_replicate]
    by_cases hi : i < n <;> simp [hi]
  rw [hrep] at hrow
  have hG : ∀ j, (List.replicate n ([] : List Nat)).getD j [] = [] := fun j => by
    simp only [List.getD_eq_getElem?_getD, List.getElem?_replicate]
    split <;> rfl
  refine ⟨_, _, rfl, by omega, hm, ⟨by rw [List.length_replicate]; exact hrow, fun j hj => ?_, fun i j _ hi hj z hz => ?_⟩, hb⟩
  · rw [hG j]
    rw [List.length_replicate] at hj
    have e : (List.replicate n (Value.slice none 0 0)).getD j undef = .slice none 0 0 := by
      simp [List.getD_eq_getElem?_getD, List.getElem?_replicate, hj]
    rw [e]
    exact World.ownsRow_nil _ _ _ _
  · rw [List.length_replicate] at hi
    have e : (List.replicate n (Value.slice none 0 0)).getD i undef = .slice none 0 0 := by
      simp [List.getD_eq_getElem?_getD, List.getElem?_replicate, hi]
    rw [e] at hz
    cases hz
/-- the three things that a new disk is made of; each is there still when more is made -/
def New1 (B n gn : Nat) (W : World) : Prop := B ≤ gn ∧ Blk W gn 60 (va (n * 256) (iv .u8 fun _ => 0))
def New3 (B n r gs : Nat) (W : World) : Prop := B ≤ r ∧ MapIs (α := Int × Int) (β := Vector Nat 256) momK bK W r [] ∧ GrpAt W B (.slice (some ⟨gs, 0, none⟩) n n) (List.replicate n []) (List.replicate n (.slice none 0 0))
def New5 (B n gw : Nat) (W : World) : Prop := B ≤ gw ∧ Blk W gw 3 (va n fun _ => .int .i64 0)
section
variable {B n a r : Nat} {W W' : World}
theorem New1.below (h : New1 B n a W) (hb : Below W.heap.size W W') : New1 B n a W' := ⟨h.1, h.2.below hb h.2.lt⟩
theorem New5.below (h : New5 B n a W) (hb : Below W.heap.size W W') : New5 B n a W' := ⟨h.1, h.2.below hb h.2.lt⟩
theorem New3.below (h : New3 B n r a W) (hb : Below W.heap.size W W') : New3 B n r a W' := by
  refine ⟨h.1, ?_, h.2.2.below hb⟩
  obtain ⟨es, cl, hg, he⟩ := h.2.1
  exact ⟨es, cl, (hb.block r (Array.getElem?_eq_some_iff.1 hg).1).trans hg, he⟩
end
theorem New3.mono {B B' n r gs : Nat} {W : World} (h : New3 B' n r gs W) (hB : B ≤ B') : New3 B n r gs W := ⟨Nat.le_trans hB h.1, h.2.1, ⟨kown_mono h.2.2.row hB, fun j hj => kown_mono (h.2.2.each j hj) hB, h.2.2.apart⟩⟩
def newQD (n gn r gs gw : Nat) : QD := ⟨gn, r, .slice (some ⟨gs, 0, none⟩) n n, .map none, .slice none 0 0, false, 0, .slice none 0 0, .slice (some ⟨gw, 0, none⟩) n n, [], List.replicate n [], List.replicate n (.slice none 0 0), [], (List.range n).map fun _ => .int .i64 0⟩
theorem newQD_disk {B n gn r gs gw g : Nat} {W : World} (hn : n ≤ 8192) (h1 : New1 B n gn W) (h3 : New3 B n r gs W) (h5 : New5 B n gw W) (hB : B ≤ g) (hg : Blk W g 96 (dcells (newQD n gn r gs gw) n 0)) : DiskQ W B g n (fun _ => 0) 0 0 (newQD n gn r gs gw) := by
  have hw5 : Blk W gw 3 (va (n * 1) fun _ => .int .i64 0) := by rw [Nat.mul_one]; exact h5.2
  have hr5 := own_made hw5 hn B h5.1
  rw [Nat.mul_one] at hr5
  refine ⟨hB, hg, h1.1, h1.2, h3.1, h3.2.1, (fun p hp => by cases hp), h3.2.2, List.length_replicate, fun j => ?_, World.ownsRow_nil _ _ _ _, hr5, fun j hj => ⟨0, by simp [newQD, hj]⟩, fun j hj z hz => ?_⟩
  · have : (List.replicate n ([] : List Nat)).getD j [] = [] := by
      simp only [List.getD_eq_getElem?_getD, List.getElem?_replicate]
      split <;> rfl
    show ((List.replicate n ([] : List Nat)).getD j []).length ≤ 0
    rw [this]
    exact Nat.le_refl _
  · have e : (List.replicate n (Value.slice none 0 0)).getD j undef = .slice none 0 0 := by
      simp [List.getD_eq_getElem?_getD, List.getElem?_replicate, hj]
    have hz' : ((List.replicate n (Value.slice none 0 0)).getD j undef).ownBlock = some z := hz
    rw [e] at hz'
    cases hz'
theorem quiet_new (n gn r gs gw : Nat) : Quiet (newQD n gn r gs gw) 0 := ⟨rfl, rfl, rfl, Int.le_refl _, Int.le_refl _, fun u hu => by cases hu⟩
theorem treeS_three {P : Program} {ops : Array Oper} {Q : Exit → Act → World → Prop} {S : World → Prop} {n : Nat} {listed : Array Bool} {a : Act} {w : World} (i j l : Nat) (hr : (Region.ready .any ops listed == [i, j, l]) = true)
    (h : wpList P ops (Strict fun _ a' w' => S w' ∧ wpTreeS P ops Q S n (listed.setIfInBounds i true) a' w') ([i].filterMap fun i => ops[i]?) a w)
    (h2 : wpList P ops (Strict fun _ a' w' => S w' ∧ wpTreeS P ops Q S n (listed.setIfInBounds j true) a' w') ([j].filterMap fun i => ops[i]?) a w)
    (h3 : wpList P ops (Strict fun _ a' w' => S w' ∧ wpTreeS P ops Q S n (listed.setIfInBounds l true) a' w') ([l].filterMap fun i => ops[i]?) a w) : wpTreeS P ops Q S (n + 1) listed a w :=
  treeS_step [i, j, l] hr fun k hk => by
    have : k = i ∨ k = j ∨ k = l := by simpa using hk
    rcases this with rfl | rfl | rfl
    · exact h
    · exact h2
    · exact h3
set_option maxRecDepth 100000 in
set_option maxHeartbeats 8000000 in
theorem diskNew_any (n : Nat) (h16 : 16 ≤ n) (hn : n ≤ 8192) (w : World) : Calls Try.prog 8 #[.int .i64 (n : Int)] w fun e w' => ∃ g q, e = .returned (.tuple #[.pointer (some ⟨g, 0, none⟩), .int .i64 0]) ∧ DiskQ w' w.heap.size g n (fun _ => 0) 0 0 q ∧ Quiet q 0 ∧ Below w.heap.size w w' := by
  have hm1 := make_bks n hn
  have hm5 := make_ints n hn
  have hP : Hid (∀ w : World, Calls Try.prog 35 #[.int .i64 (n : Int)] w fun e w' => ∃ r gs, e = .returned (.agg #[.map (some r), .slice (some ⟨gs, 0, none⟩) n n]) ∧ New3 w.heap.size n r gs w' ∧ Below w.heap.size w w') := fun w => (newPast_any n hn w).mono fun e w' ⟨r, gs, h1, h2, h3, h4, h5⟩ => ⟨r, gs, h1, ⟨h2, h3, h4⟩, h5⟩
  have j0 : (16 : Int) ≤ (n : Int) := by omega
  have j1 : (n : Int) ≤ 8192 := by omega
  go_enter Try.func8, Try.ntmps8
  go_wp2_with fail
  refine wp_region_tree [] [0, 2, 4] w.heap.size (by kernel_rfl) (by kernel_rfl) (fun _ hx => nomatch hx) ?_
  simp only [List.cons_append, List.nil_append, List.append_nil, List.filterMap_cons, List.filterMap_nil, List.getElem?_toArray, List.getElem?_cons_zero, List.getElem?_cons_succ]
  have b0 : Below w.heap.size w w.drew := (Below.refl _ _).drew
  go_wp2_with fail
  generalize w.drew = v0 at *
  refine ⟨rfl, treeS_three 1 3 5 (by kernel_rfl) ?_ ?_ ?_⟩
  · simp only [List.cons_append, List.nil_append, List.append_nil, List.filterMap_cons, List.filterMap_nil, List.getElem?_toArray, List.getElem?_cons_zero, List.getElem?_cons_succ]
    go_wp2_with fail
    have x10 : New1 w.heap.size n v0.heap.size (v0.alloc (.cells (va (n * 256) (iv .u8 fun _ => 0)) 60)) := ⟨b0.size, Blk.new _ _ _⟩
    have b1 : Below w.heap.size w (v0.alloc (.cells (va (n * 256) (iv .u8 fun _ => 0)) 60)) := b0.alloc b0.size _
    generalize (v0.alloc (.cells (va (n * 256) (iv .u8 fun _ => 0)) 60)) = v1 at *
    refine ⟨rfl, b1, treeS_two 3 5 (by kernel_rfl) ?_ ?_⟩
    · simp only [List.cons_append, List.nil_append, List.append_nil, List.filterMap_cons, List.filterMap_nil, List.getElem?_toArray, List.getElem?_cons_zero, List.getElem?_cons_succ]
      go_wp2_with fail
      refine (hP.out _).mono ?_
      rintro e v2 ⟨r, gs, rfl, h3, hb3⟩
      have x31 := h3.mono b1.size
      have x11 := x10.below hb3
      have b2 : Below w.heap.size w v2 := b1.trans (hb3.mono b1.size)
      clear h3 hb3 x10
      go_wp2_with fail
      refine ⟨rfl, b2, treeS_one 5 (by kernel_rfl) ?_⟩
      · simp only [List.cons_append, List.nil_append, List.append_nil, List.filterMap_cons, List.filterMap_nil, List.getElem?_toArray, List.getElem?_cons_zero, List.getElem?_cons_succ]
        go_wp2_with fail
        have x52 : New5 w.heap.size n v2.heap.size (v2.alloc (.cells (va n fun _ => .int .i64 0) 3)) := ⟨b2.size, Blk.new _ _ _⟩
        have x12 := x11.below (below_new1 v2 (.cells (va n fun _ => .int .i64 0) 3))
        have x32 := x31.below (below_new1 v2 (.cells (va n fun _ => .int .i64 0) 3))
        have b3 : Below w.heap.size w (v2.alloc (.cells (va n fun _ => .int .i64 0) 3)) := b2.alloc b2.size _
        clear x11 x31
        generalize (v2.alloc (.cells (va n fun _ => .int .i64 0) 3)) = v3 at *
        refine ⟨rfl, b3, treeS_one 6 (by kernel_rfl) ?_⟩
        simp only [List.cons_append, List.nil_append, List.append_nil, List.filterMap_cons, List.filterMap_nil, List.getElem?_toArray, List.getElem?_cons_zero, List.getElem?_cons_succ]
        go_wp2_with fail
        refine ⟨rfl, b3, treeS_one 7 (by kernel_rfl) ?_⟩
        simp only [List.cons_append, List.nil_append, List.append_nil, List.filterMap_cons, List.filterMap_nil, List.getElem?_toArray, List.getElem?_cons_zero, List.getElem?_cons_succ]
        go_wp2_with fail
        refine ⟨rfl, b3.alloc b3.size _, treeS_one 8 (by kernel_rfl) ?_⟩
        simp only [List.cons_append, List.nil_append, List.append_nil, List.filterMap_cons, List.filterMap_nil, List.getElem?_toArray, List.getElem?_cons_zero, List.getElem?_cons_succ]
        go_wp2_with fail
        refine ⟨rfl, b3.alloc b3.size _, treeS_one 9 (by kernel_rfl) ?_⟩
        simp only [List.cons_append, List.nil_append, List.append_nil, List.filterMap_cons, List.filterMap_nil, List.getElem?_toArray, List.getElem?_cons_zero, List.getElem?_cons_succ]
        go_wp2_with fail
        refine ⟨rfl, b3.alloc b3.size _, treeS_last ?_⟩
        refine ⟨rfl, ?_⟩
        go_wp2_with fail
        try simp only [Exit.inBlock, Exit.then]
        refine bodyPost_ret (results_tmp2 Try.results8 _ _ _) rfl ?_
        exact ⟨_, _, rfl, newQD_disk hn (x12.below (below_new1 _ _)) (x32.below (below_new1 _ _)) (x52.below (below_new1 _ _)) b3.size (Blk.new _ _ _), quiet_new _ _ _ _ _, b3.alloc b3.size _⟩
    · simp only [List.cons_append, List.nil_append, List.append_nil, List.filterMap_cons, List.filterMap_nil, List.getElem?_toArray, List.getElem?_cons_zero, List.getElem?_cons_succ]
      go_wp2_with fail
      have x51 : New5 w.heap.size n v1.heap.size (v1.alloc (.cells (va n fun _ => .int .i64 0) 3)) := ⟨b1.size, Blk.new _ _ _⟩
      have x11 := x10.below (below_new1 v1 (.cells (va n fun _ => .int .i64 0) 3))
      have b2 : Below w.heap.size w (v1.alloc (.cells (va n fun _ => .int .i64 0) 3)) := b1.alloc b1.size _
      clear x10
      generalize (v1.alloc (.cells (va n fun _ => .int .i64 0) 3)) = v2 at *
      refine ⟨rfl, b2, treeS_one 3 (by kernel_rfl) ?_⟩
      · simp only [List.cons_append, List.nil_append, List.append_nil, List.filterMap_cons, List.filterMap_nil, List.getElem?_toArray, List.getElem?_cons_zero, List.getElem?_cons_succ]
        go_wp2_with fail
        refine (hP.out _).mono ?_
        rintro e v3 ⟨r, gs, rfl, h3, hb3⟩
        have x32 := h3.mono b2.size
        have x12 := x11.below hb3
        have x52 := x51.below hb3
        have b3 : Below w.heap.size w v3 := b2.trans (hb3.mono b2.size)
        clear h3 hb3 x11 x51
        go_wp2_with fail
        refine ⟨rfl, b3, treeS_one 6 (by kernel_rfl) ?_⟩
        simp only [List.cons_append, List.nil_append, List.append_nil, List.filterMap_cons, List.filterMap_nil, List.getElem?_toArray, List.getElem?_cons_zero, List.getElem?_cons_succ]
        go_wp2_with fail
        refine ⟨rfl, b3, treeS_one 7 (by kernel_rfl) ?_⟩
        simp only [List.cons_append, List.nil_append, List.append_nil, List.filterMap_cons, List.filterMap_nil, List.getElem?_toArray, List.getElem?_cons_zero, List.getElem?_cons_succ]
        go_wp2_with fail
        refine ⟨rfl, b3.alloc b3.size _, treeS_one 8 (by kernel_rfl) ?_⟩
        simp only [List.cons_append, List.nil_append, List.append_nil, List.filterMap_cons, List.filterMap_nil, List.getElem?_toArray, List.getElem?_cons_zero, List.getElem?_cons_succ]
        go_wp2_with fail
        refine ⟨rfl, b3.alloc b3.size _, treeS_one 9 (by kernel_rfl) ?_⟩
        simp only [List.cons_append, List.nil_append, List.append_nil, List.filterMap_cons, List.filterMap_nil, List.getElem?_toArray, List.getElem?_cons_zero, List.getElem?_cons_succ]
        go_wp2_with fail
        refine ⟨rfl, b3.alloc b3.size _, treeS_last ?_⟩
        refine ⟨rfl, ?_⟩
        go_wp2_with fail
        try simp only [Exit.inBlock, Exit.then]
        refine bodyPost_ret (results_tmp2 Try.results8 _ _ _) rfl ?_
        exact ⟨_, _, rfl, newQD_disk hn (x12.below (below_new1 _ _)) (x32.below (below_new1 _ _)) (x52.below (below_new1 _ _)) b3.size (Blk.new _ _ _), quiet_new _ _ _ _ _, b3.alloc b3.size _⟩
  · simp only [List.cons_append, List.nil_append, List.append_nil, List.filterMap_cons, List.filterMap_nil, List.getElem?_toArray, List.getElem?_cons_zero, List.getElem?_cons_succ]
    go_wp2_with fail
    refine (hP.out _).mono ?_
    rintro e v1 ⟨r, gs, rfl, h3, hb3⟩
    have x30 := h3.mono b0.size
    have b1 : Below w.heap.size w v1 := b0.trans (hb3.mono b0.size)
    clear h3 hb3
    go_wp2_with fail
    refine ⟨rfl, b1, treeS_two 1 5 (by kernel_rfl) ?_ ?_⟩
    · simp only [List.cons_append, List.nil_append, List.append_nil, List.filterMap_cons, List.filterMap_nil, List.getElem?_toArray, List.getElem?_cons_zero, List.getElem?_cons_succ]
      go_wp2_with fail
      have x11 : New1 w.heap.size n v1.heap.size (v1.alloc (.cells (va (n * 256) (iv .u8 fun _ => 0)) 60)) := ⟨b1.size, Blk.new _ _ _⟩
      have x31 := x30.below (below_new1 v1 (.cells (va (n * 256) (iv .u8 fun _ => 0)) 60))
      have b2 : Below w.heap.size w (v1.alloc (.cells (va (n * 256) (iv .u8 fun _ => 0)) 60)) := b1.alloc b1.size _
      clear x30
      generalize (v1.alloc (.cells (va (n * 256) (iv .u8 fun _ => 0)) 60)) = v2 at *
      refine ⟨rfl, b2, treeS_one 5 (by kernel_rfl) ?_⟩
      · simp only [List.cons_append, List.nil_append, List.append_nil, List.filterMap_cons, List.filterMap_nil, List.getElem?_toArray, List.getElem?_cons_zero, List.getElem?_cons_succ]
        go_wp2_with fail
        have x52 : New5 w.heap.size n v2.heap.size (v2.alloc (.cells (va n fun _ => .int .i64 0) 3)) := ⟨b2.size, Blk.new _ _ _⟩
        have x32 := x31.below (below_new1 v2 (.cells (va n fun _ => .int .i64 0) 3))
        have x12 := x11.below (below_new1 v2 (.cells (va n fun _ => .int .i64 0) 3))
        have b3 : Below w.heap.size w (v2.alloc (.cells (va n fun _ => .int .i64 0) 3)) := b2.alloc b2.size _
        clear x31 x11
        generalize (v2.alloc (.cells (va n fun _ => .int .i64 0) 3)) = v3 at *
        refine ⟨rfl, b3, treeS_one 6 (by kernel_rfl) ?_⟩
        simp only [List.cons_append, List.nil_append, List.append_nil, List.filterMap_cons, List.filterMap_nil, List.getElem?_toArray, List.getElem?_cons_zero, List.getElem?_cons_succ]
        go_wp2_with fail
        refine ⟨rfl, b3, treeS_one 7 (by kernel_rfl) ?_⟩
        simp only [List.cons_append, List.nil_append, List.append_nil, List.filterMap_cons, List.filterMap_nil, List.getElem?_toArray, List.getElem?_cons_zero, List.getElem?_cons_succ]
        go_wp2_with fail
        refine ⟨rfl, b3.alloc b3.size _, treeS_one 8 (by kernel_rfl) ?_⟩
        simp only [List.cons_append, List.nil_append, List.append_nil, List.filterMap_cons, List.filterMap_nil, List.getElem?_toArray, List.getElem?_cons_zero, List.getElem?_cons_succ]
        go_wp2_with fail
        refine ⟨rfl, b3.alloc b3.size _, treeS_one 9 (by kernel_rfl) ?_⟩
        simp only [List.cons_append, List.nil_append, List.append_nil, List.filterMap_cons, List.filterMap_nil, List.getElem?_toArray, List.getElem?_cons_zero, List.getElem?_cons_succ]
        go_wp2_with fail
        refine ⟨rfl, b3.alloc b3.size _, treeS_last ?_⟩
        refine ⟨rfl, ?_⟩
        go_wp2_with fail
        try simp only [Exit.inBlock, Exit.then]
        refine bodyPost_ret (results_tmp2 Try.results8 _ _ _) rfl ?_
        exact ⟨_, _, rfl, newQD_disk hn (x12.below (below_new1 _ _)) (x32.below (below_new1 _ _)) (x52.below (below_new1 _ _)) b3.size (Blk.new _ _ _), quiet_new _ _ _ _ _, b3.alloc b3.size _⟩
    · simp only [List.cons_append, List.nil_append, List.append_nil, List.filterMap_cons, List.filterMap_nil, List.getElem?_toArray, List.getElem?_cons_zero, List.getElem?_cons_succ]
      go_wp2_with fail
      have x51 : New5 w.heap.size n v1.heap.size (v1.alloc (.cells (va n fun _ => .int .i64 0) 3)) := ⟨b1.size, Blk.new _ _ _⟩
      have x31 := x30.below (below_new1 v1 (.cells (va n fun _ => .int .i64 0) 3))
      have b2 : Below w.heap.size w (v1.alloc (.cells (va n fun _ => .int .i64 0) 3)) := b1.alloc b1.size _
      clear x30
      generalize (v1.alloc (.cells (va n fun _ => .int .i64 0) 3)) = v2 at *
      refine ⟨rfl, b2, treeS_one 1 (by kernel_rfl) ?_⟩
      · simp only [List.cons_append, List.nil_append, List.append_nil, List.filterMap_cons, List.filterMap_nil, List.getElem?_toArray, List.getElem?_cons_zero, List.getElem?_cons_succ]
        go_wp2_with fail
        have x12 : New1 w.heap.size n v2.heap.size (v2.alloc (.cells (va (n * 256) (iv .u8 fun _ => 0)) 60)) := ⟨b2.size, Blk.new _ _ _⟩
        have x32 := x31.below (below_new1 v2 (.cells (va (n * 256) (iv .u8 fun _ => 0)) 60))
        have x52 := x51.below (below_new1 v2 (.cells (va (n * 256) (iv .u8 fun _ => 0)) 60))
        have b3 : Below w.heap.size w (v2.alloc (.cells (va (n * 256) (iv .u8 fun _ => 0)) 60)) := b2.alloc b2.size _
        clear x31 x51
        generalize (v2.alloc (.cells (va (n * 256) (iv .u8 fun _ => 0)) 60)) = v3 at *
        refine ⟨rfl, b3, treeS_one 6 (by kernel_rfl) ?_⟩
        simp only [List.cons_append, List.nil_append, List.append_nil, List.filterMap_cons, List.filterMap_nil, List.getElem?_toArray, List.getElem?_cons_zero, List.getElem?_cons_succ]
        go_wp2_with fail
        refine ⟨rfl, b3, treeS_one 7 (by kernel_rfl) ?_⟩
        simp only [List.cons_append, List.nil_append, List.append_nil, List.filterMap_cons, List.filterMap_nil, List.getElem?_toArray, List.getElem?_cons_zero, List.getElem?_cons_succ]
        go_wp2_with fail
        refine ⟨rfl, b3.alloc b3.size _, treeS_one 8 (by kernel_rfl) ?_⟩
        simp only [List.cons_append, List.nil_append, List.append_nil, List.filterMap_cons, List.filterMap_nil, List.getElem?_toArray, List.getElem?_cons_zero, List.getElem?_cons_succ]
        go_wp2_with fail
        refine ⟨rfl, b3.alloc b3.size _, treeS_one 9 (by kernel_rfl) ?_⟩
        simp only [List.cons_append, List.nil_append, List.append_nil, List.filterMap_cons, List.filterMap_nil, List.getElem?_toArray, List.getElem?_cons_zero, List.getElem?_cons_succ]
        go_wp2_with fail
        refine ⟨rfl, b3.alloc b3.size _, treeS_last ?_⟩
        refine ⟨rfl, ?_⟩
        go_wp2_with fail
        try simp only [Exit.inBlock, Exit.then]
        refine bodyPost_ret (results_tmp2 Try.results8 _ _ _) rfl ?_
        exact ⟨_, _, rfl, newQD_disk hn (x12.below (below_new1 _ _)) (x32.below (below_new1 _ _)) (x52.below (below_new1 _ _)) b3.size (Blk.new _ _ _), quiet_new _ _ _ _ _, b3.alloc b3.size _⟩
  · simp only [List.cons_append, List.nil_append, List.append_nil, List.filterMap_cons, List.filterMap_nil, List.getElem?_toArray, List.getElem?_cons_zero, List.getElem?_cons_succ]
    go_wp2_with fail
    have x50 : New5 w.heap.size n v0.heap.size (v0.alloc (.cells (va n fun _ => .int .i64 0) 3)) := ⟨b0.size, Blk.new _ _ _⟩
    have b1 : Below w.heap.size w (v0.alloc (.cells (va n fun _ => .int .i64 0) 3)) := b0.alloc b0.size _
    generalize (v0.alloc (.cells (va n fun _ => .int .i64 0) 3)) = v1 at *
    refine ⟨rfl, b1, treeS_two 1 3 (by kernel_rfl) ?_ ?_⟩
    · simp only [List.cons_append, List.nil_append, List.append_nil, List.filterMap_cons, List.filterMap_nil, List.getElem?_toArray, List.getElem?_cons_zero, List.getElem?_cons_succ]
      go_wp2_with fail
      have x11 : New1 w.heap.size n v1.heap.size (v1.alloc (.cells (va (n * 256) (iv .u8 fun _ => 0)) 60)) := ⟨b1.size, Blk.new _ _ _⟩
      have x51 := x50.below (below_new1 v1 (.cells (va (n * 256) (iv .u8 fun _ => 0)) 60))
      have b2 : Below w.heap.size w (v1.alloc (.cells (va (n * 256) (iv .u8 fun _ => 0)) 60)) := b1.alloc b1.size _
      clear x50
      generalize (v1.alloc (.cells (va (n * 256) (iv .u8 fun _ => 0)) 60)) = v2 at *
      refine ⟨rfl, b2, treeS_one 3 (by kernel_rfl) ?_⟩
      · simp only [List.cons_append, List.nil_append, List.append_nil, List.filterMap_cons, List.filterMap_nil, List.getElem?_toArray, List.getElem?_cons_zero, List.getElem?_cons_succ]
        go_wp2_with fail
        refine (hP.out _).mono ?_
        rintro e v3 ⟨r, gs, rfl, h3, hb3⟩
        have x32 := h3.mono b2.size
        have x52 := x51.below hb3
        have x12 := x11.below hb3
        have b3 : Below w.heap.size w v3 := b2.trans (hb3.mono b2.size)
        clear h3 hb3 x51 x11
        go_wp2_with fail
        refine ⟨rfl, b3, treeS_one 6 (by kernel_rfl) ?_⟩
        simp only [List.cons_append, List.nil_append, List.append_nil, List.filterMap_cons, List.filterMap_nil, List.getElem?_toArray, List.getElem?_cons_zero, List.getElem?_cons_succ]
        go_wp2_with fail
        refine ⟨rfl, b3, treeS_one 7 (by kernel_rfl) ?_⟩
        simp only [List.cons_append, List.nil_append, List.append_nil, List.filterMap_cons, List.filterMap_nil, List.getElem?_toArray, List.getElem?_cons_zero, List.getElem?_cons_succ]
        go_wp2_with fail
        refine ⟨rfl, b3.alloc b3.size _, treeS_one 8 (by kernel_rfl) ?_⟩
        simp only [List.cons_append, List.nil_append, List.append_nil, List.filterMap_cons, List.filterMap_nil, List.getElem?_toArray, List.getElem?_cons_zero, List.getElem?_cons_succ]
        go_wp2_with fail
        refine ⟨rfl, b3.alloc b3.size _, treeS_one 9 (by kernel_rfl) ?_⟩
        simp only [List.cons_append, List.nil_append, List.append_nil, List.filterMap_cons, List.filterMap_nil, List.getElem?_toArray, List.getElem?_cons_zero, List.getElem?_cons_succ]
        go_wp2_with fail
        refine ⟨rfl, b3.alloc b3.size _, treeS_last ?_⟩
        refine ⟨rfl, ?_⟩
        go_wp2_with fail
        try simp only [Exit.inBlock, Exit.then]
        refine bodyPost_ret (results_tmp2 Try.results8 _ _ _) rfl ?_
        exact ⟨_, _, rfl, newQD_disk hn (x12.below (below_new1 _ _)) (x32.below (below_new1 _ _)) (x52.below (below_new1 _ _)) b3.size (Blk.new _ _ _), quiet_new _ _ _ _ _, b3.alloc b3.size _⟩
    · simp only [List.cons_append, List.nil_append, List.append_nil, List.filterMap_cons, List.filterMap_nil, List.getElem?_toArray, List.getElem?_cons_zero, List.getElem?_cons_succ]
      go_wp2_with fail
      refine (hP.out _).mono ?_
      rintro e v2 ⟨r, gs, rfl, h3, hb3⟩
      have x31 := h3.mono b1.size
      have x51 := x50.below hb3
      have b2 : Below w.heap.size w v2 := b1.trans (hb3.mono b1.size)
      clear h3 hb3 x50
      go_wp2_with fail
      refine ⟨rfl, b2, treeS_one 1 (by kernel_rfl) ?_⟩
      · simp only [List.cons_append, List.nil_append, List.append_nil, List.filterMap_cons, List.filterMap_nil, List.getElem?_toArray, List.getElem?_cons_zero, List.getElem?_cons_succ]
        go_wp2_with fail
        have x12 : New1 w.heap.size n v2.heap.size (v2.alloc (.cells (va (n * 256) (iv .u8 fun _ => 0)) 60)) := ⟨b2.size, Blk.new _ _ _⟩
        have x52 := x51.below (below_new1 v2 (.cells (va (n * 256) (iv .u8 fun _ => 0)) 60))
        have x32 := x31.below (below_new1 v2 (.cells (va (n * 256) (iv .u8 fun _ => 0)) 60))
        have b3 : Below w.heap.size w (v2.alloc (.cells (va (n * 256) (iv .u8 fun _ => 0)) 60)) := b2.alloc b2.size _
        clear x51 x31
        generalize (v2.alloc (.cells (va (n * 256) (iv .u8 fun _ => 0)) 60)) = v3 at *
        refine ⟨rfl, b3, treeS_one 6 (by kernel_rfl) ?_⟩
        simp only [List.cons_append, List.nil_append, List.append_nil, List.filterMap_cons, List.filterMap_nil, List.getElem?_toArray, List.getElem?_cons_zero, List.getElem?_cons_succ]
        go_wp2_with fail
        refine ⟨rfl, b3, treeS_one 7 (by kernel_rfl) ?_⟩
        simp only [List.cons_append, List.nil_append, List.append_nil, List.filterMap_cons, List.filterMap_nil, List.getElem?_toArray, List.getElem?_cons_zero, List.getElem?_cons_succ]
        go_wp2_with fail
        refine ⟨rfl, b3.alloc b3.size _, treeS_one 8 (by kernel_rfl) ?_⟩
        simp only [List.cons_append, List.nil_append, List.append_nil, List.filterMap_cons, List.filterMap_nil, List.getElem?_toArray, List.getElem?_cons_zero, List.getElem?_cons_succ]
        go_wp2_with fail
        refine ⟨rfl, b3.alloc b3.size _, treeS_one 9 (by kernel_rfl) ?_⟩
        simp only [List.cons_append, List.nil_append, List.append_nil, List.filterMap_cons, List.filterMap_nil, List.getElem?_toArray, List.getElem?_cons_zero, List.getElem?_cons_succ]
        go_wp2_with fail
        refine ⟨rfl, b3.alloc b3.size _, treeS_last ?_⟩
        refine ⟨rfl, ?_⟩
        go_wp2_with fail
        try simp only [Exit.inBlock, Exit.then]
        refine bodyPost_ret (results_tmp2 Try.results8 _ _ _) rfl ?_
        exact ⟨_, _, rfl, newQD_disk hn (x12.below (below_new1 _ _)) (x32.below (below_new1 _ _)) (x52.below (below_new1 _ _)) b3.size (Blk.new _ _ _), quiet_new _ _ _ _ _, b3.alloc b3.size _⟩
end Go.Proofs.Ytlmbokfgogkbmaa

namespace Go.Proofs.Ytlmbokfgogkbmaa
open Go Go.RowKit
set_option linter.unusedSimpArgs false
set_option linter.unusedVariables false

def sliceLen : Value → Nat
  | .slice _ n _ => n
  | _ => 0
/-- bytes with a number's behind them -/
def layB (f : Nat → Nat) (l n : Nat) : Nat → Nat := fun j => if j < l then f j else dig n (j - l)
theorem layB_succ (f : Nat → Nat) (l n k : Nat) : byL (layB f l n) (l + (k + 1)) = byL (layB f l n) (l + k) ++ [Value.int .u8 ((n / 256 ^ k % 256 : Nat) : Int)] := by
  rw [← Nat.add_assoc, byL_succ]
  unfold layB dig
  rw [if_neg (by omega), show l + k - l = k by omega]
set_option maxRecDepth 100000 in
set_option maxHeartbeats 4000000 in
theorem laid_any {B : Nat} {v : Value} (f : Nat → Nat) (l e n : Nat) (E : Int) (hE : E = (e : Int)) (hle : l ≤ e) (he : e ≤ 64) (hn : n < 18446744073709551616) (w : World) (hB : B ≤ w.heap.size) (h : w.ownsRow B 5 1 v l (byL f l)) :
    Calls Try.prog 43 #[v, .int .u64 (n : Int), .int .i64 E] w fun e' w' => ∃ a c, e' = .returned (.slice a e c) ∧ w'.ownsRow B 5 1 (.slice a e c) e (byL (layB f l n) e) ∧ Below B w w' := by
  subst hE
  obtain ⟨i0, hi, hz0, hz1, hz2⟩ := info_parts infoU8k
  have h0 : w.ownsRow B 5 1 v (l + 0) (byL (layB f l n) (l + 0)) := by
    rw [Nat.add_zero, byL_congr (g := f) (fun j hj => by unfold layB; rw [if_pos hj])]
    exact h
  obtain ⟨a0, c0, hv0⟩ := kown_slice h0
  clear h
  subst hv0
  go_enter Try.func43, Try.ntmps43
  go_wp2_with fail
  go_loopw [0, 1] (fun v m wr => ∃ (k : Nat) (a : Option Addr) (c : Nat), l + k ≤ e ∧ v = .slice a (l + k) c ∧ m = .int .u64 ((n / 256 ^ k : Nat) : Int) ∧ wr.ownsRow B 5 1 v (l + k) (byL (layB f l n) (l + k)) ∧ Below B w wr) (fun v _ _ => e - sliceLen v)
  case atStart => exact ⟨0, a0, c0, by omega, rfl, by simp, h0, Below.refl _ _⟩
  case round =>
    obtain ⟨k, a, c, hk, rfl, rfl, hown, hb⟩ := hrel
    clear h0
    have hv := hown.lt
    have hsz := hb.size
    by_cases hlt : l + k < e
    · have hqn : n / 256 ^ k ≤ n := Nat.div_le_self _ _
      have HQ : Hid (n / 256 ^ (k + 1) = n / 256 ^ k / 256) := by
        show _ = _
        rw [Nat.pow_succ, Nat.div_div_eq_div_mul]
      have HZ : Hid (byL (layB f l n) (l + (k + 1)) = byL (layB f l n) (l + k) ++ [Value.int .u8 ((n / 256 ^ k % 256 : Nat) : Int)]) := layB_succ f l n k
      obtain ⟨y, hy⟩ : ∃ y, y = l + k := ⟨_, rfl⟩
      have HY : Hid (y = l + k) := hy
      rw [← hy] at hown hlt HZ hv ⊢
      clear hy hk
      generalize n / 256 ^ k = q at *
      generalize byL (layB f l n) y = L at *
      have k1 : (y : Int) < (e : Int) := by omega
      have q1 : (q : Int) < 18446744073709551616 := by omega
      have q0 : (0 : Int) ≤ (q : Int) := by omega
      go_wp2_with (first
        | (at_builtin; refine wpList_append_own _ rfl _ _ 107 rfl B 5 i0 (.int .u8 0) 1 1 Try.underlying107 hi hz0 hz1 hz2 rfl (by decide) _ _ _ rfl (hown.alloc _) ⟨wr.heap.size, 0, none⟩ 1 1 [.int .u8 ((q : Int) % 256)] rfl rfl (cell_one_new _ _ _) (fun x hx => by simp at hx; subst hx; rfl) (by unfold maxLen; omega) (by omega) (by simp; omega) ?_)
        | go_in)
      intro v' w2 hown' hgrow _
      have hb2 : Below B w w2 := (hb.alloc (by omega) _).grown hgrow (by simp; omega) (fun k hk => (hv k hk).1)
      have hown2 : w2.ownsRow B 5 1 v' (y + 1) (byL (layB f l n) (l + (k + 1))) := by
        rw [HZ.out]
        simpa using hown'
      obtain ⟨g3, cap3, hv3⟩ := kown_slice hown2
      subst hv3
      clear hown hv hgrow hb hown'
      go_wp2_with fail
      go_roundw
      case rel => exact ⟨k + 1, g3, cap3, by have := HY.out; omega, by rw [HY.out]; rfl, by rw [HQ.out]; simp, by have := hown2; rw [HY.out] at this ⊢; exact this, hb2⟩
      case measure => simp [sliceLen]; omega
    · have hy : l + k = e := by omega
      rw [hy] at hown ⊢
      go_wp2_with fail
      go_ret
      exact ⟨_, _, rfl, hown, hb⟩
theorem hornN_up (g : Nat → Nat) : ∀ c o, hornN g o (c + 1) = hornN g o c + g (o + c) * 256 ^ c
  | 0, o => by simp [hornN]
  | c + 1, o => by
    rw [show hornN g o (c + 1 + 1) = g o + 256 * hornN g (o + 1) (c + 1) from rfl, hornN_up g c (o + 1), show hornN g o (c + 1) = g o + 256 * hornN g (o + 1) c from rfl, show o + 1 + c = o + (c + 1) by omega, Nat.pow_succ, Nat.mul_add]
    have : 256 * (g (o + (c + 1)) * 256 ^ c) = g (o + (c + 1)) * (256 ^ c * 256) := by
      rw [Nat.mul_left_comm, Nat.mul_comm 256]
    omega
set_option maxRecDepth 100000 in
set_option maxHeartbeats 4000000 in
theorem taken8 (s : ByteArray) (hs : s.size = 8) (w : World) : Calls Try.prog 44 #[.string s] w fun e w' => e = .returned (.int .u64 ((hornN (tbyte s) 0 8 : Nat) : Int)) ∧ w = w' := by
  have x0 := text_index s 0 (by omega)
  have x1 := text_index s 1 (by omega)
  have x2 := text_index s 2 (by omega)
  have x3 := text_index s 3 (by omega)
  have x4 := text_index s 4 (by omega)
  have x5 := text_index s 5 (by omega)
  have x6 := text_index s 6 (by omega)
  have x7 := text_index s 7 (by omega)
  have hv := of8_val (tbyte s 0) (tbyte s 1) (tbyte s 2) (tbyte s 3) (tbyte s 4) (tbyte s 5) (tbyte s 6) (tbyte s 7) (tbyte_lt _ _) (tbyte_lt _ _) (tbyte_lt _ _) (tbyte_lt _ _) (tbyte_lt _ _) (tbyte_lt _ _) (tbyte_lt _ _) (tbyte_lt _ _)
  have b0 := tbyte_lt s 0
  have b1 := tbyte_lt s 1
  have b2 := tbyte_lt s 2
  have b3 := tbyte_lt s 3
  have b4 := tbyte_lt s 4
  have b5 := tbyte_lt s 5
  have b6 := tbyte_lt s 6
  have b7 := tbyte_lt s 7
  have HE : Hid (hornN (tbyte s) 0 8 = le8 (tbyte s 0) (tbyte s 1) (tbyte s 2) (tbyte s 3) (tbyte s 4) (tbyte s 5) (tbyte s 6) (tbyte s 7)) := horn8 (tbyte s) 0
  go_enter Try.func44, Try.ntmps44
  go_wp2_with fail
  go_rounds 9
  go_returns
  refine ⟨?_, rfl⟩
  rw [HE.out]
  rfl
theorem of4_val64 (a0 a1 a2 a3 : Nat) (h0 : a0 < 256) (h1 : a1 < 256) (h2 : a2 < 256) (h3 : a3 < 256) :
    bits .or .u64 (bits .or .u64 (bits .or .u64 (bits .or .u64 0 (a0 : Int)) ((a1 : Int) * 256)) ((a2 : Int) * 65536)) ((a3 : Int) * 16777216) = (le4 a0 a1 a2 a3 : Int) := by
  have e0 := u64_or_nat 0 a0 (by decide) (by omega)
  rw [Nat.zero_or] at e0
  have e1 := or64_at a0 a1 256 8 (by decide) h0 (by omega)
  have e2 := or64_at (a0 + a1 * 256) a2 65536 16 (by decide) (by omega) (by omega)
  have e3 := or64_at (a0 + a1 * 256 + a2 * 65536) a3 16777216 24 (by decide) (by omega) (by omega)
  rw [show (0 : Int) = ((0 : Nat) : Int) from rfl, e0, show (256 : Int) = ((256 : Nat) : Int) from rfl, e1, show (65536 : Int) = ((65536 : Nat) : Int) from rfl, e2, show (16777216 : Int) = ((16777216 : Nat) : Int) from rfl, e3]; rfl
set_option maxRecDepth 100000 in
set_option maxHeartbeats 4000000 in
theorem taken4 (s : ByteArray) (hs : s.size = 4) (w : World) : Calls Try.prog 44 #[.string s] w fun e w' => e = .returned (.int .u64 ((hornN (tbyte s) 0 4 : Nat) : Int)) ∧ w = w' := by
  have x0 := text_index s 0 (by omega)
  have x1 := text_index s 1 (by omega)
  have x2 := text_index s 2 (by omega)
  have x3 := text_index s 3 (by omega)
  have hv := of4_val64 (tbyte s 0) (tbyte s 1) (tbyte s 2) (tbyte s 3) (tbyte_lt _ _) (tbyte_lt _ _) (tbyte_lt _ _) (tbyte_lt _ _)
  have b0 := tbyte_lt s 0
  have b1 := tbyte_lt s 1
  have b2 := tbyte_lt s 2
  have b3 := tbyte_lt s 3
  have HE : Hid (hornN (tbyte s) 0 4 = le4 (tbyte s 0) (tbyte s 1) (tbyte s 2) (tbyte s 3)) := horn4 (tbyte s) 0
  go_enter Try.func44, Try.ntmps44
  go_wp2_with fail
  go_rounds 5
  go_returns
  refine ⟨?_, rfl⟩
  rw [HE.out]
  rfl
/-- a slot's bytes -/
def encF (s : Sl) : Nat → Nat := fun j => if j < 12 then layB (layB (fun _ => 0) 0 s.1) 8 s.2.1 j else dF s.2.2 (j - 12)
theorem encF_lt (s : Sl) (hb : ∀ i, i < 32 → dF s.2.2 i < 256) (j : Nat) (hj : j < 44) : encF s j < 256 := by
  unfold encF layB
  split
  · split
    · split
      · omega
      · exact dig_lt _ _
    · exact dig_lt _ _
  · exact hb _ (by omega)
theorem encF_cells (s : Sl) : byL (encF s) 44 = byL (layB (layB (fun _ => 0) 0 s.1) 8 s.2.1) 12 ++ byL (dF s.2.2) 32 := by
  rw [show (44 : Nat) = 12 + 32 from rfl, byL_add]
  have h1 : byL (encF s) 12 = byL (layB (layB (fun _ => 0) 0 s.1) 8 s.2.1) 12 := byL_congr fun j hj => by unfold encF; rw [if_pos hj]
  have h2 : byL (fun j => encF s (12 + j)) 32 = byL (dF s.2.2) 32 := byL_congr fun j hj => by unfold encF; rw [if_neg (by omega), show 12 + j - 12 = j by omega]
  rw [h1, h2]
theorem make_b44 (w : World) : (Instr.makeSlice 107 (.int .i64 0) (.int .i64 44)).run Try.prog w = .ok (.slice (some ⟨w.heap.size, 0, none⟩) 0 44) (w.alloc (.cells (va 44 (iv .u8 fun _ => 0)) 5)) := by
  obtain ⟨i0, hi, hz0, hz1, hz2⟩ := info_parts infoU8k
  have := run_make (P := Try.prog) w 107 5 i0 (.int .u8 0) Try.underlying107 hi hz0 .i64 .i64 0 44 (by omega) (by omega) (by rw [hz2]; omega) (by omega)
  rw [hz1] at this
  simp only [Value.cells, made_one] at this
  exact this
theorem sum_mid (s : Sl) {w : World} {b : Nat} (h : Blk w b 50 (slC s)) : ∀ j u, (byL (dF s.2.2) 32)[j]? = some u → w.cell? ((⟨b, 2, none⟩ : Addr).add j) = some u := fun j u hu => by
  have hj : j < 32 := by
    rcases Nat.lt_or_ge j 32 with h1 | h1
    · exact h1
    · rw [List.getElem?_eq_none (by rw [byL_length]; exact h1)] at hu
      cases hu
  rw [byL_at _ _ _ hj] at hu
  injection hu with hu
  subst hu
  rw [Addr.add_mid, h.cell]
  unfold slC
  rw [va_at (slF s) (by omega)]
  unfold slF
  rw [if_neg (by omega), if_neg (by omega), show 2 + j - 2 = j by omega]
set_option maxRecDepth 100000 in
set_option maxHeartbeats 4000000 in
theorem encode_any (s : Sl) (h1 : s.1 < 18446744073709551616) (h2 : s.2.1 < 4294967296) (w : World) : Calls Try.prog 24 #[.agg (slC s)] w fun e w' => e = .returned (.string (strN (encF s) 44)) ∧ Below w.heap.size w w' := by
  obtain ⟨i0, hi, hz0, hz1, hz2⟩ := info_parts infoU8k
  have hmk := make_b44
  have r2 : Blk ((w.alloc (.cells (slC s) 50)).alloc (.cells (va 44 (iv .u8 fun _ => 0)) 5)) w.heap.size 50 (slC s) := (Blk.new _ _ _).alloc _
  have hb2 : Below w.heap.size w ((w.alloc (.cells (slC s) 50)).alloc (.cells (va 44 (iv .u8 fun _ => 0)) 5)) := below_new2 _ _ _
  have HO2 : Hid (((w.alloc (.cells (slC s) 50)).alloc (.cells (va 44 (iv .u8 fun _ => 0)) 5)).ownsRow (w.heap.size + 1) 5 1 (.slice (some ⟨w.heap.size + 1, 0, none⟩) 0 44) 0 (byL (fun _ => 0) 0)) := ⟨by simp [byL], .inr ⟨w.heap.size + 1, 44, _, rfl, Nat.le_refl _, Blk.new1 _ _ _ _, by omega, by unfold maxLen; omega, by rw [va_size], by simp [byL]⟩⟩
  have x0 : ((w.alloc (.cells (slC s) 50)).alloc (.cells (va 44 (iv .u8 fun _ => 0)) 5)).cell? ⟨w.heap.size, 0, none⟩ = some (.int .u64 (s.1 : Int)) := by
    rw [r2.cell]
    exact va_at (slF s) (by decide)
  have hs2 : w.heap.size + 1 ≤ ((w.alloc (.cells (slC s) 50)).alloc (.cells (va 44 (iv .u8 fun _ => 0)) 5)).heap.size := by simp
  have e1 : ((s.2.1 : Int)) % 18446744073709551616 = (s.2.1 : Int) := by omega
  have hk : w.heap.size < w.heap.size + 1 := by omega
  go_enter Try.func24, Try.ntmps24
  go_wp2_with fail
  generalize ((w.alloc (.cells (slC s) 50)).alloc (.cells (va 44 (iv .u8 fun _ => 0)) 5)) = w2 at *
  refine (laid_any (fun _ => 0) 0 8 s.1 8 rfl (by omega) (by omega) h1 w2 hs2 HO2.out).mono ?_
  rintro e w3 ⟨a3, c3, rfl, ho3, hb3⟩
  have HO3 : Hid (w3.ownsRow (w.heap.size + 1) 5 1 (.slice a3 8 c3) 8 (byL (layB (fun _ => 0) 0 s.1) 8)) := ho3
  have r3 : Blk w3 w.heap.size 50 (slC s) := r2.below hb3 hk
  have hb3' : Below w.heap.size w w3 := hb2.trans (hb3.mono (by omega))
  have hs3 : (w.heap.size + 1) ≤ w3.heap.size := Nat.le_trans hs2 hb3.size
  have x1 : w3.cell? ⟨w.heap.size, 1, none⟩ = some (.int .u32 (s.2.1 : Int)) := by
    rw [r3.cell]
    exact va_at (slF s) (by decide)
  clear r2 hb2 HO2 x0 ho3 hb3 hs2
  go_wp2_with fail
  refine (laid_any (layB (fun _ => 0) 0 s.1) 8 12 s.2.1 12 rfl (by omega) (by omega) (by omega) w3 hs3 HO3.out).mono ?_
  rintro e w4 ⟨a4, c4, rfl, ho4, hb4⟩
  have HO4 : Hid (w4.ownsRow (w.heap.size + 1) 5 1 (.slice a4 12 c4) 12 (byL (layB (layB (fun _ => 0) 0 s.1) 8 s.2.1) 12)) := ho4
  have r4 : Blk w4 w.heap.size 50 (slC s) := r3.below hb4 hk
  have hb4' : Below w.heap.size w w4 := hb3'.trans (hb4.mono (by omega))
  have hs4 : (w.heap.size + 1) ≤ w4.heap.size := Nat.le_trans hs3 hb4.size
  have HL : Hid (∀ k, (Value.slice a4 12 c4).ownBlock = some k → (w.heap.size + 1) ≤ k) := fun k hk => (ho4.lt k hk).1
  have HC : Hid (∀ j u, (byL (dF s.2.2) 32)[j]? = some u → w4.cell? ((⟨w.heap.size, 2, none⟩ : Addr).add j) = some u) := sum_mid s r4
  clear r3 HO3 x1 ho4 hb4 hs3 hb3'
  go_wp2_with (first
    | (at_builtin; refine wpList_append_own_at rfl _ _ 107 rfl (w.heap.size + 1) 5 i0 (.int .u8 0) 1 1 Try.underlying107 hi hz0 hz1 hz2 rfl (by decide) _ _ _ rfl HO4.out ⟨w.heap.size, 2, none⟩ 32 32 (byL (dF s.2.2) 32) rfl (by rw [byL_length]) HC.out (mem_iv_one _ _ _) (by unfold maxLen; omega) (by omega) hs4 ?_)
    | go_in)
  intro v5 w5 ho5 hg5 _
  have hb5 : Below w.heap.size w w5 := hb4'.grown hg5 (by omega) (fun k hk => by have := HL.out k hk; omega)
  obtain ⟨a5, c5, hv5⟩ := kown_slice ho5
  subst hv5
  rw [← encF_cells s] at ho5
  obtain ⟨g5, cap5, hv5, _, _⟩ := kown_form ho5 (by omega)
  rw [hv5] at ho5 ⊢
  have hc := run_own_text (P := Try.prog) w5 107 5 9 Try.underlying107 Try.underlying5 Try.underlying9 ho5
  clear hv5 ho5
  go_wp2_with fail
  go_ret
  exact ⟨rfl, hb5⟩
end Go.Proofs.Ytlmbokfgogkbmaa
