/- The statements' own step on directories (one), by what the calls answer. -/
import Derived.Test.YtojnlmfahgeidaaGreatDoorHMath
import Derived.Test.YtojnlmfahgeidaaGreatDoorHDigText
import Derived.Test.YtojnlmfahgeidaaGreatDoorHDkKit
import Derived.Deep.MidRow
import Derived.Deep.Cut
import Derived.Handy

namespace Go.Proofs.YtojnlmfahgeidaaGreatDoor
theorem sgLHDiOne : (∀ (α : Type) (a : α) (l r : List α), (a :: l) ++ r = a :: (l ++ r)) ∧ (∀ (α : Type) (l : List α), [] ++ l = l) ∧ (∀ (α : Type) (l : List α), l ++ [] = l) ∧ (∀ (α β : Type) (f : α → Option β) (a : α) (l : List α), (a :: l).filterMap f = match f a with | none => l.filterMap f | some b => b :: l.filterMap f) ∧ (∀ (α β : Type) (f : α → Option β), [].filterMap f = []) ∧ (∀ (α : Type) (l : List α) (i : Nat), l.toArray[i]? = l[i]?) ∧ (∀ (α : Type) (a : α) (l : List α), (a :: l)[0]? = some a) ∧ (∀ (α : Type) (a : α) (l : List α) (i : Nat), (a :: l)[i + 1]? = l[i]?) :=
  ⟨fun _ _ _ _ => List.cons_append, fun _ _ => List.nil_append _, fun _ _ => List.append_nil _, fun _ _ _ _ _ => List.filterMap_cons, fun _ _ _ => List.filterMap_nil, fun _ _ _ => List.getElem?_toArray, fun _ _ _ => List.getElem?_cons_zero, fun _ _ _ _ => List.getElem?_cons_succ⟩
theorem sgPHDiOne : (∀ (α : Type) (l : List α) (i : Nat) (a : α), l.toArray.setIfInBounds i a = (l.set i a).toArray) ∧ (∀ (α : Type) (a b : α) (l : List α), (a :: l).set 0 b = b :: l) ∧ (∀ (α : Type) (a b : α) (l : List α) (i : Nat), (a :: l).set (i + 1) b = a :: l.set i b) :=
  ⟨fun _ _ _ _ => List.setIfInBounds_toArray _ _ _, fun _ _ _ _ => List.set_cons_zero, fun _ _ _ _ _ => List.set_cons_succ⟩
end Go.Proofs.YtojnlmfahgeidaaGreatDoor
namespace Go.Proofs.YtojnlmfahgeidaaGreatDoor
open Go Go.RowKit
set_option linter.unusedSimpArgs false
set_option linter.unusedVariables false
/-- what was said of the directories 1 and 2: their lists and stamps -/
def sdC (A : Nat → Option Addr) (K C T : Nat → Nat) : Array Value := #[.slice none 0 0, .slice (A 1) (K 1) (C 1), .slice (A 2) (K 2) (C 2), .int .u64 0, .int .u64 ((T 1 : Nat) : Int), .int .u64 ((T 2 : Nat) : Int)]
def sd0 : Array Value := #[.slice none 0 0, .slice none 0 0, .slice none 0 0, .int .u64 0, .int .u64 0, .int .u64 0]
theorem size_sd : (Tryz.prog.info? 31).map (·.size) = some 6 := by kernel_rfl
theorem sd_all (A : Nat → Option Addr) (K C T : Nat → Nat) : (sdC A K C T).all (·.oneCell') = true := by simp [sdC, Value.oneCell']
theorem sd_zero {t : TypeId} {v : Value} (h : (Tryz.prog.info? t).bind (·.zero) = some v) (w : World) : (zeroValue t).run Tryz.prog w = .ok v w := by
  cases hq : Tryz.prog.info? t with
  | none => simp [hq] at h
  | some i =>
    have hi : i.zero = some v := by simpa [hq] using h
    simp [zeroValue, typeInfo, hq, hi]
theorem sd0_zero (w : World) : (zeroValue 31).run Tryz.prog w = .ok (.agg sd0) w := sd_zero (by kernel_rfl) w
theorem sd_cs {w : World} {b t d : Nat} {A : Nat → Option Addr} {K C T : Nat → Nat} (H : Blk w b t (sdC A K C T)) (hd : d = 1 ∨ d = 2) : w.cell? ⟨b, d, none⟩ = some (.slice (A d) (K d) (C d)) ∧ w.cell? ⟨b, 3 + d, none⟩ = some (.int .u64 ((T d : Nat) : Int)) := by
  rcases hd with rfl | rfl
  · exact ⟨(H.cell 1).trans rfl, (H.cell 4).trans rfl⟩
  · exact ⟨(H.cell 2).trans rfl, (H.cell 5).trans rfl⟩
/-- something that is done to a directory -/
def aeC (kd dr i : Int) (s : ByteArray) (st : Int) : Array Value := #[.int .i64 kd, .int .i64 dr, .int .i64 i, .string s, .int .u64 st]
theorem ae_cs {w : World} {b t : Nat} {kd dr i st : Int} {s : ByteArray} (H : Blk w b t (aeC kd dr i s st)) : w.cell? ⟨b, 0, none⟩ = some (.int .i64 kd) ∧ w.cell? ⟨b, 1, none⟩ = some (.int .i64 dr) ∧ w.cell? ⟨b, 2, none⟩ = some (.int .i64 i) ∧ w.cell? ⟨b, 3, none⟩ = some (.string s) ∧ w.cell? ⟨b, 4, none⟩ = some (.int .u64 st) := ⟨(H.cell 0).trans rfl, (H.cell 1).trans rfl, (H.cell 2).trans rfl, (H.cell 3).trans rfl, (H.cell 4).trans rfl⟩
/-- a function at one place another one -/
def fU {α : Type} (f : Nat → α) (d : Nat) (v : α) : Nat → α := fun q => if q = d then v else f q
theorem sd_up (A : Nat → Option Addr) (K C T : Nat → Nat) (d : Nat) (hd : d = 1 ∨ d = 2) (a : Option Addr) (k c t : Nat) : ((sdC A K C T).setIfInBounds d (.slice a k c)).setIfInBounds (3 + d) (.int .u64 ((t : Nat) : Int)) = sdC (fU A d a) (fU K d k) (fU C d c) (fU T d t) := by
  rcases hd with rfl | rfl <;> rfl
set_option maxRecDepth 100000 in
set_option maxHeartbeats 4000000 in
theorem link17_any (i : Int) (s : ByteArray) (w : World) : Calls Tryz.prog 22 #[.agg #[.int .i64 i, .string s]] w fun e w' => e = .returned (.agg #[.int .i64 i, .string s]) ∧ Below w.heap.size w w' := by
  have b1 : Blk ((w.alloc (.cells #[.int .i64 i, .string s] 36)).alloc (.cells #[.int .i64 0, .string ⟨#[]⟩] 58)) w.heap.size 36 #[.int .i64 i, .string s] := Blk.alloc (Blk.new _ _ _) _
  have b2 : Blk ((w.alloc (.cells #[.int .i64 i, .string s] 36)).alloc (.cells #[.int .i64 0, .string ⟨#[]⟩] 58)) (w.heap.size + 1) 58 #[.int .i64 0, .string ⟨#[]⟩] := Blk.new1 _ _ _ _
  have hb : Below w.heap.size w ((w.alloc (.cells #[.int .i64 i, .string s] 36)).alloc (.cells #[.int .i64 0, .string ⟨#[]⟩] 58)) := below_new2 _ _ _
  have c0 := (b1.cell 0).trans rfl
  have c1 := (b1.cell 1).trans rfl
  have r2 : Blk ((w.alloc (.cells #[.int .i64 i, .string s] 36)).alloc (.cells #[.int .i64 i, .string s] 58)) (w.heap.size + 1) 58 #[.int .i64 i, .string s] := Blk.new1 _ _ _ _
  have HB : Hid (Below w.heap.size w ((w.alloc (.cells #[.int .i64 i, .string s] 36)).alloc (.cells #[.int .i64 i, .string s] 58))) := below_new2 _ _ _
  clear hb b1 b2
  go_enter Tryz.func22, Tryz.ntmps22
  go_wp2_with fail
  try simp only [Exit.inBlock, Exit.then]
  refine bodyPost_ret (results_cell_row Tryz.results22 _ _ (w.heap.size + 1) 58 (#[.int .i64 i, .string s]) (0, 0) _ rfl r2 Tryz.underlying58 rfl (by kernel_rfl)) rfl ?_
  exact ⟨by rfl, HB.out⟩
theorem one_turns {S : Nat → Prop} {a b : World} {g : Nat} (h : Turns S a b) (hg : a.heap.size ≤ g) (c : Array Value) : Turns S a (b.setRow g c) := ⟨h.os, h.tape, h.output, by have := h.size; simpa using this, fun k hk hn => (setRow_other _ _ _ _ (by omega)).trans (h.block k hk hn)⟩
theorem one_turns2 {S : Nat → Prop} {a b : World} (h : Turns S a b) (i j : Nat) (u v : Value) : Turns S a ((b.setCell ⟨a.heap.size, i, none⟩ u).setCell ⟨a.heap.size, j, none⟩ v) := by
  have t : Below a.heap.size b ((b.setCell ⟨a.heap.size, i, none⟩ u).setCell ⟨a.heap.size, j, none⟩ v) := ((Below.refl _ b).setCell (p := ⟨a.heap.size, i, none⟩) (Nat.le_refl _) _).setCell (p := ⟨a.heap.size, j, none⟩) (Nat.le_refl _) _
  exact ⟨t.os.trans h.os, t.tape.trans h.tape, t.output.trans h.output, Nat.le_trans h.size t.size, fun k hk hn => (t.block k hk).trans (h.block k hk hn)⟩
set_option maxRecDepth 100000 in
set_option maxHeartbeats 4000000 in
theorem oneAdd_ref {xp : Value} {A : Nat → Option Addr} {K C T : Nat → Nat} (dr i st : Int) (s : ByteArray) (w : World) (r : Int) (hr : r ≠ 0)
    (HR0 : ∀ V : World, Calls Tryz.prog 19 #[.int .i64 dr] V fun e w' => e = .returned (.int .i64 r) ∧ w' = V)
    (HP0 : ∀ V, Below w.heap.size w V → Calls Tryz.prog 50 #[xp, .int .i64 dr, .agg #[.int .i64 i, .string s], .int .u64 st] V fun e w' => e = .returned (.int .i64 r) ∧ Below V.heap.size V w') :
    Calls Tryz.prog 12 #[xp, .agg (sdC A K C T), .agg (aeC 0 dr i s st)] w fun e w' => e = .returned (.tuple #[.agg (sdC A K C T), .bool true]) ∧ Below w.heap.size w w' := by
  have HR : Hid (∀ V : World, Calls Tryz.prog 19 #[.int .i64 dr] V fun e w' => e = .returned (.int .i64 r) ∧ w' = V) := HR0
  have HP : Hid (∀ V, Below w.heap.size w V → Calls Tryz.prog 50 #[xp, .int .i64 dr, .agg #[.int .i64 i, .string s], .int .u64 st] V fun e w' => e = .returned (.int .i64 r) ∧ Below V.heap.size V w') := HP0
  clear HR0 HP0
  have hzs := sd0_zero
  have p1 : Blk (((w.alloc (.cells (sdC A K C T) 31)).alloc (.cells (aeC 0 dr i s st) 38)).alloc (.cells sd0 31)) (w.heap.size) 31 (sdC A K C T) := Blk.alloc (Blk.alloc (Blk.new _ _ _) _) _
  have p2 : Blk (((w.alloc (.cells (sdC A K C T) 31)).alloc (.cells (aeC 0 dr i s st) 38)).alloc (.cells sd0 31)) (w.heap.size + 1) 38 (aeC 0 dr i s st) := Blk.alloc (Blk.new1 _ _ _ _) _
  have p3 : Blk (((w.alloc (.cells (sdC A K C T) 31)).alloc (.cells (aeC 0 dr i s st) 38)).alloc (.cells sd0 31)) (w.heap.size + 1 + 1) 31 sd0 := Blk.new2 _ _ _ _ _
  have hb3 : Below w.heap.size w (((w.alloc (.cells (sdC A K C T) 31)).alloc (.cells (aeC 0 dr i s st) 38)).alloc (.cells sd0 31)) := below_new3 _ _ _ _
  obtain ⟨c0, c1, c2, c3, c4⟩ := ae_cs p2
  go_enter Tryz.func12, Tryz.ntmps12
  go_wp2_with fail
  generalize (((w.alloc (.cells (sdC A K C T) 31)).alloc (.cells (aeC 0 dr i s st) 38)).alloc (.cells sd0 31)) = w3 at *
  refine (HR.out _).mono ?_
  rintro e w4 ⟨rfl, hw⟩
  subst w4
  have q1 := p1.alloc (.cells #[] 58)
  have q2 := p2.alloc (.cells #[] 58)
  have q3 := p3.alloc (.cells #[] 58)
  have hb4 : Below w.heap.size w (w3.alloc (.cells #[] 58)) := hb3.alloc hb3.size _
  clear p1 p2 p3 hb3 c0 c1 c2 c3 c4 HR
  obtain ⟨c0, c1, c2, c3, c4⟩ := ae_cs q2
  have H1 := HP.out _ hb4
  clear HP
  go_wp2_with fail
  generalize (w3.alloc (.cells #[] 58)) = w4 at *
  refine H1.mono ?_
  rintro e WW ⟨rfl, hb5⟩
  have HBW : Hid (Below w.heap.size w WW) := hb4.trans (hb5.mono hb4.size)
  replace q1 := q1.below hb5 q1.lt
  replace q3 := q3.below hb5 q3.lt
  clear hb4 hb5 c0 c1 c2 c3 c4 q2 H1
  have HBE : Hid (Below w.heap.size w (WW.setRow (w.heap.size + 1 + 1) (sdC A K C T))) := below_setRow HBW.out (by omega) _
  have r3 := q3.set (sdC A K C T)
  clear HBW
  go_wp2_with (first | (refine wpList_load_row (by rfl) 31 _ (by rfl) (w.heap.size) (by rfl) 31 (sdC A K C T) (0, 0) _ (by exact q1) Tryz.underlying31 (by rfl) (size_sd.trans (by rfl)) ?_; simp only [Act.put, sgPHDiOne]) | (refine wpList_store_row (by rfl) 31 _ _ (by rfl) (w.heap.size + 1 + 1) (sdC A K C T) (by rfl) (by rfl) 31 (sd0) (by exact q3) (size_sd.trans (by rfl)) (by rfl) (sd_all _ _ _ _) ?_; simp only [Act.put, sgPHDiOne]) | fail)
  try simp only [Exit.inBlock, Exit.then]
  refine bodyPost_ret (results_row2 Tryz.results12 _ _ (w.heap.size + 1 + 1) 31 (sdC A K C T) (0, 0) _ rfl r3 Tryz.underlying31 rfl (size_sd.trans (by rfl))) rfl ?_
  exact ⟨rfl, HBE.out⟩
set_option maxRecDepth 100000 in
set_option maxHeartbeats 4000000 in
theorem oneRemove_ref {xp : Value} {A : Nat → Option Addr} {K C T : Nat → Nat} (dr i st : Int) (s : ByteArray) (w : World) (r : Int) (hr : r ≠ 0)
    (HR0 : ∀ V : World, Calls Tryz.prog 19 #[.int .i64 dr] V fun e w' => e = .returned (.int .i64 r) ∧ w' = V)
    (HP0 : ∀ V, Below w.heap.size w V → Calls Tryz.prog 52 #[xp, .int .i64 dr, .string s, .int .u64 st] V fun e w' => e = .returned (.tuple #[.int .i64 0, .int .i64 r]) ∧ Below V.heap.size V w') :
    Calls Tryz.prog 12 #[xp, .agg (sdC A K C T), .agg (aeC 1 dr i s st)] w fun e w' => e = .returned (.tuple #[.agg (sdC A K C T), .bool true]) ∧ Below w.heap.size w w' := by
  have HR : Hid (∀ V : World, Calls Tryz.prog 19 #[.int .i64 dr] V fun e w' => e = .returned (.int .i64 r) ∧ w' = V) := HR0
  have HP : Hid (∀ V, Below w.heap.size w V → Calls Tryz.prog 52 #[xp, .int .i64 dr, .string s, .int .u64 st] V fun e w' => e = .returned (.tuple #[.int .i64 0, .int .i64 r]) ∧ Below V.heap.size V w') := HP0
  clear HR0 HP0
  have hzs := sd0_zero
  have p1 : Blk (((w.alloc (.cells (sdC A K C T) 31)).alloc (.cells (aeC 1 dr i s st) 38)).alloc (.cells sd0 31)) (w.heap.size) 31 (sdC A K C T) := Blk.alloc (Blk.alloc (Blk.new _ _ _) _) _
  have p2 : Blk (((w.alloc (.cells (sdC A K C T) 31)).alloc (.cells (aeC 1 dr i s st) 38)).alloc (.cells sd0 31)) (w.heap.size + 1) 38 (aeC 1 dr i s st) := Blk.alloc (Blk.new1 _ _ _ _) _
  have p3 : Blk (((w.alloc (.cells (sdC A K C T) 31)).alloc (.cells (aeC 1 dr i s st) 38)).alloc (.cells sd0 31)) (w.heap.size + 1 + 1) 31 sd0 := Blk.new2 _ _ _ _ _
  have hb3 : Below w.heap.size w (((w.alloc (.cells (sdC A K C T) 31)).alloc (.cells (aeC 1 dr i s st) 38)).alloc (.cells sd0 31)) := below_new3 _ _ _ _
  obtain ⟨c0, c1, c2, c3, c4⟩ := ae_cs p2
  go_enter Tryz.func12, Tryz.ntmps12
  go_wp2_with fail
  generalize (((w.alloc (.cells (sdC A K C T) 31)).alloc (.cells (aeC 1 dr i s st) 38)).alloc (.cells sd0 31)) = w3 at *
  refine (HR.out _).mono ?_
  rintro e w4 ⟨rfl, hw⟩
  subst w4
  have q1 := p1.alloc (.cells #[] 58)
  have q2 := p2.alloc (.cells #[] 58)
  have q3 := p3.alloc (.cells #[] 58)
  have hb4 : Below w.heap.size w (w3.alloc (.cells #[] 58)) := hb3.alloc hb3.size _
  clear p1 p2 p3 hb3 c0 c1 c2 c3 c4 HR
  obtain ⟨c0, c1, c2, c3, c4⟩ := ae_cs q2
  have H1 := HP.out _ hb4
  clear HP
  go_wp2_with fail
  generalize (w3.alloc (.cells #[] 58)) = w4 at *
  refine H1.mono ?_
  rintro e WW ⟨rfl, hb5⟩
  have HBW : Hid (Below w.heap.size w WW) := hb4.trans (hb5.mono hb4.size)
  replace q1 := q1.below hb5 q1.lt
  replace q3 := q3.below hb5 q3.lt
  clear hb4 hb5 c0 c1 c2 c3 c4 q2 H1
  have HBE : Hid (Below w.heap.size w (WW.setRow (w.heap.size + 1 + 1) (sdC A K C T))) := below_setRow HBW.out (by omega) _
  have r3 := q3.set (sdC A K C T)
  clear HBW
  go_wp2_with (first | (refine wpList_load_row (by rfl) 31 _ (by rfl) (w.heap.size) (by rfl) 31 (sdC A K C T) (0, 0) _ (by exact q1) Tryz.underlying31 (by rfl) (size_sd.trans (by rfl)) ?_; simp only [Act.put, sgPHDiOne]) | (refine wpList_store_row (by rfl) 31 _ _ (by rfl) (w.heap.size + 1 + 1) (sdC A K C T) (by rfl) (by rfl) 31 (sd0) (by exact q3) (size_sd.trans (by rfl)) (by rfl) (sd_all _ _ _ _) ?_; simp only [Act.put, sgPHDiOne]) | fail)
  try simp only [Exit.inBlock, Exit.then]
  refine bodyPost_ret (results_row2 Tryz.results12 _ _ (w.heap.size + 1 + 1) 31 (sdC A K C T) (0, 0) _ rfl r3 Tryz.underlying31 rfl (size_sd.trans (by rfl))) rfl ?_
  exact ⟨rfl, HBE.out⟩
set_option maxRecDepth 100000 in
set_option maxHeartbeats 4000000 in
theorem oneSwap_ref {xp : Value} {A : Nat → Option Addr} {K C T : Nat → Nat} (dr i st : Int) (s : ByteArray) (kd : Int) (hk0 : kd ≠ 0) (hk1 : kd ≠ 1) (w : World) (r : Int) (hr : r ≠ 0)
    (HR0 : ∀ V : World, Calls Tryz.prog 19 #[.int .i64 dr] V fun e w' => e = .returned (.int .i64 r) ∧ w' = V)
    (HP0 : ∀ V, Below w.heap.size w V → Calls Tryz.prog 54 #[xp, .int .i64 dr, .agg #[.int .i64 i, .string s], .int .u64 st] V fun e w' => e = .returned (.tuple #[.int .i64 0, .int .i64 r]) ∧ Below V.heap.size V w') :
    Calls Tryz.prog 12 #[xp, .agg (sdC A K C T), .agg (aeC kd dr i s st)] w fun e w' => e = .returned (.tuple #[.agg (sdC A K C T), .bool true]) ∧ Below w.heap.size w w' := by
  have HR : Hid (∀ V : World, Calls Tryz.prog 19 #[.int .i64 dr] V fun e w' => e = .returned (.int .i64 r) ∧ w' = V) := HR0
  have HP : Hid (∀ V, Below w.heap.size w V → Calls Tryz.prog 54 #[xp, .int .i64 dr, .agg #[.int .i64 i, .string s], .int .u64 st] V fun e w' => e = .returned (.tuple #[.int .i64 0, .int .i64 r]) ∧ Below V.heap.size V w') := HP0
  clear HR0 HP0
  have hzs := sd0_zero
  have p1 : Blk (((w.alloc (.cells (sdC A K C T) 31)).alloc (.cells (aeC kd dr i s st) 38)).alloc (.cells sd0 31)) (w.heap.size) 31 (sdC A K C T) := Blk.alloc (Blk.alloc (Blk.new _ _ _) _) _
  have p2 : Blk (((w.alloc (.cells (sdC A K C T) 31)).alloc (.cells (aeC kd dr i s st) 38)).alloc (.cells sd0 31)) (w.heap.size + 1) 38 (aeC kd dr i s st) := Blk.alloc (Blk.new1 _ _ _ _) _
  have p3 : Blk (((w.alloc (.cells (sdC A K C T) 31)).alloc (.cells (aeC kd dr i s st) 38)).alloc (.cells sd0 31)) (w.heap.size + 1 + 1) 31 sd0 := Blk.new2 _ _ _ _ _
  have hb3 : Below w.heap.size w (((w.alloc (.cells (sdC A K C T) 31)).alloc (.cells (aeC kd dr i s st) 38)).alloc (.cells sd0 31)) := below_new3 _ _ _ _
  obtain ⟨c0, c1, c2, c3, c4⟩ := ae_cs p2
  go_enter Tryz.func12, Tryz.ntmps12
  go_wp2_with fail
  generalize (((w.alloc (.cells (sdC A K C T) 31)).alloc (.cells (aeC kd dr i s st) 38)).alloc (.cells sd0 31)) = w3 at *
  refine (HR.out _).mono ?_
  rintro e w4 ⟨rfl, hw⟩
  subst w4
  have q1 := p1.alloc (.cells #[] 58)
  have q2 := p2.alloc (.cells #[] 58)
  have q3 := p3.alloc (.cells #[] 58)
  have hb4 : Below w.heap.size w (w3.alloc (.cells #[] 58)) := hb3.alloc hb3.size _
  clear p1 p2 p3 hb3 c0 c1 c2 c3 c4 HR
  obtain ⟨c0, c1, c2, c3, c4⟩ := ae_cs q2
  have H1 := HP.out _ hb4
  clear HP
  go_wp2_with fail
  generalize (w3.alloc (.cells #[] 58)) = w4 at *
  refine H1.mono ?_
  rintro e WW ⟨rfl, hb5⟩
  have HBW : Hid (Below w.heap.size w WW) := hb4.trans (hb5.mono hb4.size)
  replace q1 := q1.below hb5 q1.lt
  replace q3 := q3.below hb5 q3.lt
  clear hb4 hb5 c0 c1 c2 c3 c4 q2 H1
  have HBE : Hid (Below w.heap.size w (WW.setRow (w.heap.size + 1 + 1) (sdC A K C T))) := below_setRow HBW.out (by omega) _
  have r3 := q3.set (sdC A K C T)
  clear HBW
  go_wp2_with (first | (refine wpList_load_row (by rfl) 31 _ (by rfl) (w.heap.size) (by rfl) 31 (sdC A K C T) (0, 0) _ (by exact q1) Tryz.underlying31 (by rfl) (size_sd.trans (by rfl)) ?_; simp only [Act.put, sgPHDiOne]) | (refine wpList_store_row (by rfl) 31 _ _ (by rfl) (w.heap.size + 1 + 1) (sdC A K C T) (by rfl) (by rfl) 31 (sd0) (by exact q3) (size_sd.trans (by rfl)) (by rfl) (sd_all _ _ _ _) ?_; simp only [Act.put, sgPHDiOne]) | fail)
  try simp only [Exit.inBlock, Exit.then]
  refine bodyPost_ret (results_row2 Tryz.results12 _ _ (w.heap.size + 1 + 1) 31 (sdC A K C T) (0, 0) _ rfl r3 Tryz.underlying31 rfl (size_sd.trans (by rfl))) rfl ?_
  exact ⟨rfl, HBE.out⟩
set_option maxRecDepth 100000 in
set_option maxHeartbeats 8000000 in
theorem oneAdd_no {xp : Value} {A : Nat → Option Addr} {K C T : Nat → Nat} (d : Nat) (hd : d = 1 ∨ d = 2) (i : Int) (st : Nat) (s : ByteArray) (w : World) (r : Int) (hr : r ≠ 0) 
    (HR0 : ∀ V : World, Calls Tryz.prog 19 #[.int .i64 (d : Int)] V fun e w' => e = .returned (.int .i64 0) ∧ w' = V)
    (HP0 : ∀ V, Below w.heap.size w V → Calls Tryz.prog 50 #[xp, .int .i64 (d : Int), .agg #[.int .i64 i, .string s], .int .u64 ((st : Nat) : Int)] V fun e w' => e = .returned (.int .i64 r) ∧ Below V.heap.size V w')
    (HD0 : ∀ V, Below w.heap.size w V → Calls Tryz.prog 51 #[.slice (A d) (K d) (C d), .agg #[.int .i64 i, .string s]] V fun e w' => e = .returned (.tuple #[.slice (A d) (K d) (C d), .int .i64 r]) ∧ Below V.heap.size V w') :
    Calls Tryz.prog 12 #[xp, .agg (sdC A K C T), .agg (aeC 0 (d : Int) i s ((st : Nat) : Int))] w fun e w' => e = .returned (.tuple #[.agg (sdC A K C T), .bool true]) ∧ Below w.heap.size w w' := by
  have HR : Hid (∀ V : World, Calls Tryz.prog 19 #[.int .i64 (d : Int)] V fun e w' => e = .returned (.int .i64 0) ∧ w' = V) := HR0
  have HP : Hid (∀ V, Below w.heap.size w V → Calls Tryz.prog 50 #[xp, .int .i64 (d : Int), .agg #[.int .i64 i, .string s], .int .u64 ((st : Nat) : Int)] V fun e w' => e = .returned (.int .i64 r) ∧ Below V.heap.size V w') := HP0
  have HD : Hid (∀ V, Below w.heap.size w V → Calls Tryz.prog 51 #[.slice (A d) (K d) (C d), .agg #[.int .i64 i, .string s]] V fun e w' => e = .returned (.tuple #[.slice (A d) (K d) (C d), .int .i64 r]) ∧ Below V.heap.size V w') := HD0
  have HL : Hid (∀ w : World, Calls Tryz.prog 22 #[.agg #[.int .i64 i, .string s]] w fun e w' => e = .returned (.agg #[.int .i64 i, .string s]) ∧ Below w.heap.size w w') := link17_any i s
  have g0 : (0 : Int) ≤ (d : Int) := by omega
  have g3 : (d : Int) < 3 := by omega
  clear HR0 HP0 HD0
  have hzs := sd0_zero
  have p1 : Blk (((w.alloc (.cells (sdC A K C T) 31)).alloc (.cells (aeC 0 (d : Int) i s ((st : Nat) : Int)) 38)).alloc (.cells sd0 31)) (w.heap.size) 31 (sdC A K C T) := Blk.alloc (Blk.alloc (Blk.new _ _ _) _) _
  have p2 : Blk (((w.alloc (.cells (sdC A K C T) 31)).alloc (.cells (aeC 0 (d : Int) i s ((st : Nat) : Int)) 38)).alloc (.cells sd0 31)) (w.heap.size + 1) 38 (aeC 0 (d : Int) i s ((st : Nat) : Int)) := Blk.alloc (Blk.new1 _ _ _ _) _
  have p3 : Blk (((w.alloc (.cells (sdC A K C T) 31)).alloc (.cells (aeC 0 (d : Int) i s ((st : Nat) : Int)) 38)).alloc (.cells sd0 31)) (w.heap.size + 1 + 1) 31 sd0 := Blk.new2 _ _ _ _ _
  have hb3 : Below w.heap.size w (((w.alloc (.cells (sdC A K C T) 31)).alloc (.cells (aeC 0 (d : Int) i s ((st : Nat) : Int)) 38)).alloc (.cells sd0 31)) := below_new3 _ _ _ _
  obtain ⟨c0, c1, c2, c3, c4⟩ := ae_cs p2
  go_enter Tryz.func12, Tryz.ntmps12
  go_wp2_with fail
  generalize (((w.alloc (.cells (sdC A K C T) 31)).alloc (.cells (aeC 0 (d : Int) i s ((st : Nat) : Int)) 38)).alloc (.cells sd0 31)) = w3 at *
  refine (HR.out _).mono ?_
  rintro e w4 ⟨rfl, hw⟩
  subst w4
  have q1 := p1.alloc (.cells #[] 58)
  have q2 := p2.alloc (.cells #[] 58)
  have q3 := p3.alloc (.cells #[] 58)
  have hb4 : Below w.heap.size w (w3.alloc (.cells #[] 58)) := hb3.alloc hb3.size _
  clear p1 p2 p3 hb3 c0 c1 c2 c3 c4 HR
  obtain ⟨c0, c1, c2, c3, c4⟩ := ae_cs q2
  have H1 := HP.out _ hb4
  clear HP
  go_wp2_with fail
  generalize (w3.alloc (.cells #[] 58)) = w4 at *
  refine H1.mono ?_
  rintro e w5 ⟨rfl, hb5⟩
  have HTD : Hid (Below w.heap.size w w5.drew) := (hb4.trans (hb5.mono hb4.size)).drew
  have hS5 : Blk w5.drew (w.heap.size) 31 (sdC A K C T) ∧ Blk w5.drew (w.heap.size + 1) 38 (aeC 0 (d : Int) i s (st : Int)) ∧ Blk w5.drew (w.heap.size + 1 + 1) 31 sd0 := ⟨(q1.below hb5 q1.lt).drew, (q2.below hb5 q2.lt).drew, (q3.below hb5 q3.lt).drew⟩
  clear hb4 hb5 c0 c1 c2 c3 c4 q1 q2 q3 H1
  go_wp2_with fail
  refine wp_region_partsS (fun U => Blk U (w.heap.size) 31 (sdC A K C T) ∧ Blk U (w.heap.size + 1) 38 (aeC 0 (d : Int) i s (st : Int)) ∧ Blk U (w.heap.size + 1 + 1) 31 sd0) [([], 0, true), ([], 1, true), ([], 2, true), ([3], 4, true), ([], 5, false), ([], 6, false), ([], 7, false), ([], 8, false)] [9, 10, 11, 12, 13] [] (by kernel_rfl) (by kernel_rfl) hS5 (partsI_yield ?_)
  obtain ⟨c0, c1, c2, c3, c4⟩ := ae_cs hS5.2.1
  generalize w5.drew = w5 at *
  simp only [sgLHDiOne]
  go_wp2_with fail
  refine ⟨rfl, _, .pointer (some ⟨w.heap.size + 1, 1, none⟩), rfl, Or.inl ⟨by rfl, fun W hW => by go_simp⟩, partsI_yield ?_⟩
  simp only [Act.put, sgPHDiOne]
  simp only [sgLHDiOne]
  go_wp2_with fail
  refine ⟨rfl, _, .int .i64 (d : Int), rfl, Or.inl ⟨by rfl, fun W hW => by obtain ⟨d0, d1, d2, d3, d4⟩ := ae_cs hW.2.1; go_simp⟩, partsI_yield ?_⟩
  simp only [Act.put, sgPHDiOne]
  simp only [sgLHDiOne]
  go_wp2_with fail
  refine ⟨rfl, _, .pointer (some ⟨w.heap.size, 0, none⟩), rfl, Or.inl ⟨by rfl, fun W hW => by go_simp⟩, partsI_yield ?_⟩
  simp only [Act.put, sgPHDiOne]
  simp only [sgLHDiOne]
  go_wp2_with fail
  refine ⟨rfl, _, .slice (A d) (K d) (C d), rfl, Or.inl ⟨by rfl, fun W hW => by obtain ⟨e1, e2⟩ := sd_cs hW.1 hd; go_simp⟩, partsI_force ?_⟩
  simp only [Act.put, sgPHDiOne]
  simp only [sgLHDiOne]
  go_wp2_with fail
  refine ⟨rfl, hS5, partsI_force ?_⟩
  simp only [sgLHDiOne]
  go_wp2_with fail
  refine ⟨rfl, hS5, partsI_force ?_⟩
  simp only [sgLHDiOne]
  go_wp2_with fail
  refine (HL.out _).mono ?_
  rintro e w6 ⟨rfl, hb6⟩
  have hS6 : Blk w6 (w.heap.size) 31 (sdC A K C T) ∧ Blk w6 (w.heap.size + 1) 38 (aeC 0 (d : Int) i s (st : Int)) ∧ Blk w6 (w.heap.size + 1 + 1) 31 sd0 := ⟨hS5.1.below hb6 hS5.1.lt, hS5.2.1.below hb6 hS5.2.1.lt, hS5.2.2.below hb6 hS5.2.2.lt⟩
  have HT6 : Hid (Below w.heap.size w w6) := HTD.out.trans (hb6.mono HTD.out.size)
  have H7 := HD.out _ HT6.out
  clear HL HD HTD hb6
  go_wp2_with fail
  refine ⟨rfl, hS6, partsI_force ?_⟩
  simp only [sgLHDiOne]
  go_wp2_with fail
  refine H7.mono ?_
  rintro e w7 ⟨rfl, hb7⟩
  have hS7 : Blk w7 (w.heap.size) 31 (sdC A K C T) ∧ Blk w7 (w.heap.size + 1) 38 (aeC 0 (d : Int) i s (st : Int)) ∧ Blk w7 (w.heap.size + 1 + 1) 31 sd0 := ⟨hS6.1.below hb7 hS6.1.lt, hS6.2.1.below hb7 hS6.2.1.lt, hS6.2.2.below hb7 hS6.2.2.lt⟩
  have HBW : Hid (Below w.heap.size w w7) := HT6.out.trans (hb7.mono HT6.out.size)
  clear HT6 hb7 H7
  go_wp2_with fail
  refine ⟨rfl, hS7, partsI_last ?_⟩
  simp only [sgLHDiOne]
  go_wp2_with fail
  refine ⟨rfl, ?_⟩
  have q1 := hS7.1
  have q3 := hS7.2.2
  clear hS5 hS6 hS7 c0 c1 c2 c3 c4
  have HBE : Hid (Below w.heap.size w (w7.setRow (w.heap.size + 1 + 1) (sdC A K C T))) := below_setRow HBW.out (by omega) _
  have r3 := q3.set (sdC A K C T)
  clear HBW
  go_wp2_with (first | (refine wpList_load_row (by rfl) 31 _ (by rfl) (w.heap.size) (by rfl) 31 (sdC A K C T) (0, 0) _ (by exact q1) Tryz.underlying31 (by rfl) (size_sd.trans (by rfl)) ?_; simp only [Act.put, sgPHDiOne]) | (refine wpList_store_row (by rfl) 31 _ _ (by rfl) (w.heap.size + 1 + 1) (sdC A K C T) (by rfl) (by rfl) 31 (sd0) (by exact q3) (size_sd.trans (by rfl)) (by rfl) (sd_all _ _ _ _) ?_; simp only [Act.put, sgPHDiOne]) | fail)
  try simp only [Exit.inBlock, Exit.then]
  refine bodyPost_ret (results_row2 Tryz.results12 _ _ (w.heap.size + 1 + 1) 31 (sdC A K C T) (0, 0) _ rfl r3 Tryz.underlying31 rfl (size_sd.trans (by rfl))) rfl ?_
  exact ⟨rfl, HBE.out⟩
set_option maxRecDepth 100000 in
set_option maxHeartbeats 8000000 in
theorem oneRemove_no {xp : Value} {A : Nat → Option Addr} {K C T : Nat → Nat} (d : Nat) (hd : d = 1 ∨ d = 2) (i : Int) (st : Nat) (s : ByteArray) (w : World) (r : Int) (hr : r ≠ 0) 
    (HR0 : ∀ V : World, Calls Tryz.prog 19 #[.int .i64 (d : Int)] V fun e w' => e = .returned (.int .i64 0) ∧ w' = V)
    (HP0 : ∀ V, Below w.heap.size w V → Calls Tryz.prog 52 #[xp, .int .i64 (d : Int), .string s, .int .u64 ((st : Nat) : Int)] V fun e w' => e = .returned (.tuple #[.int .i64 0, .int .i64 r]) ∧ Below V.heap.size V w')
    (HD0 : ∀ V, Below w.heap.size w V → Calls Tryz.prog 53 #[.slice (A d) (K d) (C d), .string s] V fun e w' => e = .returned (.tuple #[.slice (A d) (K d) (C d), .int .i64 0, .int .i64 r]) ∧ Below V.heap.size V w') :
    Calls Tryz.prog 12 #[xp, .agg (sdC A K C T), .agg (aeC 1 (d : Int) i s ((st : Nat) : Int))] w fun e w' => e = .returned (.tuple #[.agg (sdC A K C T), .bool true]) ∧ Below w.heap.size w w' := by
  have HR : Hid (∀ V : World, Calls Tryz.prog 19 #[.int .i64 (d : Int)] V fun e w' => e = .returned (.int .i64 0) ∧ w' = V) := HR0
  have HP : Hid (∀ V, Below w.heap.size w V → Calls Tryz.prog 52 #[xp, .int .i64 (d : Int), .string s, .int .u64 ((st : Nat) : Int)] V fun e w' => e = .returned (.tuple #[.int .i64 0, .int .i64 r]) ∧ Below V.heap.size V w') := HP0
  have HD : Hid (∀ V, Below w.heap.size w V → Calls Tryz.prog 53 #[.slice (A d) (K d) (C d), .string s] V fun e w' => e = .returned (.tuple #[.slice (A d) (K d) (C d), .int .i64 0, .int .i64 r]) ∧ Below V.heap.size V w') := HD0
  have HL : Hid (∀ w : World, Calls Tryz.prog 22 #[.agg #[.int .i64 i, .string s]] w fun e w' => e = .returned (.agg #[.int .i64 i, .string s]) ∧ Below w.heap.size w w') := link17_any i s
  have g0 : (0 : Int) ≤ (d : Int) := by omega
  have g3 : (d : Int) < 3 := by omega
  clear HR0 HP0 HD0
  have hzs := sd0_zero
  have p1 : Blk (((w.alloc (.cells (sdC A K C T) 31)).alloc (.cells (aeC 1 (d : Int) i s ((st : Nat) : Int)) 38)).alloc (.cells sd0 31)) (w.heap.size) 31 (sdC A K C T) := Blk.alloc (Blk.alloc (Blk.new _ _ _) _) _
  have p2 : Blk (((w.alloc (.cells (sdC A K C T) 31)).alloc (.cells (aeC 1 (d : Int) i s ((st : Nat) : Int)) 38)).alloc (.cells sd0 31)) (w.heap.size + 1) 38 (aeC 1 (d : Int) i s ((st : Nat) : Int)) := Blk.alloc (Blk.new1 _ _ _ _) _
  have p3 : Blk (((w.alloc (.cells (sdC A K C T) 31)).alloc (.cells (aeC 1 (d : Int) i s ((st : Nat) : Int)) 38)).alloc (.cells sd0 31)) (w.heap.size + 1 + 1) 31 sd0 := Blk.new2 _ _ _ _ _
  have hb3 : Below w.heap.size w (((w.alloc (.cells (sdC A K C T) 31)).alloc (.cells (aeC 1 (d : Int) i s ((st : Nat) : Int)) 38)).alloc (.cells sd0 31)) := below_new3 _ _ _ _
  obtain ⟨c0, c1, c2, c3, c4⟩ := ae_cs p2
  go_enter Tryz.func12, Tryz.ntmps12
  go_wp2_with fail
  generalize (((w.alloc (.cells (sdC A K C T) 31)).alloc (.cells (aeC 1 (d : Int) i s ((st : Nat) : Int)) 38)).alloc (.cells sd0 31)) = w3 at *
  refine (HR.out _).mono ?_
  rintro e w4 ⟨rfl, hw⟩
  subst w4
  have q1 := p1.alloc (.cells #[] 58)
  have q2 := p2.alloc (.cells #[] 58)
  have q3 := p3.alloc (.cells #[] 58)
  have hb4 : Below w.heap.size w (w3.alloc (.cells #[] 58)) := hb3.alloc hb3.size _
  clear p1 p2 p3 hb3 c0 c1 c2 c3 c4 HR
  obtain ⟨c0, c1, c2, c3, c4⟩ := ae_cs q2
  have H1 := HP.out _ hb4
  clear HP
  go_wp2_with fail
  generalize (w3.alloc (.cells #[] 58)) = w4 at *
  refine H1.mono ?_
  rintro e w5 ⟨rfl, hb5⟩
  have HTD : Hid (Below w.heap.size w w5.drew) := (hb4.trans (hb5.mono hb4.size)).drew
  have hS5 : Blk w5.drew (w.heap.size) 31 (sdC A K C T) ∧ Blk w5.drew (w.heap.size + 1) 38 (aeC 1 (d : Int) i s (st : Int)) ∧ Blk w5.drew (w.heap.size + 1 + 1) 31 sd0 := ⟨(q1.below hb5 q1.lt).drew, (q2.below hb5 q2.lt).drew, (q3.below hb5 q3.lt).drew⟩
  clear hb4 hb5 c0 c1 c2 c3 c4 q1 q2 q3 H1
  go_wp2_with fail
  refine wp_region_partsS (fun U => Blk U (w.heap.size) 31 (sdC A K C T) ∧ Blk U (w.heap.size + 1) 38 (aeC 1 (d : Int) i s (st : Int)) ∧ Blk U (w.heap.size + 1 + 1) 31 sd0) [([], 0, true), ([], 1, true), ([], 2, true), ([3], 4, true), ([], 5, false), ([], 6, false), ([], 7, false), ([], 8, false)] [9, 10, 11, 12, 13, 14, 15] [] (by kernel_rfl) (by kernel_rfl) hS5 (partsI_yield ?_)
  obtain ⟨c0, c1, c2, c3, c4⟩ := ae_cs hS5.2.1
  generalize w5.drew = w5 at *
  simp only [sgLHDiOne]
  go_wp2_with fail
  refine ⟨rfl, _, .pointer (some ⟨w.heap.size + 1, 1, none⟩), rfl, Or.inl ⟨by rfl, fun W hW => by go_simp⟩, partsI_yield ?_⟩
  simp only [Act.put, sgPHDiOne]
  simp only [sgLHDiOne]
  go_wp2_with fail
  refine ⟨rfl, _, .int .i64 (d : Int), rfl, Or.inl ⟨by rfl, fun W hW => by obtain ⟨d0, d1, d2, d3, d4⟩ := ae_cs hW.2.1; go_simp⟩, partsI_yield ?_⟩
  simp only [Act.put, sgPHDiOne]
  simp only [sgLHDiOne]
  go_wp2_with fail
  refine ⟨rfl, _, .pointer (some ⟨w.heap.size, 0, none⟩), rfl, Or.inl ⟨by rfl, fun W hW => by go_simp⟩, partsI_yield ?_⟩
  simp only [Act.put, sgPHDiOne]
  simp only [sgLHDiOne]
  go_wp2_with fail
  refine ⟨rfl, _, .slice (A d) (K d) (C d), rfl, Or.inl ⟨by rfl, fun W hW => by obtain ⟨e1, e2⟩ := sd_cs hW.1 hd; go_simp⟩, partsI_force ?_⟩
  simp only [Act.put, sgPHDiOne]
  simp only [sgLHDiOne]
  go_wp2_with fail
  refine ⟨rfl, hS5, partsI_force ?_⟩
  simp only [sgLHDiOne]
  go_wp2_with fail
  refine ⟨rfl, hS5, partsI_force ?_⟩
  simp only [sgLHDiOne]
  go_wp2_with fail
  refine ⟨rfl, hS5, partsI_force ?_⟩
  simp only [sgLHDiOne]
  go_wp2_with fail
  have H7 := HD.out _ HTD.out
  have HT6 := HTD
  have hS6 := hS5
  clear HD HTD
  skip
  refine H7.mono ?_
  rintro e w7 ⟨rfl, hb7⟩
  have hS7 : Blk w7 (w.heap.size) 31 (sdC A K C T) ∧ Blk w7 (w.heap.size + 1) 38 (aeC 1 (d : Int) i s (st : Int)) ∧ Blk w7 (w.heap.size + 1 + 1) 31 sd0 := ⟨hS6.1.below hb7 hS6.1.lt, hS6.2.1.below hb7 hS6.2.1.lt, hS6.2.2.below hb7 hS6.2.2.lt⟩
  have HBW : Hid (Below w.heap.size w w7) := HT6.out.trans (hb7.mono HT6.out.size)
  clear HT6 hb7 H7
  go_wp2_with fail
  refine ⟨rfl, hS7, partsI_last ?_⟩
  simp only [sgLHDiOne]
  go_wp2_with fail
  refine ⟨rfl, ?_⟩
  have q1 := hS7.1
  have q3 := hS7.2.2
  clear hS5 hS6 hS7 c0 c1 c2 c3 c4
  have HBE : Hid (Below w.heap.size w (w7.setRow (w.heap.size + 1 + 1) (sdC A K C T))) := below_setRow HBW.out (by omega) _
  have r3 := q3.set (sdC A K C T)
  clear HBW
  go_wp2_with (first | (refine wpList_load_row (by rfl) 31 _ (by rfl) (w.heap.size) (by rfl) 31 (sdC A K C T) (0, 0) _ (by exact q1) Tryz.underlying31 (by rfl) (size_sd.trans (by rfl)) ?_; simp only [Act.put, sgPHDiOne]) | (refine wpList_store_row (by rfl) 31 _ _ (by rfl) (w.heap.size + 1 + 1) (sdC A K C T) (by rfl) (by rfl) 31 (sd0) (by exact q3) (size_sd.trans (by rfl)) (by rfl) (sd_all _ _ _ _) ?_; simp only [Act.put, sgPHDiOne]) | fail)
  try simp only [Exit.inBlock, Exit.then]
  refine bodyPost_ret (results_row2 Tryz.results12 _ _ (w.heap.size + 1 + 1) 31 (sdC A K C T) (0, 0) _ rfl r3 Tryz.underlying31 rfl (size_sd.trans (by rfl))) rfl ?_
  exact ⟨rfl, HBE.out⟩
set_option maxRecDepth 100000 in
set_option maxHeartbeats 8000000 in
theorem oneSwap_no {xp : Value} {A : Nat → Option Addr} {K C T : Nat → Nat} (d : Nat) (hd : d = 1 ∨ d = 2) (i : Int) (st : Nat) (s : ByteArray) (kd : Int) (hk0 : kd ≠ 0) (hk1 : kd ≠ 1) (w : World) (r : Int) (hr : r ≠ 0) 
    (HR0 : ∀ V : World, Calls Tryz.prog 19 #[.int .i64 (d : Int)] V fun e w' => e = .returned (.int .i64 0) ∧ w' = V)
    (HP0 : ∀ V, Below w.heap.size w V → Calls Tryz.prog 54 #[xp, .int .i64 (d : Int), .agg #[.int .i64 i, .string s], .int .u64 ((st : Nat) : Int)] V fun e w' => e = .returned (.tuple #[.int .i64 0, .int .i64 r]) ∧ Below V.heap.size V w')
    (HD0 : ∀ V, Below w.heap.size w V → Calls Tryz.prog 55 #[.slice (A d) (K d) (C d), .agg #[.int .i64 i, .string s]] V fun e w' => e = .returned (.tuple #[.slice (A d) (K d) (C d), .int .i64 0, .int .i64 r]) ∧ Below V.heap.size V w') :
    Calls Tryz.prog 12 #[xp, .agg (sdC A K C T), .agg (aeC kd (d : Int) i s ((st : Nat) : Int))] w fun e w' => e = .returned (.tuple #[.agg (sdC A K C T), .bool true]) ∧ Below w.heap.size w w' := by
  have HR : Hid (∀ V : World, Calls Tryz.prog 19 #[.int .i64 (d : Int)] V fun e w' => e = .returned (.int .i64 0) ∧ w' = V) := HR0
  have HP : Hid (∀ V, Below w.heap.size w V → Calls Tryz.prog 54 #[xp, .int .i64 (d : Int), .agg #[.int .i64 i, .string s], .int .u64 ((st : Nat) : Int)] V fun e w' => e = .returned (.tuple #[.int .i64 0, .int .i64 r]) ∧ Below V.heap.size V w') := HP0
  have HD : Hid (∀ V, Below w.heap.size w V → Calls Tryz.prog 55 #[.slice (A d) (K d) (C d), .agg #[.int .i64 i, .string s]] V fun e w' => e = .returned (.tuple #[.slice (A d) (K d) (C d), .int .i64 0, .int .i64 r]) ∧ Below V.heap.size V w') := HD0
  have HL : Hid (∀ w : World, Calls Tryz.prog 22 #[.agg #[.int .i64 i, .string s]] w fun e w' => e = .returned (.agg #[.int .i64 i, .string s]) ∧ Below w.heap.size w w') := link17_any i s
  have g0 : (0 : Int) ≤ (d : Int) := by omega
  have g3 : (d : Int) < 3 := by omega
  clear HR0 HP0 HD0
  have hzs := sd0_zero
  have p1 : Blk (((w.alloc (.cells (sdC A K C T) 31)).alloc (.cells (aeC kd (d : Int) i s ((st : Nat) : Int)) 38)).alloc (.cells sd0 31)) (w.heap.size) 31 (sdC A K C T) := Blk.alloc (Blk.alloc (Blk.new _ _ _) _) _
  have p2 : Blk (((w.alloc (.cells (sdC A K C T) 31)).alloc (.cells (aeC kd (d : Int) i s ((st : Nat) : Int)) 38)).alloc (.cells sd0 31)) (w.heap.size + 1) 38 (aeC kd (d : Int) i s ((st : Nat) : Int)) := Blk.alloc (Blk.new1 _ _ _ _) _
  have p3 : Blk (((w.alloc (.cells (sdC A K C T) 31)).alloc (.cells (aeC kd (d : Int) i s ((st : Nat) : Int)) 38)).alloc (.cells sd0 31)) (w.heap.size + 1 + 1) 31 sd0 := Blk.new2 _ _ _ _ _
  have hb3 : Below w.heap.size w (((w.alloc (.cells (sdC A K C T) 31)).alloc (.cells (aeC kd (d : Int) i s ((st : Nat) : Int)) 38)).alloc (.cells sd0 31)) := below_new3 _ _ _ _
  obtain ⟨c0, c1, c2, c3, c4⟩ := ae_cs p2
  go_enter Tryz.func12, Tryz.ntmps12
  go_wp2_with fail
  generalize (((w.alloc (.cells (sdC A K C T) 31)).alloc (.cells (aeC kd (d : Int) i s ((st : Nat) : Int)) 38)).alloc (.cells sd0 31)) = w3 at *
  refine (HR.out _).mono ?_
  rintro e w4 ⟨rfl, hw⟩
  subst w4
  have q1 := p1.alloc (.cells #[] 58)
  have q2 := p2.alloc (.cells #[] 58)
  have q3 := p3.alloc (.cells #[] 58)
  have hb4 : Below w.heap.size w (w3.alloc (.cells #[] 58)) := hb3.alloc hb3.size _
  clear p1 p2 p3 hb3 c0 c1 c2 c3 c4 HR
  obtain ⟨c0, c1, c2, c3, c4⟩ := ae_cs q2
  have H1 := HP.out _ hb4
  clear HP
  go_wp2_with fail
  generalize (w3.alloc (.cells #[] 58)) = w4 at *
  refine H1.mono ?_
  rintro e w5 ⟨rfl, hb5⟩
  have HTD : Hid (Below w.heap.size w w5.drew) := (hb4.trans (hb5.mono hb4.size)).drew
  have hS5 : Blk w5.drew (w.heap.size) 31 (sdC A K C T) ∧ Blk w5.drew (w.heap.size + 1) 38 (aeC kd (d : Int) i s (st : Int)) ∧ Blk w5.drew (w.heap.size + 1 + 1) 31 sd0 := ⟨(q1.below hb5 q1.lt).drew, (q2.below hb5 q2.lt).drew, (q3.below hb5 q3.lt).drew⟩
  clear hb4 hb5 c0 c1 c2 c3 c4 q1 q2 q3 H1
  go_wp2_with fail
  refine wp_region_partsS (fun U => Blk U (w.heap.size) 31 (sdC A K C T) ∧ Blk U (w.heap.size + 1) 38 (aeC kd (d : Int) i s (st : Int)) ∧ Blk U (w.heap.size + 1 + 1) 31 sd0) [([], 0, true), ([], 1, true), ([], 2, true), ([3], 4, true), ([], 5, false), ([], 6, false), ([], 7, false), ([], 8, false)] [9, 10, 11, 12, 13, 14, 15] [] (by kernel_rfl) (by kernel_rfl) hS5 (partsI_yield ?_)
  obtain ⟨c0, c1, c2, c3, c4⟩ := ae_cs hS5.2.1
  generalize w5.drew = w5 at *
  simp only [sgLHDiOne]
  go_wp2_with fail
  refine ⟨rfl, _, .pointer (some ⟨w.heap.size + 1, 1, none⟩), rfl, Or.inl ⟨by rfl, fun W hW => by go_simp⟩, partsI_yield ?_⟩
  simp only [Act.put, sgPHDiOne]
  simp only [sgLHDiOne]
  go_wp2_with fail
  refine ⟨rfl, _, .int .i64 (d : Int), rfl, Or.inl ⟨by rfl, fun W hW => by obtain ⟨d0, d1, d2, d3, d4⟩ := ae_cs hW.2.1; go_simp⟩, partsI_yield ?_⟩
  simp only [Act.put, sgPHDiOne]
  simp only [sgLHDiOne]
  go_wp2_with fail
  refine ⟨rfl, _, .pointer (some ⟨w.heap.size, 0, none⟩), rfl, Or.inl ⟨by rfl, fun W hW => by go_simp⟩, partsI_yield ?_⟩
  simp only [Act.put, sgPHDiOne]
  simp only [sgLHDiOne]
  go_wp2_with fail
  refine ⟨rfl, _, .slice (A d) (K d) (C d), rfl, Or.inl ⟨by rfl, fun W hW => by obtain ⟨e1, e2⟩ := sd_cs hW.1 hd; go_simp⟩, partsI_force ?_⟩
  simp only [Act.put, sgPHDiOne]
  simp only [sgLHDiOne]
  go_wp2_with fail
  refine ⟨rfl, hS5, partsI_force ?_⟩
  simp only [sgLHDiOne]
  go_wp2_with fail
  refine ⟨rfl, hS5, partsI_force ?_⟩
  simp only [sgLHDiOne]
  go_wp2_with fail
  refine (HL.out _).mono ?_
  rintro e w6 ⟨rfl, hb6⟩
  have hS6 : Blk w6 (w.heap.size) 31 (sdC A K C T) ∧ Blk w6 (w.heap.size + 1) 38 (aeC kd (d : Int) i s (st : Int)) ∧ Blk w6 (w.heap.size + 1 + 1) 31 sd0 := ⟨hS5.1.below hb6 hS5.1.lt, hS5.2.1.below hb6 hS5.2.1.lt, hS5.2.2.below hb6 hS5.2.2.lt⟩
  have HT6 : Hid (Below w.heap.size w w6) := HTD.out.trans (hb6.mono HTD.out.size)
  have H7 := HD.out _ HT6.out
  clear HL HD HTD hb6
  go_wp2_with fail
  refine ⟨rfl, hS6, partsI_force ?_⟩
  simp only [sgLHDiOne]
  go_wp2_with fail
  refine H7.mono ?_
  rintro e w7 ⟨rfl, hb7⟩
  have hS7 : Blk w7 (w.heap.size) 31 (sdC A K C T) ∧ Blk w7 (w.heap.size + 1) 38 (aeC kd (d : Int) i s (st : Int)) ∧ Blk w7 (w.heap.size + 1 + 1) 31 sd0 := ⟨hS6.1.below hb7 hS6.1.lt, hS6.2.1.below hb7 hS6.2.1.lt, hS6.2.2.below hb7 hS6.2.2.lt⟩
  have HBW : Hid (Below w.heap.size w w7) := HT6.out.trans (hb7.mono HT6.out.size)
  clear HT6 hb7 H7
  go_wp2_with fail
  refine ⟨rfl, hS7, partsI_last ?_⟩
  simp only [sgLHDiOne]
  go_wp2_with fail
  refine ⟨rfl, ?_⟩
  have q1 := hS7.1
  have q3 := hS7.2.2
  clear hS5 hS6 hS7 c0 c1 c2 c3 c4
  have HBE : Hid (Below w.heap.size w (w7.setRow (w.heap.size + 1 + 1) (sdC A K C T))) := below_setRow HBW.out (by omega) _
  have r3 := q3.set (sdC A K C T)
  clear HBW
  go_wp2_with (first | (refine wpList_load_row (by rfl) 31 _ (by rfl) (w.heap.size) (by rfl) 31 (sdC A K C T) (0, 0) _ (by exact q1) Tryz.underlying31 (by rfl) (size_sd.trans (by rfl)) ?_; simp only [Act.put, sgPHDiOne]) | (refine wpList_store_row (by rfl) 31 _ _ (by rfl) (w.heap.size + 1 + 1) (sdC A K C T) (by rfl) (by rfl) 31 (sd0) (by exact q3) (size_sd.trans (by rfl)) (by rfl) (sd_all _ _ _ _) ?_; simp only [Act.put, sgPHDiOne]) | fail)
  try simp only [Exit.inBlock, Exit.then]
  refine bodyPost_ret (results_row2 Tryz.results12 _ _ (w.heap.size + 1 + 1) 31 (sdC A K C T) (0, 0) _ rfl r3 Tryz.underlying31 rfl (size_sd.trans (by rfl))) rfl ?_
  exact ⟨rfl, HBE.out⟩
set_option maxRecDepth 100000 in
set_option maxHeartbeats 8000000 in
theorem oneAdd_ok {xp : Value} {A : Nat → Option Addr} {K C T : Nat → Nat} (d : Nat) (hd : d = 1 ∨ d = 2) (i : Int) (st : Nat) (s : ByteArray) (w : World) {ml mf k1 : Nat} (Q : World → Prop) (hQ : ∀ V V', Q V → Below w.heap.size V V' → Q V') (hT : ml < w.heap.size ∧ mf < w.heap.size) (r0 : Int) (R : World → Nat → Prop) (hRR : ∀ V V' g, R V g → V'.heap[g]? = V.heap[g]? → V.heap.size ≤ V'.heap.size → R V' g)
    (HR0 : ∀ V : World, Calls Tryz.prog 19 #[.int .i64 (d : Int)] V fun e w' => e = .returned (.int .i64 0) ∧ w' = V)
    (HP0 : ∀ V, Below w.heap.size w V → Calls Tryz.prog 50 #[xp, .int .i64 (d : Int), .agg #[.int .i64 i, .string s], .int .u64 ((st : Nat) : Int)] V fun e w' => e = .returned (.int .i64 0) ∧ Q w' ∧ Turns (fun z => z = ml ∨ z = mf) V w')
    (HD0 : ∀ V, Q V → Calls Tryz.prog 51 #[.slice (A d) (K d) (C d), .agg #[.int .i64 i, .string s]] V fun e w' => ∃ g5 c5 : Nat, e = .returned (.tuple #[.slice (some ⟨g5, 0, none⟩) k1 c5, .int .i64 0]) ∧ R w' g5 ∧ V.heap.size ≤ g5 ∧ Below V.heap.size V w') :
    Calls Tryz.prog 12 #[xp, .agg (sdC A K C T), .agg (aeC 0 (d : Int) i s ((st : Nat) : Int))] w fun e w' => ∃ g5 c5 : Nat, e = .returned (.tuple #[.agg (sdC (fU A d (some ⟨g5, 0, none⟩)) (fU K d k1) (fU C d c5) (fU T d st)), .bool true]) ∧ Q w' ∧ R w' g5 ∧ w.heap.size ≤ g5 ∧ Turns (fun z => z = ml ∨ z = mf) w w' := by
  have HR : Hid (∀ V : World, Calls Tryz.prog 19 #[.int .i64 (d : Int)] V fun e w' => e = .returned (.int .i64 0) ∧ w' = V) := HR0
  have HP : Hid (∀ V, Below w.heap.size w V → Calls Tryz.prog 50 #[xp, .int .i64 (d : Int), .agg #[.int .i64 i, .string s], .int .u64 ((st : Nat) : Int)] V fun e w' => e = .returned (.int .i64 0) ∧ Q w' ∧ Turns (fun z => z = ml ∨ z = mf) V w') := HP0
  have HD : Hid (∀ V, Q V → Calls Tryz.prog 51 #[.slice (A d) (K d) (C d), .agg #[.int .i64 i, .string s]] V fun e w' => ∃ g5 c5 : Nat, e = .returned (.tuple #[.slice (some ⟨g5, 0, none⟩) k1 c5, .int .i64 0]) ∧ R w' g5 ∧ V.heap.size ≤ g5 ∧ Below V.heap.size V w') := HD0
  have HL : Hid (∀ w : World, Calls Tryz.prog 22 #[.agg #[.int .i64 i, .string s]] w fun e w' => e = .returned (.agg #[.int .i64 i, .string s]) ∧ Below w.heap.size w w') := link17_any i s
  have g0 : (0 : Int) ≤ (d : Int) := by omega
  have g3 : (d : Int) < 3 := by omega
  clear HR0 HP0 HD0
  have hzs := sd0_zero
  have p1 : Blk (((w.alloc (.cells (sdC A K C T) 31)).alloc (.cells (aeC 0 (d : Int) i s ((st : Nat) : Int)) 38)).alloc (.cells sd0 31)) (w.heap.size) 31 (sdC A K C T) := Blk.alloc (Blk.alloc (Blk.new _ _ _) _) _
  have p2 : Blk (((w.alloc (.cells (sdC A K C T) 31)).alloc (.cells (aeC 0 (d : Int) i s ((st : Nat) : Int)) 38)).alloc (.cells sd0 31)) (w.heap.size + 1) 38 (aeC 0 (d : Int) i s ((st : Nat) : Int)) := Blk.alloc (Blk.new1 _ _ _ _) _
  have p3 : Blk (((w.alloc (.cells (sdC A K C T) 31)).alloc (.cells (aeC 0 (d : Int) i s ((st : Nat) : Int)) 38)).alloc (.cells sd0 31)) (w.heap.size + 1 + 1) 31 sd0 := Blk.new2 _ _ _ _ _
  have hb3 : Below w.heap.size w (((w.alloc (.cells (sdC A K C T) 31)).alloc (.cells (aeC 0 (d : Int) i s ((st : Nat) : Int)) 38)).alloc (.cells sd0 31)) := below_new3 _ _ _ _
  obtain ⟨c0, c1, c2, c3, c4⟩ := ae_cs p2
  go_enter Tryz.func12, Tryz.ntmps12
  go_wp2_with fail
  generalize (((w.alloc (.cells (sdC A K C T) 31)).alloc (.cells (aeC 0 (d : Int) i s ((st : Nat) : Int)) 38)).alloc (.cells sd0 31)) = w3 at *
  refine (HR.out _).mono ?_
  rintro e w4 ⟨rfl, hw⟩
  subst w4
  have q1 := p1.alloc (.cells #[] 58)
  have q2 := p2.alloc (.cells #[] 58)
  have q3 := p3.alloc (.cells #[] 58)
  have hb4 : Below w.heap.size w (w3.alloc (.cells #[] 58)) := hb3.alloc hb3.size _
  clear p1 p2 p3 hb3 c0 c1 c2 c3 c4 HR
  obtain ⟨c0, c1, c2, c3, c4⟩ := ae_cs q2
  have H1 := HP.out _ hb4
  clear HP
  go_wp2_with fail
  generalize (w3.alloc (.cells #[] 58)) = w4 at *
  refine H1.mono ?_
  rintro e w5 ⟨rfl, hq5, hT5⟩
  have hw4 := hb4.size
  have HT : Hid (Turns (fun z => z = ml ∨ z = mf) w w5) := (Turns.of_below hb4).trans hT5 fun b hb => .inl hb
  have l1 := q1.lt
  have l2 := q2.lt
  have l3 := q3.lt
  have hS5 : Blk w5.drew (w.heap.size) 31 (sdC A K C T) ∧ Blk w5.drew (w.heap.size + 1) 38 (aeC 0 (d : Int) i s (st : Int)) ∧ Blk w5.drew (w.heap.size + 1 + 1) 31 sd0 := ⟨Blk.drew ((hT5.block _ (by omega) (by omega)).trans q1), Blk.drew ((hT5.block _ (by omega) (by omega)).trans q2), Blk.drew ((hT5.block _ (by omega) (by omega)).trans q3)⟩
  have HTD : Hid (Turns (fun z => z = ml ∨ z = mf) w w5.drew) := HT.out.drew
  have HQ5 : Hid (Q w5.drew) := hQ _ _ hq5 (Below.refl _ _).drew
  clear hb4 hT5 hq5 c0 c1 c2 c3 c4 q1 q2 q3 H1 HT l1 l2 l3 hw4
  go_wp2_with fail
  refine wp_region_partsS (fun U => Blk U (w.heap.size) 31 (sdC A K C T) ∧ Blk U (w.heap.size + 1) 38 (aeC 0 (d : Int) i s (st : Int)) ∧ Blk U (w.heap.size + 1 + 1) 31 sd0) [([], 0, true), ([], 1, true), ([], 2, true), ([3], 4, true), ([], 5, false), ([], 6, false), ([], 7, false), ([], 8, false)] [9, 10, 11, 12, 13] [] (by kernel_rfl) (by kernel_rfl) hS5 (partsI_yield ?_)
  obtain ⟨c0, c1, c2, c3, c4⟩ := ae_cs hS5.2.1
  generalize w5.drew = w5 at *
  simp only [sgLHDiOne]
  go_wp2_with fail
  refine ⟨rfl, _, .pointer (some ⟨w.heap.size + 1, 1, none⟩), rfl, Or.inl ⟨by rfl, fun W hW => by go_simp⟩, partsI_yield ?_⟩
  simp only [Act.put, sgPHDiOne]
  simp only [sgLHDiOne]
  go_wp2_with fail
  refine ⟨rfl, _, .int .i64 (d : Int), rfl, Or.inl ⟨by rfl, fun W hW => by obtain ⟨d0, d1, d2, d3, d4⟩ := ae_cs hW.2.1; go_simp⟩, partsI_yield ?_⟩
  simp only [Act.put, sgPHDiOne]
  simp only [sgLHDiOne]
  go_wp2_with fail
  refine ⟨rfl, _, .pointer (some ⟨w.heap.size, 0, none⟩), rfl, Or.inl ⟨by rfl, fun W hW => by go_simp⟩, partsI_yield ?_⟩
  simp only [Act.put, sgPHDiOne]
  simp only [sgLHDiOne]
  go_wp2_with fail
  refine ⟨rfl, _, .slice (A d) (K d) (C d), rfl, Or.inl ⟨by rfl, fun W hW => by obtain ⟨e1, e2⟩ := sd_cs hW.1 hd; go_simp⟩, partsI_force ?_⟩
  simp only [Act.put, sgPHDiOne]
  simp only [sgLHDiOne]
  go_wp2_with fail
  refine ⟨rfl, hS5, partsI_force ?_⟩
  simp only [sgLHDiOne]
  go_wp2_with fail
  refine ⟨rfl, hS5, partsI_force ?_⟩
  simp only [sgLHDiOne]
  go_wp2_with fail
  refine (HL.out _).mono ?_
  rintro e w6 ⟨rfl, hb6⟩
  have hS6 : Blk w6 (w.heap.size) 31 (sdC A K C T) ∧ Blk w6 (w.heap.size + 1) 38 (aeC 0 (d : Int) i s (st : Int)) ∧ Blk w6 (w.heap.size + 1 + 1) 31 sd0 := ⟨hS5.1.below hb6 hS5.1.lt, hS5.2.1.below hb6 hS5.2.1.lt, hS5.2.2.below hb6 hS5.2.2.lt⟩
  have HT6 : Hid (Turns (fun z => z = ml ∨ z = mf) w w6) := HTD.out.trans (Turns.of_below (S := fun _ => False) hb6) fun b hb => absurd hb id
  have HQ6 := hQ _ _ HQ5.out (hb6.mono HTD.out.size)
  have H7 := HD.out _ HQ6
  clear HL HD HTD HQ5 hb6
  go_wp2_with fail
  refine ⟨rfl, hS6, partsI_force ?_⟩
  simp only [sgLHDiOne]
  go_wp2_with fail
  refine H7.mono ?_
  rintro e w7 ⟨g5, c5, rfl, hR7, hg7, hb7⟩
  have hS7 : Blk w7 (w.heap.size) 31 (sdC A K C T) ∧ Blk w7 (w.heap.size + 1) 38 (aeC 0 (d : Int) i s (st : Int)) ∧ Blk w7 (w.heap.size + 1 + 1) 31 sd0 := ⟨hS6.1.below hb7 hS6.1.lt, hS6.2.1.below hb7 hS6.2.1.lt, hS6.2.2.below hb7 hS6.2.2.lt⟩
  have HT7 : Hid (Turns (fun z => z = ml ∨ z = mf) w w7) := HT6.out.trans (Turns.of_below (S := fun _ => False) hb7) fun b hb => absurd hb id
  have HQ7 : Hid (Q w7) := hQ _ _ HQ6 (hb7.mono HT6.out.size)
  have HR7 : Hid (R w7 g5) := hR7
  have hg6 : w.heap.size + 1 + 1 < g5 := Nat.lt_of_lt_of_le hS6.2.2.lt hg7
  clear HT6 HQ6 hb7 hR7 hg7 H7
  go_wp2_with fail
  refine ⟨rfl, hS7, partsI_last ?_⟩
  simp only [sgLHDiOne]
  go_wp2_with fail
  refine ⟨rfl, ?_⟩
  have u1 := hS7.1.drew
  have u2 := hS7.2.1.drew
  have u3 := hS7.2.2.drew
  have HT8 : Hid (Turns (fun z => z = ml ∨ z = mf) w w7.drew) := HT7.out.drew
  have HQ8 : Hid (Q w7.drew) := hQ _ _ HQ7.out (Below.refl _ _).drew
  have HR8 : Hid (R w7.drew g5) := hRR _ _ _ HR7.out rfl (Nat.le_refl _)
  clear hS5 hS6 hS7 c0 c1 c2 c3 c4 HT7 HQ7 HR7
  go_wp2_with fail
  obtain ⟨c0, c1, c2, c3, c4⟩ := ae_cs u2
  obtain ⟨e1, e2⟩ := sd_cs u1 hd
  have f1 : w7.drew.frozen? ⟨w.heap.size, d, none⟩ = false := u1.frozen d
  have v1 : Blk (w7.drew.setCell ⟨w.heap.size, d, none⟩ (.slice (some ⟨g5, 0, none⟩) k1 c5)) (w.heap.size) 31 _ := u1.put d (.slice (some ⟨g5, 0, none⟩) k1 c5)
  have v2 : Blk (w7.drew.setCell ⟨w.heap.size, d, none⟩ (.slice (some ⟨g5, 0, none⟩) k1 c5)) (w.heap.size + 1) 38 (aeC 0 (d : Int) i s (st : Int)) := u2.put_other d (.slice (some ⟨g5, 0, none⟩) k1 c5) (by omega)
  have v3 : Blk (w7.drew.setCell ⟨w.heap.size, d, none⟩ (.slice (some ⟨g5, 0, none⟩) k1 c5)) (w.heap.size + 1 + 1) 31 sd0 := u3.put_other d (.slice (some ⟨g5, 0, none⟩) k1 c5) (by omega)
  have e3 : (w7.drew.setCell ⟨w.heap.size, d, none⟩ (.slice (some ⟨g5, 0, none⟩) k1 c5)).cell? ⟨w.heap.size, 3 + d, none⟩ = some (.int .u64 ((T d : Nat) : Int)) := (v1.cell (3 + d)).trans (by rcases hd with rfl | rfl <;> rfl)
  have f3 : (w7.drew.setCell ⟨w.heap.size, d, none⟩ (.slice (some ⟨g5, 0, none⟩) k1 c5)).frozen? ⟨w.heap.size, 3 + d, none⟩ = false := v1.frozen (3 + d)
  have y1 : Blk ((w7.drew.setCell ⟨w.heap.size, d, none⟩ (.slice (some ⟨g5, 0, none⟩) k1 c5)).setCell ⟨w.heap.size, 3 + d, none⟩ (.int .u64 ((st : Nat) : Int))) (w.heap.size) 31 (sdC (fU A d (some ⟨g5, 0, none⟩)) (fU K d k1) (fU C d c5) (fU T d st)) := by
    have h := v1.put (3 + d) (.int .u64 ((st : Nat) : Int))
    rw [sd_up A K C T d hd] at h
    exact h
  have y3 : Blk ((w7.drew.setCell ⟨w.heap.size, d, none⟩ (.slice (some ⟨g5, 0, none⟩) k1 c5)).setCell ⟨w.heap.size, 3 + d, none⟩ (.int .u64 ((st : Nat) : Int))) (w.heap.size + 1 + 1) 31 sd0 := v3.put_other (3 + d) (.int .u64 ((st : Nat) : Int)) (by omega)
  have z3 := y3.set (sdC (fU A d (some ⟨g5, 0, none⟩)) (fU K d k1) (fU C d c5) (fU T d st))
  have HTE : Hid (Turns (fun z => z = ml ∨ z = mf) w (((w7.drew.setCell ⟨w.heap.size, d, none⟩ (.slice (some ⟨g5, 0, none⟩) k1 c5)).setCell ⟨w.heap.size, 3 + d, none⟩ (.int .u64 ((st : Nat) : Int))).setRow (w.heap.size + 1 + 1) (sdC (fU A d (some ⟨g5, 0, none⟩)) (fU K d k1) (fU C d c5) (fU T d st)))) := one_turns (one_turns2 HT8.out d (3 + d) _ _) (by omega) _
  have HQE : Hid (Q (((w7.drew.setCell ⟨w.heap.size, d, none⟩ (.slice (some ⟨g5, 0, none⟩) k1 c5)).setCell ⟨w.heap.size, 3 + d, none⟩ (.int .u64 ((st : Nat) : Int))).setRow (w.heap.size + 1 + 1) (sdC (fU A d (some ⟨g5, 0, none⟩)) (fU K d k1) (fU C d c5) (fU T d st)))) := hQ _ _ HQ8.out (below_setRow (B := w.heap.size) (((Below.refl w.heap.size w7.drew).setCell (p := ⟨w.heap.size, d, none⟩) (Nat.le_refl _) _).setCell (p := ⟨w.heap.size, 3 + d, none⟩) (Nat.le_refl _) _) (by omega) _)
  have HRE : Hid (R (((w7.drew.setCell ⟨w.heap.size, d, none⟩ (.slice (some ⟨g5, 0, none⟩) k1 c5)).setCell ⟨w.heap.size, 3 + d, none⟩ (.int .u64 ((st : Nat) : Int))).setRow (w.heap.size + 1 + 1) (sdC (fU A d (some ⟨g5, 0, none⟩)) (fU K d k1) (fU C d c5) (fU T d st))) g5) := hRR _ _ _ HR8.out (((setRow_other _ _ _ _ (by omega)).trans (Below.heap_setCell _ _ _ _ (by show g5 ≠ w.heap.size; omega))).trans (Below.heap_setCell _ _ _ _ (by show g5 ≠ w.heap.size; omega))) (by simp)
  refine wp_region_partsS (fun U => Blk U (w.heap.size + 1) 38 (aeC 0 (d : Int) i s (st : Int))) [([4], 0, true), ([], 1, true), ([], 2, true), ([], 3, true), ([], 5, true), ([], 6, true), ([], 7, true), ([8], 10, true), ([], 9, false), ([11], 12, false)] [] [] (by kernel_rfl) (by kernel_rfl) u2 (partsI_yield ?_)
  generalize w7.drew = w8 at *
  simp only [sgLHDiOne]
  go_wp2_with fail
  refine ⟨rfl, _, .pointer (some ⟨w.heap.size + 1, 1, none⟩), rfl, Or.inl ⟨by rfl, fun W hW => by go_simp⟩, partsI_yield ?_⟩
  simp only [Act.put, sgPHDiOne]
  simp only [sgLHDiOne]
  go_wp2_with fail
  refine ⟨rfl, _, .int .i64 (d : Int), rfl, Or.inl ⟨by rfl, fun W hW => by obtain ⟨d0, d1, d2, d3, d4⟩ := ae_cs hW; go_simp⟩, partsI_yield ?_⟩
  simp only [Act.put, sgPHDiOne]
  simp only [sgLHDiOne]
  go_wp2_with fail
  refine ⟨rfl, _, .pointer (some ⟨w.heap.size + 1, 1, none⟩), rfl, Or.inl ⟨by rfl, fun W hW => by go_simp⟩, partsI_yield ?_⟩
  simp only [Act.put, sgPHDiOne]
  simp only [sgLHDiOne]
  go_wp2_with fail
  refine ⟨rfl, _, .int .i64 (d : Int), rfl, Or.inl ⟨by rfl, fun W hW => by obtain ⟨d0, d1, d2, d3, d4⟩ := ae_cs hW; go_simp⟩, partsI_yield ?_⟩
  simp only [Act.put, sgPHDiOne]
  simp only [sgLHDiOne]
  go_wp2_with fail
  refine ⟨rfl, _, .pointer (some ⟨w.heap.size + 1, 4, none⟩), rfl, Or.inl ⟨by rfl, fun W hW => by go_simp⟩, partsI_yield ?_⟩
  simp only [Act.put, sgPHDiOne]
  simp only [sgLHDiOne]
  go_wp2_with fail
  refine ⟨rfl, _, .int .u64 ((st : Nat) : Int), rfl, Or.inl ⟨by rfl, fun W hW => by obtain ⟨d0, d1, d2, d3, d4⟩ := ae_cs hW; go_simp⟩, partsI_yield ?_⟩
  simp only [Act.put, sgPHDiOne]
  simp only [sgLHDiOne]
  go_wp2_with fail
  refine ⟨rfl, _, .pointer (some ⟨w.heap.size, 0, none⟩), rfl, Or.inl ⟨by rfl, fun W hW => by go_simp⟩, partsI_yield ?_⟩
  simp only [Act.put, sgPHDiOne]
  simp only [sgLHDiOne]
  go_wp2_with fail
  refine ⟨rfl, _, .pointer (some ⟨w.heap.size, 3, none⟩), rfl, Or.inl ⟨by rfl, fun W hW => by go_simp⟩, partsI_force ?_⟩
  simp only [Act.put, sgPHDiOne]
  simp only [sgLHDiOne]
  go_wp2_with fail
  refine ⟨rfl, v2, partsI_force ?_⟩
  simp only [sgLHDiOne]
  go_wp2_with fail
  refine ⟨rfl, v2.put_other (3 + d) _ (by omega), partsI_last ?_⟩
  simp only [sgLHDiOne]
  go_wp2_with fail
  refine ⟨rfl, ?_⟩
  clear u1 u2 u3 v1 v2 v3 e1 e2 e3 f1 f3 c0 c1 c2 c3 c4 HT8 HQ8 HR8
  generalize ((w8.setCell ⟨w.heap.size, d, none⟩ (.slice (some ⟨g5, 0, none⟩) k1 c5)).setCell ⟨w.heap.size, 3 + d, none⟩ (.int .u64 ((st : Nat) : Int))) = w9 at *
  go_wp2_with (first | (refine wpList_load_row (by rfl) 31 _ (by rfl) (w.heap.size) (by rfl) 31 (sdC (fU A d (some ⟨g5, 0, none⟩)) (fU K d k1) (fU C d c5) (fU T d st)) (0, 0) _ (by exact y1) Tryz.underlying31 (by rfl) (size_sd.trans (by rfl)) ?_; simp only [Act.put, sgPHDiOne]) | (refine wpList_store_row (by rfl) 31 _ _ (by rfl) (w.heap.size + 1 + 1) (sdC (fU A d (some ⟨g5, 0, none⟩)) (fU K d k1) (fU C d c5) (fU T d st)) (by rfl) (by rfl) 31 (sd0) (by exact y3) (size_sd.trans (by rfl)) (by rfl) (sd_all _ _ _ _) ?_; simp only [Act.put, sgPHDiOne]) | fail)
  try simp only [Exit.inBlock, Exit.then]
  refine bodyPost_ret (results_row2 Tryz.results12 _ _ (w.heap.size + 1 + 1) 31 (sdC (fU A d (some ⟨g5, 0, none⟩)) (fU K d k1) (fU C d c5) (fU T d st)) (0, 0) _ rfl z3 Tryz.underlying31 rfl (size_sd.trans (by rfl))) rfl ?_
  exact ⟨g5, c5, rfl, HQE.out, HRE.out, by omega, HTE.out⟩
set_option maxRecDepth 100000 in
set_option maxHeartbeats 8000000 in
theorem oneRemove_ok {xp : Value} {A : Nat → Option Addr} {K C T : Nat → Nat} (d : Nat) (hd : d = 1 ∨ d = 2) (i : Int) (st : Nat) (s : ByteArray) (w : World) {ml mf k1 : Nat} (Q : World → Prop) (hQ : ∀ V V', Q V → Below w.heap.size V V' → Q V') (hT : ml < w.heap.size ∧ mf < w.heap.size) (r0 : Int) (R : World → Nat → Prop) (hRR : ∀ V V' g, R V g → V'.heap[g]? = V.heap[g]? → V.heap.size ≤ V'.heap.size → R V' g)
    (HR0 : ∀ V : World, Calls Tryz.prog 19 #[.int .i64 (d : Int)] V fun e w' => e = .returned (.int .i64 0) ∧ w' = V)
    (HP0 : ∀ V, Below w.heap.size w V → Calls Tryz.prog 52 #[xp, .int .i64 (d : Int), .string s, .int .u64 ((st : Nat) : Int)] V fun e w' => e = .returned (.tuple #[.int .i64 r0, .int .i64 0]) ∧ Q w' ∧ Turns (fun z => z = ml ∨ z = mf) V w')
    (HD0 : ∀ V, Q V → Calls Tryz.prog 53 #[.slice (A d) (K d) (C d), .string s] V fun e w' => ∃ g5 c5 : Nat, e = .returned (.tuple #[.slice (some ⟨g5, 0, none⟩) k1 c5, .int .i64 r0, .int .i64 0]) ∧ R w' g5 ∧ V.heap.size ≤ g5 ∧ Below V.heap.size V w') :
    Calls Tryz.prog 12 #[xp, .agg (sdC A K C T), .agg (aeC 1 (d : Int) i s ((st : Nat) : Int))] w fun e w' => ∃ g5 c5 : Nat, e = .returned (.tuple #[.agg (sdC (fU A d (some ⟨g5, 0, none⟩)) (fU K d k1) (fU C d c5) (fU T d st)), .bool true]) ∧ Q w' ∧ R w' g5 ∧ w.heap.size ≤ g5 ∧ Turns (fun z => z = ml ∨ z = mf) w w' := by
  have HR : Hid (∀ V : World, Calls Tryz.prog 19 #[.int .i64 (d : Int)] V fun e w' => e = .returned (.int .i64 0) ∧ w' = V) := HR0
  have HP : Hid (∀ V, Below w.heap.size w V → Calls Tryz.prog 52 #[xp, .int .i64 (d : Int), .string s, .int .u64 ((st : Nat) : Int)] V fun e w' => e = .returned (.tuple #[.int .i64 r0, .int .i64 0]) ∧ Q w' ∧ Turns (fun z => z = ml ∨ z = mf) V w') := HP0
  have HD : Hid (∀ V, Q V → Calls Tryz.prog 53 #[.slice (A d) (K d) (C d), .string s] V fun e w' => ∃ g5 c5 : Nat, e = .returned (.tuple #[.slice (some ⟨g5, 0, none⟩) k1 c5, .int .i64 r0, .int .i64 0]) ∧ R w' g5 ∧ V.heap.size ≤ g5 ∧ Below V.heap.size V w') := HD0
  have HL : Hid (∀ w : World, Calls Tryz.prog 22 #[.agg #[.int .i64 i, .string s]] w fun e w' => e = .returned (.agg #[.int .i64 i, .string s]) ∧ Below w.heap.size w w') := link17_any i s
  have g0 : (0 : Int) ≤ (d : Int) := by omega
  have g3 : (d : Int) < 3 := by omega
  clear HR0 HP0 HD0
  have hzs := sd0_zero
  have p1 : Blk (((w.alloc (.cells (sdC A K C T) 31)).alloc (.cells (aeC 1 (d : Int) i s ((st : Nat) : Int)) 38)).alloc (.cells sd0 31)) (w.heap.size) 31 (sdC A K C T) := Blk.alloc (Blk.alloc (Blk.new _ _ _) _) _
  have p2 : Blk (((w.alloc (.cells (sdC A K C T) 31)).alloc (.cells (aeC 1 (d : Int) i s ((st : Nat) : Int)) 38)).alloc (.cells sd0 31)) (w.heap.size + 1) 38 (aeC 1 (d : Int) i s ((st : Nat) : Int)) := Blk.alloc (Blk.new1 _ _ _ _) _
  have p3 : Blk (((w.alloc (.cells (sdC A K C T) 31)).alloc (.cells (aeC 1 (d : Int) i s ((st : Nat) : Int)) 38)).alloc (.cells sd0 31)) (w.heap.size + 1 + 1) 31 sd0 := Blk.new2 _ _ _ _ _
  have hb3 : Below w.heap.size w (((w.alloc (.cells (sdC A K C T) 31)).alloc (.cells (aeC 1 (d : Int) i s ((st : Nat) : Int)) 38)).alloc (.cells sd0 31)) := below_new3 _ _ _ _
  obtain ⟨c0, c1, c2, c3, c4⟩ := ae_cs p2
  go_enter Tryz.func12, Tryz.ntmps12
  go_wp2_with fail
  generalize (((w.alloc (.cells (sdC A K C T) 31)).alloc (.cells (aeC 1 (d : Int) i s ((st : Nat) : Int)) 38)).alloc (.cells sd0 31)) = w3 at *
  refine (HR.out _).mono ?_
  rintro e w4 ⟨rfl, hw⟩
  subst w4
  have q1 := p1.alloc (.cells #[] 58)
  have q2 := p2.alloc (.cells #[] 58)
  have q3 := p3.alloc (.cells #[] 58)
  have hb4 : Below w.heap.size w (w3.alloc (.cells #[] 58)) := hb3.alloc hb3.size _
  clear p1 p2 p3 hb3 c0 c1 c2 c3 c4 HR
  obtain ⟨c0, c1, c2, c3, c4⟩ := ae_cs q2
  have H1 := HP.out _ hb4
  clear HP
  go_wp2_with fail
  generalize (w3.alloc (.cells #[] 58)) = w4 at *
  refine H1.mono ?_
  rintro e w5 ⟨rfl, hq5, hT5⟩
  have hw4 := hb4.size
  have HT : Hid (Turns (fun z => z = ml ∨ z = mf) w w5) := (Turns.of_below hb4).trans hT5 fun b hb => .inl hb
  have l1 := q1.lt
  have l2 := q2.lt
  have l3 := q3.lt
  have hS5 : Blk w5.drew (w.heap.size) 31 (sdC A K C T) ∧ Blk w5.drew (w.heap.size + 1) 38 (aeC 1 (d : Int) i s (st : Int)) ∧ Blk w5.drew (w.heap.size + 1 + 1) 31 sd0 := ⟨Blk.drew ((hT5.block _ (by omega) (by omega)).trans q1), Blk.drew ((hT5.block _ (by omega) (by omega)).trans q2), Blk.drew ((hT5.block _ (by omega) (by omega)).trans q3)⟩
  have HTD : Hid (Turns (fun z => z = ml ∨ z = mf) w w5.drew) := HT.out.drew
  have HQ5 : Hid (Q w5.drew) := hQ _ _ hq5 (Below.refl _ _).drew
  clear hb4 hT5 hq5 c0 c1 c2 c3 c4 q1 q2 q3 H1 HT l1 l2 l3 hw4
  go_wp2_with fail
  refine wp_region_partsS (fun U => Blk U (w.heap.size) 31 (sdC A K C T) ∧ Blk U (w.heap.size + 1) 38 (aeC 1 (d : Int) i s (st : Int)) ∧ Blk U (w.heap.size + 1 + 1) 31 sd0) [([], 0, true), ([], 1, true), ([], 2, true), ([3], 4, true), ([], 5, false), ([], 6, false), ([], 7, false), ([], 8, false)] [9, 10, 11, 12, 13, 14, 15] [] (by kernel_rfl) (by kernel_rfl) hS5 (partsI_yield ?_)
  obtain ⟨c0, c1, c2, c3, c4⟩ := ae_cs hS5.2.1
  generalize w5.drew = w5 at *
  simp only [sgLHDiOne]
  go_wp2_with fail
  refine ⟨rfl, _, .pointer (some ⟨w.heap.size + 1, 1, none⟩), rfl, Or.inl ⟨by rfl, fun W hW => by go_simp⟩, partsI_yield ?_⟩
  simp only [Act.put, sgPHDiOne]
  simp only [sgLHDiOne]
  go_wp2_with fail
  refine ⟨rfl, _, .int .i64 (d : Int), rfl, Or.inl ⟨by rfl, fun W hW => by obtain ⟨d0, d1, d2, d3, d4⟩ := ae_cs hW.2.1; go_simp⟩, partsI_yield ?_⟩
  simp only [Act.put, sgPHDiOne]
  simp only [sgLHDiOne]
  go_wp2_with fail
  refine ⟨rfl, _, .pointer (some ⟨w.heap.size, 0, none⟩), rfl, Or.inl ⟨by rfl, fun W hW => by go_simp⟩, partsI_yield ?_⟩
  simp only [Act.put, sgPHDiOne]
  simp only [sgLHDiOne]
  go_wp2_with fail
  refine ⟨rfl, _, .slice (A d) (K d) (C d), rfl, Or.inl ⟨by rfl, fun W hW => by obtain ⟨e1, e2⟩ := sd_cs hW.1 hd; go_simp⟩, partsI_force ?_⟩
  simp only [Act.put, sgPHDiOne]
  simp only [sgLHDiOne]
  go_wp2_with fail
  refine ⟨rfl, hS5, partsI_force ?_⟩
  simp only [sgLHDiOne]
  go_wp2_with fail
  refine ⟨rfl, hS5, partsI_force ?_⟩
  simp only [sgLHDiOne]
  go_wp2_with fail
  refine ⟨rfl, hS5, partsI_force ?_⟩
  simp only [sgLHDiOne]
  go_wp2_with fail
  have H7 := HD.out _ HQ5.out
  have HT6 := HTD
  have HQ6 := HQ5.out
  have hS6 := hS5
  clear HD HTD HQ5
  skip
  refine H7.mono ?_
  rintro e w7 ⟨g5, c5, rfl, hR7, hg7, hb7⟩
  have hS7 : Blk w7 (w.heap.size) 31 (sdC A K C T) ∧ Blk w7 (w.heap.size + 1) 38 (aeC 1 (d : Int) i s (st : Int)) ∧ Blk w7 (w.heap.size + 1 + 1) 31 sd0 := ⟨hS6.1.below hb7 hS6.1.lt, hS6.2.1.below hb7 hS6.2.1.lt, hS6.2.2.below hb7 hS6.2.2.lt⟩
  have HT7 : Hid (Turns (fun z => z = ml ∨ z = mf) w w7) := HT6.out.trans (Turns.of_below (S := fun _ => False) hb7) fun b hb => absurd hb id
  have HQ7 : Hid (Q w7) := hQ _ _ HQ6 (hb7.mono HT6.out.size)
  have HR7 : Hid (R w7 g5) := hR7
  have hg6 : w.heap.size + 1 + 1 < g5 := Nat.lt_of_lt_of_le hS6.2.2.lt hg7
  clear HT6 HQ6 hb7 hR7 hg7 H7
  go_wp2_with fail
  refine ⟨rfl, hS7, partsI_last ?_⟩
  simp only [sgLHDiOne]
  go_wp2_with fail
  refine ⟨rfl, ?_⟩
  have u1 := hS7.1.drew
  have u2 := hS7.2.1.drew
  have u3 := hS7.2.2.drew
  have HT8 : Hid (Turns (fun z => z = ml ∨ z = mf) w w7.drew) := HT7.out.drew
  have HQ8 : Hid (Q w7.drew) := hQ _ _ HQ7.out (Below.refl _ _).drew
  have HR8 : Hid (R w7.drew g5) := hRR _ _ _ HR7.out rfl (Nat.le_refl _)
  clear hS5 hS6 hS7 c0 c1 c2 c3 c4 HT7 HQ7 HR7
  go_wp2_with fail
  obtain ⟨c0, c1, c2, c3, c4⟩ := ae_cs u2
  obtain ⟨e1, e2⟩ := sd_cs u1 hd
  have f1 : w7.drew.frozen? ⟨w.heap.size, d, none⟩ = false := u1.frozen d
  have v1 : Blk (w7.drew.setCell ⟨w.heap.size, d, none⟩ (.slice (some ⟨g5, 0, none⟩) k1 c5)) (w.heap.size) 31 _ := u1.put d (.slice (some ⟨g5, 0, none⟩) k1 c5)
  have v2 : Blk (w7.drew.setCell ⟨w.heap.size, d, none⟩ (.slice (some ⟨g5, 0, none⟩) k1 c5)) (w.heap.size + 1) 38 (aeC 1 (d : Int) i s (st : Int)) := u2.put_other d (.slice (some ⟨g5, 0, none⟩) k1 c5) (by omega)
  have v3 : Blk (w7.drew.setCell ⟨w.heap.size, d, none⟩ (.slice (some ⟨g5, 0, none⟩) k1 c5)) (w.heap.size + 1 + 1) 31 sd0 := u3.put_other d (.slice (some ⟨g5, 0, none⟩) k1 c5) (by omega)
  have e3 : (w7.drew.setCell ⟨w.heap.size, d, none⟩ (.slice (some ⟨g5, 0, none⟩) k1 c5)).cell? ⟨w.heap.size, 3 + d, none⟩ = some (.int .u64 ((T d : Nat) : Int)) := (v1.cell (3 + d)).trans (by rcases hd with rfl | rfl <;> rfl)
  have f3 : (w7.drew.setCell ⟨w.heap.size, d, none⟩ (.slice (some ⟨g5, 0, none⟩) k1 c5)).frozen? ⟨w.heap.size, 3 + d, none⟩ = false := v1.frozen (3 + d)
  have y1 : Blk ((w7.drew.setCell ⟨w.heap.size, d, none⟩ (.slice (some ⟨g5, 0, none⟩) k1 c5)).setCell ⟨w.heap.size, 3 + d, none⟩ (.int .u64 ((st : Nat) : Int))) (w.heap.size) 31 (sdC (fU A d (some ⟨g5, 0, none⟩)) (fU K d k1) (fU C d c5) (fU T d st)) := by
    have h := v1.put (3 + d) (.int .u64 ((st : Nat) : Int))
    rw [sd_up A K C T d hd] at h
    exact h
  have y3 : Blk ((w7.drew.setCell ⟨w.heap.size, d, none⟩ (.slice (some ⟨g5, 0, none⟩) k1 c5)).setCell ⟨w.heap.size, 3 + d, none⟩ (.int .u64 ((st : Nat) : Int))) (w.heap.size + 1 + 1) 31 sd0 := v3.put_other (3 + d) (.int .u64 ((st : Nat) : Int)) (by omega)
  have z3 := y3.set (sdC (fU A d (some ⟨g5, 0, none⟩)) (fU K d k1) (fU C d c5) (fU T d st))
  have HTE : Hid (Turns (fun z => z = ml ∨ z = mf) w (((w7.drew.setCell ⟨w.heap.size, d, none⟩ (.slice (some ⟨g5, 0, none⟩) k1 c5)).setCell ⟨w.heap.size, 3 + d, none⟩ (.int .u64 ((st : Nat) : Int))).setRow (w.heap.size + 1 + 1) (sdC (fU A d (some ⟨g5, 0, none⟩)) (fU K d k1) (fU C d c5) (fU T d st)))) := one_turns (one_turns2 HT8.out d (3 + d) _ _) (by omega) _
  have HQE : Hid (Q (((w7.drew.setCell ⟨w.heap.size, d, none⟩ (.slice (some ⟨g5, 0, none⟩) k1 c5)).setCell ⟨w.heap.size, 3 + d, none⟩ (.int .u64 ((st : Nat) : Int))).setRow (w.heap.size + 1 + 1) (sdC (fU A d (some ⟨g5, 0, none⟩)) (fU K d k1) (fU C d c5) (fU T d st)))) := hQ _ _ HQ8.out (below_setRow (B := w.heap.size) (((Below.refl w.heap.size w7.drew).setCell (p := ⟨w.heap.size, d, none⟩) (Nat.le_refl _) _).setCell (p := ⟨w.heap.size, 3 + d, none⟩) (Nat.le_refl _) _) (by omega) _)
  have HRE : Hid (R (((w7.drew.setCell ⟨w.heap.size, d, none⟩ (.slice (some ⟨g5, 0, none⟩) k1 c5)).setCell ⟨w.heap.size, 3 + d, none⟩ (.int .u64 ((st : Nat) : Int))).setRow (w.heap.size + 1 + 1) (sdC (fU A d (some ⟨g5, 0, none⟩)) (fU K d k1) (fU C d c5) (fU T d st))) g5) := hRR _ _ _ HR8.out (((setRow_other _ _ _ _ (by omega)).trans (Below.heap_setCell _ _ _ _ (by show g5 ≠ w.heap.size; omega))).trans (Below.heap_setCell _ _ _ _ (by show g5 ≠ w.heap.size; omega))) (by simp)
  refine wp_region_partsS (fun U => Blk U (w.heap.size + 1) 38 (aeC 1 (d : Int) i s (st : Int))) [([4], 0, true), ([], 1, true), ([], 2, true), ([], 3, true), ([], 5, true), ([], 6, true), ([], 7, true), ([8], 10, true), ([], 9, false), ([11], 12, false)] [] [] (by kernel_rfl) (by kernel_rfl) u2 (partsI_yield ?_)
  generalize w7.drew = w8 at *
  simp only [sgLHDiOne]
  go_wp2_with fail
  refine ⟨rfl, _, .pointer (some ⟨w.heap.size + 1, 1, none⟩), rfl, Or.inl ⟨by rfl, fun W hW => by go_simp⟩, partsI_yield ?_⟩
  simp only [Act.put, sgPHDiOne]
  simp only [sgLHDiOne]
  go_wp2_with fail
  refine ⟨rfl, _, .int .i64 (d : Int), rfl, Or.inl ⟨by rfl, fun W hW => by obtain ⟨d0, d1, d2, d3, d4⟩ := ae_cs hW; go_simp⟩, partsI_yield ?_⟩
  simp only [Act.put, sgPHDiOne]
  simp only [sgLHDiOne]
  go_wp2_with fail
  refine ⟨rfl, _, .pointer (some ⟨w.heap.size + 1, 1, none⟩), rfl, Or.inl ⟨by rfl, fun W hW => by go_simp⟩, partsI_yield ?_⟩
  simp only [Act.put, sgPHDiOne]
  simp only [sgLHDiOne]
  go_wp2_with fail
  refine ⟨rfl, _, .int .i64 (d : Int), rfl, Or.inl ⟨by rfl, fun W hW => by obtain ⟨d0, d1, d2, d3, d4⟩ := ae_cs hW; go_simp⟩, partsI_yield ?_⟩
  simp only [Act.put, sgPHDiOne]
  simp only [sgLHDiOne]
  go_wp2_with fail
  refine ⟨rfl, _, .pointer (some ⟨w.heap.size + 1, 4, none⟩), rfl, Or.inl ⟨by rfl, fun W hW => by go_simp⟩, partsI_yield ?_⟩
  simp only [Act.put, sgPHDiOne]
  simp only [sgLHDiOne]
  go_wp2_with fail
  refine ⟨rfl, _, .int .u64 ((st : Nat) : Int), rfl, Or.inl ⟨by rfl, fun W hW => by obtain ⟨d0, d1, d2, d3, d4⟩ := ae_cs hW; go_simp⟩, partsI_yield ?_⟩
  simp only [Act.put, sgPHDiOne]
  simp only [sgLHDiOne]
  go_wp2_with fail
  refine ⟨rfl, _, .pointer (some ⟨w.heap.size, 0, none⟩), rfl, Or.inl ⟨by rfl, fun W hW => by go_simp⟩, partsI_yield ?_⟩
  simp only [Act.put, sgPHDiOne]
  simp only [sgLHDiOne]
  go_wp2_with fail
  refine ⟨rfl, _, .pointer (some ⟨w.heap.size, 3, none⟩), rfl, Or.inl ⟨by rfl, fun W hW => by go_simp⟩, partsI_force ?_⟩
  simp only [Act.put, sgPHDiOne]
  simp only [sgLHDiOne]
  go_wp2_with fail
  refine ⟨rfl, v2, partsI_force ?_⟩
  simp only [sgLHDiOne]
  go_wp2_with fail
  refine ⟨rfl, v2.put_other (3 + d) _ (by omega), partsI_last ?_⟩
  simp only [sgLHDiOne]
  go_wp2_with fail
  refine ⟨rfl, ?_⟩
  clear u1 u2 u3 v1 v2 v3 e1 e2 e3 f1 f3 c0 c1 c2 c3 c4 HT8 HQ8 HR8
  generalize ((w8.setCell ⟨w.heap.size, d, none⟩ (.slice (some ⟨g5, 0, none⟩) k1 c5)).setCell ⟨w.heap.size, 3 + d, none⟩ (.int .u64 ((st : Nat) : Int))) = w9 at *
  go_wp2_with (first | (refine wpList_load_row (by rfl) 31 _ (by rfl) (w.heap.size) (by rfl) 31 (sdC (fU A d (some ⟨g5, 0, none⟩)) (fU K d k1) (fU C d c5) (fU T d st)) (0, 0) _ (by exact y1) Tryz.underlying31 (by rfl) (size_sd.trans (by rfl)) ?_; simp only [Act.put, sgPHDiOne]) | (refine wpList_store_row (by rfl) 31 _ _ (by rfl) (w.heap.size + 1 + 1) (sdC (fU A d (some ⟨g5, 0, none⟩)) (fU K d k1) (fU C d c5) (fU T d st)) (by rfl) (by rfl) 31 (sd0) (by exact y3) (size_sd.trans (by rfl)) (by rfl) (sd_all _ _ _ _) ?_; simp only [Act.put, sgPHDiOne]) | fail)
  try simp only [Exit.inBlock, Exit.then]
  refine bodyPost_ret (results_row2 Tryz.results12 _ _ (w.heap.size + 1 + 1) 31 (sdC (fU A d (some ⟨g5, 0, none⟩)) (fU K d k1) (fU C d c5) (fU T d st)) (0, 0) _ rfl z3 Tryz.underlying31 rfl (size_sd.trans (by rfl))) rfl ?_
  exact ⟨g5, c5, rfl, HQE.out, HRE.out, by omega, HTE.out⟩
set_option maxRecDepth 100000 in
set_option maxHeartbeats 8000000 in
theorem oneSwap_ok {xp : Value} {A : Nat → Option Addr} {K C T : Nat → Nat} (d : Nat) (hd : d = 1 ∨ d = 2) (i : Int) (st : Nat) (s : ByteArray) (kd : Int) (hk0 : kd ≠ 0) (hk1 : kd ≠ 1) (w : World) {ml mf k1 : Nat} (Q : World → Prop) (hQ : ∀ V V', Q V → Below w.heap.size V V' → Q V') (hT : ml < w.heap.size ∧ mf < w.heap.size) (r0 : Int) (R : World → Nat → Prop) (hRR : ∀ V V' g, R V g → V'.heap[g]? = V.heap[g]? → V.heap.size ≤ V'.heap.size → R V' g)
    (HR0 : ∀ V : World, Calls Tryz.prog 19 #[.int .i64 (d : Int)] V fun e w' => e = .returned (.int .i64 0) ∧ w' = V)
    (HP0 : ∀ V, Below w.heap.size w V → Calls Tryz.prog 54 #[xp, .int .i64 (d : Int), .agg #[.int .i64 i, .string s], .int .u64 ((st : Nat) : Int)] V fun e w' => e = .returned (.tuple #[.int .i64 r0, .int .i64 0]) ∧ Q w' ∧ Turns (fun z => z = ml ∨ z = mf) V w')
    (HD0 : ∀ V, Q V → Calls Tryz.prog 55 #[.slice (A d) (K d) (C d), .agg #[.int .i64 i, .string s]] V fun e w' => ∃ g5 c5 : Nat, e = .returned (.tuple #[.slice (some ⟨g5, 0, none⟩) k1 c5, .int .i64 r0, .int .i64 0]) ∧ R w' g5 ∧ V.heap.size ≤ g5 ∧ Below V.heap.size V w') :
    Calls Tryz.prog 12 #[xp, .agg (sdC A K C T), .agg (aeC kd (d : Int) i s ((st : Nat) : Int))] w fun e w' => ∃ g5 c5 : Nat, e = .returned (.tuple #[.agg (sdC (fU A d (some ⟨g5, 0, none⟩)) (fU K d k1) (fU C d c5) (fU T d st)), .bool true]) ∧ Q w' ∧ R w' g5 ∧ w.heap.size ≤ g5 ∧ Turns (fun z => z = ml ∨ z = mf) w w' := by
  have HR : Hid (∀ V : World, Calls Tryz.prog 19 #[.int .i64 (d : Int)] V fun e w' => e = .returned (.int .i64 0) ∧ w' = V) := HR0
  have HP : Hid (∀ V, Below w.heap.size w V → Calls Tryz.prog 54 #[xp, .int .i64 (d : Int), .agg #[.int .i64 i, .string s], .int .u64 ((st : Nat) : Int)] V fun e w' => e = .returned (.tuple #[.int .i64 r0, .int .i64 0]) ∧ Q w' ∧ Turns (fun z => z = ml ∨ z = mf) V w') := HP0
  have HD : Hid (∀ V, Q V → Calls Tryz.prog 55 #[.slice (A d) (K d) (C d), .agg #[.int .i64 i, .string s]] V fun e w' => ∃ g5 c5 : Nat, e = .returned (.tuple #[.slice (some ⟨g5, 0, none⟩) k1 c5, .int .i64 r0, .int .i64 0]) ∧ R w' g5 ∧ V.heap.size ≤ g5 ∧ Below V.heap.size V w') := HD0
  have HL : Hid (∀ w : World, Calls Tryz.prog 22 #[.agg #[.int .i64 i, .string s]] w fun e w' => e = .returned (.agg #[.int .i64 i, .string s]) ∧ Below w.heap.size w w') := link17_any i s
  have g0 : (0 : Int) ≤ (d : Int) := by omega
  have g3 : (d : Int) < 3 := by omega
  clear HR0 HP0 HD0
  have hzs := sd0_zero
  have p1 : Blk (((w.alloc (.cells (sdC A K C T) 31)).alloc (.cells (aeC kd (d : Int) i s ((st : Nat) : Int)) 38)).alloc (.cells sd0 31)) (w.heap.size) 31 (sdC A K C T) := Blk.alloc (Blk.alloc (Blk.new _ _ _) _) _
  have p2 : Blk (((w.alloc (.cells (sdC A K C T) 31)).alloc (.cells (aeC kd (d : Int) i s ((st : Nat) : Int)) 38)).alloc (.cells sd0 31)) (w.heap.size + 1) 38 (aeC kd (d : Int) i s ((st : Nat) : Int)) := Blk.alloc (Blk.new1 _ _ _ _) _
  have p3 : Blk (((w.alloc (.cells (sdC A K C T) 31)).alloc (.cells (aeC kd (d : Int) i s ((st : Nat) : Int)) 38)).alloc (.cells sd0 31)) (w.heap.size + 1 + 1) 31 sd0 := Blk.new2 _ _ _ _ _
  have hb3 : Below w.heap.size w (((w.alloc (.cells (sdC A K C T) 31)).alloc (.cells (aeC kd (d : Int) i s ((st : Nat) : Int)) 38)).alloc (.cells sd0 31)) := below_new3 _ _ _ _
  obtain ⟨c0, c1, c2, c3, c4⟩ := ae_cs p2
  go_enter Tryz.func12, Tryz.ntmps12
  go_wp2_with fail
  generalize (((w.alloc (.cells (sdC A K C T) 31)).alloc (.cells (aeC kd (d : Int) i s ((st : Nat) : Int)) 38)).alloc (.cells sd0 31)) = w3 at *
  refine (HR.out _).mono ?_
  rintro e w4 ⟨rfl, hw⟩
  subst w4
  have q1 := p1.alloc (.cells #[] 58)
  have q2 := p2.alloc (.cells #[] 58)
  have q3 := p3.alloc (.cells #[] 58)
  have hb4 : Below w.heap.size w (w3.alloc (.cells #[] 58)) := hb3.alloc hb3.size _
  clear p1 p2 p3 hb3 c0 c1 c2 c3 c4 HR
  obtain ⟨c0, c1, c2, c3, c4⟩ := ae_cs q2
  have H1 := HP.out _ hb4
  clear HP
  go_wp2_with fail
  generalize (w3.alloc (.cells #[] 58)) = w4 at *
  refine H1.mono ?_
  rintro e w5 ⟨rfl, hq5, hT5⟩
  have hw4 := hb4.size
  have HT : Hid (Turns (fun z => z = ml ∨ z = mf) w w5) := (Turns.of_below hb4).trans hT5 fun b hb => .inl hb
  have l1 := q1.lt
  have l2 := q2.lt
  have l3 := q3.lt
  have hS5 : Blk w5.drew (w.heap.size) 31 (sdC A K C T) ∧ Blk w5.drew (w.heap.size + 1) 38 (aeC kd (d : Int) i s (st : Int)) ∧ Blk w5.drew (w.heap.size + 1 + 1) 31 sd0 := ⟨Blk.drew ((hT5.block _ (by omega) (by omega)).trans q1), Blk.drew ((hT5.block _ (by omega) (by omega)).trans q2), Blk.drew ((hT5.block _ (by omega) (by omega)).trans q3)⟩
  have HTD : Hid (Turns (fun z => z = ml ∨ z = mf) w w5.drew) := HT.out.drew
  have HQ5 : Hid (Q w5.drew) := hQ _ _ hq5 (Below.refl _ _).drew
  clear hb4 hT5 hq5 c0 c1 c2 c3 c4 q1 q2 q3 H1 HT l1 l2 l3 hw4
  go_wp2_with fail
  refine wp_region_partsS (fun U => Blk U (w.heap.size) 31 (sdC A K C T) ∧ Blk U (w.heap.size + 1) 38 (aeC kd (d : Int) i s (st : Int)) ∧ Blk U (w.heap.size + 1 + 1) 31 sd0) [([], 0, true), ([], 1, true), ([], 2, true), ([3], 4, true), ([], 5, false), ([], 6, false), ([], 7, false), ([], 8, false)] [9, 10, 11, 12, 13, 14, 15] [] (by kernel_rfl) (by kernel_rfl) hS5 (partsI_yield ?_)
  obtain ⟨c0, c1, c2, c3, c4⟩ := ae_cs hS5.2.1
  generalize w5.drew = w5 at *
  simp only [sgLHDiOne]
  go_wp2_with fail
  refine ⟨rfl, _, .pointer (some ⟨w.heap.size + 1, 1, none⟩), rfl, Or.inl ⟨by rfl, fun W hW => by go_simp⟩, partsI_yield ?_⟩
  simp only [Act.put, sgPHDiOne]
  simp only [sgLHDiOne]
  go_wp2_with fail
  refine ⟨rfl, _, .int .i64 (d : Int), rfl, Or.inl ⟨by rfl, fun W hW => by obtain ⟨d0, d1, d2, d3, d4⟩ := ae_cs hW.2.1; go_simp⟩, partsI_yield ?_⟩
  simp only [Act.put, sgPHDiOne]
  simp only [sgLHDiOne]
  go_wp2_with fail
  refine ⟨rfl, _, .pointer (some ⟨w.heap.size, 0, none⟩), rfl, Or.inl ⟨by rfl, fun W hW => by go_simp⟩, partsI_yield ?_⟩
  simp only [Act.put, sgPHDiOne]
  simp only [sgLHDiOne]
  go_wp2_with fail
  refine ⟨rfl, _, .slice (A d) (K d) (C d), rfl, Or.inl ⟨by rfl, fun W hW => by obtain ⟨e1, e2⟩ := sd_cs hW.1 hd; go_simp⟩, partsI_force ?_⟩
  simp only [Act.put, sgPHDiOne]
  simp only [sgLHDiOne]
  go_wp2_with fail
  refine ⟨rfl, hS5, partsI_force ?_⟩
  simp only [sgLHDiOne]
  go_wp2_with fail
  refine ⟨rfl, hS5, partsI_force ?_⟩
  simp only [sgLHDiOne]
  go_wp2_with fail
  refine (HL.out _).mono ?_
  rintro e w6 ⟨rfl, hb6⟩
  have hS6 : Blk w6 (w.heap.size) 31 (sdC A K C T) ∧ Blk w6 (w.heap.size + 1) 38 (aeC kd (d : Int) i s (st : Int)) ∧ Blk w6 (w.heap.size + 1 + 1) 31 sd0 := ⟨hS5.1.below hb6 hS5.1.lt, hS5.2.1.below hb6 hS5.2.1.lt, hS5.2.2.below hb6 hS5.2.2.lt⟩
  have HT6 : Hid (Turns (fun z => z = ml ∨ z = mf) w w6) := HTD.out.trans (Turns.of_below (S := fun _ => False) hb6) fun b hb => absurd hb id
  have HQ6 := hQ _ _ HQ5.out (hb6.mono HTD.out.size)
  have H7 := HD.out _ HQ6
  clear HL HD HTD HQ5 hb6
  go_wp2_with fail
  refine ⟨rfl, hS6, partsI_force ?_⟩
  simp only [sgLHDiOne]
  go_wp2_with fail
  refine H7.mono ?_
  rintro e w7 ⟨g5, c5, rfl, hR7, hg7, hb7⟩
  have hS7 : Blk w7 (w.heap.size) 31 (sdC A K C T) ∧ Blk w7 (w.heap.size + 1) 38 (aeC kd (d : Int) i s (st : Int)) ∧ Blk w7 (w.heap.size + 1 + 1) 31 sd0 := ⟨hS6.1.below hb7 hS6.1.lt, hS6.2.1.below hb7 hS6.2.1.lt, hS6.2.2.below hb7 hS6.2.2.lt⟩
  have HT7 : Hid (Turns (fun z => z = ml ∨ z = mf) w w7) := HT6.out.trans (Turns.of_below (S := fun _ => False) hb7) fun b hb => absurd hb id
  have HQ7 : Hid (Q w7) := hQ _ _ HQ6 (hb7.mono HT6.out.size)
  have HR7 : Hid (R w7 g5) := hR7
  have hg6 : w.heap.size + 1 + 1 < g5 := Nat.lt_of_lt_of_le hS6.2.2.lt hg7
  clear HT6 HQ6 hb7 hR7 hg7 H7
  go_wp2_with fail
  refine ⟨rfl, hS7, partsI_last ?_⟩
  simp only [sgLHDiOne]
  go_wp2_with fail
  refine ⟨rfl, ?_⟩
  have u1 := hS7.1.drew
  have u2 := hS7.2.1.drew
  have u3 := hS7.2.2.drew
  have HT8 : Hid (Turns (fun z => z = ml ∨ z = mf) w w7.drew) := HT7.out.drew
  have HQ8 : Hid (Q w7.drew) := hQ _ _ HQ7.out (Below.refl _ _).drew
  have HR8 : Hid (R w7.drew g5) := hRR _ _ _ HR7.out rfl (Nat.le_refl _)
  clear hS5 hS6 hS7 c0 c1 c2 c3 c4 HT7 HQ7 HR7
  go_wp2_with fail
  obtain ⟨c0, c1, c2, c3, c4⟩ := ae_cs u2
  obtain ⟨e1, e2⟩ := sd_cs u1 hd
  have f1 : w7.drew.frozen? ⟨w.heap.size, d, none⟩ = false := u1.frozen d
  have v1 : Blk (w7.drew.setCell ⟨w.heap.size, d, none⟩ (.slice (some ⟨g5, 0, none⟩) k1 c5)) (w.heap.size) 31 _ := u1.put d (.slice (some ⟨g5, 0, none⟩) k1 c5)
  have v2 : Blk (w7.drew.setCell ⟨w.heap.size, d, none⟩ (.slice (some ⟨g5, 0, none⟩) k1 c5)) (w.heap.size + 1) 38 (aeC kd (d : Int) i s (st : Int)) := u2.put_other d (.slice (some ⟨g5, 0, none⟩) k1 c5) (by omega)
  have v3 : Blk (w7.drew.setCell ⟨w.heap.size, d, none⟩ (.slice (some ⟨g5, 0, none⟩) k1 c5)) (w.heap.size + 1 + 1) 31 sd0 := u3.put_other d (.slice (some ⟨g5, 0, none⟩) k1 c5) (by omega)
  have e3 : (w7.drew.setCell ⟨w.heap.size, d, none⟩ (.slice (some ⟨g5, 0, none⟩) k1 c5)).cell? ⟨w.heap.size, 3 + d, none⟩ = some (.int .u64 ((T d : Nat) : Int)) := (v1.cell (3 + d)).trans (by rcases hd with rfl | rfl <;> rfl)
  have f3 : (w7.drew.setCell ⟨w.heap.size, d, none⟩ (.slice (some ⟨g5, 0, none⟩) k1 c5)).frozen? ⟨w.heap.size, 3 + d, none⟩ = false := v1.frozen (3 + d)
  have y1 : Blk ((w7.drew.setCell ⟨w.heap.size, d, none⟩ (.slice (some ⟨g5, 0, none⟩) k1 c5)).setCell ⟨w.heap.size, 3 + d, none⟩ (.int .u64 ((st : Nat) : Int))) (w.heap.size) 31 (sdC (fU A d (some ⟨g5, 0, none⟩)) (fU K d k1) (fU C d c5) (fU T d st)) := by
    have h := v1.put (3 + d) (.int .u64 ((st : Nat) : Int))
    rw [sd_up A K C T d hd] at h
    exact h
  have y3 : Blk ((w7.drew.setCell ⟨w.heap.size, d, none⟩ (.slice (some ⟨g5, 0, none⟩) k1 c5)).setCell ⟨w.heap.size, 3 + d, none⟩ (.int .u64 ((st : Nat) : Int))) (w.heap.size + 1 + 1) 31 sd0 := v3.put_other (3 + d) (.int .u64 ((st : Nat) : Int)) (by omega)
  have z3 := y3.set (sdC (fU A d (some ⟨g5, 0, none⟩)) (fU K d k1) (fU C d c5) (fU T d st))
  have HTE : Hid (Turns (fun z => z = ml ∨ z = mf) w (((w7.drew.setCell ⟨w.heap.size, d, none⟩ (.slice (some ⟨g5, 0, none⟩) k1 c5)).setCell ⟨w.heap.size, 3 + d, none⟩ (.int .u64 ((st : Nat) : Int))).setRow (w.heap.size + 1 + 1) (sdC (fU A d (some ⟨g5, 0, none⟩)) (fU K d k1) (fU C d c5) (fU T d st)))) := one_turns (one_turns2 HT8.out d (3 + d) _ _) (by omega) _
  have HQE : Hid (Q (((w7.drew.setCell ⟨w.heap.size, d, none⟩ (.slice (some ⟨g5, 0, none⟩) k1 c5)).setCell ⟨w.heap.size, 3 + d, none⟩ (.int .u64 ((st : Nat) : Int))).setRow (w.heap.size + 1 + 1) (sdC (fU A d (some ⟨g5, 0, none⟩)) (fU K d k1) (fU C d c5) (fU T d st)))) := hQ _ _ HQ8.out (below_setRow (B := w.heap.size) (((Below.refl w.heap.size w7.drew).setCell (p := ⟨w.heap.size, d, none⟩) (Nat.le_refl _) _).setCell (p := ⟨w.heap.size, 3 + d, none⟩) (Nat.le_refl _) _) (by omega) _)
  have HRE : Hid (R (((w7.drew.setCell ⟨w.heap.size, d, none⟩ (.slice (some ⟨g5, 0, none⟩) k1 c5)).setCell ⟨w.heap.size, 3 + d, none⟩ (.int .u64 ((st : Nat) : Int))).setRow (w.heap.size + 1 + 1) (sdC (fU A d (some ⟨g5, 0, none⟩)) (fU K d k1) (fU C d c5) (fU T d st))) g5) := hRR _ _ _ HR8.out (((setRow_other _ _ _ _ (by omega)).trans (Below.heap_setCell _ _ _ _ (by show g5 ≠ w.heap.size; omega))).trans (Below.heap_setCell _ _ _ _ (by show g5 ≠ w.heap.size; omega))) (by simp)
  refine wp_region_partsS (fun U => Blk U (w.heap.size + 1) 38 (aeC kd (d : Int) i s (st : Int))) [([4], 0, true), ([], 1, true), ([], 2, true), ([], 3, true), ([], 5, true), ([], 6, true), ([], 7, true), ([8], 10, true), ([], 9, false), ([11], 12, false)] [] [] (by kernel_rfl) (by kernel_rfl) u2 (partsI_yield ?_)
  generalize w7.drew = w8 at *
  simp only [sgLHDiOne]
  go_wp2_with fail
  refine ⟨rfl, _, .pointer (some ⟨w.heap.size + 1, 1, none⟩), rfl, Or.inl ⟨by rfl, fun W hW => by go_simp⟩, partsI_yield ?_⟩
  simp only [Act.put, sgPHDiOne]
  simp only [sgLHDiOne]
  go_wp2_with fail
  refine ⟨rfl, _, .int .i64 (d : Int), rfl, Or.inl ⟨by rfl, fun W hW => by obtain ⟨d0, d1, d2, d3, d4⟩ := ae_cs hW; go_simp⟩, partsI_yield ?_⟩
  simp only [Act.put, sgPHDiOne]
  simp only [sgLHDiOne]
  go_wp2_with fail
  refine ⟨rfl, _, .pointer (some ⟨w.heap.size + 1, 1, none⟩), rfl, Or.inl ⟨by rfl, fun W hW => by go_simp⟩, partsI_yield ?_⟩
  simp only [Act.put, sgPHDiOne]
  simp only [sgLHDiOne]
  go_wp2_with fail
  refine ⟨rfl, _, .int .i64 (d : Int), rfl, Or.inl ⟨by rfl, fun W hW => by obtain ⟨d0, d1, d2, d3, d4⟩ := ae_cs hW; go_simp⟩, partsI_yield ?_⟩
  simp only [Act.put, sgPHDiOne]
  simp only [sgLHDiOne]
  go_wp2_with fail
  refine ⟨rfl, _, .pointer (some ⟨w.heap.size + 1, 4, none⟩), rfl, Or.inl ⟨by rfl, fun W hW => by go_simp⟩, partsI_yield ?_⟩
  simp only [Act.put, sgPHDiOne]
  simp only [sgLHDiOne]
  go_wp2_with fail
  refine ⟨rfl, _, .int .u64 ((st : Nat) : Int), rfl, Or.inl ⟨by rfl, fun W hW => by obtain ⟨d0, d1, d2, d3, d4⟩ := ae_cs hW; go_simp⟩, partsI_yield ?_⟩
  simp only [Act.put, sgPHDiOne]
  simp only [sgLHDiOne]
  go_wp2_with fail
  refine ⟨rfl, _, .pointer (some ⟨w.heap.size, 0, none⟩), rfl, Or.inl ⟨by rfl, fun W hW => by go_simp⟩, partsI_yield ?_⟩
  simp only [Act.put, sgPHDiOne]
  simp only [sgLHDiOne]
  go_wp2_with fail
  refine ⟨rfl, _, .pointer (some ⟨w.heap.size, 3, none⟩), rfl, Or.inl ⟨by rfl, fun W hW => by go_simp⟩, partsI_force ?_⟩
  simp only [Act.put, sgPHDiOne]
  simp only [sgLHDiOne]
  go_wp2_with fail
  refine ⟨rfl, v2, partsI_force ?_⟩
  simp only [sgLHDiOne]
  go_wp2_with fail
  refine ⟨rfl, v2.put_other (3 + d) _ (by omega), partsI_last ?_⟩
  simp only [sgLHDiOne]
  go_wp2_with fail
  refine ⟨rfl, ?_⟩
  clear u1 u2 u3 v1 v2 v3 e1 e2 e3 f1 f3 c0 c1 c2 c3 c4 HT8 HQ8 HR8
  generalize ((w8.setCell ⟨w.heap.size, d, none⟩ (.slice (some ⟨g5, 0, none⟩) k1 c5)).setCell ⟨w.heap.size, 3 + d, none⟩ (.int .u64 ((st : Nat) : Int))) = w9 at *
  go_wp2_with (first | (refine wpList_load_row (by rfl) 31 _ (by rfl) (w.heap.size) (by rfl) 31 (sdC (fU A d (some ⟨g5, 0, none⟩)) (fU K d k1) (fU C d c5) (fU T d st)) (0, 0) _ (by exact y1) Tryz.underlying31 (by rfl) (size_sd.trans (by rfl)) ?_; simp only [Act.put, sgPHDiOne]) | (refine wpList_store_row (by rfl) 31 _ _ (by rfl) (w.heap.size + 1 + 1) (sdC (fU A d (some ⟨g5, 0, none⟩)) (fU K d k1) (fU C d c5) (fU T d st)) (by rfl) (by rfl) 31 (sd0) (by exact y3) (size_sd.trans (by rfl)) (by rfl) (sd_all _ _ _ _) ?_; simp only [Act.put, sgPHDiOne]) | fail)
  try simp only [Exit.inBlock, Exit.then]
  refine bodyPost_ret (results_row2 Tryz.results12 _ _ (w.heap.size + 1 + 1) 31 (sdC (fU A d (some ⟨g5, 0, none⟩)) (fU K d k1) (fU C d c5) (fU T d st)) (0, 0) _ rfl z3 Tryz.underlying31 rfl (size_sd.trans (by rfl))) rfl ?_
  exact ⟨g5, c5, rfl, HQE.out, HRE.out, by omega, HTE.out⟩
end Go.Proofs.YtojnlmfahgeidaaGreatDoor
