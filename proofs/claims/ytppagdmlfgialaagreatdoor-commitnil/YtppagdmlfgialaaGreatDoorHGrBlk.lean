/- Grown trees: what goes where all is taken away from a committed leaf; a tree's blocks. -/
import Derived.Test.YtppagdmlfgialaaGreatDoorHGrNone
import Derived.Test.YtppagdmlfgialaaGreatDoorHTrRGet
import Derived.Handy
import Derived.Test.YtppagdmlfgialaaGreatDoorHDkKeep
import Derived.Test.YtppagdmlfgialaaGreatDoorHIntMap
import Derived.Test.YtppagdmlfgialaaGreatDoorHNdKit
import Derived.KernelRfl
import Derived.Test.YtppagdmlfgialaaGreatDoorHBlkGrp
import Derived.Test.YtppagdmlfgialaaGreatDoorHLvStep

namespace Go.Proofs.YtppagdmlfgialaaGreatDoor
theorem sgLHGrBlk : (∀ (α : Type) (a : α) (l r : List α), (a :: l) ++ r = a :: (l ++ r)) ∧ (∀ (α : Type) (l : List α), [] ++ l = l) ∧ (∀ (α : Type) (l : List α), l ++ [] = l) ∧ (∀ (α β : Type) (f : α → Option β) (a : α) (l : List α), (a :: l).filterMap f = match f a with | none => l.filterMap f | some b => b :: l.filterMap f) ∧ (∀ (α β : Type) (f : α → Option β), [].filterMap f = []) ∧ (∀ (α : Type) (l : List α) (i : Nat), l.toArray[i]? = l[i]?) ∧ (∀ (α : Type) (a : α) (l : List α), (a :: l)[0]? = some a) ∧ (∀ (α : Type) (a : α) (l : List α) (i : Nat), (a :: l)[i + 1]? = l[i]?) :=
  ⟨fun _ _ _ _ => List.cons_append, fun _ _ => List.nil_append _, fun _ _ => List.append_nil _, fun _ _ _ _ _ => List.filterMap_cons, fun _ _ _ => List.filterMap_nil, fun _ _ _ => List.getElem?_toArray, fun _ _ _ => List.getElem?_cons_zero, fun _ _ _ _ => List.getElem?_cons_succ⟩
theorem sgPHGrBlk : (∀ (α : Type) (l : List α) (i : Nat) (a : α), l.toArray.setIfInBounds i a = (l.set i a).toArray) ∧ (∀ (α : Type) (a b : α) (l : List α), (a :: l).set 0 b = b :: l) ∧ (∀ (α : Type) (a b : α) (l : List α) (i : Nat), (a :: l).set (i + 1) b = a :: l.set i b) :=
  ⟨fun _ _ _ _ => List.setIfInBounds_toArray _ _ _, fun _ _ _ _ => List.set_cons_zero, fun _ _ _ _ _ => List.set_cons_succ⟩
end Go.Proofs.YtppagdmlfgialaaGreatDoor
namespace Go.Proofs.YtppagdmlfgialaaGreatDoor
open Go Go.RowKit
set_option linter.unusedSimpArgs false
set_option linter.unusedVariables false

/-- the cells of a part that is not there, where the committed tree has a reference -/
def pgF (R : Rf) : Nat → Value := fun i => if i < 2 then .int .i64 0 else if i < 35 then rfF R.1 R.2 (i - 2) else ptF false false (fun _ => 0) i
def pgC (R : Rf) : Array Value := va 327 (pgF R)
section
variable {w : World} {b t : Nat} {R : Rf}
theorem pg_c0 (H : Blk w b t (pgC R)) : w.cell? ⟨b, 0, none⟩ = some (.int .i64 0) := H.cv (n := 327) (by decide)
theorem pg_c1 (H : Blk w b t (pgC R)) : w.cell? ⟨b, 1, none⟩ = some (.int .i64 0) := H.cv (n := 327) (by decide)
theorem pg_c68 (H : Blk w b t (pgC R)) : w.cell? ⟨b, 68, none⟩ = some (.bool false) := H.cv (n := 327) (by decide)
theorem pg_c326 (H : Blk w b t (pgC R)) : w.cell? ⟨b, 326, none⟩ = some (.slice none 0 0) := H.cv (n := 327) (by decide)
theorem pg_old (H : Blk w b t (pgC R)) : w.rangeAt b 2 ((List.range 33).map (rfF R.1 R.2)) := by
  have := Blk.range (n := 327) (f := pgF R) H 2 33 (by decide)
  rw [show ((List.range 33).map fun j => pgF R (2 + j)) = (List.range 33).map (rfF R.1 R.2) from List.map_congr_left fun j hj => ?_] at this
  · exact this
  · have hj := List.mem_range.1 hj
    unfold pgF
    rw [if_neg (by omega), if_pos (by omega), show 2 + j - 2 = j by omega]
theorem pg_put (H : Blk w b t (ptC false false fun _ => 0)) : Blk (w.setCells b 2 (rfC R).toList) b t (pgC R) := by
  have := Blk.cells_put (n := 327) (rfC R).toList 2 w (ptF false false fun _ => 0) H
  rw [show va 327 (over (ptF false false fun _ => 0) 2 (rfC R).toList) = pgC R from va_congr fun i hi => ?_] at this
  · exact this
  · unfold over rfC
    rw [va_toList]
    simp only [List.length_map, List.length_range]
    by_cases hj : 2 ≤ i ∧ i < 2 + 33
    · rw [if_pos hj, List.getD_eq_getElem?_getD, List.getElem?_map, List.getElem?_range (by omega)]
      unfold pgF
      rw [if_neg (by omega), if_pos (by omega)]
      rfl
    · rw [if_neg hj]
      unfold pgF
      by_cases h2 : i < 2
      · rw [if_pos h2]
        unfold ptF
        rw [if_pos h2]
      · rw [if_neg h2, if_neg (by omega)]
end
set_option maxRecDepth 100000 in
set_option maxHeartbeats 4000000 in
theorem above_no (g b : Nat) (w : World) (g1 : w.cell? ⟨g, 1, none⟩ = some (.int .i64 0)) (c0 : w.cell? ⟨b, 0, none⟩ = some (.int .i64 0)) : Calls Tryz.prog 203 #[.pointer (some ⟨g, 0, none⟩), .pointer (some ⟨b, 0, none⟩)] w fun e w' => e = .returned (.bool false) ∧ Below w.heap.size w w' := by
  go_enter Tryz.func203, Tryz.ntmps203
  go_wp2_with fail
  go_quiet (fail)
  go_wp2_with fail
  go_ret
  exact ⟨rfl, gbelow_drewN (Below.refl _ _) _⟩
set_option maxRecDepth 100000 in
set_option maxHeartbeats 4000000 in
theorem lookAt_gone (g m b : Nat) (cp : Option Addr) (R : Rf) (sa : Option Addr) (cap : Nat) (w : World) (hgb : g < b) (hg : Blk w g 222 (grC cp 0 R 0 (some m) 0)) (hb : Blk w b 265 (ptC false false fun _ => 0)) :
    Calls Tryz.prog 142 #[.pointer (some ⟨g, 0, none⟩), .pointer (some ⟨b, 0, none⟩), .slice sa 0 cap] w fun e w' => e = .returned (.tuple #[.pointer (some ⟨b, 0, none⟩), .int .i64 0]) ∧ Blk w' b 265 (pgC R) ∧ Below b w w' := by
  have HC : Hid (∀ w, Calls Tryz.prog 155 #[.int .i64 0] w fun x w' => x = .returned (.int .i64 1) ∧ w = w') := gCapacity_0
  have c0 := pt_c0 hb
  have c1 := pt_c1 hb
  have g1 := gr_c1 hg
  have HR : Hid (∀ n, (w.drewN n).rangeAt g 2 ((List.range 33).map (rfF R.1 R.2))) := fun n => gr_root (hg.below (gbelow_drewN (Below.refl _ _) n) hg.lt)
  have HT : Hid (∀ n, (w.drewN n).there b 2 33) := fun n => pt_there (hb.below (gbelow_drewN (Below.refl _ _) n) hb.lt) 2 33 (by decide)
  have HB : Hid (∀ n, Blk (w.drewN n) b 265 (ptC false false fun _ => 0)) := fun n => hb.below (gbelow_drewN (Below.refl _ _) n) hb.lt
  have HG0 : Hid (Blk w g 222 (grC cp 0 R 0 (some m) 0)) := hg
  clear hg hb
  go_enter Tryz.func142, Tryz.ntmps142
  go_wp2_with fail
  go_quiet (fail)
  go_wp2_with (first
    | (refine wpList_load_blk (by rfl) 41 _ (by rfl) (g) (2) 33 (rfF R.1 R.2) (by rfl) _ (by exact HR.out _) Tryz.underlying41 rfl gsizeRef ?_; simp only [Act.put, sgPHGrBlk])
    | (refine wpList_store_mid (by rfl) 41 _ _ (by rfl) b 2 (rfC R) (by rfl) (by rfl) (by rw [rfC_size]; exact HT.out _) (by rw [rfC_size]; exact gsizeRef) (rfC_all _) ?_; simp only [Act.put, sgPHGrBlk])
    | fail)
  have HB2 : Hid (Below b w ((w.drewN nq).setCells b 2 (rfC R).toList)) := below_setCells (Nat.le_refl _) _ _ _ (gbelow_drewN (Below.refl _ _) nq)
  have HP2 : Hid (Blk ((w.drewN nq).setCells b 2 (rfC R).toList) b 265 (pgC R)) := pg_put (HB.out nq)
  clear HR HT HB c0 c1 g1
  generalize (w.drewN nq).setCells b 2 (rfC R).toList = w2 at *
  have hS3 : Blk w2.drew b 265 (pgC R) := HP2.out
  have c0 := pg_c0 hS3
  have c1 := pg_c1 hS3
  refine wp_region_partsS (fun W => Blk W b 265 (pgC R)) [([0, 4], 1, true), ([], 2, true), ([], 3, true), ([], 5, false), ([], 6, false), ([], 7, false), ([], 8, false), ([], 9, false)] [10] [] (by kernel_rfl) (by kernel_rfl) hS3 (partsI_yield ?_)
  simp only [sgLHGrBlk]
  go_wp2_with fail
  refine ⟨rfl, _, .pointer (some ⟨b, 0, none⟩), rfl, Or.inl ⟨by rfl, fun W hW => by go_simp⟩, partsI_yield ?_⟩
  simp only [Act.put, sgPHGrBlk]
  simp only [sgLHGrBlk]
  go_wp2_with fail
  refine ⟨rfl, _, .pointer (some ⟨b, 1, none⟩), rfl, Or.inl ⟨by rfl, fun W hW => by go_simp⟩, partsI_yield ?_⟩
  simp only [Act.put, sgPHGrBlk]
  simp only [sgLHGrBlk]
  go_wp2_with fail
  refine ⟨rfl, _, .int .i64 0, rfl, Or.inl ⟨by rfl, fun W hW => by have hW1 := pg_c1 hW; go_simp⟩, partsI_force ?_⟩
  simp only [Act.put, sgPHGrBlk]
  simp only [sgLHGrBlk]
  go_wp2_with fail
  refine ⟨rfl, hS3, partsI_force ?_⟩
  simp only [sgLHGrBlk]
  go_wp2_with fail
  refine ⟨rfl, hS3, partsI_force ?_⟩
  simp only [sgLHGrBlk]
  go_wp2_with fail
  refine ⟨rfl, hS3, partsI_force ?_⟩
  simp only [sgLHGrBlk]
  go_wp2_with fail
  refine (HC.out _).mono ?_
  rintro e _ ⟨rfl, rfl⟩
  go_wp2_with fail
  refine ⟨rfl, hS3, partsI_force ?_⟩
  simp only [sgLHGrBlk]
  go_wp2_with fail
  refine ⟨rfl, hS3, partsI_last ?_⟩
  simp only [sgLHGrBlk]
  go_wp2_with fail
  refine ⟨rfl, ?_⟩
  have HG2 : Hid (Blk w2.drew g 222 (grC cp 0 R 0 (some m) 0)) := HG0.out.below HB2.out.drew hgb
  have HB3 : Hid (Below b w w2.drew) := HB2.out.drew
  have HP3 : Hid (Blk w2.drew b 265 (pgC R)) := hS3
  clear hS3 c0 c1 HP2 HB2 HG0
  generalize w2.drew = w3 at *
  go_wp2_with fail
  refine (above_no g b w3 (gr_c1 HG2.out) (pg_c0 HP3.out)).mono ?_
  rintro e w4 ⟨rfl, hb4⟩
  have hg4 : Blk w4 g 222 (grC cp 0 R 0 (some m) 0) := HG2.out.below hb4 HG2.out.lt
  have g37 := gr_c37 hg4
  have HP4 : Hid (Blk w4 b 265 (pgC R)) := HP3.out.below hb4 HP3.out.lt
  have HB4 : Hid (Below b w w4) := HB3.out.trans (hb4.mono (Nat.le_of_lt HP3.out.lt))
  clear hb4 hg4 HG2 HP3 HB3
  go_wp2_with fail
  go_ret2
  exact ⟨rfl, HP4.out, HB4.out⟩
set_option maxRecDepth 100000 in
set_option maxHeartbeats 4000000 in
theorem look_gone (g m k : Nat) (cp : Option Addr) (R : Rf) (w : World) (hg : Blk w g 222 (grC cp 0 R 0 (some m) 0)) (hm : w.heap[m]? = some (.map #[] k)) :
    Calls Tryz.prog 86 #[.pointer (some ⟨g, 0, none⟩)] w fun e w' => ∃ b, e = .returned (.tuple #[.pointer (some ⟨b, 0, none⟩), .int .i64 0]) ∧ w.heap.size ≤ b ∧ Blk w' b 265 (pgC R) ∧ Below w.heap.size w w' := by
  have HBt : Hid (Tryz.prog.built 265 [(0, .int .i64 0)] = some (ptC false false fun _ => 0)) := built_pt
  have g1 : w.drew.cell? ⟨g, 1, none⟩ = some (.int .i64 0) := gr_c1 hg
  have g35 : w.drew.cell? ⟨g, 35, none⟩ = some (.int .i64 0) := gr_c35 hg
  go_enter Tryz.func86, Tryz.ntmps86
  go_wp2_with fail
  refine wp_region_partsS (fun W => Blk W g 222 (grC cp 0 R 0 (some m) 0)) [([0, 4], 1, true), ([], 2, true), ([], 3, true), ([], 5, false), ([], 6, false), ([], 7, false), ([], 8, false), ([], 9, false)] [10] [] (by kernel_rfl) (by kernel_rfl) hg (partsI_yield ?_)
  simp only [sgLHGrBlk]
  go_wp2_with fail
  refine ⟨rfl, _, .pointer (some ⟨g, 0, none⟩), rfl, Or.inl ⟨by rfl, fun W hW => by go_simp⟩, partsI_yield ?_⟩
  simp only [Act.put, sgPHGrBlk]
  simp only [sgLHGrBlk]
  go_wp2_with fail
  refine ⟨rfl, _, .pointer (some ⟨g, 35, none⟩), rfl, Or.inl ⟨by rfl, fun W hW => by go_simp⟩, partsI_yield ?_⟩
  simp only [Act.put, sgPHGrBlk]
  simp only [sgLHGrBlk]
  go_wp2_with fail
  refine ⟨rfl, _, .int .i64 0, rfl, Or.inl ⟨by rfl, fun W hW => by have hW1 := gr_c35 hW; go_simp⟩, partsI_force ?_⟩
  simp only [Act.put, sgPHGrBlk]
  simp only [sgLHGrBlk]
  go_wp2_with fail
  refine ⟨rfl, hg, partsI_force ?_⟩
  simp only [sgLHGrBlk]
  go_wp2_with fail
  refine ⟨rfl, hg, partsI_force ?_⟩
  simp only [sgLHGrBlk]
  go_wp2_with fail
  refine ⟨rfl, hg, partsI_force ?_⟩
  simp only [sgLHGrBlk]
  go_wp2_with fail
  refine ⟨rfl, hg, partsI_force ?_⟩
  simp only [sgLHGrBlk]
  go_wp2_with fail
  refine ⟨rfl, hg, partsI_last ?_⟩
  simp only [sgLHGrBlk]
  go_wp2_with fail
  refine ⟨rfl, ?_⟩
  have HB1 : Hid (Below w.heap.size w (w.alloc (.cells (ptC false false fun _ => 0) 265)).drew) := (below_new1 w _).drew
  have HP1 : Hid (Blk (w.alloc (.cells (ptC false false fun _ => 0) 265)).drew w.heap.size 265 (ptC false false fun _ => 0)) := Blk.new w _ _
  have HGl : Hid (g < w.heap.size ∧ m < w.heap.size) := ⟨hg.lt, (Array.getElem?_eq_some_iff.1 hm).1⟩
  have HG0 : Hid (Blk w g 222 (grC cp 0 R 0 (some m) 0)) := hg
  have HM0 : Hid (w.heap[m]? = some (.map #[] k)) := hm
  clear hg hm g1 g35
  go_wp2_with (first
    | (refine gr_build1 (by rfl) 265 0 _ (by rfl) (.int .i64 0) (by rfl) (ptC false false fun _ => 0) (by exact HBt.out) ?_; simp only [Act.put, sgPHGrBlk])
    | fail)
  generalize (w.alloc (.cells (ptC false false fun _ => 0) 265)).drew = w1 at *
  refine (touched_none g m k w1 (gr_c36 (HG0.out.below HB1.out HGl.out.1)) ((HB1.out.block m HGl.out.2).trans HM0.out)).mono ?_
  rintro e w2 ⟨sa, cap, rfl, hb2⟩
  have HB2 : Hid (Below w.heap.size w w2) := HB1.out.trans (hb2.mono HB1.out.size)
  have HP2 : Hid (Blk w2 w.heap.size 265 (ptC false false fun _ => 0)) := HP1.out.below hb2 HP1.out.lt
  clear hb2 HP1 HB1
  go_wp2_with fail
  refine (lookAt_gone g m w.heap.size cp R sa cap w2 HGl.out.1 (HG0.out.below HB2.out HGl.out.1) HP2.out).mono ?_
  rintro e w3 ⟨rfl, p3, hb3⟩
  go_wp2_with fail
  go_ret2
  exact ⟨w.heap.size, rfl, Nat.le_refl _, p3, HB2.out.trans hb3⟩
end Go.Proofs.YtppagdmlfgialaaGreatDoor

namespace Go.Proofs.YtppagdmlfgialaaGreatDoor
open Go Go.RowKit
set_option linter.unusedSimpArgs false
set_option linter.unusedVariables false

/-- is a position outside of a tree of that height? -/
def outP (h l p : Int) : Prop := l < 0 ∨ h < l ∨ p < 0 ∨ ((4 ^ (h - l).toNat : Nat) : Int) ≤ p
instance (h l p : Int) : Decidable (outP h l p) := by unfold outP; infer_instance
instance (h : Int) (R : Rf) : Decidable (trOk h R) := by unfold trOk; infer_instance
section
variable {B g N c m room i : Nat} {F : Nat → Nat} {U : Nat → Prop}
end
end Go.Proofs.YtppagdmlfgialaaGreatDoor

namespace Go.Proofs.YtppagdmlfgialaaGreatDoor
open Go Go.RowKit
set_option linter.unusedSimpArgs false
set_option linter.unusedVariables false
/-- the variable bx (of type ts) holds an own slice of n elements -/
def GS (V : World) (bx ts B e sz : Nat) (v : Value) (n : Nat) (xs : List Value) : Prop := Blk V bx ts #[v] ∧ V.ownsRow B e sz v n xs ∧ v.ownBlock ≠ some bx
/-- its blocks -/
def gft (bx : Nat) (v : Value) (b : Nat) : Prop := b = bx ∨ v.ownBlock = some b
section
variable {B bx ts e sz n : Nat} {v : Value} {xs : List Value} {V W : World}
theorem GS.keep {T : Nat → Prop} (h : GS V bx ts B e sz v n xs) (ht : Turns T V W) (hT : ∀ b, T b → ¬ gft bx v b) : GS W bx ts B e sz v n xs :=
  ⟨ht.blk h.1 (fun q => hT _ q (.inl rfl)), kown_kept h.2.1 fun k _ hk => ht.block k (h.2.1.lt k hk).2 fun q => hT k q (.inr hk), h.2.2⟩
theorem GS.below (h : GS V bx ts B e sz v n xs) (hb : Below V.heap.size V W) : GS W bx ts B e sz v n xs := h.keep (T := fun _ => False) (.of_below hb) fun _ q => q.elim
theorem GS.lt (h : GS V bx ts B e sz v n xs) (b : Nat) (hb : gft bx v b) : b < V.heap.size := by
  rcases hb with rfl | hb
  · exact h.1.lt
  · exact (h.2.1.lt b hb).2
end
theorem gs_cell {S : Nat → Prop} (w : World) (b i : Nat) (v : Value) (hS : S b) : Turns S w (w.setCell ⟨b, i, none⟩ v) := by
  have t : Below b w (w.setCell ⟨b, i, none⟩ v) := (Below.refl b w).setCell (p := ⟨b, i, none⟩) (Nat.le_refl _) _
  exact ⟨t.os, t.tape, t.output, t.size, fun k hk hn => Below.heap_setCell _ _ _ _ (fun e => hn (by rw [e]; exact hS))⟩
theorem gs_grown {w w' : World} {b e : Nat} {xs : Array Value} {r : Option Nat} (h : Blk w b e xs) (hg : w.grownBy w' r) (hr : r ≠ some b) : Blk w' b e xs := by
  obtain ⟨_, _, _, _, g5⟩ := hg
  exact (g5 b h.lt (fun q => hr q.symm)).trans h
theorem gs_setc {w : World} {b e : Nat} {u : Value} (h : Blk w b e #[u]) (v : Value) : Blk (w.setCell ⟨b, 0, none⟩ v) b e #[v] := h.put 0 v
/-- what an append to it and the store back leave -/
theorem GS.grown {bx ts B e sz n : Nat} {v v2 : Value} {xs ns : List Value} {V W U2 : World} (h : GS W bx ts B e sz v n xs) (hb : Below V.heap.size V W) (hbx : bx < V.heap.size) (ho2 : U2.ownsRow B e sz v2 (n + 1) (xs ++ ns)) (hg2 : W.grownBy U2 v.ownBlock) (ha2 : v2.ownBlock = v.ownBlock ∨ v2.ownBlock = some W.heap.size) :
    GS (U2.setCell ⟨bx, 0, none⟩ v2) bx ts B e sz v2 (n + 1) (xs ++ ns) ∧ Turns (gft bx v) V (U2.setCell ⟨bx, 0, none⟩ v2) ∧ ∀ b, gft bx v2 b → gft bx v b ∨ V.heap.size ≤ b := by
  have hbU : Blk U2 bx ts #[v] := gs_grown h.1 hg2 h.2.2
  have hne2 : v2.ownBlock ≠ some bx := by
    rcases ha2 with e | e
    · rw [e]; exact h.2.2
    · rw [e]
      intro q
      injection q with q
      have := hb.size
      omega
  have tg : Turns (gft bx v) W U2 := by
    obtain ⟨g1, g2, g3, g4, g5⟩ := hg2
    exact ⟨g1, g2, g3, g4, fun b hb hn => g5 b hb fun q => hn (.inr q.symm)⟩
  have tc : Turns (fun z => z = bx) U2 (U2.setCell ⟨bx, 0, none⟩ v2) := gs_cell _ _ _ _ rfl
  refine ⟨⟨gs_setc hbU _, kown_kept ho2 fun k _ hk => tc.block k (ho2.lt k hk).2 fun q => hne2 (by rw [hk, q]), hne2⟩, ((Turns.of_below hb).trans tg fun b q => .inl q).trans tc (fun b q => .inl (.inl q)), fun b q => ?_⟩
  rcases q with q | q
  · exact .inl (.inl q)
  · rcases ha2 with e | e
    · exact .inl (.inr (e.symm.trans q))
    · rw [e] at q
      injection q with q
      have := hb.size
      exact .inr (by omega)
end Go.Proofs.YtppagdmlfgialaaGreatDoor

namespace Go.Proofs.YtppagdmlfgialaaGreatDoor
open Go Go.RowKit
set_option linter.unusedSimpArgs false
set_option linter.unusedVariables false

theorem infoU32g : (Tryz.prog.info? 37).map (fun i => (i.zero, i.size, i.bytes)) = some (some (.int .u32 0), 1, 4) := by kernel_rfl
set_option maxRecDepth 100000 in
theorem gone1_ef : ∀ args w, (callFunc 165 args).run Tryz.prog w = .ok (.enter 165 args) w := fun args w => rfl
set_option maxRecDepth 100000 in
theorem eachGone1_ef : ∀ args w, (callFunc 226 args).run Tryz.prog w = .ok (.enter 226 args) w := fun args w => rfl
set_option maxRecDepth 100000 in
theorem each1_efg : ∀ args w, (callFunc 277 args).run Tryz.prog w = .ok (.enter 277 args) w := fun args w => rfl
/-- one number kept in the variable gb -/
def OneU (V : World) (gb : Nat) : Prop := ∃ q k, Blk V gb 60 #[.slice q 1 k]
theorem OneU.keep {V W : World} {gb : Nat} {T : Nat → Prop} (h : OneU V gb) (ht : Turns T V W) (hT : ¬ T gb) : OneU W gb := by
  obtain ⟨q, k, h⟩ := h
  exact ⟨q, k, ht.blk h hT⟩
set_option maxRecDepth 100000 in
set_option maxHeartbeats 8000000 in
theorem gone1_first (a gb : Nat) (V : World) (h : Blk V gb 60 #[.slice none 0 0]) : Calls Tryz.prog 165 #[.int .u32 (a : Int), .pointer (some ⟨gb, 0, none⟩)] V fun e w' => e = .returned (.tuple #[]) ∧ OneU w' gb ∧ Turns (fun z => z = gb) V w' := by
  obtain ⟨i0, hi0, hz0, hz1, hz2⟩ := info_parts infoU32g
  have HG : Hid (GS V gb 60 V.heap.size 37 1 (.slice none 0 0) 0 []) := ⟨h, World.ownsRow_nil _ _ _ _, by simp [Value.ownBlock]⟩
  have c1 : V.cell? ⟨gb, 0, none⟩ = some (.slice none 0 0) := (h.cell 0).trans rfl
  have b1 : Blk (V.alloc (.cells #[.int .u32 (a : Int)] 37)) V.heap.size 37 #[.int .u32 (a : Int)] := Blk.new _ _ _
  have hb1 : Below V.heap.size V (V.alloc (.cells #[.int .u32 (a : Int)] 37)) := below_new1 V _
  have HA : Hid (GS (V.alloc (.cells #[.int .u32 (a : Int)] 37)) gb 60 V.heap.size 37 1 (.slice none 0 0) 0 []) := HG.out.below hb1
  have HB1 : Hid (Below V.heap.size V (V.alloc (.cells #[.int .u32 (a : Int)] 37))) := hb1
  have HNEW : Hid (∀ j u, ([.int .u32 (a : Int)] : List Value)[j]? = some u → (V.alloc (.cells #[.int .u32 (a : Int)] 37)).cell? ((⟨V.heap.size, 0, none⟩ : Addr).add j) = some u) := cells_new _ _ _
  have HLT : Hid (gb < V.heap.size) := h.lt
  clear hb1 h
  go_enter Tryz.func165, Tryz.ntmps165
  go_wp2_with (first
    | (at_builtin; refine wpList_append_own_at (by rfl) _ _ 60 (by rfl) V.heap.size 37 i0 (.int .u32 0) 1 4 Tryz.underlying60 hi0 hz0 hz1 hz2 (by rfl) (by decide) (.slice none 0 0) 0 [] (by rfl) (by exact HA.out.2.1) ⟨V.heap.size, 0, none⟩ 1 1 [.int .u32 (a : Int)] (by rfl) (by rfl) (by exact HNEW.out) (by simp [Value.oneCell']) (by unfold maxLen; omega) (by omega) (by exact HB1.out.size) (fun v2 U2 ho2 hg2 ha2 => ?_); obtain ⟨q2, k2, rfl⟩ := kown_slice ho2; have hbU : Blk U2 gb 60 #[.slice none 0 0] := gs_grown HA.out.1 hg2 HA.out.2.2; have cU := (hbU.cell 0).trans rfl; have fU := hbU.frozen 0; simp only [Act.put, sgPHGrBlk])
    | fail)
  first
    | refine bodyPost_end (results_none Tryz.results165 _ _ _) rfl ?_
    | refine bodyPost_ret (results_none Tryz.results165 _ _ _) rfl ?_
  obtain ⟨h1, h2, _⟩ := HA.out.grown HB1.out HLT.out ho2 hg2 ha2
  exact ⟨rfl, ⟨q2, k2, h1.1⟩, h2.mono fun z hz => by
    rcases hz with hz | hz
    · exact hz
    · simp [Value.ownBlock] at hz⟩
--[2
theorem sizeTrG : (Tryz.prog.info? 46).map (·.size) = some 34 := by kernel_rfl
set_option maxRecDepth 100000 in
set_option maxHeartbeats 8000000 in
theorem eachGone1_first (R : Rf) (db gb : Nat) (V : World) (h2 : Blk V db 293 #[.func (.func 165) #[] #[.pointer (some ⟨gb, 0, none⟩)]]) (h : Blk V gb 60 #[.slice none 0 0]) : Calls Tryz.prog 226 #[.agg (poC 0 0 R), .pointer (some ⟨db, 0, none⟩)] V fun e w' => e = .returned (.bool true) ∧ OneU w' gb ∧ Turns (fun z => z = gb) V w' := by
  have ef := gone1_ef
  have t1 : Blk (V.alloc (.cells (poC 0 0 R) 353)) V.heap.size 353 (poC 0 0 R) := Blk.new _ _ _
  have c0 : (V.alloc (.cells (poC 0 0 R) 353)).cell? ⟨V.heap.size, 2, none⟩ = some (.int .u32 (R.1 : Int)) := (t1.cell 2).trans (va_at (poF 0 0 R) (by decide))
  have c1 : (V.alloc (.cells (poC 0 0 R) 353)).cell? ⟨db, 0, none⟩ = some (.func (.func 165) #[] #[.pointer (some ⟨gb, 0, none⟩)]) := ((h2.alloc _).cell 0).trans rfl
  have HB : Hid (Below V.heap.size V (V.alloc (.cells (poC 0 0 R) 353))) := below_new1 _ _
  have HG : Hid (Blk (V.alloc (.cells (poC 0 0 R) 353)) gb 60 #[.slice none 0 0]) := h.alloc _
  clear h h2 t1
  go_enter Tryz.func226, Tryz.ntmps226
  go_wp2_with fail
  generalize (V.alloc (.cells (poC 0 0 R) 353)) = V1 at *
  refine (gone1_first R.1 gb V1 HG.out).mono ?_
  rintro e w2 ⟨rfl, ho, ht⟩
  have HO : Hid (OneU w2 gb ∧ Turns (fun z => z = gb) V w2) := ⟨ho, (Turns.of_below (S := fun z => z = gb) HB.out).trans ht fun b q => .inl q⟩
  clear ho ht
  go_wp2_with fail
  go_ret
  exact ⟨rfl, HO.out⟩
set_option maxRecDepth 100000 in
set_option maxHeartbeats 8000000 in
theorem walk0_one {fn : Nat} {caps : Array Value} {S : Nat → Prop} {P : World → Prop} (ef : ∀ args w, (callFunc fn args).run Tryz.prog w = .ok (.enter fn args) w) (R : Rf) (hR : R ≠ rf0) (cp : Option Addr) (V : World) (hS : ∀ b, S b → b < V.heap.size) (hC : ∀ W, Below V.heap.size V W → Calls Tryz.prog fn (#[.agg (poC 0 0 R)] ++ caps) W fun e w' => e = .returned (.tuple #[.bool true, .int .i64 0]) ∧ P w' ∧ Turns S W w') : Calls Tryz.prog 276 #[.pointer cp, .agg (poC 0 0 R), .func (.func fn) #[] caps] V fun e w' => e = .returned (.int .i64 0) ∧ P w' ∧ Turns S V w' := by
  have t1 : Blk (V.alloc (.cells (poC 0 0 R) 353)) V.heap.size 353 (poC 0 0 R) := Blk.new _ _ _
  have HRP : Hid ((V.alloc (.cells (poC 0 0 R) 353)).rangeAt V.heap.size 2 ((List.range 33).map (rfF R.1 R.2))) := po_range t1
  have hb1 : Below V.heap.size V (V.alloc (.cells (poC 0 0 R) 353)) := below_new1 _ _
  have hNn : Hid (∀ w, Calls Tryz.prog 59 #[.agg (rfC R)] w fun e w' => e = .returned (.bool false) ∧ Below w.heap.size w w') := fun w => by
    have := none_any R w
    rw [decide_eq_false hR] at this
    exact this
  have HCl : Hid (∀ W, Below V.heap.size V W → Calls Tryz.prog fn (#[.agg (poC 0 0 R)] ++ caps) W fun e w' => e = .returned (.tuple #[.bool true, .int .i64 0]) ∧ P w' ∧ Turns S W w') := hC
  have HS : Hid (∀ b, S b → b < V.heap.size) := hS
  clear hC hS hR
  go_enter Tryz.func276, Tryz.ntmps276
  go_wp2_with (first
    | (refine wpList_load_blk (by rfl) 41 _ (by rfl) (V.heap.size) (2) 33 (rfF R.1 R.2) (by rfl) _ (by exact HRP.out) Tryz.underlying41 rfl tsizeRef ?_; simp only [Act.put, sgPHGrBlk])
    | fail)
  clear HRP
  generalize (V.alloc (.cells (poC 0 0 R) 353)) = w1 at *
  refine (hNn.out w1).mono ?_
  rintro x w2 ⟨rfl, hb2⟩
  have HB2 : Hid (Below V.heap.size V w2) := hb1.trans (hb2.mono hb1.size)
  have t2 := t1.below hb2 t1.lt
  clear hb1 hb2 t1 hNn
  go_wp2_with (first
    | (refine wpList_load_rowg (by rfl) 353 _ (by rfl) (V.heap.size) (by rfl) 353 (poC 0 0 R) (0, 0) _ (by exact t2) Tryz.underlying353 (by rfl) (sizePo.trans (by rw [poC_size])) ?_; simp only [Act.put, sgPHGrBlk])
    | fail)
  refine (HCl.out w2 HB2.out).mono ?_
  rintro x w3 ⟨rfl, hp, ht⟩
  have t3 : Blk w3 V.heap.size 353 (poC 0 0 R) := ht.blk t2 fun q => Nat.lt_irrefl _ (HS.out _ q)
  have c3 : w3.cell? ⟨V.heap.size, 0, none⟩ = some (.int .i64 0) := (t3.cell 0).trans (va_at (poF 0 0 R) (by decide))
  have HP : Hid (P w3 ∧ Turns S V w3) := ⟨hp, (Turns.of_below (S := S) HB2.out).trans ht fun b q => .inl q⟩
  clear hp ht t2 t3 HCl HB2
  go_wp2_with fail
  go_ret
  exact ⟨rfl, HP.out⟩
set_option maxRecDepth 100000 in
set_option maxHeartbeats 8000000 in
theorem each1_first (R : Rf) (tb xb db gb : Nat) (V : World) (h1 : Blk V tb 4 #[.bool true]) (hx : Blk V xb 354 #[.func (.func 226) #[] #[.pointer (some ⟨db, 0, none⟩)]]) (h2 : Blk V db 293 #[.func (.func 165) #[] #[.pointer (some ⟨gb, 0, none⟩)]]) (h : Blk V gb 60 #[.slice none 0 0]) (hg : gb ≠ tb) : Calls Tryz.prog 277 #[.agg (poC 0 0 R), .pointer (some ⟨tb, 0, none⟩), .pointer (some ⟨xb, 0, none⟩)] V fun e w' => e = .returned (.tuple #[.bool true, .int .i64 0]) ∧ OneU w' gb ∧ Turns (fun z => z = gb ∨ z = tb) V w' := by
  have ef := eachGone1_ef
  have t1 : Blk (V.alloc (.cells (poC 0 0 R) 353)) V.heap.size 353 (poC 0 0 R) := Blk.new _ _ _
  have b1 : Blk (V.alloc (.cells (poC 0 0 R) 353)) tb 4 #[.bool true] := h1.alloc _
  have bx : Blk (V.alloc (.cells (poC 0 0 R) 353)) xb 354 #[.func (.func 226) #[] #[.pointer (some ⟨db, 0, none⟩)]] := hx.alloc _
  have c1 : (V.alloc (.cells (poC 0 0 R) 353)).cell? ⟨tb, 0, none⟩ = some (.bool true) := (b1.cell 0).trans rfl
  have c2 : (V.alloc (.cells (poC 0 0 R) 353)).cell? ⟨xb, 0, none⟩ = some (.func (.func 226) #[] #[.pointer (some ⟨db, 0, none⟩)]) := (bx.cell 0).trans rfl
  have HB : Hid (Below V.heap.size V (V.alloc (.cells (poC 0 0 R) 353))) := below_new1 _ _
  have HD : Hid (Blk (V.alloc (.cells (poC 0 0 R) 353)) db 293 #[.func (.func 165) #[] #[.pointer (some ⟨gb, 0, none⟩)]] ∧ Blk (V.alloc (.cells (poC 0 0 R) 353)) gb 60 #[.slice none 0 0] ∧ Blk (V.alloc (.cells (poC 0 0 R) 353)) tb 4 #[.bool true] ∧ gb ≠ tb) := ⟨h2.alloc _, h.alloc _, b1, hg⟩
  clear h1 hx h2 h b1 bx hg
  go_enter Tryz.func277, Tryz.ntmps277
  go_wp2_with (first
    | (refine wpList_load_rowg (by rfl) 353 _ (by rfl) (V.heap.size) (by rfl) 353 (poC 0 0 R) (0, 0) _ (by exact t1) Tryz.underlying353 (by rfl) (sizePo.trans (by rw [poC_size])) ?_; simp only [Act.put, sgPHGrBlk])
    | fail)
  generalize (V.alloc (.cells (poC 0 0 R) 353)) = V1 at *
  refine (eachGone1_first R db gb V1 HD.out.1 HD.out.2.1).mono ?_
  rintro e w2 ⟨rfl, ho, ht⟩
  have b2 : Blk w2 tb 4 #[.bool true] := ht.blk HD.out.2.2.1 fun q => HD.out.2.2.2 q.symm
  have f2 := b2.frozen 0
  have k2 := (b2.cell 0).trans rfl
  have k3 : (w2.setCell ⟨tb, 0, none⟩ (.bool true)).cell? ⟨tb, 0, none⟩ = some (.bool true) := ((gs_setc b2 (.bool true)).cell 0).trans rfl
  have tc : Turns (fun z => z = tb) w2 (w2.setCell ⟨tb, 0, none⟩ (.bool true)) := gs_cell _ tb 0 _ rfl
  have HO : Hid (OneU (w2.setCell ⟨tb, 0, none⟩ (.bool true)) gb ∧ Turns (fun z => z = gb ∨ z = tb) V (w2.setCell ⟨tb, 0, none⟩ (.bool true))) := ⟨ho.keep tc HD.out.2.2.2, ((Turns.of_below (S := fun z => z = gb ∨ z = tb) HB.out).trans ht fun b q => .inl (.inl q)).trans tc fun b q => .inl (.inr q)⟩
  clear ho ht b2 tc c1 c2 t1
  go_wp2_with fail
  go_ret2
  exact ⟨rfl, HO.out⟩
set_option maxRecDepth 100000 in
set_option maxHeartbeats 8000000 in
theorem each0_first (R : Rf) (hR0 : R ≠ rf0) (hR : R.1 < 4294967296) (hD : okD R.2) (hok : trOk 0 R) (cp : Option Addr) (db gb : Nat) (V : World) (h2 : Blk V db 293 #[.func (.func 165) #[] #[.pointer (some ⟨gb, 0, none⟩)]]) (h : Blk V gb 60 #[.slice none 0 0]) : Calls Tryz.prog 225 #[.pointer cp, .agg (trC 0 R), .func (.func 226) #[] #[.pointer (some ⟨db, 0, none⟩)]] V fun e w' => e = .returned (.int .i64 0) ∧ OneU w' gb ∧ Turns (fun z => z = gb) V w' := by
  have t1 : Blk ((V.alloc (.cells (trC 0 R) 46)).alloc (.cells #[.func (.func 226) #[] #[.pointer (some ⟨db, 0, none⟩)]] 354)) V.heap.size 46 (trC 0 R) := (Blk.new _ _ _).alloc _
  have x1 : Blk ((V.alloc (.cells (trC 0 R) 46)).alloc (.cells #[.func (.func 226) #[] #[.pointer (some ⟨db, 0, none⟩)]] 354)) (V.heap.size + 1) 354 #[.func (.func 226) #[] #[.pointer (some ⟨db, 0, none⟩)]] := Blk.new1 _ _ _ _
  have hb1 : Below V.heap.size V ((V.alloc (.cells (trC 0 R) 46)).alloc (.cells #[.func (.func 226) #[] #[.pointer (some ⟨db, 0, none⟩)]] 354)) := below_new2 _ _ _
  have HT : Hid (∀ w, Calls Tryz.prog 267 #[.agg (trC 0 R)] w fun x w' => x = .returned (.bool true) ∧ Below w.heap.size w w') := fun w => by
    have := tright_any 0 R hR hD w
    rw [decide_eq_true hok] at this
    exact this
  have HD : Hid (Blk V db 293 #[.func (.func 165) #[] #[.pointer (some ⟨gb, 0, none⟩)]] ∧ Blk V gb 60 #[.slice none 0 0] ∧ R ≠ rf0) := ⟨h2, h, hR0⟩
  have hfe : ∀ w, (binOp BinOp.eql 354 (.func (.func 226) #[] #[.pointer (some ⟨db, 0, none⟩)]) .nilFunc).run Tryz.prog w = .ok (.bool false) w := fun w => by first | rfl | simp [binOp, go_sem]
  clear h2 h hR0 hR hD hok
  go_enter Tryz.func225, Tryz.ntmps225
  go_wp2_with (first
    | (refine wpList_load_rowg (by rfl) 46 _ (by rfl) (V.heap.size) (by rfl) 46 (trC 0 R) (0, 0) _ (by exact t1) Tryz.underlying46 (by rfl) (sizeTrG.trans (by rw [trC_size])) ?_; simp only [Act.put, sgPHGrBlk])
    | fail)
  generalize ((V.alloc (.cells (trC 0 R) 46)).alloc (.cells #[.func (.func 226) #[] #[.pointer (some ⟨db, 0, none⟩)]] 354)) = V1 at *
  refine (HT.out V1).mono ?_
  rintro e w2 ⟨rfl, hb2⟩
  have t2 := t1.below hb2 t1.lt
  have x2 := x1.below hb2 x1.lt
  have cx : w2.cell? ⟨V.heap.size + 1, 0, none⟩ = some (.func (.func 226) #[] #[.pointer (some ⟨db, 0, none⟩)]) := (x2.cell 0).trans rfl
  have hb12 := hb1.trans (hb2.mono hb1.size)
  have hb3 : Below w2.heap.size w2 (w2.alloc (.cells #[.bool true] 4)) := below_new1 _ _
  have hb13 := hb12.trans (hb3.mono hb12.size)
  have t3 : Blk (w2.alloc (.cells #[.bool true] 4)) V.heap.size 46 (trC 0 R) := t2.alloc _
  have HX : Hid (Blk (w2.alloc (.cells #[.bool true] 4)) (V.heap.size + 1) 354 #[.func (.func 226) #[] #[.pointer (some ⟨db, 0, none⟩)]] ∧ Blk (w2.alloc (.cells #[.bool true] 4)) w2.heap.size 4 #[.bool true] ∧ Below V.heap.size V (w2.alloc (.cells #[.bool true] 4)) ∧ V.heap.size ≤ w2.heap.size) := ⟨x2.alloc _, Blk.new _ _ _, hb13, hb12.size⟩
  clear hb1 hb2 t1 x1 t2 x2 hb12 hb3 hb13 HT
  go_wp2_with (first
    | (refine wpList_load_rowg (by rfl) 46 _ (by rfl) (V.heap.size) (by rfl) 46 (trC 0 R) (0, 0) _ (by exact t3) Tryz.underlying46 (by rfl) (sizeTrG.trans (by rw [trC_size])) ?_; simp only [Act.put, sgPHGrBlk])
    | fail)
  generalize (w2.alloc (.cells #[.bool true] 4)) = w3 at *
  generalize w2.heap.size = tb at *
  refine (root_any 0 R w3).mono ?_
  rintro e w4 ⟨rfl, hb4⟩
  have hb14 : Below V.heap.size V w4 := HX.out.2.2.1.trans (hb4.mono HX.out.2.2.1.size)
  have HG : Hid (gb < V.heap.size ∧ V.heap.size ≤ tb) := ⟨HD.out.2.1.lt, HX.out.2.2.2⟩
  have HX4 : Hid (Blk w4 (V.heap.size + 1) 354 #[.func (.func 226) #[] #[.pointer (some ⟨db, 0, none⟩)]] ∧ Blk w4 tb 4 #[.bool true] ∧ Blk w4 db 293 #[.func (.func 165) #[] #[.pointer (some ⟨gb, 0, none⟩)]] ∧ Blk w4 gb 60 #[.slice none 0 0]) := ⟨HX.out.1.below hb4 HX.out.1.lt, HX.out.2.1.below hb4 HX.out.2.1.lt, HD.out.1.below hb14 HD.out.1.lt, HD.out.2.1.below hb14 HD.out.2.1.lt⟩
  have HB4 : Hid (Below V.heap.size V w4) := hb14
  clear hb4 hb14 HX t3 cx
  go_wp2_with fail
  refine (walk0_one (S := fun z => z = gb ∨ z = tb) (P := fun W => OneU W gb) each1_efg R HD.out.2.2 cp w4 (fun b q => ?_) fun W hW => ?_).mono ?_
  · rcases q with rfl | rfl
    · exact HX4.out.2.2.2.lt
    · exact HX4.out.2.1.lt
  · exact each1_first R tb (V.heap.size + 1) db gb W (HX4.out.2.1.below hW HX4.out.2.1.lt) (HX4.out.1.below hW HX4.out.1.lt) (HX4.out.2.2.1.below hW HX4.out.2.2.1.lt) (HX4.out.2.2.2.below hW HX4.out.2.2.2.lt) fun e => by have := HG.out; omega
  rintro e w5 ⟨rfl, ho, ht⟩
  have HO : Hid (OneU w5 gb ∧ Turns (fun z => z = gb) V w5) := ⟨ho, (Turns.of_below (S := fun z => z = gb) HB4.out).trans ht fun b q => by
    rcases q with q | q
    · exact .inl q
    · exact .inr (q ▸ HG.out.2)⟩
  clear ho ht
  go_wp2_with fail
  go_ret
  exact ⟨rfl, HO.out⟩
end Go.Proofs.YtppagdmlfgialaaGreatDoor

namespace Go.Proofs.YtppagdmlfgialaaGreatDoor
open Go Go.RowKit
set_option linter.unusedSimpArgs false
set_option linter.unusedVariables false

set_option maxRecDepth 100000 in
set_option maxHeartbeats 4000000 in
theorem len64_1 (w : World) : Calls Tryz.prog 255 #[.int .u64 1] w fun e w' => e = .returned (.int .i64 1) ∧ w' = w := by
  go_enter Tryz.func255, Tryz.ntmps255
  go_wp2_with fail
  go_ret
  exact ⟨congrArg (fun z => Ending.returned (Value.int .i64 z)) (by kernel_rfl), rfl⟩
set_option maxRecDepth 100000 in
set_option maxHeartbeats 4000000 in
theorem len_1 (w : World) : Calls Tryz.prog 196 #[.int .u64 1] w fun e w' => e = .returned (.int .i64 1) ∧ w' = w := by
  go_enter Tryz.func196, Tryz.ntmps196
  go_wp2_with fail
  refine (len64_1 w).mono ?_
  rintro e w' ⟨rfl, rfl⟩
  go_wp2_with fail
  go_ret
  exact ⟨rfl, rfl⟩
set_option maxRecDepth 100000 in
set_option maxHeartbeats 4000000 in
theorem compact_1 (a : Option Addr) (c : Nat) (w : World) : Calls Tryz.prog 167 #[.slice a 1 c] w fun e w' => e = .returned (.slice a 1 c) ∧ w' = w := by
  go_enter Tryz.func167, Tryz.ntmps167
  go_wp2_with fail
  go_ret
  exact ⟨rfl, rfl⟩
set_option maxRecDepth 100000 in
set_option maxHeartbeats 4000000 in
theorem insort_1 (a : Option Addr) (c : Nat) (w : World) : Calls Tryz.prog 278 #[.slice a 1 c, .int .i64 0, .int .i64 1] w fun e w' => e = .returned (.tuple #[]) ∧ w' = w := by
  go_enter Tryz.func278, Tryz.ntmps278
  go_wp2_with fail
  go_loopw [6] (fun v wr => v = .int .i64 1 ∧ wr = w) (fun _ _ => 0)
  case atStart => exact ⟨rfl, rfl⟩
  case round =>
    obtain ⟨rfl, rfl⟩ := hrel
    go_wp2_with fail
    first
      | refine bodyPost_end (results_none Tryz.results278 _ _ _) rfl ?_
      | refine bodyPost_ret (results_none Tryz.results278 _ _ _) rfl ?_
    exact ⟨rfl, rfl⟩
set_option maxRecDepth 100000 in
set_option maxHeartbeats 4000000 in
theorem pdq_1 (a : Option Addr) (c : Nat) (w : World) : Calls Tryz.prog 227 #[.slice a 1 c, .int .i64 0, .int .i64 1, .int .i64 1] w fun e w' => e = .returned (.tuple #[]) ∧ w' = w := by
  go_enter Tryz.func227, Tryz.ntmps227
  go_wp2_with fail
  go_loopw [1, 2, 3, 8, 9] (fun v1 v2 v3 v8 v9 wr => v1 = .int .i64 0 ∧ v2 = .int .i64 1 ∧ v3 = .int .i64 1 ∧ v8 = .bool true ∧ v9 = .bool true ∧ wr = w) (fun _ _ _ _ _ _ => 0)
  case atStart => exact ⟨rfl, rfl, rfl, rfl, rfl, rfl⟩
  case round =>
    obtain ⟨rfl, rfl, rfl, rfl, rfl, rfl⟩ := hrel
    go_wp2_with fail
    refine (insort_1 a c _).mono ?_
    rintro e w' ⟨rfl, rfl⟩
    go_wp2_with fail
    first
      | refine bodyPost_end (results_none Tryz.results227 _ _ _) rfl ?_
      | refine bodyPost_ret (results_none Tryz.results227 _ _ _) rfl ?_
    exact ⟨rfl, rfl⟩
set_option maxRecDepth 100000 in
set_option maxHeartbeats 4000000 in
theorem sort_1 (a : Option Addr) (c : Nat) (w : World) : Calls Tryz.prog 166 #[.slice a 1 c] w fun e w' => e = .returned (.tuple #[]) ∧ w' = w := by
  go_enter Tryz.func166, Tryz.ntmps166
  go_wp2_with fail
  refine (len_1 w).mono ?_
  rintro e w' ⟨rfl, rfl⟩
  go_wp2_with fail
  refine (pdq_1 a c _).mono ?_
  rintro e w' ⟨rfl, rfl⟩
  go_wp2_with fail
  first
    | refine bodyPost_end (results_none Tryz.results166 _ _ _) rfl ?_
    | refine bodyPost_ret (results_none Tryz.results166 _ _ _) rfl ?_
  exact ⟨rfl, rfl⟩
end Go.Proofs.YtppagdmlfgialaaGreatDoor

namespace Go.Proofs.YtppagdmlfgialaaGreatDoor
open Go Go.RowKit
set_option linter.unusedSimpArgs false
set_option linter.unusedVariables false

section
variable {P : Program} {ops : Array Oper} {Q : Exit → Act → World → Prop} {S : World → Prop}
/-- a part that takes nothing ahead, and yields -/
theorem partsI_yield0 {i : Nat} {rest : List (List Nat × Nat × Bool)} {final : List Nat} {a : Act} {w : World} {o : Oper} {v : Value} (ho : ops[i]? = some o) (hy : YieldsIf P ops S o v a) (h : wpPartsI P ops Q S rest final (a.put o.dst v) w) : wpPartsI P ops Q S (([], i, true) :: rest) final a w :=
  partsI_yield ⟨rfl, o, v, ho, hy, h⟩
/-- one operation, what comes behind it hidden -/
theorem wpList_hideY {rest : List Oper} {o : Oper} {a : Act} {w : World} (hw : Region.wanted o (yielded ops a.tmps) = true) (h : ∀ (K : Act → World → Prop) (Q' : Exit → Act → World → Prop), (∀ a' w', wpList P ops Q rest a' w' → K a' w') → o.wp P a w K Q') : wpList P ops Q (o :: rest) a w :=
  wpList_step fun K hK => by
    rw [if_pos hw]
    exact h K Q hK
/-- a composite of two parts yields -/
theorem yields_build2 {o : Oper} {a : Act} (hw : Region.wanted o (yielded ops a.tmps) = true) (t : TypeId) (x y : Operand) (i j : Nat) (ho : o.op = .build t #[(i, x), (j, y)]) (vx vy : Value) (hx : a.eval x = vx) (hy : a.eval y = vy) (cs : Array Value) (hb : P.built t [(i, vx), (j, vy)] = some cs) : YieldsIf P ops S o (.agg cs) a := by
  refine .inl ⟨hw, fun w _ => ?_⟩
  have e : Array.map (fun (x : Nat × Operand) => match x with | (i, x) => (i, a.eval x)) #[(i, x), (j, y)] = #[(i, vx), (j, vy)] := by simp [hx, hy]
  have hr := run_build w t #[(i, vx), (j, vy)] cs hb
  unfold execOp
  simp only [ho, Sem.run_bind, e, hr, Result.andThen_ok]
  rfl
end
end Go.Proofs.YtppagdmlfgialaaGreatDoor

namespace Go.Proofs.YtppagdmlfgialaaGreatDoor
open Go Go.RowKit
set_option linter.unusedSimpArgs false
set_option linter.unusedVariables false
theorem built_trG (h : Int) (R : Rf) : Tryz.prog.built 46 [(0, .int .i64 h), (1, .agg (rfC R))] = some (trC h R) := by kernel_rfl
set_option maxRecDepth 100000 in
set_option maxHeartbeats 8000000 in
theorem kept_gone (b : Nat) (R : Rf) (w : World) (hb : Blk w b 265 (pgC R)) : Calls Tryz.prog 224 #[.pointer (some ⟨b, 0, none⟩)] w fun e w' => e = .returned (.bool false) ∧ w = w' := by
  have c1 := pg_c68 hb
  go_enter Tryz.func224, Tryz.ntmps224
  go_wp2_with fail
  go_ret
  exact ⟨rfl, rfl⟩
set_option maxRecDepth 100000 in
set_option maxHeartbeats 8000000 in
theorem eachGone0_first (R : Rf) (hR0 : R ≠ rf0) (hR : R.1 < 4294967296) (hD : okD R.2) (hok : trOk 0 R) (cp : Option Addr) (m g b gb : Nat) (w : World) (hg : Blk w g 222 (grC cp 0 R 0 (some m) 0)) (hb : Blk w b 265 (pgC R)) (h : Blk w gb 60 #[.slice none 0 0]) : Calls Tryz.prog 164 #[.pointer (some ⟨g, 0, none⟩), .pointer (some ⟨b, 0, none⟩), .func (.func 165) #[] #[.pointer (some ⟨gb, 0, none⟩)]] w fun e w' => e = .returned (.int .i64 0) ∧ OneU w' gb ∧ Turns (fun z => z = gb) w w' := by
  have hb1 : Below w.heap.size w (w.alloc (.cells #[.func (.func 165) #[] #[.pointer (some ⟨gb, 0, none⟩)]] 293)) := below_new1 _ _
  have hS0 : Blk (w.alloc (.cells #[.func (.func 165) #[] #[.pointer (some ⟨gb, 0, none⟩)]] 293)) g 222 (grC cp 0 R 0 (some m) 0) ∧ Blk (w.alloc (.cells #[.func (.func 165) #[] #[.pointer (some ⟨gb, 0, none⟩)]] 293)) b 265 (pgC R) := ⟨hg.alloc _, hb.alloc _⟩
  have HD0 : Hid (Blk (w.alloc (.cells #[.func (.func 165) #[] #[.pointer (some ⟨gb, 0, none⟩)]] 293)) w.heap.size 293 #[.func (.func 165) #[] #[.pointer (some ⟨gb, 0, none⟩)]] ∧ Blk (w.alloc (.cells #[.func (.func 165) #[] #[.pointer (some ⟨gb, 0, none⟩)]] 293)) gb 60 #[.slice none 0 0]) := ⟨Blk.new _ _ _, h.alloc _⟩
  have HB : Hid (Below w.heap.size w (w.alloc (.cells #[.func (.func 165) #[] #[.pointer (some ⟨gb, 0, none⟩)]] 293))) := hb1
  have HR : Hid (R ≠ rf0 ∧ R.1 < 4294967296 ∧ okD R.2 ∧ trOk 0 R) := ⟨hR0, hR, hD, hok⟩
  clear hg hb h hR0 hR hD hok hb1
  go_enter Tryz.func164, Tryz.ntmps164
  go_wp2_with fail
  generalize (w.alloc (.cells #[.func (.func 165) #[] #[.pointer (some ⟨gb, 0, none⟩)]] 293)) = w1 at *
  refine (kept_gone b R w1 hS0.2).mono ?_
  rintro e _ ⟨rfl, rfl⟩
  have c326 := pg_c326 hS0.2
  go_wp2_with fail
  have hS : Blk w1.drew g 222 (grC cp 0 R 0 (some m) 0) ∧ Blk w1.drew b 265 (pgC R) := hS0
  have HD : Hid (Blk w1.drew w.heap.size 293 #[.func (.func 165) #[] #[.pointer (some ⟨gb, 0, none⟩)]] ∧ Blk w1.drew gb 60 #[.slice none 0 0]) := HD0.out
  clear hS0 HD0 c326
  refine wp_region_partsS (fun W => Blk W g 222 (grC cp 0 R 0 (some m) 0) ∧ Blk W b 265 (pgC R)) [([0, 4, 8], 1, true), ([], 2, true), ([], 3, true), ([], 5, true), ([], 6, true), ([], 7, true), ([], 9, true), ([], 10, true), ([], 11, true), ([], 12, true), ([], 13, false), ([], 14, false)] [15] [] (by kernel_rfl) (by kernel_rfl) hS ?_
  refine partsI_yield ?_
  simp only [sgLHGrBlk]
  go_wp2_with fail
  refine ⟨rfl, _, .pointer (some ⟨g, 0, none⟩), rfl, Or.inl ⟨by rfl, fun W hW => by go_simp⟩, ?_⟩
  simp only [Act.put, sgPHGrBlk]
  refine partsI_yield0 (v := .pointer (some ⟨g, 0, none⟩)) (by simp only [List.getElem?_toArray, List.getElem?_cons_zero, List.getElem?_cons_succ]; rfl) ?_ ?_
  · exact Or.inl ⟨by rfl, fun W hW => by go_simp⟩
  simp only [Act.put, sgPHGrBlk]
  refine partsI_yield0 (v := .pointer cp) (by simp only [List.getElem?_toArray, List.getElem?_cons_zero, List.getElem?_cons_succ]; rfl) ?_ ?_
  · exact Or.inl ⟨by rfl, fun W hW => by have hc := gr_c0 hW.1; go_simp⟩
  simp only [Act.put, sgPHGrBlk]
  refine partsI_yield0 (v := .pointer (some ⟨b, 0, none⟩)) (by simp only [List.getElem?_toArray, List.getElem?_cons_zero, List.getElem?_cons_succ]; rfl) ?_ ?_
  · exact Or.inl ⟨by rfl, fun W hW => by go_simp⟩
  simp only [Act.put, sgPHGrBlk]
  refine partsI_yield0 (v := .pointer (some ⟨b, 0, none⟩)) (by simp only [List.getElem?_toArray, List.getElem?_cons_zero, List.getElem?_cons_succ]; rfl) ?_ ?_
  · exact Or.inl ⟨by rfl, fun W hW => by go_simp⟩
  simp only [Act.put, sgPHGrBlk]
  refine partsI_yield0 (v := .int .i64 0) (by simp only [List.getElem?_toArray, List.getElem?_cons_zero, List.getElem?_cons_succ]; rfl) ?_ ?_
  · exact Or.inl ⟨by rfl, fun W hW => by have hc := pg_c0 hW.2; go_simp⟩
  simp only [Act.put, sgPHGrBlk]
  refine partsI_yield0 (v := .pointer (some ⟨b, 0, none⟩)) (by simp only [List.getElem?_toArray, List.getElem?_cons_zero, List.getElem?_cons_succ]; rfl) ?_ ?_
  · exact Or.inl ⟨by rfl, fun W hW => by go_simp⟩
  simp only [Act.put, sgPHGrBlk]
  refine partsI_yield0 (v := .pointer (some ⟨b, 2, none⟩)) (by simp only [List.getElem?_toArray, List.getElem?_cons_zero, List.getElem?_cons_succ]; rfl) ?_ ?_
  · exact Or.inl ⟨by rfl, fun W hW => by go_simp⟩
  simp only [Act.put, sgPHGrBlk]
  refine partsI_yield0 (v := .agg (rfC R)) (by simp only [List.getElem?_toArray, List.getElem?_cons_zero, List.getElem?_cons_succ]; rfl) ?_ ?_
  · exact kyields_load_at (by rfl) 41 _ (by rfl) b 2 33 (rfF R.1 R.2) (by rfl) _ (fun W hW => pg_old hW.2) Tryz.underlying41 rfl gsizeRef
  simp only [Act.put, sgPHGrBlk]
  refine partsI_yield0 (v := .agg (trC 0 R)) (by simp only [List.getElem?_toArray, List.getElem?_cons_zero, List.getElem?_cons_succ]; rfl) ?_ ?_
  · exact yields_build2 (by rfl) 46 _ _ 0 1 (by rfl) (.int .i64 0) (.agg (rfC R)) (by rfl) (by rfl) (trC 0 R) (built_trG 0 R)
  simp only [Act.put, sgPHGrBlk]
  refine partsI_force ?_
  simp only [sgLHGrBlk]
  go_wp2_with fail
  refine ⟨rfl, hS, ?_⟩
  refine partsI_force ?_
  simp only [sgLHGrBlk]
  refine wpList_hideY (by rfl) fun K QQ hK => ?_
  go_wp2_with fail
  refine (each0_first R HR.out.1 HR.out.2.1 HR.out.2.2.1 HR.out.2.2.2 cp w.heap.size gb _ HD.out.1 HD.out.2).mono ?_
  rintro e w5 ⟨rfl, ho, ht⟩
  have hS5 : Blk w5 g 222 (grC cp 0 R 0 (some m) 0) ∧ Blk w5 b 265 (pgC R) := ⟨ht.blk hS.1 (blk_apart hS.1 HD.out.2 (by decide)), ht.blk hS.2 (blk_apart hS.2 HD.out.2 (by decide))⟩
  have HO : Hid (OneU w5 gb ∧ Turns (fun z => z = gb) w w5) := ⟨ho, (Turns.of_below (S := fun z => z = gb) HB.out.drew).trans ht fun b q => .inl q⟩
  clear ho ht hS
  go_wp2_with fail
  refine ⟨rfl, hS5, ?_⟩
  refine partsI_last ?_
  simp only [sgLHGrBlk]
  go_wp2_with fail
  refine ⟨rfl, ?_⟩
  go_wp2_with fail
  go_ret
  exact ⟨rfl, HO.out⟩
set_option maxRecDepth 100000 in
set_option maxHeartbeats 8000000 in
theorem gone0_first (R : Rf) (hR0 : R ≠ rf0) (hR : R.1 < 4294967296) (hD : okD R.2) (hok : trOk 0 R) (cp : Option Addr) (m k g : Nat) (w : World) (hg : Blk w g 222 (grC cp 0 R 0 (some m) 0)) (hm : w.heap[m]? = some (.map #[] k)) : Calls Tryz.prog 112 #[.pointer (some ⟨g, 0, none⟩)] w fun e w' => ∃ q c, e = .returned (.tuple #[.slice q 1 c, .int .i64 0]) ∧ Below w.heap.size w w' := by
  have HR : Hid (R ≠ rf0 ∧ R.1 < 4294967296 ∧ okD R.2 ∧ trOk 0 R) := ⟨hR0, hR, hD, hok⟩
  have HG : Hid (Blk w g 222 (grC cp 0 R 0 (some m) 0) ∧ w.heap[m]? = some (.map #[] k)) := ⟨hg, hm⟩
  clear hg hm hR0 hR hD hok
  go_enter Tryz.func112, Tryz.ntmps112
  go_wp2_with fail
  refine (look_gone g m k cp R w HG.out.1 HG.out.2).mono ?_
  rintro e w2 ⟨b, rfl, hb, hp, hb2⟩
  have HB2 : Hid (Below w.heap.size w w2) := hb2
  have HP : Hid (Blk (w2.alloc (.cells #[.slice none 0 0] 60)) b 265 (pgC R) ∧ Blk (w2.alloc (.cells #[.slice none 0 0] 60)) g 222 (grC cp 0 R 0 (some m) 0) ∧ Blk (w2.alloc (.cells #[.slice none 0 0] 60)) w2.heap.size 60 #[.slice none 0 0] ∧ Below w2.heap.size w2 (w2.alloc (.cells #[.slice none 0 0] 60))) := ⟨hp.alloc _, (HG.out.1.below hb2 HG.out.1.lt).alloc _, Blk.new _ _ _, below_new1 _ _⟩
  clear hb hp hb2
  go_wp2_with fail
  generalize (w2.alloc (.cells #[.slice none 0 0] 60)) = w3 at *
  refine (eachGone0_first R HR.out.1 HR.out.2.1 HR.out.2.2.1 HR.out.2.2.2 cp m g b w2.heap.size w3 HP.out.2.1 HP.out.1 HP.out.2.2.1).mono ?_
  rintro e w4 ⟨rfl, ho, ht⟩
  obtain ⟨q, c, hq⟩ := ho
  have cq : w4.cell? ⟨w2.heap.size, 0, none⟩ = some (.slice q 1 c) := (hq.cell 0).trans rfl
  have HB4 : Hid (Below w.heap.size w w4) := (HB2.out.trans (HP.out.2.2.2.mono HB2.out.size)).trans (ht.below (B := w.heap.size) (HB2.out.trans (HP.out.2.2.2.mono HB2.out.size)).size fun z hz => by rw [hz]; exact HB2.out.size)
  clear hq ht
  go_wp2_with fail
  refine (sort_1 q c w4).mono ?_
  rintro e _ ⟨rfl, rfl⟩
  go_wp2_with fail
  refine (compact_1 q c _).mono ?_
  rintro e _ ⟨rfl, rfl⟩
  go_wp2_with fail
  go_ret2
  exact ⟨q, c, rfl, HB4.out⟩
end Go.Proofs.YtppagdmlfgialaaGreatDoor
