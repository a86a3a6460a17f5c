/- Commits: the statements' root: the document's root block for the program. -/
import Derived.Test.YtppagdmlfgialaaGreatDoorHSuKit
import Derived.Test.YtppagdmlfgialaaGreatDoorHNdKit
import Derived.Test.YtppagdmlfgialaaGreatDoorHTrRGet
import Derived.Test.YtppagdmlfgialaaGreatDoorHLvStep
import Derived.Test.YtppagdmlfgialaaGreatDoorHGrBlk
import Derived.Test.YtppagdmlfgialaaGreatDoorHIntMap
import Derived.Test.YtppagdmlfgialaaGreatDoorHInsOpen
import Derived.Handy
import Derived.Test.YtppagdmlfgialaaGreatDoorHBiKit
import Derived.Test.YtppagdmlfgialaaGreatDoorHSuREnc

namespace Go.Proofs.YtppagdmlfgialaaGreatDoor
theorem sgLHCmRoot : (∀ (α : Type) (a : α) (l r : List α), (a :: l) ++ r = a :: (l ++ r)) ∧ (∀ (α : Type) (l : List α), [] ++ l = l) ∧ (∀ (α : Type) (l : List α), l ++ [] = l) ∧ (∀ (α β : Type) (f : α → Option β) (a : α) (l : List α), (a :: l).filterMap f = match f a with | none => l.filterMap f | some b => b :: l.filterMap f) ∧ (∀ (α β : Type) (f : α → Option β), [].filterMap f = []) ∧ (∀ (α : Type) (l : List α) (i : Nat), l.toArray[i]? = l[i]?) ∧ (∀ (α : Type) (a : α) (l : List α), (a :: l)[0]? = some a) ∧ (∀ (α : Type) (a : α) (l : List α) (i : Nat), (a :: l)[i + 1]? = l[i]?) :=
  ⟨fun _ _ _ _ => List.cons_append, fun _ _ => List.nil_append _, fun _ _ => List.append_nil _, fun _ _ _ _ _ => List.filterMap_cons, fun _ _ _ => List.filterMap_nil, fun _ _ _ => List.getElem?_toArray, fun _ _ _ => List.getElem?_cons_zero, fun _ _ _ _ => List.getElem?_cons_succ⟩
theorem sgPHCmRoot : (∀ (α : Type) (l : List α) (i : Nat) (a : α), l.toArray.setIfInBounds i a = (l.set i a).toArray) ∧ (∀ (α : Type) (a b : α) (l : List α), (a :: l).set 0 b = b :: l) ∧ (∀ (α : Type) (a b : α) (l : List α) (i : Nat), (a :: l).set (i + 1) b = a :: l.set i b) :=
  ⟨fun _ _ _ _ => List.setIfInBounds_toArray _ _ _, fun _ _ _ _ => List.set_cons_zero, fun _ _ _ _ _ => List.set_cons_succ⟩
end Go.Proofs.YtppagdmlfgialaaGreatDoor
namespace Go.Proofs.YtppagdmlfgialaaGreatDoor
open Go Go.RowKit
set_option linter.unusedSimpArgs false
set_option linter.unusedVariables false

set_option maxRecDepth 100000 in
set_option maxHeartbeats 8000000 in
theorem given21_any {B b N cc : Nat} {X : Nat → Nat} (hN : 1 ≤ N ∧ N ≤ 8192) (w : World) (HI : Img w B (.slice (some ⟨b, 0, none⟩) N cc) N X) : Calls Tryz.prog 22 #[.slice (some ⟨b, 0, none⟩) N cc] w fun e w' => ∃ lb lc, e = .returned (.slice (some ⟨lb, 0, none⟩) N lc) ∧ w.heap.size ≤ lb ∧ (IsBlks w' (some ⟨lb, 0, none⟩) N fun i => blkAt X i) ∧ Below w.heap.size w w' := by
  have HIM : Hid (Img w B (.slice (some ⟨b, 0, none⟩) N cc) N X) := HI
  have HN : Hid (1 ≤ N ∧ N ≤ 8192) := hN
  clear HI
  go_enter Tryz.func22, Tryz.ntmps22
  go_upto_region 1 with fail
  obtain ⟨jt, hj0, hy0, hy1, hy2⟩ := info_parts infoBk
  have hbl : Below w.heap.size w (w.alloc (.cells #[] 141)) := below_new1 _ _
  have HO0 : Hid ((w.alloc (.cells #[] 141)).ownsRow w.heap.size 141 256 (.slice (some ⟨w.heap.size, 0, none⟩) 0 0) 0 (byL (preX X 0) (0 * 256))) := kown_empty (Blk.new _ _ _) (Nat.le_refl _)
  have HBL : Hid (Below w.heap.size w (w.alloc (.cells #[] 141))) := hbl
  go_upto_region 2 with fail
  generalize (w.alloc (.cells #[] 141)) = wg at *
  go_wp2_with fail
  go_loopw [3, 4] (fun v16 v17 wr => Hid (∃ (j lb lc : Nat), j ≤ N ∧ v17 = .int .i64 (j : Int) ∧ v16 = .slice (some ⟨lb, 0, none⟩) j lc ∧ wr.ownsRow w.heap.size 141 256 (.slice (some ⟨lb, 0, none⟩) j lc) j (byL (preX X j) (j * 256)) ∧ Below w.heap.size w wr)) (fun _ v17 _ => N - (intOf v17).toNat)
  case atStart => exact ⟨0, w.heap.size, 0, by omega, rfl, rfl, HO0.out, HBL.out⟩
  case round =>
    clear HO0 HBL hbl
    obtain ⟨U4, rfl⟩ : ∃ u, u = wr := ⟨_, rfl⟩
    obtain ⟨j, lb, lc, hjN, rfl, rfl, ho, hb⟩ := Hid.out hrel
    have HO : Hid (U4.ownsRow w.heap.size 141 256 (.slice (some ⟨lb, 0, none⟩) j lc) j (byL (preX X j) (j * 256))) := ho
    have HB : Hid (Below w.heap.size w U4) := hb
    clear hrel ho hb
    by_cases hlt : j < N
    · have j1 : (j : Int) < (N : Int) := by omega
      have j0 : (0 : Int) ≤ (j : Int) := by omega
      have HRG : Hid (U4.rangeAt b (j * 256) ((List.range 256).map (iv .u8 (blkAt X j)))) := by
        obtain ⟨b', o', e, _, h⟩ := img_blks (HIM.out.below HB.out) j hlt
        injection e with e
        injection e with e1 e2
        subst e1 e2
        rw [Nat.zero_add] at h
        exact h
      have g0 : Blk (U4.alloc (.cells (va 256 (iv .u8 (blkAt X j))) 141)) U4.heap.size 141 (va 256 (iv .u8 (blkAt X j))) := Blk.new _ _ _
      have ho6 : (U4.alloc (.cells (va 256 (iv .u8 (blkAt X j))) 141)).ownsRow w.heap.size 141 256 (.slice (some ⟨lb, 0, none⟩) j lc) j (byL (preX X j) (j * 256)) := kown_below HO.out (below_new1 _ _)
      have hb6 : Below w.heap.size w (U4.alloc (.cells (va 256 (iv .u8 (blkAt X j))) 141)) := HB.out.trans ((below_new1 U4 _).mono HB.out.size)
      have hj4 : j ≤ 100000 := by have := HN.out; omega
      go_wp2_with (first
        | (refine wpList_load_blk (by rfl) 121 _ (by rfl) (b) (j * 256) 256 (iv .u8 (blkAt X j)) (by rfl) _ (by exact HRG.out) Tryz.underlying121 rfl size256 ?_; simp only [Act.put, sgPHCmRoot])
        | (refine wpList_build1 (by rfl) 80 141 _ (by rfl) (va 256 (iv .u8 (blkAt X j))) (by rfl) jt _ 256 Tryz.underlying80 hj0 hy0 hy1 (va_size _ _) (by decide) (by decide) ?_; simp only [Act.put, sgPHCmRoot])
        | (refine wpList_append_bk (by rfl) _ _ 80 (by rfl) w.heap.size 141 jt _ Tryz.underlying80 hj0 hy0 hy1 hy2 (va_size _ _) (.slice (some ⟨lb, 0, none⟩) j lc) j (preX X j) (blkAt X j) (by rfl) ho6 U4.heap.size 1 (by rfl) (by exact g0) hj4 hb6.size ?_; intro v7 w7 hown hb7 hgr hvb; simp only [Act.put, sgPHCmRoot])
        | fail)
      obtain ⟨b7, c7, rfl, _, _, _⟩ := own_some hown (by omega)
      have HO7 : Hid (w7.ownsRow w.heap.size 141 256 (.slice (some ⟨b7, 0, none⟩) (j + 1) c7) (j + 1) (byL (preX X (j + 1)) ((j + 1) * 256))) := by
        rw [pre_ap] at hown
        exact hown
      have HB7 : Hid (Below w.heap.size w w7) := hb6.trans hb7
      clear hown hb7 hgr hvb ho6 hb6 g0
      go_roundw
      case rel => exact ⟨j + 1, b7, c7, by omega, by simp, rfl, HO7.out, HB7.out⟩
      case measure =>
        simp [intOf]
        omega
    · have j1 : ¬ (j : Int) < (N : Int) := by omega
      have e : N = j := by omega
      subst e
      have HLB : Hid (w.heap.size ≤ lb) := own_lo HO.out
      have HIB0 : Hid (IsBlks U4 (some ⟨lb, 0, none⟩) N fun i => blkAt X i) := own_blks9 HO.out
      clear HO
      go_wp2_with fail
      go_ret
      exact ⟨lb, ⟨lc, rfl⟩, HLB.out, HIB0.out, HB.out⟩
end Go.Proofs.YtppagdmlfgialaaGreatDoor

namespace Go.Proofs.YtppagdmlfgialaaGreatDoor
open Go Go.RowKit
set_option linter.unusedSimpArgs false
set_option linter.unusedVariables false
/-- a file without leaves, its leaves' map told -/
def flC (l : Nat) : Array Value := #[.int .i64 2, .int .i64 1, .int .i64 0, .int .u64 1, .map (some l)]
def flV (l : Nat) : Value := .agg (flC l)
theorem flC_all (l : Nat) : (flC l).all (·.oneCell') = true := by simp [flC, Value.oneCell']
theorem sizeF15 : (Tryz.prog.info? 97).map (·.size) = some 5 := by kernel_rfl
theorem zero_f15 (w : World) : (zeroValue 97).run Tryz.prog w = .ok (.agg #[.int .i64 0, .int .i64 0, .int .i64 0, .int .u64 0, .map none]) w := zero_of (by kernel_rfl) w
theorem sizeW15 : (Tryz.prog.info? 30).map (·.size) = some 2 := by kernel_rfl
theorem zero_w15 (w : World) : (zeroValue 30).run Tryz.prog w = .ok (.agg #[.map none, .map none]) w := zero_of (by kernel_rfl) w
theorem built_w15 (a b : Option Nat) : Tryz.prog.built 30 [(0, .map a), (1, .map b)] = some #[.map a, .map b] := by kernel_rfl
/-- one file, number 1, without leaves -/
def OneF (w : World) (m lm : Nat) : Prop := JM flV w m [(1, lm)] ∧ JM (fun x : Nat => Value.int .u8 ((x : Nat) : Int)) w lm []
theorem OneF.below {w w' : World} {m lm : Nat} (h : OneF w m lm) (hb : Below w.heap.size w w') : OneF w' m lm := ⟨h.1.below hb h.1.lt, h.2.below hb h.2.lt⟩
set_option maxRecDepth 100000 in
set_option maxHeartbeats 8000000 in
theorem new15_any (w : World) : Calls Tryz.prog 31 #[] w fun e w' => ∃ m1 m2, e = .returned (.agg #[.map (some m1), .map (some m2)]) ∧ w'.heap[m1]? = some (.map #[] 0) ∧ w'.heap[m2]? = some (.map #[] 0) ∧ (w.heap.size ≤ m1 ∧ w.heap.size ≤ m2) ∧ Below w.heap.size w w' := by
  have hz := zero_w15
  have hmm := @run_makeMap Tryz.prog
  have r0 : Blk (((w.alloc (.cells #[.map none, .map none] 30)).alloc (.map #[] 0)).alloc (.map #[] 0)) w.heap.size 30 #[.map none, .map none] := ((Blk.new _ _ _).alloc _).alloc _
  have hb : Below w.heap.size w (((w.alloc (.cells #[.map none, .map none] 30)).alloc (.map #[] 0)).alloc (.map #[] 0)) := ((below_new1 _ _).alloc (by simp) _).alloc (by simp; omega) _
  have e1 : (w.alloc (.cells #[.map (some (w.heap.size + 1)), .map (some (w.heap.size + 2))] 30)).heap.size = w.heap.size + 1 := by simp
  have e2 : ((w.alloc (.cells #[.map (some (w.heap.size + 1)), .map (some (w.heap.size + 2))] 30)).alloc (.map #[] 0)).heap.size = w.heap.size + 2 := by simp
  have h1 : (((w.alloc (.cells #[.map (some (w.heap.size + 1)), .map (some (w.heap.size + 2))] 30)).alloc (.map #[] 0)).alloc (.map #[] 0)).heap[w.heap.size + 1]? = some (.map #[] 0) := by
    have := heap_alloc_new (w.alloc (.cells #[.map (some (w.heap.size + 1)), .map (some (w.heap.size + 2))] 30)) (.map #[] 0)
    rw [e1] at this
    rw [heap_alloc_old _ _ (by rw [e2]; omega)]
    exact this
  have h2 : (((w.alloc (.cells #[.map (some (w.heap.size + 1)), .map (some (w.heap.size + 2))] 30)).alloc (.map #[] 0)).alloc (.map #[] 0)).heap[w.heap.size + 2]? = some (.map #[] 0) := by
    have := heap_alloc_new ((w.alloc (.cells #[.map (some (w.heap.size + 1)), .map (some (w.heap.size + 2))] 30)).alloc (.map #[] 0)) (.map #[] 0)
    rw [e2] at this
    exact this
  clear e1 e2
  have r9 : Blk (((w.alloc (.cells #[.map (some (w.heap.size + 1)), .map (some (w.heap.size + 2))] 30)).alloc (.map #[] 0)).alloc (.map #[] 0)) w.heap.size 30 #[.map (some (w.heap.size + 1)), .map (some (w.heap.size + 2))] := ((Blk.new _ _ _).alloc _).alloc _
  have hb9 : Below w.heap.size w (((w.alloc (.cells #[.map (some (w.heap.size + 1)), .map (some (w.heap.size + 2))] 30)).alloc (.map #[] 0)).alloc (.map #[] 0)) := ((below_new1 _ _).alloc (by simp) _).alloc (by simp; omega) _
  go_enter Tryz.func31, Tryz.ntmps31
  go_wp2_with (first
    | (refine tr_build2 (by rfl) 30 0 1 _ _ (by rfl) (.map (some (w.heap.size + 1))) (.map (some (w.heap.size + 2))) (by rfl) (by rfl) #[.map (some (w.heap.size + 1)), .map (some (w.heap.size + 2))] (by exact built_w15 _ _) ?_; simp only [Act.put, sgPHCmRoot])
    | (refine wpList_store_row (by rfl) 30 _ _ (by rfl) (w.heap.size) #[.map (some (w.heap.size + 1)), .map (some (w.heap.size + 2))] (by rfl) (by rfl) 30 (_) (by exact r0) (sizeW15.trans (by rfl)) (by rfl) (by rfl) ?_; simp only [Act.put, sgPHCmRoot])
    | fail)
  try simp only [Exit.inBlock, Exit.then]
  refine bodyPost_ret (results_cell1 Tryz.results31 _ _ w.heap.size 30 #[.map (some (w.heap.size + 1)), .map (some (w.heap.size + 2))] (0, 0) _ rfl r9 Tryz.underlying30 rfl (sizeW15.trans (by rfl))) rfl ?_
  exact ⟨_, _, rfl, h1, h2, ⟨by omega, by omega⟩, hb9⟩
set_option maxRecDepth 100000 in
set_option maxHeartbeats 8000000 in
theorem copied_one (m lm : Nat) (w : World) (h : OneF w m lm) : Calls Tryz.prog 70 #[.map (some m)] w fun e w' => ∃ m', e = .returned (.map (some m')) ∧ Below w.heap.size w w' := by
  have hz := zero_f15
  have hmm := @run_makeMap Tryz.prog
  have hb0 : Below w.heap.size w (w.alloc (.map #[] 0)) := (Below.refl _ w).alloc (Nat.le_refl _) _
  have HM0 : Hid (JM flV (w.alloc (.map #[] 0)) w.heap.size [] ∧ OneF (w.alloc (.map #[] 0)) m lm ∧ Below w.heap.size w (w.alloc (.map #[] 0))) := ⟨JM.new (heap_alloc_new _ _), h.below hb0, hb0⟩
  have HML : Hid (m < w.heap.size ∧ lm < w.heap.size) := ⟨h.1.lt, h.2.lt⟩
  clear hb0 h
  go_enter Tryz.func70, Tryz.ntmps70
  go_upto_region 2 with fail
  generalize (w.alloc (.map #[] 0)) = w1 at *
  generalize hom : w.heap.size = om at *
  have HOM : Hid (w.heap.size = om) := hom
  clear hom
  go_wp2_with (first | (at_range; refine wpList_range_J (by rfl) _ 28 (by rfl) 3 _ Tryz.underlying28 m [(1, lm)] (by rfl) (by exact HM0.out.2.1.1) ?_; intro V1 hit hbw hsz; simp only [Act.put, sgPHCmRoot]) | fail)
  generalize hr1 : w1.heap.size = r1 at *
  have HR1 : Hid (om < r1 ∧ m < r1) := by
    have h1 := HM0.out.1.lt
    have h2 := HM0.out.2.1.1.lt
    show _ ∧ _
    omega
  have HV1 : Hid (ItJ flV V1 r1 m [(1, lm)] [] ∧ JM flV V1 om [] ∧ OneF V1 m lm ∧ Below om w V1) := ⟨hit, HM0.out.1.below hbw (by have := HM0.out.1.lt; omega), HM0.out.2.1.below (by rw [hr1]; exact hbw), HM0.out.2.2.trans (hbw.mono (by have := HR1.out; omega))⟩
  clear hit hbw hsz hr1 HM0
  go_loopw [] (fun wr => Hid (∃ (done : List Int) (L : List (Int × Nat)), ItJ flV wr r1 m [(1, lm)] done ∧ JM flV wr om L ∧ OneF wr m lm ∧ Below om w wr)) (fun wr => 1 - itN wr r1)
  case atStart => exact ⟨[], [], HV1.out⟩
  case round =>
    clear HV1
    obtain ⟨U0, rfl⟩ : ∃ u, u = wr := ⟨_, rfl⟩
    obtain ⟨done, L, hit, hjm, hof, hb⟩ := Hid.out hrel
    have HI : Hid (ItJ flV U0 r1 m [(1, lm)] done) := hit
    have HJ : Hid (JM flV U0 om L ∧ OneF U0 m lm ∧ Below om w U0) := ⟨hjm, hof, hb⟩
    have hne : r1 ≠ m := by have := HR1.out; omega
    clear hrel hit hjm hof hb
    go_upto_region 3 with fail
    refine wp_region_list ?_
    refine wpList_next_J (by rfl) _ (by rfl) r1 m [(1, lm)] done (by rfl) (by exact HI.out) hne (fun hall => ?_) (fun x xv W2 hxl hxd hit2 hk2 hen => ?_)
    · clear hall
      go_wp2_with fail
      go_ret
      exact ⟨om, rfl, by rw [HOM.out]; exact HJ.out.2.2⟩
    · obtain ⟨rfl, rfl⟩ : x = 1 ∧ xv = lm := by simpa using hxl
      have HNI : Hid (itN U0 r1 = done.length) := HI.out.num
      have HI2 : Hid (ItJ flV W2 r1 m [((1 : Int), xv)] (done ++ [1])) := hit2
      have HJ2 : Hid (JM flV W2 om L ∧ OneF W2 m xv ∧ Below om w W2) := ⟨HJ.out.1.keep (hk2.block om HJ.out.1.lt (by have := HR1.out; omega)), ⟨HJ.out.2.1.1.keep (hk2.block m HJ.out.2.1.1.lt hne.symm), HJ.out.2.1.2.keep (hk2.block xv HJ.out.2.1.2.lt (by have := HML.out; have := HR1.out; have := HOM.out; omega))⟩, HJ.out.2.2.trans (hk2.below (B := om) (by have := HJ.out.2.2.size; have := HOM.out; omega) fun b e => by rw [e]; have := HR1.out; omega)⟩
      unfold flV at hen
      clear hxl hxd hit2 hk2 HI HJ
      have q0 : Blk (W2.alloc (.cells #[.int .i64 0, .int .i64 0, .int .i64 0, .int .u64 0, .map none] 97)) W2.heap.size 97 #[.int .i64 0, .int .i64 0, .int .i64 0, .int .u64 0, .map none] := Blk.new _ _ _
      have hb3 : Below W2.heap.size W2 ((W2.alloc (.cells #[.int .i64 0, .int .i64 0, .int .i64 0, .int .u64 0, .map none] 97)).setRow W2.heap.size (flC xv)) := below_setRow (below_new1 _ _) (Nat.le_refl _) _
      have q3 : Blk ((W2.alloc (.cells #[.int .i64 0, .int .i64 0, .int .i64 0, .int .u64 0, .map none] 97)).setRow W2.heap.size (flC xv)) W2.heap.size 97 (flC xv) := q0.set _
      go_upto_region 5 with (first
        | (refine wpList_store_row (by rfl) 97 _ _ (by rfl) (W2.heap.size) (flC xv) (by rfl) (by rfl) 97 (_) (by exact q0) (sizeF15.trans (by rfl)) (by rfl) (flC_all _) ?_; simp only [Act.put, sgPHCmRoot])
        | fail)
      clear q0 hen
      generalize ((W2.alloc (.cells #[.int .i64 0, .int .i64 0, .int .i64 0, .int .u64 0, .map none] 97)).setRow W2.heap.size (flC xv)) = w3 at *
      generalize hfb : W2.heap.size = fb at *
      have HW2 : Hid (om < fb ∧ r1 < fb ∧ m < fb ∧ xv < fb) := by
        have h1 := HJ2.out.1.lt
        have h2 := HI2.out.lt
        have h3 := HJ2.out.2.1.2.lt
        show _ ∧ _
        omega
      have hb4 : Below w3.heap.size w3 (w3.alloc (.map #[] 0)) := (Below.refl _ w3).alloc (Nat.le_refl _) _
      have hbf := hb3.trans (hb4.mono (by have := hb3.size; omega))
      have HQ4 : Hid (Blk (w3.alloc (.map #[] 0)) fb 97 (flC xv) ∧ Below fb W2 (w3.alloc (.map #[] 0)) ∧ fb < (w3.alloc (.map #[] 0)).heap.size) := ⟨q3.alloc _, hbf, (q3.alloc _).lt⟩
      clear hb3 q3 hb4 hbf
      go_upto_region 6 with fail
      generalize (w3.alloc (.map #[] 0)) = w4 at *
      generalize w3.heap.size = nm at *
      have c4 : w4.cell? ⟨fb, 4, none⟩ = some (.map (some xv)) := (HQ4.out.1.cell 4).trans rfl
      have HL4 : Hid (JM (fun x : Nat => Value.int .u8 ((x : Nat) : Int)) w4 xv []) := HJ2.out.2.1.2.below HQ4.out.2.1 HW2.out.2.2.2
      go_wp2_with (first | (at_range; refine wpList_range_J (by rfl) _ 95 (by rfl) 3 _ Tryz.underlying95 xv [] (by rfl) (by exact HL4.out) ?_; intro V5 hit5 hbw5 hsz5; simp only [Act.put, sgPHCmRoot]) | fail)
      have HI5 : Hid (ItJ (fun x : Nat => Value.int .u8 ((x : Nat) : Int)) V5 w4.heap.size xv [] [] ∧ w4.heap.size ≠ xv) := ⟨hit5, fun e => by have := HW2.out; have := HQ4.out.2.2; omega⟩
      have HQ5 : Hid (Blk V5 fb 97 (flC xv) ∧ Below fb W2 V5) := ⟨HQ4.out.1.below hbw5 HQ4.out.1.lt, HQ4.out.2.1.trans (hbw5.mono (Nat.le_of_lt HQ4.out.2.2))⟩
      clear hit5 hbw5 hsz5 c4 HL4 HQ4
      go_loopw [] (fun wr => wr = V5) (fun _ => 0)
      case atStart => rfl
      case round =>
        obtain rfl := hrel
        go_upto_region 7 with fail
        refine wp_region_list ?_
        refine wpList_next_J (by rfl) _ (by rfl) w4.heap.size xv [] [] (by rfl) (by exact HI5.out.1) HI5.out.2 (fun hall => ?_) (fun x yv W6 hyl hyd hit6 hk6 hen6 => ?_)
        · have c5 : wr.cell? ⟨fb, 4, none⟩ = some (.map (some xv)) := (HQ5.out.1.cell 4).trans rfl
          have f5 := HQ5.out.1.frozen 4
          have h6 : Blk (wr.setCell ⟨fb, 4, none⟩ (.map (some nm))) fb 97 (flC nm) := HQ5.out.1.put 4 _
          have hb6 : Below fb W2 (wr.setCell ⟨fb, 4, none⟩ (.map (some nm))) := HQ5.out.2.setCell (p := ⟨fb, 4, none⟩) (Nat.le_refl _) _
          go_upto_region 11 with fail
          clear c5 f5 hall
          generalize (wr.setCell ⟨fb, 4, none⟩ (.map (some nm))) = w6 at *
          have hj6 : JM flV w6 om L := HJ2.out.1.below hb6 HW2.out.1
          obtain ⟨w7, L7, hput, hm7, hfi, ht7⟩ := JM.put (P := Tryz.prog) (V := flV) Tryz.underlying28 Tryz.underlying3 hj6 (1 : Int) nm
          unfold flV at hput
          have hI6 : ItJ flV w6 r1 m [((1 : Int), xv)] (done ++ [1]) := HI2.out.keep (hb6.block r1 HW2.out.2.1) (hb6.block m HW2.out.2.2.1)
          have HI7 : Hid (ItJ flV w7 r1 m [((1 : Int), xv)] (done ++ [1])) := hI6.keep (ht7.block r1 hI6.lt.1 (by have := HR1.out; omega)) (ht7.block m hI6.lt.2 (by have := HML.out; have := HOM.out; omega))
          have ho6 : OneF w6 m xv := ⟨HJ2.out.2.1.1.below hb6 HW2.out.2.2.1, HJ2.out.2.1.2.below hb6 HW2.out.2.2.2⟩
          have hb6' : Below om w w6 := HJ2.out.2.2.trans (hb6.mono (Nat.le_of_lt HW2.out.1))
          have HJ7 : Hid (JM flV w7 om L7 ∧ OneF w7 m xv ∧ Below om w w7) := ⟨hm7, ⟨ho6.1.keep (ht7.block m ho6.1.lt (by have := HML.out; have := HOM.out; omega)), ho6.2.keep (ht7.block xv ho6.2.lt (by have := HML.out; have := HOM.out; omega))⟩, hb6'.trans (ht7.below (B := om) (by have := hb6'.size; have := HOM.out; omega) fun b e => by rw [e]; exact Nat.le_refl _)⟩
          clear hm7 hfi ht7 hI6 ho6 hb6' hj6
          go_wp2_with (first
            | (refine wpList_load_rowg (by rfl) 97 _ (by rfl) (fb) (by rfl) 97 (flC nm) (0, 0) _ (by exact h6) Tryz.underlying97 (by rfl) (sizeF15.trans (by rfl)) ?_; simp only [Act.put, sgPHCmRoot])
            | fail)
          go_roundw
          case rel => exact ⟨done ++ [1], L7, HI7.out, HJ7.out⟩
          case measure =>
            have h1 := HI7.out.num
            have h2 := HI7.out.le
            have h3 := HNI.out
            rw [List.length_append, List.length_singleton] at h1 h2
            simp only [List.length_singleton] at h2
            omega
        · simp at hyl
set_option maxRecDepth 100000 in
set_option maxHeartbeats 8000000 in
theorem commit15_one (m0 m lm : Nat) (w : World) (h : OneF w m lm) : Calls Tryz.prog 32 #[.agg #[.map (some m0), .map (some m)]] w fun e w' => ∃ a b, e = .returned (.agg #[.map (some a), .map (some b)]) ∧ Below w.heap.size w w' := by
  have hz := zero_w15
  have hb2 : Below w.heap.size w ((w.alloc (.cells #[.map (some m0), .map (some m)] 30)).alloc (.cells #[.map none, .map none] 30)) := below_new2 _ _ _
  have hS0 : Blk ((w.alloc (.cells #[.map (some m0), .map (some m)] 30)).alloc (.cells #[.map none, .map none] 30)) w.heap.size 30 #[.map (some m0), .map (some m)] ∧ Blk ((w.alloc (.cells #[.map (some m0), .map (some m)] 30)).alloc (.cells #[.map none, .map none] 30)) (w.heap.size + 1) 30 #[.map none, .map none] ∧ OneF ((w.alloc (.cells #[.map (some m0), .map (some m)] 30)).alloc (.cells #[.map none, .map none] 30)) m lm ∧ Below w.heap.size w ((w.alloc (.cells #[.map (some m0), .map (some m)] 30)).alloc (.cells #[.map none, .map none] 30)) := ⟨(Blk.new _ _ _).alloc _, Blk.new1 _ _ _ _, h.below hb2, hb2⟩
  clear h hb2
  go_enter Tryz.func32, Tryz.ntmps32
  go_wp2_with fail
  generalize ((w.alloc (.cells #[.map (some m0), .map (some m)] 30)).alloc (.cells #[.map none, .map none] 30)) = w1 at *
  have hS : Blk w1.drew w.heap.size 30 #[.map (some m0), .map (some m)] ∧ Blk w1.drew (w.heap.size + 1) 30 #[.map none, .map none] ∧ OneF w1.drew m lm ∧ Below w.heap.size w w1.drew := ⟨hS0.1, hS0.2.1, hS0.2.2.1.below (Below.refl _ _).drew, hS0.2.2.2.drew⟩
  clear hS0
  refine wp_region_partsS (fun W => Blk W w.heap.size 30 #[.map (some m0), .map (some m)] ∧ Blk W (w.heap.size + 1) 30 #[.map none, .map none] ∧ OneF W m lm ∧ Below w.heap.size w W) [([], 0, true), ([], 1, true), ([], 3, true), ([], 4, true), ([], 2, false), ([], 5, false), ([], 6, false)] [] [7] (by kernel_rfl) (by kernel_rfl) hS ?_
  refine partsI_yield0 (v := .pointer (some ⟨w.heap.size, 1, none⟩)) (by simp only [List.getElem?_toArray, List.getElem?_cons_zero, List.getElem?_cons_succ]; rfl) ?_ ?_
  · exact Or.inl ⟨by rfl, fun W hW => by go_simp⟩
  simp only [Act.put, sgPHCmRoot]
  refine partsI_yield0 (v := .map (some m)) (by simp only [List.getElem?_toArray, List.getElem?_cons_zero, List.getElem?_cons_succ]; rfl) ?_ ?_
  · exact Or.inl ⟨by rfl, fun W hW => by have hc := (hW.1.cell 1).trans rfl; go_simp⟩
  simp only [Act.put, sgPHCmRoot]
  refine partsI_yield0 (v := .pointer (some ⟨w.heap.size, 1, none⟩)) (by simp only [List.getElem?_toArray, List.getElem?_cons_zero, List.getElem?_cons_succ]; rfl) ?_ ?_
  · exact Or.inl ⟨by rfl, fun W hW => by go_simp⟩
  simp only [Act.put, sgPHCmRoot]
  refine partsI_yield0 (v := .map (some m)) (by simp only [List.getElem?_toArray, List.getElem?_cons_zero, List.getElem?_cons_succ]; rfl) ?_ ?_
  · exact Or.inl ⟨by rfl, fun W hW => by have hc := (hW.1.cell 1).trans rfl; go_simp⟩
  simp only [Act.put, sgPHCmRoot]
  refine partsI_force ?_
  simp only [sgLHCmRoot]
  refine wpList_hideY (by rfl) fun K QQ hK => ?_
  go_wp2_with fail
  refine (copied_one m lm _ hS.2.2.1).mono ?_
  rintro e w3 ⟨m3, rfl, hb3⟩
  have hS3 : Blk w3 w.heap.size 30 #[.map (some m0), .map (some m)] ∧ Blk w3 (w.heap.size + 1) 30 #[.map none, .map none] ∧ OneF w3 m lm ∧ Below w.heap.size w w3 := ⟨hS.1.below hb3 hS.1.lt, hS.2.1.below hb3 hS.2.1.lt, hS.2.2.1.below hb3, hS.2.2.2.trans (hb3.mono hS.2.2.2.size)⟩
  clear hb3
  go_wp2_with fail
  refine ⟨rfl, hS3, ?_⟩
  refine partsI_force ?_
  simp only [sgLHCmRoot]
  refine wpList_hideY (by rfl) fun K QQ hK => ?_
  go_wp2_with fail
  refine (copied_one m lm _ hS3.2.2.1).mono ?_
  rintro e w5 ⟨m5, rfl, hb5⟩
  have hS5 : Blk w5 w.heap.size 30 #[.map (some m0), .map (some m)] ∧ Blk w5 (w.heap.size + 1) 30 #[.map none, .map none] ∧ OneF w5 m lm ∧ Below w.heap.size w w5 := ⟨hS3.1.below hb5 hS3.1.lt, hS3.2.1.below hb5 hS3.2.1.lt, hS3.2.2.1.below hb5, hS3.2.2.2.trans (hb5.mono hS3.2.2.2.size)⟩
  clear hb5
  go_wp2_with fail
  refine ⟨rfl, hS5, ?_⟩
  refine partsI_force ?_
  simp only [sgLHCmRoot]
  refine tr_build2 (by rfl) 30 0 1 _ _ (by rfl) (.map (some m3)) (.map (some m5)) (by rfl) (by rfl) #[.map (some m3), .map (some m5)] (by exact built_w15 _ _) ?_
  simp only [Act.put, sgPHCmRoot]
  refine ⟨rfl, hS5, ?_⟩
  refine partsI_last ?_
  simp only [sgLHCmRoot]
  have k5 := hS5.2.1
  refine wpList_store_row (by rfl) 30 _ _ (by rfl) (w.heap.size + 1) #[.map (some m3), .map (some m5)] (by rfl) (by rfl) 30 (_) (by exact k5) (sizeW15.trans (by rfl)) (by rfl) (by simp [Value.oneCell']) ?_
  simp only [Act.put, sgPHCmRoot]
  refine ⟨rfl, ?_⟩
  go_wp2_with fail
  try simp only [Exit.inBlock, Exit.then]
  refine bodyPost_ret (results_cell1 Tryz.results32 _ _ (w.heap.size + 1) 30 #[.map (some m3), .map (some m5)] (0, 0) _ rfl (k5.set _) Tryz.underlying30 rfl (sizeW15.trans (by rfl))) rfl ?_
  exact ⟨m3, m5, rfl, below_setRow hS5.2.2.2 (by omega) _⟩
end Go.Proofs.YtppagdmlfgialaaGreatDoor

namespace Go.Proofs.YtppagdmlfgialaaGreatDoor
open Go Go.RowKit
set_option linter.unusedSimpArgs false
set_option linter.unusedVariables false
set_option maxRecDepth 100000 in
set_option maxHeartbeats 8000000 in
theorem root21_any (x : Sup) (w : World) : Calls Tryz.prog 28 #[.agg (suC x)] w fun e w' => e = .returned (.agg (suC x)) ∧ Below w.heap.size w w' := by
  have hz := zero_sup
  have hbT : Tryz.prog.built 46 [(0, .int .i64 x.th), (1, .agg (rfC x.tr))] = some (tiC x.th x.tr) := built_tr x.th x.tr
  have hbM : Tryz.prog.built 46 [(0, .int .i64 x.mh), (1, .agg (rfC x.mr))] = some (tiC x.mh x.mr) := built_tr x.mh x.mr
  have hbs := sbuilt_sup x
  have hS0 : Blk ((w.alloc (.cells (suC x) 74)).alloc (.cells (suC su0) 48)) w.heap.size 74 (suC x) ∧ Blk ((w.alloc (.cells (suC x) 74)).alloc (.cells (suC su0) 48)) (w.heap.size + 1) 48 (suC su0) ∧ Below w.heap.size w ((w.alloc (.cells (suC x) 74)).alloc (.cells (suC su0) 48)) := ⟨(Blk.new _ _ _).alloc _, Blk.new1 _ _ _ _, below_new2 _ _ _⟩
  go_enter Tryz.func28, Tryz.ntmps28
  go_wp2_with fail
  generalize ((w.alloc (.cells (suC x) 74)).alloc (.cells (suC su0) 48)) = v at *
  have hS : Blk v.drew w.heap.size 74 (suC x) ∧ Blk v.drew (w.heap.size + 1) 48 (suC su0) ∧ Below w.heap.size w v.drew := ⟨hS0.1.drew, hS0.2.1.drew, hS0.2.2.drew⟩
  clear hS0
  refine wp_region_partsS (fun W => Blk W w.heap.size 74 (suC x) ∧ Blk W (w.heap.size + 1) 48 (suC su0) ∧ Below w.heap.size w W) [([], 0, true), ([], 1, true), ([], 2, true), ([], 3, true), ([], 4, true), ([], 5, true), ([], 6, true), ([], 7, true), ([], 8, true), ([], 9, true), ([], 10, true), ([], 11, true), ([], 12, true), ([], 13, true), ([], 14, true), ([], 17, true), ([], 18, true), ([], 19, true), ([], 20, true), ([], 21, true), ([], 22, true), ([], 23, true), ([], 24, true), ([], 25, true), ([], 26, true), ([], 27, true), ([], 28, true), ([], 29, true), ([], 32, true), ([], 33, true), ([], 15, false), ([], 16, true), ([], 30, false), ([], 31, false), ([], 34, false)] [] [35] (by kernel_rfl) (by kernel_rfl) hS ?_
  refine partsI_yield0 (v := .pointer (some ⟨w.heap.size, 0, none⟩)) (by simp only [List.getElem?_toArray, List.getElem?_cons_zero, List.getElem?_cons_succ]; rfl) ?_ ?_
  · exact Or.inl ⟨by rfl, fun W hW => by go_simp⟩
  simp only [Act.put, sgPHCmRoot]
  refine partsI_yield0 (v := .int .i64 x.b) (by simp only [List.getElem?_toArray, List.getElem?_cons_zero, List.getElem?_cons_succ]; rfl) ?_ ?_
  · exact Or.inl ⟨by rfl, fun W hW => by have hc := sup_c0 hW.1; go_simp⟩
  simp only [Act.put, sgPHCmRoot]
  refine partsI_yield0 (v := .pointer (some ⟨w.heap.size, 1, none⟩)) (by simp only [List.getElem?_toArray, List.getElem?_cons_zero, List.getElem?_cons_succ]; rfl) ?_ ?_
  · exact Or.inl ⟨by rfl, fun W hW => by go_simp⟩
  simp only [Act.put, sgPHCmRoot]
  refine partsI_yield0 (v := .int .u64 ((x.c : Nat) : Int)) (by simp only [List.getElem?_toArray, List.getElem?_cons_zero, List.getElem?_cons_succ]; rfl) ?_ ?_
  · exact Or.inl ⟨by rfl, fun W hW => by have hc := sup_c1 hW.1; go_simp⟩
  simp only [Act.put, sgPHCmRoot]
  refine partsI_yield0 (v := .pointer (some ⟨w.heap.size, 2, none⟩)) (by simp only [List.getElem?_toArray, List.getElem?_cons_zero, List.getElem?_cons_succ]; rfl) ?_ ?_
  · exact Or.inl ⟨by rfl, fun W hW => by go_simp⟩
  simp only [Act.put, sgPHCmRoot]
  refine partsI_yield0 (v := .pointer (some ⟨w.heap.size, 2, none⟩)) (by simp only [List.getElem?_toArray, List.getElem?_cons_zero, List.getElem?_cons_succ]; rfl) ?_ ?_
  · exact Or.inl ⟨by rfl, fun W hW => by go_simp⟩
  simp only [Act.put, sgPHCmRoot]
  refine partsI_yield0 (v := .int .i64 x.th) (by simp only [List.getElem?_toArray, List.getElem?_cons_zero, List.getElem?_cons_succ]; rfl) ?_ ?_
  · exact Or.inl ⟨by rfl, fun W hW => by have hc := sup_c2 hW.1; go_simp⟩
  simp only [Act.put, sgPHCmRoot]
  refine partsI_yield0 (v := .pointer (some ⟨w.heap.size, 2, none⟩)) (by simp only [List.getElem?_toArray, List.getElem?_cons_zero, List.getElem?_cons_succ]; rfl) ?_ ?_
  · exact Or.inl ⟨by rfl, fun W hW => by go_simp⟩
  simp only [Act.put, sgPHCmRoot]
  refine partsI_yield0 (v := .pointer (some ⟨w.heap.size, 3, none⟩)) (by simp only [List.getElem?_toArray, List.getElem?_cons_zero, List.getElem?_cons_succ]; rfl) ?_ ?_
  · exact Or.inl ⟨by rfl, fun W hW => by go_simp⟩
  simp only [Act.put, sgPHCmRoot]
  refine partsI_yield0 (v := .pointer (some ⟨w.heap.size, 3, none⟩)) (by simp only [List.getElem?_toArray, List.getElem?_cons_zero, List.getElem?_cons_succ]; rfl) ?_ ?_
  · exact Or.inl ⟨by rfl, fun W hW => by go_simp⟩
  simp only [Act.put, sgPHCmRoot]
  refine partsI_yield0 (v := .int .u32 ((x.tr.1 : Nat) : Int)) (by simp only [List.getElem?_toArray, List.getElem?_cons_zero, List.getElem?_cons_succ]; rfl) ?_ ?_
  · exact Or.inl ⟨by rfl, fun W hW => by have hc := sup_c3 hW.1; go_simp⟩
  simp only [Act.put, sgPHCmRoot]
  refine partsI_yield0 (v := .pointer (some ⟨w.heap.size, 2, none⟩)) (by simp only [List.getElem?_toArray, List.getElem?_cons_zero, List.getElem?_cons_succ]; rfl) ?_ ?_
  · exact Or.inl ⟨by rfl, fun W hW => by go_simp⟩
  simp only [Act.put, sgPHCmRoot]
  refine partsI_yield0 (v := .pointer (some ⟨w.heap.size, 3, none⟩)) (by simp only [List.getElem?_toArray, List.getElem?_cons_zero, List.getElem?_cons_succ]; rfl) ?_ ?_
  · exact Or.inl ⟨by rfl, fun W hW => by go_simp⟩
  simp only [Act.put, sgPHCmRoot]
  refine partsI_yield0 (v := .pointer (some ⟨w.heap.size, 4, none⟩)) (by simp only [List.getElem?_toArray, List.getElem?_cons_zero, List.getElem?_cons_succ]; rfl) ?_ ?_
  · exact Or.inl ⟨by rfl, fun W hW => by go_simp⟩
  simp only [Act.put, sgPHCmRoot]
  refine partsI_yield0 (v := .agg (va 32 (iv .u8 (dF x.tr.2)))) (by simp only [List.getElem?_toArray, List.getElem?_cons_zero, List.getElem?_cons_succ]; rfl) ?_ ?_
  · exact kyields_load_at (by rfl) 38 _ (by rfl) w.heap.size 4 32 (iv .u8 (dF x.tr.2)) (by rfl) _ (fun W hW => su_rTS hW.1) Tryz.underlying38 rfl sz32u
  simp only [Act.put, sgPHCmRoot]
  refine partsI_yield0 (v := .pointer (some ⟨w.heap.size, 36, none⟩)) (by simp only [List.getElem?_toArray, List.getElem?_cons_zero, List.getElem?_cons_succ]; rfl) ?_ ?_
  · exact Or.inl ⟨by rfl, fun W hW => by go_simp⟩
  simp only [Act.put, sgPHCmRoot]
  refine partsI_yield0 (v := .int .i64 x.n) (by simp only [List.getElem?_toArray, List.getElem?_cons_zero, List.getElem?_cons_succ]; rfl) ?_ ?_
  · exact Or.inl ⟨by rfl, fun W hW => by have hc := sup_c36 hW.1; go_simp⟩
  simp only [Act.put, sgPHCmRoot]
  refine partsI_yield0 (v := .pointer (some ⟨w.heap.size, 37, none⟩)) (by simp only [List.getElem?_toArray, List.getElem?_cons_zero, List.getElem?_cons_succ]; rfl) ?_ ?_
  · exact Or.inl ⟨by rfl, fun W hW => by go_simp⟩
  simp only [Act.put, sgPHCmRoot]
  refine partsI_yield0 (v := .pointer (some ⟨w.heap.size, 37, none⟩)) (by simp only [List.getElem?_toArray, List.getElem?_cons_zero, List.getElem?_cons_succ]; rfl) ?_ ?_
  · exact Or.inl ⟨by rfl, fun W hW => by go_simp⟩
  simp only [Act.put, sgPHCmRoot]
  refine partsI_yield0 (v := .int .i64 x.mh) (by simp only [List.getElem?_toArray, List.getElem?_cons_zero, List.getElem?_cons_succ]; rfl) ?_ ?_
  · exact Or.inl ⟨by rfl, fun W hW => by have hc := sup_c37 hW.1; go_simp⟩
  simp only [Act.put, sgPHCmRoot]
  refine partsI_yield0 (v := .pointer (some ⟨w.heap.size, 37, none⟩)) (by simp only [List.getElem?_toArray, List.getElem?_cons_zero, List.getElem?_cons_succ]; rfl) ?_ ?_
  · exact Or.inl ⟨by rfl, fun W hW => by go_simp⟩
  simp only [Act.put, sgPHCmRoot]
  refine partsI_yield0 (v := .pointer (some ⟨w.heap.size, 38, none⟩)) (by simp only [List.getElem?_toArray, List.getElem?_cons_zero, List.getElem?_cons_succ]; rfl) ?_ ?_
  · exact Or.inl ⟨by rfl, fun W hW => by go_simp⟩
  simp only [Act.put, sgPHCmRoot]
  refine partsI_yield0 (v := .pointer (some ⟨w.heap.size, 38, none⟩)) (by simp only [List.getElem?_toArray, List.getElem?_cons_zero, List.getElem?_cons_succ]; rfl) ?_ ?_
  · exact Or.inl ⟨by rfl, fun W hW => by go_simp⟩
  simp only [Act.put, sgPHCmRoot]
  refine partsI_yield0 (v := .int .u32 ((x.mr.1 : Nat) : Int)) (by simp only [List.getElem?_toArray, List.getElem?_cons_zero, List.getElem?_cons_succ]; rfl) ?_ ?_
  · exact Or.inl ⟨by rfl, fun W hW => by have hc := sup_c38 hW.1; go_simp⟩
  simp only [Act.put, sgPHCmRoot]
  refine partsI_yield0 (v := .pointer (some ⟨w.heap.size, 37, none⟩)) (by simp only [List.getElem?_toArray, List.getElem?_cons_zero, List.getElem?_cons_succ]; rfl) ?_ ?_
  · exact Or.inl ⟨by rfl, fun W hW => by go_simp⟩
  simp only [Act.put, sgPHCmRoot]
  refine partsI_yield0 (v := .pointer (some ⟨w.heap.size, 38, none⟩)) (by simp only [List.getElem?_toArray, List.getElem?_cons_zero, List.getElem?_cons_succ]; rfl) ?_ ?_
  · exact Or.inl ⟨by rfl, fun W hW => by go_simp⟩
  simp only [Act.put, sgPHCmRoot]
  refine partsI_yield0 (v := .pointer (some ⟨w.heap.size, 39, none⟩)) (by simp only [List.getElem?_toArray, List.getElem?_cons_zero, List.getElem?_cons_succ]; rfl) ?_ ?_
  · exact Or.inl ⟨by rfl, fun W hW => by go_simp⟩
  simp only [Act.put, sgPHCmRoot]
  refine partsI_yield0 (v := .agg (va 32 (iv .u8 (dF x.mr.2)))) (by simp only [List.getElem?_toArray, List.getElem?_cons_zero, List.getElem?_cons_succ]; rfl) ?_ ?_
  · exact kyields_load_at (by rfl) 38 _ (by rfl) w.heap.size 39 32 (iv .u8 (dF x.mr.2)) (by rfl) _ (fun W hW => su_rMS hW.1) Tryz.underlying38 rfl sz32u
  simp only [Act.put, sgPHCmRoot]
  refine partsI_yield0 (v := .pointer (some ⟨w.heap.size, 71, none⟩)) (by simp only [List.getElem?_toArray, List.getElem?_cons_zero, List.getElem?_cons_succ]; rfl) ?_ ?_
  · exact Or.inl ⟨by rfl, fun W hW => by go_simp⟩
  simp only [Act.put, sgPHCmRoot]
  refine partsI_yield0 (v := .int .i64 x.u) (by simp only [List.getElem?_toArray, List.getElem?_cons_zero, List.getElem?_cons_succ]; rfl) ?_ ?_
  · exact Or.inl ⟨by rfl, fun W hW => by have hc := sup_c71 hW.1; go_simp⟩
  simp only [Act.put, sgPHCmRoot]
  refine partsI_force ?_
  simp only [sgLHCmRoot]
  refine wpList_hideY (by rfl) fun K QQ hK => ?_
  go_wp2_with fail
  refine (lref21_any x.tr _).mono ?_
  rintro e w3 ⟨rfl, hb3⟩
  have hS3 : Blk w3 w.heap.size 74 (suC x) ∧ Blk w3 (w.heap.size + 1) 48 (suC su0) ∧ Below w.heap.size w w3 := ⟨hS.1.below hb3 hS.1.lt, hS.2.1.below hb3 hS.2.1.lt, hS.2.2.trans (hb3.mono hS.2.2.size)⟩
  go_wp2_with fail
  refine ⟨rfl, hS3, ?_⟩
  refine partsI_yield0 (v := .agg (tiC x.th x.tr)) (by simp only [List.getElem?_toArray, List.getElem?_cons_zero, List.getElem?_cons_succ]; rfl) ?_ ?_
  · exact yields_build2 (by rfl) 46 _ _ 0 1 (by rfl) (.int .i64 x.th) (.agg (rfC x.tr)) (by rfl) (by rfl) (tiC x.th x.tr) hbT
  simp only [Act.put, sgPHCmRoot]
  refine partsI_force ?_
  simp only [sgLHCmRoot]
  refine wpList_hideY (by rfl) fun K QQ hK => ?_
  go_wp2_with fail
  refine (lref21_any x.mr _).mono ?_
  rintro e w5 ⟨rfl, hb5⟩
  have hS5 : Blk w5 w.heap.size 74 (suC x) ∧ Blk w5 (w.heap.size + 1) 48 (suC su0) ∧ Below w.heap.size w w5 := ⟨hS3.1.below hb5 hS3.1.lt, hS3.2.1.below hb5 hS3.2.1.lt, hS3.2.2.trans (hb5.mono hS3.2.2.size)⟩
  go_wp2_with fail
  refine ⟨rfl, hS5, ?_⟩
  refine partsI_force ?_
  simp only [sgLHCmRoot]
  refine tr_build2 (by rfl) 46 0 1 _ _ (by rfl) (.int .i64 x.mh) (.agg (rfC x.mr)) (by rfl) (by rfl) (tiC x.mh x.mr) (by exact hbM) ?_
  simp only [Act.put, sgPHCmRoot]
  refine ⟨rfl, hS5, ?_⟩
  refine partsI_force ?_
  simp only [sgLHCmRoot]
  refine su_build6 (by rfl) 48 _ _ _ _ _ _ (by rfl) _ _ _ _ _ _ (by rfl) (by rfl) (by rfl) (by rfl) (by rfl) (by rfl) (suC x) (by exact hbs) ?_
  simp only [Act.put, sgPHCmRoot]
  refine ⟨rfl, hS5, ?_⟩
  refine partsI_last ?_
  simp only [sgLHCmRoot]
  have k5 := hS5.2.1
  refine wpList_store_row (by rfl) 48 _ _ (by rfl) (w.heap.size + 1) (suC x) (by rfl) (by rfl) 48 (_) (by exact k5) (sizeSup.trans (by rw [suC_size])) (by simp only [suC_size]) (suC_all _) ?_
  simp only [Act.put, sgPHCmRoot]
  refine ⟨rfl, ?_⟩
  go_wp2_with fail
  try simp only [Exit.inBlock, Exit.then]
  refine bodyPost_ret (results_cell1 Tryz.results28 _ _ (w.heap.size + 1) 48 (suC x) (0, 0) _ rfl (hS5.2.1.set _) Tryz.underlying48 rfl (sizeSup.trans (by rw [suC_size]))) rfl ?_
  exact ⟨rfl, below_setRow hS5.2.2 (by omega) _⟩
end Go.Proofs.YtppagdmlfgialaaGreatDoor
