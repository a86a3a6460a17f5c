/- Numbers and digests in bytes: the document's number, value and sum. -/
import Derived.Test.YtppagdmlfgialaaGreatDoorHRmKit
import Derived.Test.YtppagdmlfgialaaGreatDoorHSuSize
import Derived.Test.YtppagdmlfgialaaGreatDoorHInsOpen
import Derived.Test.YtppagdmlfgialaaGreatDoorHNdKit
import Derived.Test.YtppagdmlfgialaaGreatDoorHSuKit
import Derived.BigQuiet
import Derived.Deep.QuietTactic
import Derived.Handy
import Derived.Test.YtppagdmlfgialaaGreatDoorHDigSum
import Derived.Deep.RegionLaw
import Derived.Laws.CopyOwn
import Derived.Lib.ConvBytes

namespace Go.Proofs.YtppagdmlfgialaaGreatDoor
theorem sgLHSuNum : (∀ (α : Type) (a : α) (l r : List α), (a :: l) ++ r = a :: (l ++ r)) ∧ (∀ (α : Type) (l : List α), [] ++ l = l) ∧ (∀ (α : Type) (l : List α), l ++ [] = l) ∧ (∀ (α β : Type) (f : α → Option β) (a : α) (l : List α), (a :: l).filterMap f = match f a with | none => l.filterMap f | some b => b :: l.filterMap f) ∧ (∀ (α β : Type) (f : α → Option β), [].filterMap f = []) ∧ (∀ (α : Type) (l : List α) (i : Nat), l.toArray[i]? = l[i]?) ∧ (∀ (α : Type) (a : α) (l : List α), (a :: l)[0]? = some a) ∧ (∀ (α : Type) (a : α) (l : List α) (i : Nat), (a :: l)[i + 1]? = l[i]?) :=
  ⟨fun _ _ _ _ => List.cons_append, fun _ _ => List.nil_append _, fun _ _ => List.append_nil _, fun _ _ _ _ _ => List.filterMap_cons, fun _ _ _ => List.filterMap_nil, fun _ _ _ => List.getElem?_toArray, fun _ _ _ => List.getElem?_cons_zero, fun _ _ _ _ => List.getElem?_cons_succ⟩
theorem sgPHSuNum : (∀ (α : Type) (l : List α) (i : Nat) (a : α), l.toArray.setIfInBounds i a = (l.set i a).toArray) ∧ (∀ (α : Type) (a b : α) (l : List α), (a :: l).set 0 b = b :: l) ∧ (∀ (α : Type) (a b : α) (l : List α) (i : Nat), (a :: l).set (i + 1) b = a :: l.set i b) :=
  ⟨fun _ _ _ _ => List.setIfInBounds_toArray _ _ _, fun _ _ _ _ => List.set_cons_zero, fun _ _ _ _ _ => List.set_cons_succ⟩
end Go.Proofs.YtppagdmlfgialaaGreatDoor
namespace Go.Proofs.YtppagdmlfgialaaGreatDoor
open Go Go.RowKit
set_option linter.unusedSimpArgs false
set_option linter.unusedVariables false
set_option maxRecDepth 100000 in
set_option maxHeartbeats 8000000 in
theorem rightRoom_yes {P : Nat → Prop} {r n u : Nat} {F G : Nat → Bool} (x : Sup) (hb : x.b = (n : Int)) (hu : x.u = (u : Int)) (h2 : cntF (qinF F G n 2) n = u) (h4 : cntF (qinF F G n 4) n = 0) (w : World) (hr : RoomIs w P r n F G) : Calls Tryz.prog 68 #[.pointer (some ⟨r, 0, none⟩), .agg (suC x)] w fun e w' => e = .returned (.bool true) ∧ Below w.heap.size w w' := by
  have hS0 : Blk (w.alloc (.cells (suC x) 48)) w.heap.size 48 (suC x) ∧ RoomIs (w.alloc (.cells (suC x) 48)) P r n F G ∧ Below w.heap.size w (w.alloc (.cells (suC x) 48)) := ⟨Blk.new _ _ _, hr.below (below_new1 _ _), below_new1 _ _⟩
  have HN : Hid (x.b = (n : Int) ∧ x.u = (u : Int) ∧ cntF (qinF F G n 2) n = u ∧ cntF (qinF F G n 4) n = 0) := ⟨hb, hu, h2, h4⟩
  have HBl : Hid (∀ W, RoomIs W P r n F G → Calls Tryz.prog 109 #[.pointer (some ⟨r, 0, none⟩)] W fun e w' => e = .returned (.int .i64 (n : Int)) ∧ Below W.heap.size W w') := fun W hW => by
    obtain ⟨gu, bu, cu, gn, bn, cn, U, X, h, _⟩ := hW
    exact (rblocks_any h).mono fun e w' ⟨e1, m, e2⟩ => ⟨e1, e2 ▸ gbelow_drewN (Below.refl _ _) m⟩
  clear hb hu h2 h4 hr
  go_enter Tryz.func68, Tryz.ntmps68
  go_wp2_with fail
  generalize (w.alloc (.cells (suC x) 48)) = w1 at *
  have hS : Blk w1.drew w.heap.size 48 (suC x) ∧ RoomIs w1.drew P r n F G ∧ Below w.heap.size w w1.drew := ⟨hS0.1, hS0.2.1.below (Below.refl _ _).drew, hS0.2.2.drew⟩
  clear hS0
  refine wp_region_partsS (fun W => Blk W w.heap.size 48 (suC x) ∧ RoomIs W P r n F G ∧ Below w.heap.size w W) [([0], 2, true), ([], 3, true), ([], 1, false), ([], 4, false), ([5, 6], 8, true), ([], 9, true), ([], 7, false), ([], 10, false), ([11, 12, 13], 14, false), ([], 15, false)] [16, 17] [] (by kernel_rfl) (by kernel_rfl) hS ?_
  refine partsI_yield ?_
  simp only [sgLHSuNum]
  go_wp2_with fail
  refine ⟨rfl, _, .pointer (some ⟨w.heap.size, 0, none⟩), rfl, Or.inl ⟨by rfl, fun W hW => by go_simp⟩, ?_⟩
  simp only [Act.put, sgPHSuNum]
  refine partsI_yield0 (v := .int .i64 (n : Int)) (by simp only [List.getElem?_toArray, List.getElem?_cons_zero, List.getElem?_cons_succ]; rfl) ?_ ?_
  · exact Or.inl ⟨by rfl, fun W hW => by have hc := sup_c0 hW.1; rw [HN.out.1] at hc; go_simp⟩
  simp only [Act.put, sgPHSuNum]
  refine partsI_force ?_
  simp only [sgLHSuNum]
  refine wpList_hideY (by rfl) fun K QQ hK => ?_
  go_wp2_with fail
  refine (HBl.out _ hS.2.1).mono ?_
  rintro e w3 ⟨rfl, hb3⟩
  have hS3 : Blk w3 w.heap.size 48 (suC x) ∧ RoomIs w3 P r n F G ∧ Below w.heap.size w w3 := ⟨hS.1.below hb3 hS.1.lt, hS.2.1.below hb3, hS.2.2.trans (hb3.mono hS.2.2.size)⟩
  clear hb3
  go_wp2_with fail
  refine ⟨rfl, hS3, ?_⟩
  refine partsI_force ?_
  simp only [sgLHSuNum]
  go_wp2_with fail
  refine ⟨rfl, hS3, ?_⟩
  refine partsI_yield ?_
  simp only [sgLHSuNum]
  go_wp2_with fail
  refine ⟨rfl, _, .pointer (some ⟨w.heap.size, 71, none⟩), rfl, Or.inl ⟨by rfl, fun W hW => by go_simp⟩, ?_⟩
  simp only [Act.put, sgPHSuNum]
  refine partsI_yield0 (v := .int .i64 (u : Int)) (by simp only [List.getElem?_toArray, List.getElem?_cons_zero, List.getElem?_cons_succ]; rfl) ?_ ?_
  · exact Or.inl ⟨by rfl, fun W hW => by have hc := sup_c71 hW.1; rw [HN.out.2.1] at hc; go_simp⟩
  simp only [Act.put, sgPHSuNum]
  refine partsI_force ?_
  simp only [sgLHSuNum]
  refine wpList_hideY (by rfl) fun K QQ hK => ?_
  go_wp2_with fail
  refine (rcountR_any hS3.2.1 2).mono ?_
  rw [HN.out.2.2.1]
  rintro e w4 ⟨rfl, hb4⟩
  have hS4 : Blk w4 w.heap.size 48 (suC x) ∧ RoomIs w4 P r n F G ∧ Below w.heap.size w w4 := ⟨hS3.1.below hb4 hS3.1.lt, hS3.2.1.below hb4, hS3.2.2.trans (hb4.mono hS3.2.2.size)⟩
  clear hb4
  go_wp2_with fail
  refine ⟨rfl, hS4, ?_⟩
  refine partsI_force ?_
  simp only [sgLHSuNum]
  go_wp2_with fail
  refine ⟨rfl, hS4, ?_⟩
  refine partsI_force ?_
  simp only [sgLHSuNum]
  refine wpList_hideY (by rfl) fun K QQ hK => ?_
  go_wp2_with fail
  refine (rcountR_any hS4.2.1 4).mono ?_
  rw [HN.out.2.2.2]
  rintro e w5 ⟨rfl, hb5⟩
  have hS5 : Blk w5 w.heap.size 48 (suC x) ∧ RoomIs w5 P r n F G ∧ Below w.heap.size w w5 := ⟨hS4.1.below hb5 hS4.1.lt, hS4.2.1.below hb5, hS4.2.2.trans (hb5.mono hS4.2.2.size)⟩
  clear hb5
  go_wp2_with fail
  refine ⟨rfl, hS5, ?_⟩
  refine partsI_force ?_
  simp only [sgLHSuNum]
  go_wp2_with fail
  refine ⟨rfl, hS5, ?_⟩
  refine partsI_last ?_
  simp only [sgLHSuNum]
  go_wp2_with fail
  refine ⟨rfl, ?_⟩
  go_wp2_with fail
  go_ret
  exact ⟨rfl, hS5.2.2⟩
theorem caDisk_at (c : Nat) (dp lp : Option Addr) (room : Int) (m : Nat) (o n : Option Addr) (h r b cn : Int) (w : World) (hc : Blk w c 151 (caC dp lp room m o n h r b cn)) : Calls Tryz.prog 66 #[.pointer (some ⟨c, 0, none⟩)] w fun e w' => e = .returned (.pointer dp) ∧ w = w' := by
  have c0 : w.cell? ⟨c, 0, none⟩ = some (.pointer dp) := hc.cell 0
  go_enter Tryz.func66, Tryz.ntmps66
  go_wp2_with fail
  go_ret
  exact ⟨rfl, rfl⟩
/-- a state's cells -/
def stF (rp cp : Option Addr) (s : Sl) (x : Sup) (mp xp q : Option Addr) (n c : Nat) (d : Bool) : Nat → Value := fun i => if i = 0 then .pointer rp else if i = 1 then .pointer cp else if i < 36 then slF s (i - 2) else if i < 108 then suF x (i - 36) else if i = 108 then .pointer mp else if i = 109 then .pointer xp else if i = 110 then .slice q n c else .bool d
def stC (rp cp : Option Addr) (s : Sl) (x : Sup) (mp xp q : Option Addr) (n c : Nat) (d : Bool) : Array Value := va 112 (stF rp cp s x mp xp q n c d)
theorem built_stC (rp cp : Option Addr) (s : Sl) (x : Sup) (mp xp q : Option Addr) (n c : Nat) : Tryz.prog.built 62 [(0, .pointer rp), (1, .pointer cp), (2, .agg (slC s)), (3, .agg (suC x)), (4, .pointer mp), (5, .pointer xp), (6, .slice q n c)] = some (stC rp cp s x mp xp q n c false) := by kernel_rfl
theorem sizeTrN : (Tryz.prog.info? 46).map (·.size) = some 34 := by kernel_rfl
theorem su_mapR {w : World} {g T : Nat} {x : Sup} (h : Blk w g T (suC x)) : w.rangeAt g 37 ((List.range 34).map (tiF x.mh x.mr)) := by
  have q := World.rangeAt_of_block (b := g) h 37 34
  rw [su_map] at q
  unfold tiC at q
  rwa [va_toList] at q
theorem yieldsIf_row {P : Program} {ops : Array Oper} {S : World → Prop} {op : Oper} {a : Act} (hw : Region.wanted op (yielded ops a.tmps) = true) (ty : TypeId) (x : Operand) (ho : op.op = .load ty x) (g : Nat) (hx : a.eval x = .pointer (some ⟨g, 0, none⟩)) (t : TypeId) (cs : Array Value) (hS : ∀ w, S w → Blk w g t cs) {d : TypeDesc} (hu : P.underlying ty = some d) (hd : d.isRow = true) (hi : (P.info? ty).map (·.size) = some cs.size) : YieldsIf P ops S op (.agg cs) a := by
  have h := yieldsIf_load_mid (S := S) hw ty x ho g 0 hx cs.toList d (fun w hs i v hv => by
    rw [Nat.zero_add, (hS w hs).cell i, ← Array.getElem?_toList]
    exact hv) hu hd (hi.trans (by simp))
  rw [Array.toArray_toList] at h
  exact h
set_option maxRecDepth 100000 in
set_option maxHeartbeats 8000000 in
theorem commitNew_leaf {P : Nat → Prop} {B dg Nn k lg : Nat} {D : Nat → Nat} {qd : QD} {lp o nn : Option Addr} {room h rr bb cn : Int} {r n u c mc : Nat} {F G : Nat → Bool} (s : Sl) (hs : s.2.1 < 4294967296) (x : Sup) (hx : SuW x) (hb : x.b = (n : Int)) (hu : x.u = (u : Int)) (hN : Nn = n) (hn : n ≤ 8192) (hft : fitS x s.1 s.2.1 (n : Int) = true) (hmh : x.mh = 0) (hR0 : x.mr ≠ rf0) (hR : x.mr.1 < 4294967296) (hD : okD x.mr.2) (hok : trOk 0 x.mr) (h2 : cntF (qinF F G n 2) n = u) (h4 : cntF (qinF F G n 4) n = 0) (rg xg : Nat) (w : World) (hr : RoomIs w P r n F G) (hc : Blk w c 151 (caC (some ⟨dg, 0, none⟩) lp room mc o nn h rr bb cn)) (hd : DiskQ w B dg Nn D k lg qd) : Calls Tryz.prog 30 #[.pointer (some ⟨rg, 0, none⟩), .pointer (some ⟨c, 0, none⟩), .agg (slC s), .agg (suC x), .pointer (some ⟨r, 0, none⟩), .pointer (some ⟨xg, 0, none⟩)] w fun e w' => ∃ st q cq, e = .returned (.tuple #[.pointer (some ⟨st, 0, none⟩), .int .i64 0]) ∧ w.heap.size ≤ st ∧ Blk w' st 62 (stC (some ⟨rg, 0, none⟩) (some ⟨c, 0, none⟩) s x (some ⟨r, 0, none⟩) (some ⟨xg, 0, none⟩) q 1 cq false) ∧ Below w.heap.size w w' := by
  subst hN
  have hb2 : Below w.heap.size w ((w.alloc (.cells (slC s) 43)).alloc (.cells (suC x) 48)) := below_new2 _ _ _
  have hS0 : Blk ((w.alloc (.cells (slC s) 43)).alloc (.cells (suC x) 48)) w.heap.size 43 (slC s) ∧ Blk ((w.alloc (.cells (slC s) 43)).alloc (.cells (suC x) 48)) (w.heap.size + 1) 48 (suC x) ∧ Below w.heap.size w ((w.alloc (.cells (slC s) 43)).alloc (.cells (suC x) 48)) := ⟨(Blk.new _ _ _).alloc _, Blk.new1 _ _ _ _, hb2⟩
  have HDk : Hid (∀ W, Below w.heap.size w W → Calls Tryz.prog 66 #[.pointer (some ⟨c, 0, none⟩)] W fun e w' => e = .returned (.pointer (some ⟨dg, 0, none⟩)) ∧ W = w') := fun W hW => caDisk_at c _ lp room mc o nn h rr bb cn W (hc.below hW hc.lt)
  have HBk : Hid (∀ W, Below w.heap.size w W → Calls Tryz.prog 67 #[.pointer (some ⟨dg, 0, none⟩)] W fun e w' => e = .returned (.int .i64 (Nn : Int)) ∧ W = w') := fun W hW => blocks_q W (hd.below hW)
  have HFt : Hid (∀ W, Calls Tryz.prog 65 #[.agg (suC x), .agg (slC s), .int .i64 (Nn : Int)] W fun e w' => e = .returned (.bool true) ∧ Below W.heap.size W w') := fun W => by
    have := sfits_any x hx s.1 s.2.1 s.2.2 hs (Nn : Int) (by omega) W
    rw [hft] at this
    exact this
  have HRm : Hid (∀ W, Below w.heap.size w W → Calls Tryz.prog 68 #[.pointer (some ⟨r, 0, none⟩), .agg (suC x)] W fun e w' => e = .returned (.bool true) ∧ Below W.heap.size W w') := fun W hW => rightRoom_yes x hb hu h2 h4 W (hr.below hW)
  have HBo : Hid (∀ W, Calls Tryz.prog 69 #[.pointer (some ⟨c, 0, none⟩), .agg (trC 0 x.mr)] W fun e w' => ∃ q c, e = .returned (.tuple #[.slice q 1 c, .int .i64 0]) ∧ Below W.heap.size W w') := fun W => blocksOf_leaf x.mr hR0 hR hD hok _ W
  have HMH : Hid (x.mh = 0) := hmh
  have hst := built_stC
  clear hs hx hb hu hn hft hmh hR0 hR hD hok h2 h4 hr hc hd hb2
  go_enter Tryz.func30, Tryz.ntmps30
  go_wp2_with fail
  generalize ((w.alloc (.cells (slC s) 43)).alloc (.cells (suC x) 48)) = w1 at *
  have hS : Blk w1.drew w.heap.size 43 (slC s) ∧ Blk w1.drew (w.heap.size + 1) 48 (suC x) ∧ Below w.heap.size w w1.drew := ⟨hS0.1, hS0.2.1, hS0.2.2.drew⟩
  clear hS0
  refine wp_region_partsS (fun W => Blk W w.heap.size 43 (slC s) ∧ Blk W (w.heap.size + 1) 48 (suC x) ∧ Below w.heap.size w W) [([2], 0, true), ([], 1, true), ([], 3, false), ([], 4, false), ([], 5, false), ([], 6, true), ([], 7, true), ([], 8, true), ([], 9, true), ([], 10, false)] [11, 12] [] (by kernel_rfl) (by kernel_rfl) hS ?_
  refine partsI_yield ?_
  simp only [sgLHSuNum]
  go_wp2_with fail
  refine ⟨rfl, _, .agg (suC x), rfl, yieldsIf_row (by rfl) 48 _ (by rfl) (w.heap.size + 1) (by rfl) 48 (suC x) (fun W hW => hW.2.1) Tryz.underlying48 rfl (sizeSup.trans (by rw [suC_size])), ?_⟩
  simp only [Act.put, sgPHSuNum]
  refine partsI_yield0 (v := .agg (slC s)) (by simp only [List.getElem?_toArray, List.getElem?_cons_zero, List.getElem?_cons_succ]; rfl) ?_ ?_
  · exact yieldsIf_row (by rfl) 43 _ (by rfl) (w.heap.size) (by rfl) 43 (slC s) (fun W hW => hW.1) Tryz.underlying43 rfl (sizeSlot.trans (by rw [slC_size]))
  simp only [Act.put, sgPHSuNum]
  refine partsI_force ?_
  simp only [sgLHSuNum]
  refine wpList_hideY (by rfl) fun K QQ hK => ?_
  go_wp2_with fail
  refine (HDk.out _ hS.2.2).mono ?_
  rintro e _ ⟨rfl, rfl⟩
  go_wp2_with fail
  refine ⟨rfl, hS, ?_⟩
  refine partsI_force ?_
  simp only [sgLHSuNum]
  refine wpList_hideY (by rfl) fun K QQ hK => ?_
  go_wp2_with fail
  refine (HBk.out _ hS.2.2).mono ?_
  rintro e _ ⟨rfl, rfl⟩
  go_wp2_with fail
  refine ⟨rfl, hS, ?_⟩
  refine partsI_force ?_
  simp only [sgLHSuNum]
  refine wpList_hideY (by rfl) fun K QQ hK => ?_
  go_wp2_with fail
  refine (HFt.out _).mono ?_
  rintro e w3 ⟨rfl, hb3⟩
  have hS3 : Blk w3 w.heap.size 43 (slC s) ∧ Blk w3 (w.heap.size + 1) 48 (suC x) ∧ Below w.heap.size w w3 := ⟨hS.1.below hb3 hS.1.lt, hS.2.1.below hb3 hS.2.1.lt, hS.2.2.trans (hb3.mono hS.2.2.size)⟩
  clear hb3
  go_wp2_with fail
  refine ⟨rfl, hS3, ?_⟩
  refine partsI_yield0 (v := .bool false) (by simp only [List.getElem?_toArray, List.getElem?_cons_zero, List.getElem?_cons_succ]; rfl) ?_ ?_
  · exact Or.inl ⟨by rfl, fun W hW => by go_simp⟩
  simp only [Act.put, sgPHSuNum]
  refine partsI_yield0 (v := .bool false) (by simp only [List.getElem?_toArray, List.getElem?_cons_zero, List.getElem?_cons_succ]; rfl) ?_ ?_
  · exact Or.inl ⟨by rfl, fun W hW => by go_simp⟩
  simp only [Act.put, sgPHSuNum]
  refine partsI_yield0 (v := .pointer (some ⟨r, 0, none⟩)) (by simp only [List.getElem?_toArray, List.getElem?_cons_zero, List.getElem?_cons_succ]; rfl) ?_ ?_
  · exact Or.inl ⟨by rfl, fun W hW => by go_simp⟩
  simp only [Act.put, sgPHSuNum]
  refine partsI_yield0 (v := .agg (suC x)) (by simp only [List.getElem?_toArray, List.getElem?_cons_zero, List.getElem?_cons_succ]; rfl) ?_ ?_
  · exact yieldsIf_row (by rfl) 48 _ (by rfl) (w.heap.size + 1) (by rfl) 48 (suC x) (fun W hW => hW.2.1) Tryz.underlying48 rfl (sizeSup.trans (by rw [suC_size]))
  simp only [Act.put, sgPHSuNum]
  refine partsI_force ?_
  simp only [sgLHSuNum]
  refine wpList_hideY (by rfl) fun K QQ hK => ?_
  go_wp2_with fail
  refine (HRm.out _ hS3.2.2).mono ?_
  rintro e w4 ⟨rfl, hb4⟩
  have hS4 : Blk w4 w.heap.size 43 (slC s) ∧ Blk w4 (w.heap.size + 1) 48 (suC x) ∧ Below w.heap.size w w4 := ⟨hS3.1.below hb4 hS3.1.lt, hS3.2.1.below hb4 hS3.2.1.lt, hS3.2.2.trans (hb4.mono hS3.2.2.size)⟩
  clear hb4
  go_wp2_with fail
  refine ⟨rfl, hS4, ?_⟩
  refine partsI_last ?_
  simp only [sgLHSuNum]
  go_wp2_with fail
  refine ⟨rfl, ?_⟩
  have hrg := su_mapR hS4.2.1
  rw [HMH.out] at hrg
  have HRG : Hid (w4.rangeAt (w.heap.size + 1) 37 ((List.range 34).map (trF 0 x.mr))) := hrg
  clear hrg
  go_wp2_with (first
    | (refine wpList_load_blk (by rfl) 46 _ (by rfl) (w.heap.size + 1) (37) 34 (trF 0 x.mr) (by rfl) _ (by exact HRG.out) Tryz.underlying46 rfl sizeTrN ?_; simp only [Act.put, sgPHSuNum])
    | fail)
  refine (HBo.out w4).mono ?_
  rintro e w5 ⟨q, cq, rfl, hb5⟩
  have l5 : Blk w5 w.heap.size 43 (slC s) := hS4.1.below hb5 hS4.1.lt
  have x5 : Blk w5 (w.heap.size + 1) 48 (suC x) := hS4.2.1.below hb5 hS4.2.1.lt
  have HB5 : Hid (Below w.heap.size w w5) := hS4.2.2.trans (hb5.mono hS4.2.2.size)
  clear hb5 hS4 HRG
  go_wp2_with (first
    | (refine wpList_load_rowg (by rfl) 48 _ (by rfl) (w.heap.size + 1) (by rfl) 48 (suC x) (0, 0) _ (by exact x5) Tryz.underlying48 (by rfl) (sizeSup.trans (by rw [suC_size])) ?_; simp only [Act.put, sgPHSuNum])
    | (refine wpList_load_rowg (by rfl) 43 _ (by rfl) (w.heap.size) (by rfl) 43 (slC s) (0, 0) _ (by exact l5) Tryz.underlying43 (by rfl) (sizeSlot.trans (by rw [slC_size])) ?_; simp only [Act.put, sgPHSuNum])
    | (refine wpList_build7 (by rfl) 62 _ _ _ _ _ _ _ (by rfl) _ _ _ _ _ _ _ (by rfl) (by rfl) (by rfl) (by rfl) (by rfl) (by rfl) (by rfl) (stC (some ⟨rg, 0, none⟩) (some ⟨c, 0, none⟩) s x (some ⟨r, 0, none⟩) (some ⟨xg, 0, none⟩) q 1 cq false) (by exact hst _ _ _ _ _ _ _ _ _) ?_; simp only [Act.put, sgPHSuNum])
    | fail)
  go_ret2
  exact ⟨w5.heap.size, q, cq, rfl, HB5.out.size, Blk.new _ _ _, HB5.out.trans ((below_new1 _ _).mono HB5.out.size)⟩
end Go.Proofs.YtppagdmlfgialaaGreatDoor

namespace Go.Proofs.YtppagdmlfgialaaGreatDoor
open Go Go.RowKit
set_option linter.unusedSimpArgs false
set_option linter.unusedVariables false
set_option maxRecDepth 20000
set_option maxHeartbeats 4000000 in
theorem rmapLeaves_any (b : Int) (w : World) : Calls Tryz.prog 149 #[.int .i64 b] w fun e w' => e = .returned (.tuple #[.int .i64 (if rBl b = true then (b + 1023) / 1024 else 0), .bool (rBl b)]) ∧ w' = w := by
  by_cases h1 : b < 16
  · rw [show rBl b = false by unfold rBl; rw [decide_eq_false (show ¬ 16 ≤ b by omega)]; rfl]
    go_enter Tryz.func149, Tryz.ntmps149
    go_wp2_with fail
    go_ret2
    exact ⟨rfl, rfl⟩
  · by_cases h2 : 8192 < b
    · rw [show rBl b = false by unfold rBl; rw [decide_eq_false (show ¬ b ≤ 8192 by omega), Bool.and_false]]
      go_enter Tryz.func149, Tryz.ntmps149
      go_wp2_with fail
      go_ret2
      exact ⟨rfl, rfl⟩
    · rw [(rBl_iff b).2 ⟨by omega, by omega⟩]
      have HE : Hid ((b + 1023).tdiv 1024 = (b + 1023) / 1024) := Int.tdiv_eq_ediv_of_nonneg (by omega)
      go_enter Tryz.func149, Tryz.ntmps149
      go_wp2_with fail
      go_ret2
      refine ⟨?_, rfl⟩
      first
      | (rw [← HE.out]; simp; done)
      | (have := HE.out; simp at this ⊢; omega)
set_option maxRecDepth 100000 in
set_option maxHeartbeats 4000000 in
theorem rscheck_any (x : Sup) (hx : SuW x) (w : World) : Calls Tryz.prog 94 #[.agg (suC x)] w fun e w' => e = .returned (.bool (sck x)) ∧ Below w.heap.size w w' := by
  have r0 : Blk (w.alloc (.cells (suC x) 74)) w.heap.size 74 (suC x) := Blk.new _ _ _
  have HB : Hid (Below w.heap.size w (w.alloc (.cells (suC x) 74))) := below_new1 _ _
  have c0 := sup_c0 r0
  have c2 := sup_c2 r0
  have c3 := sup_c3 r0
  have c36 := sup_c36 r0
  have c37 := sup_c37 r0
  have c38 := sup_c38 r0
  have c71 := sup_c71 r0
  have HM : Hid (∀ w : World, Calls Tryz.prog 149 #[.int .i64 x.b] w fun e w' => e = .returned (.tuple #[.int .i64 (if rBl x.b = true then (x.b + 1023) / 1024 else 0), .bool (rBl x.b)]) ∧ w' = w) := rmapLeaves_any x.b
  have HO : Hid (sck x = ((rBl x.b && (decide (3 ≤ x.u) && decide (x.u < x.b))) && (((decide (1 ≤ x.n) && decide (x.n ≤ 4096)) && (decide (x.th = hL 4 x.n) && decide (x.mh = hL 1024 x.b))) && (onD x.tr.1 x.b && (onD x.mr.1 x.b && decide (x.tr.1 ≠ x.mr.1)))))) := rfl
  have H4 : Hid (1 ≤ x.n → x.n ≤ 4096 → ∀ w : World, Calls Tryz.prog 150 #[.int .i64 ((x.n + 3).tdiv 4)] w fun e w' => e = .returned (.int .i64 (hL 4 x.n)) ∧ w' = w) := fun h1 h2 => by
    rw [Int.tdiv_eq_ediv_of_nonneg (by omega), ← hL_4 x.n (by omega)]
    exact rleast _ (by omega) (by omega)
  have HK : Hid (rBl x.b = true → ∀ w : World, Calls Tryz.prog 150 #[.int .i64 ((x.b + 1023) / 1024)] w fun e w' => e = .returned (.int .i64 (hL 1024 x.b)) ∧ w' = w) := fun h => by
    have := (rBl_iff x.b).1 h
    rw [← hL_1k x.b (by omega)]
    exact rleast _ (by omega) (by omega)
  have hb := hx.b
  have HRB : Hid (rBl x.b = true → 16 ≤ x.b ∧ x.b ≤ 8192) := (rBl_iff x.b).1
  have ha1 := hx.ta
  have ha2 := hx.ma
  generalize sck x = B at *
  clear r0 hx
  unfold onD at HO
  generalize rBl x.b = R at *
  generalize hL 4 x.n = H1 at *
  generalize hL 1024 x.b = H2 at *
  generalize x.b = b at *
  generalize x.n = n at *
  generalize x.u = u at *
  generalize x.th = th at *
  generalize x.mh = mh at *
  generalize x.tr.1 = a1 at *
  generalize x.mr.1 = a2 at *
  go_enter Tryz.func94, Tryz.ntmps94
  go_wp2_with fail
  generalize (w.alloc (.cells (suC x) 74)) = w0 at *
  refine (HM.out _).mono ?_
  rintro e w2 ⟨rfl, rfl⟩
  clear HM
  cases R
  · go_wp2_with fail
    go_ret
    exact ⟨by rw [HO.out]; simp, HB.out⟩
  · have HK' : Hid (∀ w : World, Calls Tryz.prog 150 #[.int .i64 ((b + 1023) / 1024)] w fun e w' => e = .returned (.int .i64 H2) ∧ w' = w) := HK.out rfl
    have hb16 := HRB.out rfl
    clear HK HRB hb
    rw [if_pos rfl]
    generalize (b + 1023) / 1024 = L at *
    obtain ⟨hb1, hb2⟩ := hb16
    by_cases h1 : n < 1
    · go_wp2_with fail
      go_ret
      exact ⟨by rw [HO.out, decide_eq_false (show ¬ 1 ≤ n by omega)]; simp, HB.out⟩
    · by_cases h2 : 4096 < n
      · go_wp2_with fail
        go_ret
        exact ⟨by rw [HO.out, decide_eq_false (show ¬ n ≤ 4096 by omega)]; simp, HB.out⟩
      · have h1' : 1 ≤ n := by omega
        have h2' : n ≤ 4096 := by omega
        have H4' : Hid (∀ w : World, Calls Tryz.prog 150 #[.int .i64 ((n + 3).tdiv 4)] w fun e w' => e = .returned (.int .i64 H1) ∧ w' = w) := H4.out h1' h2'
        clear H4
        have j1 : IntKind.i64.wrap (n + 3) = n + 3 := by rw [IntKind.wrap_i64]; omega
        have j2 : IntKind.i64.wrap ((n + 3).tdiv 4) = (n + 3).tdiv 4 := by rw [Int.tdiv_eq_ediv_of_nonneg (by omega), IntKind.wrap_i64]; omega
        generalize hM : (n + 3).tdiv 4 = M at *
        by_cases h3 : u < 3
        · go_wp2_with fail
          go_ret
          exact ⟨by rw [HO.out, decide_eq_false (show ¬ 3 ≤ u by omega)]; simp, HB.out⟩
        · by_cases h4 : b - 1 < u
          · go_wp2_with fail
            go_ret
            exact ⟨by rw [HO.out, decide_eq_false (show ¬ u < b by omega)]; simp, HB.out⟩
          · have h3' : 3 ≤ u := by omega
            have h4' : u < b := by omega
            by_cases h5 : th = H1
            · subst h5
              by_cases h6 : mh = H2
              · subst h6
                go_upto_region 4 with fail
                go_quiet (first | (go_at_call_of 150 (Value.int IntKind.i64 M); refine Calls.quiet_of_same (H4'.out _)) | (go_at_call_of 150 (Value.int IntKind.i64 L); refine Calls.quiet_of_same (HK'.out _)))
                generalize hw9 : w2.drewN _ = w9
                have HB9 : Hid (Below w.heap.size w w9) := by rw [← hw9]; exact su_dN HB.out _
                have c0 : w9.cell? ⟨w.heap.size, 0, none⟩ = some (.int .i64 b) := by rw [← hw9]; exact c0
                have c3 : w9.cell? ⟨w.heap.size, 3, none⟩ = some (.int .u32 ((a1 : Nat) : Int)) := by rw [← hw9]; exact c3
                have c38 : w9.cell? ⟨w.heap.size, 38, none⟩ = some (.int .u32 ((a2 : Nat) : Int)) := by rw [← hw9]; exact c38
                clear hw9 HB
                go_wp2_with fail
                go_quiet (fail)
                have HB : Hid (Below w.heap.size w (w9.drewN nq)) := su_dN HB9.out nq
                have k1 : IntKind.i64.wrap (a1 : Int) = (a1 : Int) := by rw [IntKind.wrap_i64]; omega
                have k2 : IntKind.i64.wrap (a2 : Int) = (a2 : Int) := by rw [IntKind.wrap_i64]; omega
                by_cases g1 : a1 = 0
                · subst g1
                  go_wp2_with fail
                  go_ret
                  exact ⟨by rw [HO.out]; simp, HB.out⟩
                · have g1' : (0 : Int) < (a1 : Int) := by omega
                  by_cases g2 : a2 = 0
                  · subst g2
                    go_wp2_with fail
                    go_ret
                    exact ⟨by rw [HO.out]; simp, HB.out⟩
                  · have g2' : (0 : Int) < (a2 : Int) := by omega
                    by_cases g3 : a1 = a2
                    · subst g3
                      go_wp2_with fail
                      go_ret
                      exact ⟨by rw [HO.out]; simp, HB.out⟩
                    · have g3' : ¬ (a1 : Int) = (a2 : Int) := by omega
                      by_cases g4 : (a1 : Int) < b
                      · by_cases g5 : (a2 : Int) < b
                        · go_wp2_with fail
                          go_ret
                          exact ⟨by rw [HO.out]; first | (simp [g1, g2, g3, g3', g4, g5, h1', h2', h3', h4']; done) | (simp [g1, g2, g3, g3', g4, g5, h1', h2', h3', h4']; omega) | (simp [g1, g2, g3, g3', g4, g5, h1', h2', h3', h4']; intros; omega), HB.out⟩
                        · go_wp2_with fail
                          go_ret
                          exact ⟨by rw [HO.out]; first | (simp [g5]; done) | (simp [g5]; omega) | (simp [g5]; intros; omega), HB.out⟩
                      · go_wp2_with fail
                        go_ret
                        exact ⟨by rw [HO.out]; first | (simp [g4]; done) | (simp [g4]; omega) | (simp [g4]; intros; omega), HB.out⟩
              · go_upto_region 4 with fail
                go_quiet (first | (go_at_call_of 150 (Value.int IntKind.i64 M); refine Calls.quiet_of_same (H4'.out _)) | (go_at_call_of 150 (Value.int IntKind.i64 L); refine Calls.quiet_of_same (HK'.out _)))
                go_wp2_with fail
                go_ret
                exact ⟨by rw [HO.out]; simp [h6], su_dN HB.out _⟩
            · go_upto_region 4 with fail
              go_quiet (first | (go_at_call_of 150 (Value.int IntKind.i64 M); refine Calls.quiet_of_same (H4'.out _)) | (go_at_call_of 150 (Value.int IntKind.i64 L); refine Calls.quiet_of_same (HK'.out _)))
              go_wp2_with fail
              go_ret
              exact ⟨by rw [HO.out]; simp [h5], su_dN HB.out _⟩
end Go.Proofs.YtppagdmlfgialaaGreatDoor

namespace Go.Proofs.YtppagdmlfgialaaGreatDoor
set_option maxRecDepth 20000
open Go Go.RowKit
set_option linter.unusedVariables false
set_option linter.unusedSimpArgs false
set_option maxRecDepth 100000 in
set_option maxHeartbeats 4000000 in
theorem snum_any (x n : Nat) (hx : x < 18446744073709551616) (hn : n ≤ 8) (hn0 : 0 < n) (w : World) :
    Calls Tryz.prog 95 #[.int .u64 (x : Int), .int .i64 (n : Int)] w fun e w' => e = .returned (.string (strN (dig x) n)) ∧ Below w.heap.size w w' := by
  obtain ⟨i0, hi, hz0, hz1, hz2⟩ := info_parts infoU8k
  have b1 := Blk.new w 5 #[]
  have hb := below_new1 w (Obj.cells #[] 5)
  go_enter Tryz.func95, Tryz.ntmps95
  go_wp2_with fail
  generalize w.alloc (Obj.cells #[] 5) = W at *
  go_loopw [0, 5, 6] (fun m v i wr => ∃ k g cap : Nat, k ≤ n ∧ m = .int .u64 ((x / 256 ^ k : Nat) : Int) ∧ i = .int .i64 k ∧ v = .slice (some ⟨g, 0, none⟩) k cap ∧ wr.ownsRow w.heap.size 5 1 v k (byL (dig x) k) ∧ Below w.heap.size w wr) (fun _ _ i _ => n - (intOf i).toNat)
  case atStart => exact ⟨0, w.heap.size, 0, by omega, by simp, rfl, rfl, kown_empty b1 (Nat.le_refl _), hb⟩
  case round =>
    clear b1 hb
    obtain ⟨k, g, cap, hk, rfl, rfl, rfl, hown, hb⟩ := hrel
    have hv := hown.lt
    have hsz := hb.size
    by_cases hlt : k < n
    · have hqn : x / 256 ^ k ≤ x := Nat.div_le_self _ _
      have HQ : Hid (x / 256 ^ (k + 1) = x / 256 ^ k / 256) := by
        show _ = _
        rw [Nat.pow_succ, Nat.div_div_eq_div_mul]
      have HZ : Hid (byL (dig x) (k + 1) = byL (dig x) k ++ [Value.int .u8 ((x / 256 ^ k % 256 : Nat) : Int)]) := byL_succ (dig x) k
      generalize x / 256 ^ k = q at *
      generalize byL (dig x) k = L at *
      have k1 : (k : Int) < (n : Int) := by omega
      go_wp2_with (first
        | (at_builtin; refine wpList_append_own _ rfl _ _ 206 rfl w.heap.size 5 i0 (.int .u8 0) 1 1 Tryz.underlying206 hi hz0 hz1 hz2 rfl (by decide) _ _ _ rfl (hown.alloc _) ⟨wr.heap.size, 0, none⟩ 1 1 [.int .u8 ((q : Int) % 256)] rfl rfl (cell_one_new _ _ _) (fun x hx => by simp at hx; subst hx; rfl) (by unfold maxLen; omega) (by omega) (by simp; omega) ?_)
        | go_in)
      intro v' w2 hown' hgrow _
      have hb2 : Below w.heap.size w w2 := (hb.alloc hsz _).grown hgrow (by simp; omega) (fun k hk => (hv k hk).1)
      have hown2 : w2.ownsRow w.heap.size 5 1 v' (k + 1) (byL (dig x) (k + 1)) := by
        rw [HZ.out]
        simpa using hown'
      obtain ⟨g3, cap3, rfl, hg3, hg3'⟩ := kown_form hown2 (Nat.succ_pos k)
      clear hown hv hgrow hb hown'
      go_wp2_with fail
      go_roundw
      case rel => exact ⟨k + 1, g3, cap3, by omega, by rw [HQ.out]; simp, by simp, rfl, hown2, hb2⟩
      case measure => simp [intOf]; omega
    · obtain rfl : k = n := by omega
      have hc := run_own_text (P := Tryz.prog) wr 206 5 9 Tryz.underlying206 Tryz.underlying5 Tryz.underlying9 hown
      go_wp2_with fail
      go_ret
      exact ⟨rfl, hb⟩

set_option maxRecDepth 100000 in
set_option maxHeartbeats 4000000 in
theorem ssum_any (f : Nat → Nat) (hf : ∀ i, i < 32 → f i < 256) (w : World) :
    Calls Tryz.prog 96 #[.agg (va 32 (iv .u8 f))] w fun e w' => e = .returned (.string (strN f 32)) ∧ Below w.heap.size w w' := by
  obtain ⟨i0, hi, hz0, hz1, hz2⟩ := info_parts infoU8k
  have b0 : Blk ((w.alloc (.cells (va 32 (iv .u8 f)) 38)).alloc (.cells #[] 5)) w.heap.size 38 (va 32 (iv .u8 f)) := (Blk.new _ _ _).alloc _
  have b1 : Blk ((w.alloc (.cells (va 32 (iv .u8 f)) 38)).alloc (.cells #[] 5)) (w.heap.size + 1) 5 #[] := Blk.new1 _ _ _ _
  have hb : Below w.heap.size w ((w.alloc (.cells (va 32 (iv .u8 f)) 38)).alloc (.cells #[] 5)) := below_new2 _ _ _
  go_enter Tryz.func96, Tryz.ntmps96
  go_wp2_with fail
  generalize (w.alloc (.cells (va 32 (iv .u8 f)) 38)).alloc (.cells #[] 5) = W at *
  go_loopw [3, 4] (fun v i wr => ∃ k g cap : Nat, k ≤ 32 ∧ i = .int .i64 k ∧ v = .slice (some ⟨g, 0, none⟩) k cap ∧ wr.ownsRow (w.heap.size + 1) 5 1 v k (byL f k) ∧ Blk wr w.heap.size 38 (va 32 (iv .u8 f)) ∧ Below w.heap.size w wr ∧ w.heap.size + 1 ≤ wr.heap.size) (fun _ i _ => 32 - (intOf i).toNat)
  case atStart => exact ⟨0, w.heap.size + 1, 0, by omega, rfl, rfl, kown_empty b1 (Nat.le_refl _), b0, hb, by have := b1.lt; omega⟩
  case round =>
    clear b0 b1 hb
    obtain ⟨k, g, cap, hk, rfl, rfl, hown, b0, hb, hs1⟩ := hrel
    have hv := hown.lt
    have hsz := hb.size
    by_cases hlt : k < 32
    · have c0 : wr.cell? ⟨w.heap.size, k, none⟩ = some (.int .u8 ((f k : Nat) : Int)) := by rw [b0.cell]; exact va_at (iv .u8 f) hlt
      have HZ : Hid (byL f (k + 1) = byL f k ++ [Value.int .u8 ((f k : Nat) : Int)]) := byL_succ f k
      generalize byL f k = L at *
      have k1 : (k : Int) < 32 := by omega
      have hfk := hf k hlt
      go_wp2_with (first
        | (at_builtin; refine wpList_append_own _ rfl _ _ 206 rfl (w.heap.size + 1) 5 i0 (.int .u8 0) 1 1 Tryz.underlying206 hi hz0 hz1 hz2 rfl (by decide) _ _ _ rfl (hown.alloc _) ⟨wr.heap.size, 0, none⟩ 1 1 [.int .u8 ((f k : Nat) : Int)] rfl rfl (cell_one_new _ _ _) (fun x hx => by simp at hx; subst hx; rfl) (by unfold maxLen; omega) (by omega) (by simp; omega) ?_)
        | go_in)
      intro v' w2 hown' hgrow _
      have hb1 : Below (w.heap.size + 1) wr w2 := ((Below.refl _ _).alloc hs1 _).grown hgrow (by simp; omega) (fun k hk => (hv k hk).1)
      have hb2 : Below w.heap.size w w2 := hb.trans (hb1.mono (Nat.le_succ _))
      have b2 : Blk w2 w.heap.size 38 (va 32 (iv .u8 f)) := b0.below hb1 (Nat.lt_succ_self _)
      have hown2 : w2.ownsRow (w.heap.size + 1) 5 1 v' (k + 1) (byL f (k + 1)) := by
        rw [HZ.out]
        simpa using hown'
      obtain ⟨g3, cap3, rfl, hg3, hg3'⟩ := kown_form hown2 (Nat.succ_pos k)
      have hs2 : w.heap.size + 1 ≤ w2.heap.size := Nat.le_trans hs1 hb1.size
      clear hown hv hgrow hb hown' c0 b0 hb1
      go_wp2_with fail
      go_roundw
      case rel => exact ⟨k + 1, g3, cap3, by omega, by simp, rfl, hown2, b2, hb2, hs2⟩
      case measure => simp [intOf]; omega
    · obtain rfl : k = 32 := by omega
      have hc := run_own_text (P := Tryz.prog) wr 206 5 9 Tryz.underlying206 Tryz.underlying5 Tryz.underlying9 hown
      go_wp2_with fail
      go_ret
      exact ⟨rfl, hb⟩
end Go.Proofs.YtppagdmlfgialaaGreatDoor
