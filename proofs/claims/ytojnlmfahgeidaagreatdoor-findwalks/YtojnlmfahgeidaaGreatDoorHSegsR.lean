/- A region that draws its order in a round of a loop over a function: the laws of regions carried over. No program in it. -/
import Derived.Test.YtojnlmfahgeidaaGreatDoorHFiMath
import Derived.Test.YtojnlmfahgeidaaGreatDoorHDiRListK
import Derived.Test.YtojnlmfahgeidaaGreatDoorHBlkOwn
import Derived.Test.YtojnlmfahgeidaaGreatDoorHLogOf
import Derived.Maps.AppendAt
import Derived.Handy
import Derived.Test.YtojnlmfahgeidaaGreatDoorHCaAll
import Derived.Test.YtojnlmfahgeidaaGreatDoorHFiAlong
import Derived.Test.YtojnlmfahgeidaaGreatDoorHCollKit
import Derived.Test.YtojnlmfahgeidaaGreatDoorHDkWrite
import Derived.Deep.MidRow
import Derived.Test.YtojnlmfahgeidaaGreatDoorHOrders
import Derived.Shelf.Strings.Prefix
import Derived.Shelf.Strings.Search2
import Derived.Test.YtojnlmfahgeidaaGreatDoorProg
import Derived.Test.YtojnlmfahgeidaaGreatDoorHMathCount
import Derived.OrdersIn
import Derived.TacticsInMore
import Derived.RangeFuncCalls
import Derived.RangeFuncNested

namespace Go.Proofs.YtojnlmfahgeidaaGreatDoor
theorem sgLHSegsR : (∀ (α : Type) (a : α) (l r : List α), (a :: l) ++ r = a :: (l ++ r)) ∧ (∀ (α : Type) (l : List α), [] ++ l = l) ∧ (∀ (α : Type) (l : List α), l ++ [] = l) ∧ (∀ (α β : Type) (f : α → Option β) (a : α) (l : List α), (a :: l).filterMap f = match f a with | none => l.filterMap f | some b => b :: l.filterMap f) ∧ (∀ (α β : Type) (f : α → Option β), [].filterMap f = []) ∧ (∀ (α : Type) (l : List α) (i : Nat), l.toArray[i]? = l[i]?) ∧ (∀ (α : Type) (a : α) (l : List α), (a :: l)[0]? = some a) ∧ (∀ (α : Type) (a : α) (l : List α) (i : Nat), (a :: l)[i + 1]? = l[i]?) :=
  ⟨fun _ _ _ _ => List.cons_append, fun _ _ => List.nil_append _, fun _ _ => List.append_nil _, fun _ _ _ _ _ => List.filterMap_cons, fun _ _ _ => List.filterMap_nil, fun _ _ _ => List.getElem?_toArray, fun _ _ _ => List.getElem?_cons_zero, fun _ _ _ _ => List.getElem?_cons_succ⟩
theorem sgPHSegsR : (∀ (α : Type) (l : List α) (i : Nat) (a : α), l.toArray.setIfInBounds i a = (l.set i a).toArray) ∧ (∀ (α : Type) (a b : α) (l : List α), (a :: l).set 0 b = b :: l) ∧ (∀ (α : Type) (a b : α) (l : List α) (i : Nat), (a :: l).set (i + 1) b = a :: l.set i b) :=
  ⟨fun _ _ _ _ => List.setIfInBounds_toArray _ _ _, fun _ _ _ _ => List.set_cons_zero, fun _ _ _ _ _ => List.set_cons_succ⟩
end Go.Proofs.YtojnlmfahgeidaaGreatDoor
namespace Go.Proofs.YtojnlmfahgeidaaGreatDoor
open Go Go.RowKit
set_option linter.unusedSimpArgs false
set_option linter.unusedVariables false
theorem infoIn : (Tryz.prog.info? 3).map (fun i => (i.zero, i.size, i.bytes)) = some (some (.int .i64 0), 1, 8) := by kernel_rfl
/-- two lists, one beside the other, and the boxes that hold them (o1, o2: what stands in the boxes) -/
structure CS (B : Nat) (w0 : World) (bx bz : Nat) (o1 o2 v1 v2 : Value) (L1 L2 : List Value) (U : World) : Prop where
  b1 : Blk U bx 78 #[o1]
  b2 : Blk U bz 78 #[o2]
  r1 : U.ownsRow B 3 1 v1 L1.length L1
  r2 : U.ownsRow B 3 1 v2 L2.length L2
  ap : ∀ b, v1.ownBlock = some b → v2.ownBlock ≠ some b
  bl : Below B w0 U
  bs : B ≤ U.heap.size
  bb : B ≤ bx ∧ B ≤ bz ∧ bx ≠ bz
/-- an element in a block of its own -/
structure EL (U : World) (g : Nat) (a v1 v2 : Value) : Prop where
  blk : Blk U g 3 #[a]
  n1 : v1.ownBlock ≠ some g
  n2 : v2.ownBlock ≠ some g
theorem fi_grown {U U' : World} {B e size n : Nat} {v : Value} {xs : List Value} (h : U.ownsRow B e size v n xs) (hg : U.grownBy U' v.ownBlock) (hB : B ≤ U.heap.size) : Below B U U' := ⟨hg.os, hg.tape, hg.output, hg.size, fun b hb => hg.block b (by omega) fun q => by have := (h.lt b q.symm).1; omega⟩
section
variable {B : Nat} {w0 : World} {bx bz : Nat} {o1 o2 v1 v2 : Value} {L1 L2 : List Value} {U U' : World}
theorem CS.alloc (h : CS B w0 bx bz o1 o2 v1 v2 L1 L2 U) (o : Obj) : CS B w0 bx bz o1 o2 v1 v2 L1 L2 (U.alloc o) :=
  ⟨h.b1.alloc _, h.b2.alloc _, h.r1.alloc _, h.r2.alloc _, h.ap, h.bl.alloc h.bs _, by have := h.bs; simp; omega, h.bb⟩
theorem CS.below (h : CS B w0 bx bz o1 o2 v1 v2 L1 L2 U) (hb : Below U.heap.size U U') : CS B w0 bx bz o1 o2 v1 v2 L1 L2 U' :=
  ⟨h.b1.below hb h.b1.lt, h.b2.below hb h.b2.lt, kown_below h.r1 hb, kown_below h.r2 hb, h.ap, h.bl.trans (hb.mono h.bs), Nat.le_trans h.bs hb.size, h.bb⟩
theorem CS.elem (h : CS B w0 bx bz o1 o2 v1 v2 L1 L2 U) (a : Value) : EL (U.alloc (.cells #[a] 3)) U.heap.size a v1 v2 :=
  ⟨Blk.new _ _ _, fun q => by have := (h.r1.lt _ q).2; omega, fun q => by have := (h.r2.lt _ q).2; omega⟩
theorem EL.alloc {g : Nat} {a : Value} (h : EL U g a v1 v2) (o : Obj) : EL (U.alloc o) g a v1 v2 := ⟨h.blk.alloc _, h.n1, h.n2⟩
theorem EL.cells {g : Nat} {a : Value} (h : EL U g a v1 v2) : ∀ j u, [a][j]? = some u → U.cell? ((⟨g, 0, none⟩ : Addr).add j) = some u := fun j u hj => by
  have hl := (List.getElem?_eq_some_iff.1 hj).1
  have e0 : j = 0 := by simpa using hl
  subst e0
  have e : a = u := by simpa using hj
  subst e
  exact (h.blk.cell 0).trans rfl
theorem CS.app1 {v1' : Value} {n : Nat} {xs : List Value} (h : CS B w0 bx bz o1 o2 v1 v2 L1 L2 U) (ho : U'.ownsRow B 3 1 v1' n xs) (hg : U.grownBy U' v1.ownBlock) (hv : v1'.ownBlock = v1.ownBlock ∨ v1'.ownBlock = some U.heap.size) (hn : n = xs.length := by simp) : CS B w0 bx bz o1 o2 v1' v2 xs L2 U' := by
  subst hn
  have hlt := fun b q => (h.r2.lt b q).2
  refine ⟨(hg.block bx h.b1.lt fun q => own_ne h.r1 h.b1 (by decide) q.symm).trans h.b1, (hg.block bz h.b2.lt fun q => own_ne h.r1 h.b2 (by decide) q.symm).trans h.b2, ho, h.r2.kept hg ?_, fun b hb q => ?_, h.bl.trans (fi_grown h.r1 hg h.bs), Nat.le_trans h.bs hg.size, h.bb⟩
  · cases hq : v2.ownBlock with
    | none => exact .inl rfl
    | some k => exact .inr fun q => h.ap k q.symm hq
  · rcases hv with hv | hv
    · exact h.ap b (hv.symm.trans hb) q
    · rw [hv] at hb
      injection hb with hb
      have := hlt b q
      omega
theorem CS.app2 {v2' : Value} {n : Nat} {xs : List Value} (h : CS B w0 bx bz o1 o2 v1 v2 L1 L2 U) (ho : U'.ownsRow B 3 1 v2' n xs) (hg : U.grownBy U' v2.ownBlock) (hv : v2'.ownBlock = v2.ownBlock ∨ v2'.ownBlock = some U.heap.size) (hn : n = xs.length := by simp) : CS B w0 bx bz o1 o2 v1 v2' L1 xs U' := by
  subst hn
  have hlt := fun b q => (h.r1.lt b q).2
  refine ⟨(hg.block bx h.b1.lt fun q => own_ne h.r2 h.b1 (by decide) q.symm).trans h.b1, (hg.block bz h.b2.lt fun q => own_ne h.r2 h.b2 (by decide) q.symm).trans h.b2, h.r1.kept hg ?_, ho, fun b hb q => ?_, h.bl.trans (fi_grown h.r2 hg h.bs), Nat.le_trans h.bs hg.size, h.bb⟩
  · cases hq : v1.ownBlock with
    | none => exact .inl rfl
    | some k => exact .inr fun q => h.ap k hq q.symm
  · rcases hv with hv | hv
    · exact h.ap b hb (hv.symm.trans q)
    · rw [hv] at q
      injection q with q
      have := hlt b hb
      omega
theorem EL.app1 {g : Nat} {a v1' : Value} {n : Nat} {xs : List Value} (h : EL U g a v1 v2) (hc : CS B w0 bx bz o1 o2 v1 v2 L1 L2 U) (ho : U'.ownsRow B 3 1 v1' n xs) (hg : U.grownBy U' v1.ownBlock) (hv : v1'.ownBlock = v1.ownBlock ∨ v1'.ownBlock = some U.heap.size) : EL U' g a v1' v2 :=
  ⟨(hg.block g h.blk.lt fun q => h.n1 q.symm).trans h.blk, fun q => by
    rcases hv with hv | hv
    · exact h.n1 (hv.symm.trans q)
    · rw [hv] at q
      injection q with q
      have := h.blk.lt
      omega, h.n2⟩
theorem EL.app2 {g : Nat} {a v2' : Value} {n : Nat} {xs : List Value} (h : EL U g a v1 v2) (hc : CS B w0 bx bz o1 o2 v1 v2 L1 L2 U) (ho : U'.ownsRow B 3 1 v2' n xs) (hg : U.grownBy U' v2.ownBlock) (hv : v2'.ownBlock = v2.ownBlock ∨ v2'.ownBlock = some U.heap.size) : EL U' g a v1 v2' :=
  ⟨(hg.block g h.blk.lt fun q => h.n2 q.symm).trans h.blk, h.n1, fun q => by
    rcases hv with hv | hv
    · exact h.n2 (hv.symm.trans q)
    · rw [hv] at q
      injection q with q
      have := h.blk.lt
      omega⟩
theorem CS.store1 (h : CS B w0 bx bz o1 o2 v1 v2 L1 L2 U) : CS B w0 bx bz v1 o2 v1 v2 L1 L2 (U.setCell ⟨bx, 0, none⟩ v1) :=
  ⟨by have := h.b1.put 0 v1; exact this, h.b2.put_other _ _ (Ne.symm h.bb.2.2), kown_kept h.r1 fun k _ hk => Below.heap_setCell _ _ _ _ fun q => own_ne h.r1 h.b1 (by decide) (hk.trans (by rw [q])), kown_kept h.r2 fun k _ hk => Below.heap_setCell _ _ _ _ fun q => own_ne h.r2 h.b1 (by decide) (hk.trans (by rw [q])), h.ap, h.bl.setCell (p := ⟨bx, 0, none⟩) h.bb.1 _, by simpa using h.bs, h.bb⟩
theorem CS.store (h : CS B w0 bx bz o1 o2 v1 v2 L1 L2 U) : CS B w0 bx bz v1 v2 v1 v2 L1 L2 ((U.setCell ⟨bx, 0, none⟩ v1).setCell ⟨bz, 0, none⟩ v2) := by
  have h1 := h.store1
  exact ⟨h1.b1.put_other _ _ h.bb.2.2, by have := h1.b2.put 0 v2; exact this, kown_kept h1.r1 fun k _ hk => Below.heap_setCell _ _ _ _ fun q => own_ne h1.r1 h1.b2 (by decide) (hk.trans (by rw [q])), kown_kept h1.r2 fun k _ hk => Below.heap_setCell _ _ _ _ fun q => own_ne h1.r2 h1.b2 (by decide) (hk.trans (by rw [q])), h.ap, h1.bl.setCell (p := ⟨bz, 0, none⟩) h.bb.2.1 _, by simpa using h1.bs, h.bb⟩
end
set_option maxRecDepth 100000 in
set_option maxHeartbeats 16000000 in
theorem chain1_fn {B : Nat} {w0 : World} {bx bz : Nat} {v1 v2 : Value} {L1 L2 : List Value} (A1 P1 : Nat) (hl : L1.length ≤ 8796093022208 ∧ L2.length ≤ 8796093022208) (w : World) (h : CS B w0 bx bz v1 v2 v1 v2 L1 L2 w) : Calls Tryz.prog 72 #[.int .i64 (A1 : Int), .int .i64 (P1 : Int), .pointer (some ⟨bx, 0, none⟩), .pointer (some ⟨bz, 0, none⟩)] w fun e w' => e = .returned (.tuple #[]) ∧ ∃ va vb, CS B w0 bx bz va vb va vb (L1 ++ [.int .i64 (A1 : Int)]) (L2 ++ [.int .i64 (P1 : Int)]) w' := by
  obtain ⟨i0, hi0, hz0, hz1, hz2⟩ := info_parts infoIn
  have HL : Hid (L1.length ≤ 8796093022208 ∧ L2.length ≤ 8796093022208) := hl
  have HC0 : Hid (CS B w0 bx bz v1 v2 v1 v2 L1 L2 w.drew) := h.below (Below.refl _ _).drew
  have hS0 : Blk w.drew bx 78 #[v1] ∧ Blk w.drew bz 78 #[v2] := ⟨HC0.out.b1, HC0.out.b2⟩
  clear h hl
  go_enter Tryz.func72, Tryz.ntmps72
  go_wp2_with fail
  refine wp_region_planW (fun W => Blk W bx 78 #[v1] ∧ Blk W bz 78 #[v2]) [8, 9] (.yield [1, 5] 0 (.yield [] 4 (.fork 2 6 (.fork 3 6 (.force [] 6 (.force [] 7 (.fin []))) (.force [] 3 (.force [] 7 (.fin [])))) (.force [] 2 (.force [] 3 (.force [] 7 (.fin []))))))) (by kernel_rfl) (by kernel_rfl) hS0 (planW_yield ?_)
  generalize w.drew = wd at *
  simp only [sgLHSegsR]
  go_wp2_with fail
  first | (refine ⟨rfl, _, v1, rfl, Or.inl ⟨by rfl, fun W hW => by have hW1 : W.cell? ⟨bx, 0, none⟩ = some v1 := (hW.1.cell 0).trans rfl; go_simp⟩, planW_yield ?_⟩) | (refine ⟨rfl, v1, Or.inl ⟨by rfl, fun W hW => by have hW1 : W.cell? ⟨bx, 0, none⟩ = some v1 := (hW.1.cell 0).trans rfl; go_simp⟩, planW_yield ?_⟩)
  simp only [Act.put, sgPHSegsR]
  simp only [sgLHSegsR]
  go_wp2_with fail
  first | (refine ⟨rfl, _, v2, rfl, Or.inl ⟨by rfl, fun W hW => by have hW1 : W.cell? ⟨bz, 0, none⟩ = some v2 := (hW.2.cell 0).trans rfl; go_simp⟩, planW_fork ?_ ?_⟩) | (refine ⟨rfl, v2, Or.inl ⟨by rfl, fun W hW => by have hW1 : W.cell? ⟨bz, 0, none⟩ = some v2 := (hW.2.cell 0).trans rfl; go_simp⟩, planW_fork ?_ ?_⟩)
  simp only [Act.put, sgPHSegsR]
  · simp only [sgLHSegsR]
    have HC2 : Hid (CS B w0 bx bz v1 v2 v1 v2 L1 L2 ((wd).alloc (.cells #[(.int .i64 (A1 : Int))] 3))) := HC0.out.alloc _
    have HE2 : Hid (EL ((wd).alloc (.cells #[(.int .i64 (A1 : Int))] 3)) ((wd).heap.size) (.int .i64 (A1 : Int)) v1 v2) := HC0.out.elem _
    go_wp2_with fail
    refine ⟨rfl, ⟨HC2.out.b1, HC2.out.b2⟩, planW_fork ?_ ?_⟩
    · simp only [sgLHSegsR]
      refine wpList_append_own_at rfl _ _ 78 rfl B 3 i0 (.int .i64 0) 1 8 Tryz.underlying78 hi0 hz0 hz1 hz2 rfl (by decide) v1 L1.length L1 rfl HC2.out.r1 ⟨wd.heap.size, 0, none⟩ 1 1 [(.int .i64 (A1 : Int))] rfl rfl HE2.out.cells (fun x hx => by simp at hx; subst hx; rfl) (by have := HL.out; unfold maxLen; omega) (by have := HL.out; omega) HC2.out.bs ?_
      intro va U3 ho hg hv
      have HC3 : Hid (CS B w0 bx bz v1 v2 va v2 (L1 ++ [(.int .i64 (A1 : Int))]) L2 (U3)) := HC2.out.app1 ho hg hv
      clear ho hg hv
      go_wp2_with fail
      refine ⟨rfl, ⟨HC3.out.b1, HC3.out.b2⟩, planW_force ?_⟩
      simp only [sgLHSegsR]
      have HC6 : Hid (CS B w0 bx bz v1 v2 va v2 (L1 ++ [(.int .i64 (A1 : Int))]) L2 ((U3).alloc (.cells #[(.int .i64 (P1 : Int))] 3))) := HC3.out.alloc _
      have HE6 : Hid (EL ((U3).alloc (.cells #[(.int .i64 (P1 : Int))] 3)) ((U3).heap.size) (.int .i64 (P1 : Int)) va v2) := HC3.out.elem _
      go_wp2_with fail
      refine ⟨rfl, ⟨HC6.out.b1, HC6.out.b2⟩, planW_force ?_⟩
      simp only [sgLHSegsR]
      refine wpList_append_own_at rfl _ _ 78 rfl B 3 i0 (.int .i64 0) 1 8 Tryz.underlying78 hi0 hz0 hz1 hz2 rfl (by decide) v2 L2.length L2 rfl HC6.out.r2 ⟨U3.heap.size, 0, none⟩ 1 1 [(.int .i64 (P1 : Int))] rfl rfl HE6.out.cells (fun x hx => by simp at hx; subst hx; rfl) (by have := HL.out; unfold maxLen; omega) (by have := HL.out; omega) HC6.out.bs ?_
      intro vb U7 ho hg hv
      have HC7 : Hid (CS B w0 bx bz v1 v2 va vb (L1 ++ [(.int .i64 (A1 : Int))]) (L2 ++ [(.int .i64 (P1 : Int))]) (U7)) := HC6.out.app2 ho hg hv
      clear ho hg hv
      go_wp2_with fail
      refine ⟨rfl, ⟨HC7.out.b1, HC7.out.b2⟩, planW_fin ?_⟩
      simp only [sgLHSegsR]
      obtain ⟨qa, ka, rfl⟩ := kown_slice HC7.out.r1
      obtain ⟨qb, kb, rfl⟩ := kown_slice HC7.out.r2
      have cb1 := (HC7.out.b1.cell 0).trans rfl
      have cb2 := (HC7.out.b2.cell 0).trans rfl
      have fb1 := HC7.out.b1.frozen 0
      have fb2 := HC7.out.b2.frozen 0
      have hne : bx ≠ bz := HC7.out.bb.2.2
      have hne2 : bz ≠ bx := Ne.symm hne
      go_wp2_with fail
      refine ⟨rfl, ?_⟩
      go_wp2_with fail
      first
        | refine bodyPost_end (results_none Tryz.results72 _ _ _) rfl ?_
        | refine bodyPost_ret (results_none Tryz.results72 _ _ _) rfl ?_
      have hS := HC7.out.store
      simp only [List.length_append, List.length_cons, List.length_nil, Nat.zero_add] at hS
      exact ⟨rfl, _, _, hS⟩
    · simp only [sgLHSegsR]
      have HC6 : Hid (CS B w0 bx bz v1 v2 v1 v2 L1 L2 (((wd).alloc (.cells #[(.int .i64 (A1 : Int))] 3)).alloc (.cells #[(.int .i64 (P1 : Int))] 3))) := HC2.out.alloc _
      have HE6 : Hid (EL (((wd).alloc (.cells #[(.int .i64 (A1 : Int))] 3)).alloc (.cells #[(.int .i64 (P1 : Int))] 3)) (wd.heap.size + 1) (.int .i64 (P1 : Int)) v1 v2) := by
        have := HC2.out.elem (.int .i64 (P1 : Int))
        rw [show ((wd).alloc (.cells #[(.int .i64 (A1 : Int))] 3)).heap.size = wd.heap.size + 1 by simp] at this
        exact this
      have HE3 : Hid (EL (((wd).alloc (.cells #[(.int .i64 (A1 : Int))] 3)).alloc (.cells #[(.int .i64 (P1 : Int))] 3)) (wd.heap.size) (.int .i64 (A1 : Int)) v1 v2) := HE2.out.alloc _
      go_wp2_with fail
      refine ⟨rfl, ⟨HC6.out.b1, HC6.out.b2⟩, planW_force ?_⟩
      simp only [sgLHSegsR]
      refine wpList_append_own_at rfl _ _ 78 rfl B 3 i0 (.int .i64 0) 1 8 Tryz.underlying78 hi0 hz0 hz1 hz2 rfl (by decide) v1 L1.length L1 rfl HC6.out.r1 ⟨wd.heap.size, 0, none⟩ 1 1 [(.int .i64 (A1 : Int))] rfl rfl HE3.out.cells (fun x hx => by simp at hx; subst hx; rfl) (by have := HL.out; unfold maxLen; omega) (by have := HL.out; omega) HC6.out.bs ?_
      intro va U3 ho hg hv
      have HC3 : Hid (CS B w0 bx bz v1 v2 va v2 (L1 ++ [(.int .i64 (A1 : Int))]) L2 (U3)) := HC6.out.app1 ho hg hv
      have HE7 : Hid (EL (U3) (wd.heap.size + 1) (.int .i64 (P1 : Int)) va v2) := HE6.out.app1 HC6.out ho hg hv
      clear ho hg hv
      go_wp2_with fail
      refine ⟨rfl, ⟨HC3.out.b1, HC3.out.b2⟩, planW_force ?_⟩
      simp only [sgLHSegsR]
      refine wpList_append_own_at rfl _ _ 78 rfl B 3 i0 (.int .i64 0) 1 8 Tryz.underlying78 hi0 hz0 hz1 hz2 rfl (by decide) v2 L2.length L2 rfl HC3.out.r2 ⟨wd.heap.size + 1, 0, none⟩ 1 1 [(.int .i64 (P1 : Int))] rfl rfl HE7.out.cells (fun x hx => by simp at hx; subst hx; rfl) (by have := HL.out; unfold maxLen; omega) (by have := HL.out; omega) HC3.out.bs ?_
      intro vb U7 ho hg hv
      have HC7 : Hid (CS B w0 bx bz v1 v2 va vb (L1 ++ [(.int .i64 (A1 : Int))]) (L2 ++ [(.int .i64 (P1 : Int))]) (U7)) := HC3.out.app2 ho hg hv
      clear ho hg hv
      go_wp2_with fail
      refine ⟨rfl, ⟨HC7.out.b1, HC7.out.b2⟩, planW_fin ?_⟩
      simp only [sgLHSegsR]
      obtain ⟨qa, ka, rfl⟩ := kown_slice HC7.out.r1
      obtain ⟨qb, kb, rfl⟩ := kown_slice HC7.out.r2
      have cb1 := (HC7.out.b1.cell 0).trans rfl
      have cb2 := (HC7.out.b2.cell 0).trans rfl
      have fb1 := HC7.out.b1.frozen 0
      have fb2 := HC7.out.b2.frozen 0
      have hne : bx ≠ bz := HC7.out.bb.2.2
      have hne2 : bz ≠ bx := Ne.symm hne
      go_wp2_with fail
      refine ⟨rfl, ?_⟩
      go_wp2_with fail
      first
        | refine bodyPost_end (results_none Tryz.results72 _ _ _) rfl ?_
        | refine bodyPost_ret (results_none Tryz.results72 _ _ _) rfl ?_
      have hS := HC7.out.store
      simp only [List.length_append, List.length_cons, List.length_nil, Nat.zero_add] at hS
      exact ⟨rfl, _, _, hS⟩
  · simp only [sgLHSegsR]
    have HC6 : Hid (CS B w0 bx bz v1 v2 v1 v2 L1 L2 ((wd).alloc (.cells #[(.int .i64 (P1 : Int))] 3))) := HC0.out.alloc _
    have HE6 : Hid (EL ((wd).alloc (.cells #[(.int .i64 (P1 : Int))] 3)) ((wd).heap.size) (.int .i64 (P1 : Int)) v1 v2) := HC0.out.elem _
    go_wp2_with fail
    refine ⟨rfl, ⟨HC6.out.b1, HC6.out.b2⟩, planW_force ?_⟩
    simp only [sgLHSegsR]
    have HC2 : Hid (CS B w0 bx bz v1 v2 v1 v2 L1 L2 (((wd).alloc (.cells #[(.int .i64 (P1 : Int))] 3)).alloc (.cells #[(.int .i64 (A1 : Int))] 3))) := HC6.out.alloc _
    have HE2 : Hid (EL (((wd).alloc (.cells #[(.int .i64 (P1 : Int))] 3)).alloc (.cells #[(.int .i64 (A1 : Int))] 3)) (wd.heap.size + 1) (.int .i64 (A1 : Int)) v1 v2) := by
      have := HC6.out.elem (.int .i64 (A1 : Int))
      rw [show ((wd).alloc (.cells #[(.int .i64 (P1 : Int))] 3)).heap.size = wd.heap.size + 1 by simp] at this
      exact this
    have HE3 : Hid (EL (((wd).alloc (.cells #[(.int .i64 (P1 : Int))] 3)).alloc (.cells #[(.int .i64 (A1 : Int))] 3)) (wd.heap.size) (.int .i64 (P1 : Int)) v1 v2) := HE6.out.alloc _
    go_wp2_with fail
    refine ⟨rfl, ⟨HC2.out.b1, HC2.out.b2⟩, planW_force ?_⟩
    simp only [sgLHSegsR]
    refine wpList_append_own_at rfl _ _ 78 rfl B 3 i0 (.int .i64 0) 1 8 Tryz.underlying78 hi0 hz0 hz1 hz2 rfl (by decide) v1 L1.length L1 rfl HC2.out.r1 ⟨wd.heap.size + 1, 0, none⟩ 1 1 [(.int .i64 (A1 : Int))] rfl rfl HE2.out.cells (fun x hx => by simp at hx; subst hx; rfl) (by have := HL.out; unfold maxLen; omega) (by have := HL.out; omega) HC2.out.bs ?_
    intro va U3 ho hg hv
    have HC3 : Hid (CS B w0 bx bz v1 v2 va v2 (L1 ++ [(.int .i64 (A1 : Int))]) L2 (U3)) := HC2.out.app1 ho hg hv
    have HE7 : Hid (EL (U3) (wd.heap.size) (.int .i64 (P1 : Int)) va v2) := HE3.out.app1 HC2.out ho hg hv
    clear ho hg hv
    go_wp2_with fail
    refine ⟨rfl, ⟨HC3.out.b1, HC3.out.b2⟩, planW_force ?_⟩
    simp only [sgLHSegsR]
    refine wpList_append_own_at rfl _ _ 78 rfl B 3 i0 (.int .i64 0) 1 8 Tryz.underlying78 hi0 hz0 hz1 hz2 rfl (by decide) v2 L2.length L2 rfl HC3.out.r2 ⟨wd.heap.size, 0, none⟩ 1 1 [(.int .i64 (P1 : Int))] rfl rfl HE7.out.cells (fun x hx => by simp at hx; subst hx; rfl) (by have := HL.out; unfold maxLen; omega) (by have := HL.out; omega) HC3.out.bs ?_
    intro vb U7 ho hg hv
    have HC7 : Hid (CS B w0 bx bz v1 v2 va vb (L1 ++ [(.int .i64 (A1 : Int))]) (L2 ++ [(.int .i64 (P1 : Int))]) (U7)) := HC3.out.app2 ho hg hv
    clear ho hg hv
    go_wp2_with fail
    refine ⟨rfl, ⟨HC7.out.b1, HC7.out.b2⟩, planW_fin ?_⟩
    simp only [sgLHSegsR]
    obtain ⟨qa, ka, rfl⟩ := kown_slice HC7.out.r1
    obtain ⟨qb, kb, rfl⟩ := kown_slice HC7.out.r2
    have cb1 := (HC7.out.b1.cell 0).trans rfl
    have cb2 := (HC7.out.b2.cell 0).trans rfl
    have fb1 := HC7.out.b1.frozen 0
    have fb2 := HC7.out.b2.frozen 0
    have hne : bx ≠ bz := HC7.out.bb.2.2
    have hne2 : bz ≠ bx := Ne.symm hne
    go_wp2_with fail
    refine ⟨rfl, ?_⟩
    go_wp2_with fail
    first
      | refine bodyPost_end (results_none Tryz.results72 _ _ _) rfl ?_
      | refine bodyPost_ret (results_none Tryz.results72 _ _ _) rfl ?_
    have hS := HC7.out.store
    simp only [List.length_append, List.length_cons, List.length_nil, Nat.zero_add] at hS
    exact ⟨rfl, _, _, hS⟩
end Go.Proofs.YtojnlmfahgeidaaGreatDoor

namespace Go.Proofs.YtojnlmfahgeidaaGreatDoor
open Go Go.RowKit
set_option linter.unusedSimpArgs false
set_option linter.unusedVariables false
/-- a slice of texts -/
def IsNm (w : World) (a : Option Addr) (n : Nat) (nm : Nat → ByteArray) : Prop := ∀ j, j < n → ∃ b o, a = some ⟨b, o, none⟩ ∧ b < w.heap.size ∧ w.cell? ⟨b, o + j, none⟩ = some (.string (nm j))
theorem IsNm.below {w w' : World} {a : Option Addr} {n : Nat} {nm : Nat → ByteArray} (h : IsNm w a n nm) (hb : Below w.heap.size w w') : IsNm w' a n nm := fun j hj => by
  obtain ⟨b, o, h1, h2, h3⟩ := h j hj
  exact ⟨b, o, h1, Nat.lt_of_lt_of_le h2 hb.size, (hb.cell (p := ⟨b, o + j, none⟩) h2).trans h3⟩
/-- what Walk answers -/
noncomputable def wkW (F : Fo) (nm : Nat → ByteArray) (n : Nat) : Int := if wkR F nm n = 0 then ((wkA F nm n : Nat) : Int) else 0
noncomputable def wkL (F : Fo) (nm : Nat → ByteArray) (i : Nat) : List Value := (List.range (i + 1)).map fun j => .int .i64 ((wkA F nm j : Nat) : Int)
noncomputable def plL (F : Fo) (nm : Nat → ByteArray) (i : Nat) : List Value := (List.range i).map fun j => .int .i64 ((wkP F nm j : Nat) : Int)
theorem wkL_len (F : Fo) (nm : Nat → ByteArray) (i : Nat) : (wkL F nm i).length = i + 1 := by simp [wkL]
theorem plL_len (F : Fo) (nm : Nat → ByteArray) (i : Nat) : (plL F nm i).length = i := by simp [plL]
theorem wkL_succ (F : Fo) (nm : Nat → ByteArray) (i : Nat) : wkL F nm (i + 1) = wkL F nm i ++ [.int .i64 ((wkA F nm (i + 1) : Nat) : Int)] := by
  unfold wkL
  rw [List.range_succ, List.map_append]
  rfl
theorem plL_succ (F : Fo) (nm : Nat → ByteArray) (i : Nat) : plL F nm (i + 1) = plL F nm i ++ [.int .i64 ((wkP F nm i : Nat) : Int)] := by
  unfold plL
  rw [List.range_succ, List.map_append]
  rfl
theorem wkE_zero {F : Fo} {nm : Nat → ByteArray} {i : Nat} (h : wkE F nm i = 0) : F.dr (wkA F nm i) = true ∧ wkP F nm i < F.K (wkA F nm i) := by
  unfold wkE at h
  by_cases c : F.dr (wkA F nm i) = true
  · rw [if_pos c] at h
    by_cases c2 : wkP F nm i < F.K (wkA F nm i)
    · exact ⟨c, c2⟩
    · rw [if_neg c2] at h
      exact absurd h (by decide)
  · rw [if_neg c] at h
    exact absurd h (by decide)
section
variable {w w' : World} {B0 x mf ml mc all : Nat} {cp : Option Addr} {F : Fo}
theorem BI.wkN (h : BI w B0 x mf ml mc cp all F 0) {nm : Nat → ByteArray} {i : Nat} (hw : wkE F nm i = 0) : F.N (wkA F nm i) (wkP F nm i) = ((wkA F nm (i + 1) : Nat) : Int) ∧ 1 ≤ wkA F nm (i + 1) ∧ wkA F nm (i + 1) ≤ all := by
  obtain ⟨h1, h2⟩ := wkE_zero hw
  have h3 := h.en _ h1 _ h2
  rw [wkA_succ]
  omega
theorem BI.wkIn (h : BI w B0 x mf ml mc cp all F 0) {nm : Nat → ByteArray} : ∀ i, feE F nm i = 0 → 1 ≤ wkA F nm i ∧ wkA F nm i ≤ all
  | 0, _ => by have := h.al; exact ⟨Nat.le_refl _, this.1⟩
  | i + 1, hf => by
    have h0 := feE_none hf i (by omega)
    rw [feE_step h0] at hf
    exact (h.wkN hf).2
theorem BI.findW (h : BI w B0 x mf ml mc cp all F 0) {nm : Nat → ByteArray} {n i : Nat} (hi : i < n) (hna : naE nm n = 0) (hf : feE F nm i = 0) :
    Calls Tryz.prog 14 #[.pointer (some ⟨x, 0, none⟩), .int .i64 ((wkA F nm i : Nat) : Int), .string (nm i)] w fun e w' => ∃ r0 r1 : Int, e = .returned (.tuple #[.int .i64 r0, .int .i64 r1, .int .i64 (wkE F nm i)]) ∧ (wkE F nm i = 0 → r0 = ((wkA F nm (i + 1) : Nat) : Int) ∧ r1 = ((wkP F nm i : Nat) : Int)) ∧ Below w.heap.size w w' := by
  refine (h.find (wkA F nm i) (h.wkIn i hf) (nm i) (naE_each hna i hi) _ _ (wkE F nm i) rfl rfl rfl).mono ?_
  rintro e w' ⟨rfl, hb⟩
  refine ⟨_, _, rfl, fun h0 => ?_, hb⟩
  obtain ⟨h1, h2⟩ := wkE_zero h0
  have h3 := h.wkN h0
  rw [if_pos h1, if_pos h1]
  have h2' : fiN (F.S (wkA F nm i)) (F.K (wkA F nm i)) (nm i) < F.K (wkA F nm i) := h2
  rw [if_pos h2', if_pos h2']
  exact ⟨h3.1, rfl⟩
end
theorem wkR_four (F : Fo) (nm : Nat → ByteArray) (n : Nat) : wkR F nm n = 0 ∨ wkR F nm n = 130 ∨ wkR F nm n = 170 ∨ wkR F nm n = 171 := by
  have h1 : ∀ n, naE nm n = 0 ∨ naE nm n = 130 := fun n => by
    induction n with
    | zero => exact .inl rfl
    | succ n ih =>
      rcases ih with h | h
      · rw [naE_step h]
        exact nameE_two _
      · refine .inr ?_
        rw [naE_stay (i := n) (by rw [h]; decide) (n + 1) (by omega), h]
  have h2 : ∀ n, feE F nm n = 0 ∨ feE F nm n = 170 ∨ feE F nm n = 171 := fun n => by
    induction n with
    | zero => exact .inl rfl
    | succ n ih =>
      by_cases c : feE F nm n = 0
      · rw [feE_step c]
        exact wkE_three F nm n
      · rw [feE_stay c (n + 1) (by omega)]
        exact ih
  unfold wkR
  by_cases c : naE nm n = 0
  · rw [if_pos c]
    rcases h2 n with h | h | h
    · exact .inl h
    · exact .inr (.inr (.inl h))
    · exact .inr (.inr (.inr h))
  · rw [if_neg c]
    rcases h1 n with h | h
    · exact absurd h c
    · exact .inr (.inl h)
set_option maxRecDepth 100000 in
set_option maxHeartbeats 4000000 in
theorem walk1_fn (A1 P1 bx : Nat) (old : Value) (w : World) (h : Blk w bx 3 #[old]) : Calls Tryz.prog 71 #[.int .i64 (A1 : Int), .int .i64 (P1 : Int), .pointer (some ⟨bx, 0, none⟩)] w fun e w' => e = .returned (.tuple #[]) ∧ w' = w.setCell ⟨bx, 0, none⟩ (.int .i64 (A1 : Int)) := by
  have c0 := (h.cell 0).trans rfl
  have f0 := h.frozen 0
  go_enter Tryz.func71, Tryz.ntmps71
  go_wp2_with fail
  first
    | refine bodyPost_end (results_none Tryz.results71 _ _ _) rfl ?_
    | refine bodyPost_ret (results_none Tryz.results71 _ _ _) rfl ?_
  exact ⟨rfl, rfl⟩
section
variable {w w' : World} {B0 x mf ml mc all : Nat} {cp : Option Addr} {F : Fo}
set_option maxRecDepth 100000 in
set_option maxHeartbeats 4000000 in
theorem BI.fwalk (h : BI w B0 x mf ml mc cp all F 0) (a : Option Addr) (n c : Nat) (hn : n ≤ 9223372036854775807) (nm : Nat → ByteArray) (hN : IsNm w a n nm) : Calls Tryz.prog 33 #[.pointer (some ⟨x, 0, none⟩), .slice a n c] w fun e w' => e = .returned (.tuple #[.int .i64 (wkW F nm n), .int .i64 (wkR F nm n)]) ∧ Below w.heap.size w w' := by
  have b1 : Blk (w.alloc (.cells #[.int .i64 1] 3)) w.heap.size 3 #[.int .i64 1] := Blk.new _ _ _
  have hb1 : Below w.heap.size w (w.alloc (.cells #[.int .i64 1] 3)) := below_new1 _ _
  have HA : Hid (Calls Tryz.prog 70 #[.pointer (some ⟨x, 0, none⟩), .slice a n c, .func (.func 71) #[] #[.pointer (some ⟨w.heap.size, 0, none⟩)]] (w.alloc (.cells #[.int .i64 1] 3)) fun e w' => e = .returned (.int .i64 (wkR F nm n)) ∧ ∃ i, i ≤ n ∧ (wkR F nm n = 0 → i = n) ∧ Blk w' w.heap.size 3 #[.int .i64 ((wkA F nm i : Nat) : Int)] ∧ Below w.heap.size w w') :=
    along1_any x a n c hn 71 w.heap.size F nm (w.alloc (.cells #[.int .i64 1] 3)) (fun i V => Blk V w.heap.size 3 #[.int .i64 ((wkA F nm i : Nat) : Int)] ∧ Below w.heap.size w V) (enters_of Tryz.func71 (by kernel_rfl) rfl)
      (fun i V hV j hj => by obtain ⟨b, o, h1, h2, h3⟩ := (hN.below hV.2) j hj; exact ⟨b, o, h1, h3⟩)
      (fun i V V' hV hb => ⟨hV.1.below hb hV.1.lt, hV.2.trans (hb.mono hV.2.size)⟩)
      (fun i V hi hna hf hV => (h.below hV.2).findW hi hna hf)
      (fun i V hi hna hf hw hV => (walk1_fn (wkA F nm (i + 1)) (wkP F nm i) w.heap.size _ V hV.1).mono fun e w' he => ⟨he.1, by
        rw [he.2]
        exact ⟨by have := hV.1.put 0 (.int .i64 ((wkA F nm (i + 1) : Nat) : Int)); exact this, hV.2.setCell (p := ⟨w.heap.size, 0, none⟩) (Nat.le_refl _) _⟩⟩)
      ⟨b1, hb1⟩
  have HR := wkR_four F nm n
  have HW : Hid ((wkR F nm n = 0 → wkW F nm n = ((wkA F nm n : Nat) : Int)) ∧ (wkR F nm n ≠ 0 → wkW F nm n = 0)) := ⟨fun h0 => by unfold wkW; rw [if_pos h0], fun h0 => by unfold wkW; rw [if_neg h0]⟩
  have c0 := (b1.cell 0).trans rfl
  clear h hN hb1 b1
  generalize wkW F nm n = WW at HW ⊢
  generalize wkR F nm n = RR at HA HR HW ⊢
  go_enter Tryz.func33, Tryz.ntmps33
  go_wp2_with fail
  generalize (w.alloc (.cells #[.int .i64 1] 3)) = w1 at *
  refine HA.out.mono ?_
  rintro e w2 ⟨rfl, i, hi, hin, hB, hb⟩
  have HB : Hid (Below w.heap.size w w2) := hb
  clear HA hb c0
  by_cases h0 : RR = 0
  · have hW := HW.out.1 h0
    have hi2 := hin h0
    subst hi2
    subst h0
    have c1 := (hB.cell 0).trans rfl
    rw [← hW] at c1
    clear HW hB HR hin hW
    go_wp2_with fail
    go_ret2
    exact ⟨rfl, HB.out⟩
  · have hW := HW.out.2 h0
    subst hW
    clear HW hB hin
    rcases HR with hz | rfl | rfl | rfl
    · exact absurd hz h0
    all_goals
      clear h0
      go_wp2_with fail
      go_ret2
      exact ⟨rfl, HB.out⟩
theorem fi_one {w : World} {B e g : Nat} {v : Value} (h : Blk w g e #[v]) (hB : B ≤ g) : w.ownsRow B e 1 (.slice (some ⟨g, 0, none⟩) 1 1) 1 [v] :=
  ⟨by simp, .inr ⟨g, 1, #[v], rfl, hB, h, Nat.le_refl _, by unfold maxLen; omega, by simp, by simp⟩⟩
theorem cs_start (w : World) : CS w.heap.size w (w.heap.size + 1 + 1) (w.heap.size + 1 + 1 + 1) (.slice (some ⟨w.heap.size, 0, none⟩) 1 1) (.slice (some ⟨w.heap.size + 1, 0, none⟩) 0 0) (.slice (some ⟨w.heap.size, 0, none⟩) 1 1) (.slice (some ⟨w.heap.size + 1, 0, none⟩) 0 0) [.int .i64 1] [] ((((w.alloc (.cells #[.int .i64 1] 3)).alloc (.cells #[] 3)).alloc (.cells #[.slice (some ⟨w.heap.size, 0, none⟩) 1 1] 78)).alloc (.cells #[.slice (some ⟨w.heap.size + 1, 0, none⟩) 0 0] 78)) := by
  have hb := ((((Below.refl w.heap.size w).alloc (Nat.le_refl _) (.cells #[.int .i64 1] 3)).alloc (by simp) (.cells #[] 3)).alloc (by simp; omega) (.cells #[.slice (some ⟨w.heap.size, 0, none⟩) 1 1] 78)).alloc (by simp; omega) (.cells #[.slice (some ⟨w.heap.size + 1, 0, none⟩) 0 0] 78)
  have q0 : Blk (w.alloc (.cells #[.int .i64 1] 3)) w.heap.size 3 #[.int .i64 1] := Blk.new _ _ _
  generalize hX1 : w.alloc (.cells #[.int .i64 1] 3) = X1 at *
  have s1 : X1.heap.size = w.heap.size + 1 := by rw [← hX1]; simp
  have q1 : Blk (X1.alloc (.cells #[] 3)) X1.heap.size 3 #[] := Blk.new _ _ _
  have q01 := q0.alloc (.cells #[] 3)
  generalize hX2 : X1.alloc (.cells #[] 3) = X2 at *
  have s2 : X2.heap.size = w.heap.size + 1 + 1 := by rw [← hX2]; simp [s1]
  have q2 : Blk (X2.alloc (.cells #[.slice (some ⟨w.heap.size, 0, none⟩) 1 1] 78)) X2.heap.size 78 #[.slice (some ⟨w.heap.size, 0, none⟩) 1 1] := Blk.new _ _ _
  have q02 := q01.alloc (.cells #[.slice (some ⟨w.heap.size, 0, none⟩) 1 1] 78)
  have q12 := q1.alloc (.cells #[.slice (some ⟨w.heap.size, 0, none⟩) 1 1] 78)
  generalize hX3 : X2.alloc (.cells #[.slice (some ⟨w.heap.size, 0, none⟩) 1 1] 78) = X3 at *
  have s3 : X3.heap.size = w.heap.size + 1 + 1 + 1 := by rw [← hX3]; simp [s2]
  have q3 : Blk (X3.alloc (.cells #[.slice (some ⟨w.heap.size + 1, 0, none⟩) 0 0] 78)) X3.heap.size 78 #[.slice (some ⟨w.heap.size + 1, 0, none⟩) 0 0] := Blk.new _ _ _
  have q03 := q02.alloc (.cells #[.slice (some ⟨w.heap.size + 1, 0, none⟩) 0 0] 78)
  have q13 := q12.alloc (.cells #[.slice (some ⟨w.heap.size + 1, 0, none⟩) 0 0] 78)
  have q23 := q2.alloc (.cells #[.slice (some ⟨w.heap.size + 1, 0, none⟩) 0 0] 78)
  rw [s1] at q13
  rw [s2] at q23
  rw [s3] at q3
  exact ⟨q23, q3, fi_one q03 (Nat.le_refl _), kown_empty q13 (by omega), fun b hb => by
    simp [Value.ownBlock] at hb ⊢
    omega, hb, by simp [s3]; omega, by omega, by omega, by omega⟩
set_option maxRecDepth 100000 in
set_option maxHeartbeats 8000000 in
theorem BI.fchain (h : BI w B0 x mf ml mc cp all F 0) (a : Option Addr) (n c : Nat) (hn : n ≤ 8796093022200) (nm : Nat → ByteArray) (hN : IsNm w a n nm) : Calls Tryz.prog 34 #[.pointer (some ⟨x, 0, none⟩), .slice a n c] w fun e w' => ∃ v1 v2, e = .returned (.tuple #[v1, v2, .int .i64 (wkR F nm n)]) ∧ (wkR F nm n = 0 → w'.ownsRow w.heap.size 3 1 v1 (n + 1) (wkL F nm n) ∧ w'.ownsRow w.heap.size 3 1 v2 n (plL F nm n)) ∧ (wkR F nm n ≠ 0 → v1 = .slice none 0 0 ∧ v2 = .slice none 0 0) ∧ Below w.heap.size w w' := by
  have HA : Hid (Calls Tryz.prog 70 #[.pointer (some ⟨x, 0, none⟩), .slice a n c, .func (.func 72) #[] #[.pointer (some ⟨w.heap.size + 1 + 1, 0, none⟩), .pointer (some ⟨w.heap.size + 1 + 1 + 1, 0, none⟩)]] ((((w.alloc (.cells #[.int .i64 1] 3)).alloc (.cells #[] 3)).alloc (.cells #[.slice (some ⟨w.heap.size, 0, none⟩) 1 1] 78)).alloc (.cells #[.slice (some ⟨w.heap.size + 1, 0, none⟩) 0 0] 78)) fun e w' => e = .returned (.int .i64 (wkR F nm n)) ∧ ∃ i, i ≤ n ∧ (wkR F nm n = 0 → i = n) ∧ ∃ v1 v2, CS w.heap.size w (w.heap.size + 1 + 1) (w.heap.size + 1 + 1 + 1) v1 v2 v1 v2 (wkL F nm i) (plL F nm i) w') :=
    along2_any x a n c (by omega) 72 (w.heap.size + 1 + 1) (w.heap.size + 1 + 1 + 1) F nm _ (fun i V => ∃ v1 v2, CS w.heap.size w (w.heap.size + 1 + 1) (w.heap.size + 1 + 1 + 1) v1 v2 v1 v2 (wkL F nm i) (plL F nm i) V) (enters_of Tryz.func72 (by kernel_rfl) rfl)
      (fun i V hV j hj => by
        obtain ⟨v1, v2, hV⟩ := hV
        obtain ⟨b, o, h1, h2, h3⟩ := (hN.below hV.bl) j hj
        exact ⟨b, o, h1, h3⟩)
      (fun i V V' hV hb => by
        obtain ⟨v1, v2, hV⟩ := hV
        exact ⟨v1, v2, hV.below hb⟩)
      (fun i V hi hna hf hV => by
        obtain ⟨v1, v2, hV⟩ := hV
        exact (h.below hV.bl).findW hi hna hf)
      (fun i V hi hna hf hw hV => by
        obtain ⟨v1, v2, hV⟩ := hV
        refine (chain1_fn (wkA F nm (i + 1)) (wkP F nm i) ⟨by rw [wkL_len]; omega, by rw [plL_len]; omega⟩ V hV).mono ?_
        rintro e w' ⟨rfl, va, vb, hC⟩
        rw [← wkL_succ, ← plL_succ] at hC
        exact ⟨rfl, va, vb, hC⟩)
      ⟨_, _, cs_start w⟩
  have HR := wkR_four F nm n
  have HW : Hid (∀ i V v1 v2, i = n → CS w.heap.size w (w.heap.size + 1 + 1) (w.heap.size + 1 + 1 + 1) v1 v2 v1 v2 (wkL F nm i) (plL F nm i) V → V.ownsRow w.heap.size 3 1 v1 (n + 1) (wkL F nm n) ∧ V.ownsRow w.heap.size 3 1 v2 n (plL F nm n)) := fun i V v1 v2 hi hV => by
    subst hi
    have h1 := hV.r1
    have h2 := hV.r2
    rw [wkL_len] at h1
    rw [plL_len] at h2
    exact ⟨h1, h2⟩
  clear h hN
  generalize wkL F nm n = WL at HW ⊢
  generalize plL F nm n = PL at HW ⊢
  generalize wkR F nm n = RR at HA HR ⊢
  go_enter Tryz.func34, Tryz.ntmps34
  go_wp2_with fail
  refine HA.out.mono ?_
  rintro e w2 ⟨rfl, i, hi, hin, v1, v2, hC⟩
  have HC : Hid (CS w.heap.size w (w.heap.size + 1 + 1) (w.heap.size + 1 + 1 + 1) v1 v2 v1 v2 (wkL F nm i) (plL F nm i) w2) := hC
  clear HA hC
  by_cases h0 : RR = 0
  · have hi2 := hin h0
    have HO := HW.out i w2 v1 v2 hi2 HC.out
    have HX : Hid ((w2.ownsRow w.heap.size 3 1 v1 (n + 1) WL ∧ w2.ownsRow w.heap.size 3 1 v2 n PL) ∧ Below w.heap.size w w2) := ⟨HO, HC.out.bl⟩
    subst h0
    have c1 : ∀ q, (w2.drewN q).cell? ⟨w.heap.size + 1 + 1, 0, none⟩ = some v1 := fun q => (HC.out.b1.cell 0).trans rfl
    have c2 : ∀ q, (w2.drewN q).cell? ⟨w.heap.size + 1 + 1 + 1, 0, none⟩ = some v2 := fun q => (HC.out.b2.cell 0).trans rfl
    clear HW HR hin HO HC hi2
    go_wp2_with fail
    go_quiet (fail)
    go_wp2_with fail
    go_ret3
    have hd : Below w2.heap.size w2 (w2.drewN nq) := ⟨rfl, rfl, rfl, Nat.le_refl _, fun _ _ => rfl⟩
    have hE := And.intro (And.intro (kown_below HX.out.1.1 hd) (kown_below HX.out.1.2 hd)) (HX.out.2.trans (hd.mono HX.out.2.size))
    first
      | exact ⟨v1, v2, rfl, hE.1, hE.2⟩
      | exact ⟨v1, v2, rfl, fun _ => hE.1, fun q => absurd rfl q, hE.2⟩
  · have HX : Hid (Below w.heap.size w w2) := HC.out.bl
    clear HW hin HC
    rcases HR with hz | rfl | rfl | rfl
    · exact absurd hz h0
    all_goals
      clear h0
      go_wp2_with fail
      go_ret3
      exact ⟨_, _, rfl, fun q => absurd q (by decide), fun _ => ⟨rfl, rfl⟩, HX.out⟩
end
end Go.Proofs.YtojnlmfahgeidaaGreatDoor

namespace Go.Proofs.YtojnlmfahgeidaaGreatDoor
open Go Go.RowKit
set_option linter.unusedSimpArgs false
set_option linter.unusedVariables false
theorem st_nil (P : Program) (w : World) (a : Addr) (m : Mode) : (store a .nilFunc m).run P w = stored P w a .nilFunc m := run_store P w a _ m rfl
theorem st_fun (P : Program) (w : World) (a : Addr) (m : Mode) (f : Fn) (b c : Array Value) : (store a (.func f b c) m).run P w = stored P w a (.func f b c) m := run_store P w a _ m rfl
attribute [local go_sem] st_nil st_fun
theorem pt_zero (w : World) : (zeroValue 94).run Tryz.prog w = .ok (.agg #[.slice none 0 0, .bool false]) w := di_zero (by kernel_rfl) w
end Go.Proofs.YtojnlmfahgeidaaGreatDoor

namespace Go.Proofs.YtojnlmfahgeidaaGreatDoor
open Go Go.RowKit
set_option linter.unusedVariables false
set_option linter.unusedSimpArgs false
/-- a text of these bytes -/
def bsL (l : List UInt8) : ByteArray := ⟨l.toArray⟩
theorem bsL_data (l : List UInt8) : (bsL l).data.toList = l := by simp [bsL]
theorem bsL_of (s : ByteArray) : bsL s.data.toList = s := by cases s; simp [bsL]
theorem bsL_size (l : List UInt8) : (bsL l).size = l.length := by rw [Lib.size_eq, bsL_data]
/-- the bytes from a place up to the next slash -/
def segL (l : List UInt8) (i : Nat) : List UInt8 := (l.drop i).takeWhile (fun b => b != 47)
theorem segL_drop (l : List UInt8) (i j : Nat) : segL (l.drop i) j = segL l (i + j) := by
  unfold segL
  rw [List.drop_drop]
theorem segL_le (l : List UInt8) (i : Nat) : (segL l i).length ≤ l.length - i := by
  unfold segL
  have := (List.takeWhile_sublist (fun b : UInt8 => b != 47) (l := l.drop i)).length_le
  rw [List.length_drop] at this
  exact this
/-- the parts from a place on, with their places -/
def ptF : Nat → List UInt8 → Nat → List (Nat × ByteArray)
  | 0, _, _ => []
  | n + 1, l, i => if i < l.length then (if segL l i = [] then ptF n l (i + 1) else (i, bsL (segL l i)) :: ptF n l (i + (segL l i).length + 1)) else []
theorem ptF_end (n : Nat) {l : List UInt8} {i : Nat} (h : l.length ≤ i) : ptF n l i = [] := by
  cases n with
  | zero => rfl
  | succ n => rw [ptF, if_neg (by omega)]
theorem ptF_more : ∀ (n m : Nat) (l : List UInt8) (i : Nat), l.length - i ≤ n → l.length - i ≤ m → ptF n l i = ptF m l i
  | 0, m, l, i, hn, hm => by rw [ptF_end m (by omega)]; rfl
  | n + 1, 0, l, i, hn, hm => by rw [ptF_end (n + 1) (by omega)]; rfl
  | n + 1, m + 1, l, i, hn, hm => by
    by_cases hi : i < l.length
    · rw [ptF, ptF, if_pos hi, if_pos hi]
      by_cases hs : segL l i = []
      · rw [if_pos hs, if_pos hs]
        exact ptF_more n m l (i + 1) (by omega) (by omega)
      · rw [if_neg hs, if_neg hs, ptF_more n m l _ (by omega) (by omega)]
    · rw [ptF, ptF, if_neg hi, if_neg hi]
def pts (l : List UInt8) (i : Nat) : List (Nat × ByteArray) := ptF l.length l i
theorem pts_end {l : List UInt8} {i : Nat} (h : l.length ≤ i) : pts l i = [] := ptF_end _ h
theorem pts_skip {l : List UInt8} {i : Nat} (hi : i < l.length) (hs : segL l i = []) : pts l i = pts l (i + 1) := by
  unfold pts
  rw [ptF_more l.length (l.length + 1) l i (by omega) (by omega), ptF, if_pos hi, if_pos hs]
theorem pts_part {l : List UInt8} {i : Nat} (hi : i < l.length) (hs : segL l i ≠ []) : pts l i = (i, bsL (segL l i)) :: pts l (i + (segL l i).length + 1) := by
  unfold pts
  rw [ptF_more l.length (l.length + 1) l i (by omega) (by omega), ptF, if_pos hi, if_neg hs]
/-- what is wrong with a part behind these names -/
def badE (N : List ByteArray) (p : ByteArray) : Int :=
  if p.data.toList = [46] then 0 else if p.data.toList = [46, 46] then 0 else if isName p.data.toList = true then (if 32 ≤ N.length then 182 else 0) else 130
/-- the names behind a part -/
def nxtN (N : List ByteArray) (p : ByteArray) : List ByteArray :=
  if p.data.toList = [46] then N else if p.data.toList = [46, 46] then N.dropLast else N ++ [p]
/-- does a part ask for a directory? -/
def dirP (p : ByteArray) : Bool := decide (p.data.toList = [46]) || decide (p.data.toList = [46, 46])
/-- all parts gone through: names, directory, place, error -/
def runP : List ByteArray → Bool → List (Nat × ByteArray) → List ByteArray × Bool × Nat × Int
  | N, d, [] => (N, d, 0, 0)
  | N, d, x :: xs => if badE N x.2 = 0 then runP (nxtN N x.2) (dirP x.2) xs else ([], false, x.1, badE N x.2)
theorem runP_good {N : List ByteArray} {d : Bool} {x : Nat × ByteArray} (h : badE N x.2 = 0) (xs : List (Nat × ByteArray)) : runP N d (x :: xs) = runP (nxtN N x.2) (dirP x.2) xs := by
  rw [runP, if_pos h]
theorem runP_bad {N : List ByteArray} {d : Bool} {x : Nat × ByteArray} (h : badE N x.2 ≠ 0) (xs : List (Nat × ByteArray)) : runP N d (x :: xs) = ([], false, x.1, badE N x.2) := by
  rw [runP, if_neg h]
/-- the last byte is a slash -/
def endS (l : List UInt8) : Bool := decide (l.getLast? = some 47)
/-- what Parse answers: names, directory, place, error -/
def prs (l : List UInt8) : List ByteArray × Bool × Nat × Int :=
  if 1024 < l.length then ([], false, 1024, 181) else if l[0]? = some 47 then
    (if (runP [] false (pts l 0)).2.2.2 = 0 then ((runP [] false (pts l 0)).1, (runP [] false (pts l 0)).2.1 || endS l, 0, 0) else ([], false, (runP [] false (pts l 0)).2.2.1, (runP [] false (pts l 0)).2.2.2))
  else ([], false, 0, 180)
end Go.Proofs.YtojnlmfahgeidaaGreatDoor

namespace Go.Proofs
open Go.Shelf
def Tryz.prefixA_ren : Go.Shelf.Ren := ⟨fun | 99 => 67 | 206 => 122 | n => n, fun | 9 => 9 | 4 => 4 | 3 => 3 | n => n, fun | n => n⟩
theorem Tryz.prefixA : Go.Proofs.Lays.n99 Tryz.prog Tryz.prefixA_ren := {
  mixed := by kernel_rfl
  f99 := Tryz.func67.trans (congrArg some (by kernel_rfl))
  f206 := Tryz.func122.trans (congrArg some (by kernel_rfl))
  t3 := Tryz.underlying3
  a3 := Tryz.isAgg3
  z3 := Tryz.sizeOf3
  v3 := Tryz.zeroValue3
  t4 := Tryz.underlying4
  a4 := Tryz.isAgg4
  z4 := Tryz.sizeOf4
  v4 := Tryz.zeroValue4
  t9 := Tryz.underlying9
  a9 := Tryz.isAgg9
  z9 := Tryz.sizeOf9
  v9 := Tryz.zeroValue9 }
def Tryz.suffixA_ren : Go.Shelf.Ren := ⟨fun | 100 => 127 | 207 => 189 | n => n, fun | 9 => 9 | 4 => 4 | 3 => 3 | n => n, fun | n => n⟩
theorem Tryz.suffixA : Go.Proofs.Lays.n100 Tryz.prog Tryz.suffixA_ren := {
  mixed := by kernel_rfl
  f100 := Tryz.func127.trans (congrArg some (by kernel_rfl))
  f207 := Tryz.func189.trans (congrArg some (by kernel_rfl))
  t3 := Tryz.underlying3
  a3 := Tryz.isAgg3
  z3 := Tryz.sizeOf3
  v3 := Tryz.zeroValue3
  t4 := Tryz.underlying4
  a4 := Tryz.isAgg4
  z4 := Tryz.sizeOf4
  v4 := Tryz.zeroValue4
  t9 := Tryz.underlying9
  a9 := Tryz.isAgg9
  z9 := Tryz.sizeOf9
  v9 := Tryz.zeroValue9 }
def Tryz.indexA_ren : Go.Shelf.Ren := ⟨fun | 219 => 245 | 217 => 258 | 225 => 238 | 224 => 237 | 267 => 263 | 266 => 278 | 314 => 280 | n => n, fun | 9 => 9 | 3 => 3 | 4 => 4 | 5 => 5 | 46 => 360 | 146 => 409 | 51 => 116 | n => n, fun | 1 => 0 | n => n⟩
theorem Tryz.indexA : Go.Proofs.Lays.n219 Tryz.prog Tryz.indexA_ren := {
  mixed := by kernel_rfl
  f217 := Tryz.func258.trans (congrArg some (by kernel_rfl))
  f219 := Tryz.func245.trans (congrArg some (by kernel_rfl))
  f224 := Tryz.func237.trans (congrArg some (by kernel_rfl))
  f225 := Tryz.func238.trans (congrArg some (by kernel_rfl))
  f266 := Tryz.func278.trans (congrArg some (by kernel_rfl))
  f267 := Tryz.func263.trans (congrArg some (by kernel_rfl))
  f314 := Tryz.func280.trans (congrArg some (by kernel_rfl))
  t3 := Tryz.underlying3
  a3 := Tryz.isAgg3
  z3 := Tryz.sizeOf3
  v3 := Tryz.zeroValue3
  t4 := Tryz.underlying4
  a4 := Tryz.isAgg4
  z4 := Tryz.sizeOf4
  v4 := Tryz.zeroValue4
  t5 := Tryz.underlying5
  a5 := Tryz.isAgg5
  z5 := Tryz.sizeOf5
  v5 := Tryz.zeroValue5
  t9 := Tryz.underlying9
  a9 := Tryz.isAgg9
  z9 := Tryz.sizeOf9
  v9 := Tryz.zeroValue9
  t46 := Tryz.underlying360
  a46 := Tryz.isAgg360
  z46 := Tryz.sizeOf360
  v46 := Tryz.zeroValue360
  t51 := Tryz.underlying116
  a51 := Tryz.isAgg116
  z51 := Tryz.sizeOf116
  v51 := Tryz.zeroValue116
  t146 := Tryz.underlying409
  a146 := Tryz.isAgg409
  z146 := Tryz.sizeOf409
  v146 := Tryz.zeroValue409
  g1 := by kernel_rfl }
end Go.Proofs

namespace Go.Proofs.YtojnlmfahgeidaaGreatDoor
open Go Go.RowKit
section
variable {P : Program} {ops : Array Oper} {Q : Exit → Act → World → Prop} {md : Region.Mode}
/-- no operation defers a call -/
def noDefer (ops : Array Oper) : Bool := ops.all fun o => match o.op with
  | .defer _ => false
  | _ => true
theorem noDefer_at (h : noDefer ops = true) {i : Nat} {o : Oper} (hi : ops[i]? = some o) : ∀ c, o.op ≠ .defer c := by
  intro c hc
  unfold noDefer at h
  rw [Array.all_eq_true] at h
  obtain ⟨hlt, e⟩ := Array.getElem?_eq_some_iff.1 hi
  have := h i hlt
  rw [e, hc] at this
  cases this
theorem oper_round {o : Oper} {a : Act} {w : World} {K : Act → World → Prop} (l n : Nat) (hnd : ∀ c, o.op ≠ .defer c) (h : o.wp P a w K (Strict Q)) : o.wpIn (Fence.wide.inRound l) n P a w K Q := by
  refine ⟨fun _ _ => trivial, ?_⟩
  rw [show (Fence.wide.inRound l).round = some l from rfl, Oper.semAt_some l _ o hnd]
  unfold Oper.wp at h
  generalize (execOp a.eval o).run P w = r at *
  cases r with
  | ok x w' =>
    cases x <;> simp only [Oper.upon, Oper.uponIn] at h ⊢ <;> first
      | exact h
      | exact ⟨fun h => (by cases h), CallsIn.inRound l (callsIn_wide.2 (h.mono fun e w'' he => (by
          cases e with
          | returned v => exact he
          | panicked c => cases he.1
          | outgrown => exact absurd he Strict.noOut)))⟩
      | exact ⟨fun h => (by cases h), fun c cs _ => (by
          obtain ⟨v, w2, hr, hs⟩ := h c cs
          exact ⟨v, w2, hr, stepsIn_wide.2 hs⟩)⟩
  | halt x w' =>
    cases x <;> simp only [Oper.upon, Oper.uponIn] at h ⊢
    cases h.1
theorem op_round {i : Nat} {a : Act} {w : World} {K : Act → World → Prop} (l n : Nat) (hnd : noDefer ops = true) (h : wpOp P ops (Strict Q) i K a w) : wpOpIn (Fence.wide.inRound l) n P ops Q i K a w := by
  unfold wpOp at h
  unfold wpOpIn
  split
  · rename_i hn; simp only [hn] at h; exact h
  · rename_i o ho
    simp only [ho] at h
    split
    · rename_i hw
      simp only [hw, if_true] at h
      rcases h with h | ⟨_, h⟩
      · exact oper_round l n (noDefer_at hnd ho) h
      · exact absurd h Strict.noOut
    · rename_i hw
      simp only [hw] at h
      exact ⟨fun _ _ => trivial, h⟩
theorem any_round (l n : Nat) (hnd : noDefer ops = true) : ∀ (fuel : Nat) (listed : Array Bool) (a : Act) (w : World), wpAny P md ops (Strict Q) fuel listed a w → wpAnyIn (Fence.wide.inRound l) n P md ops Q fuel listed a w
  | 0, _, _, _, h => ⟨h.1, h.2.2⟩
  | fuel + 1, _, _, _, h => ⟨fun e => (h.1 e).2, fun i hi => op_round l n hnd (wpOp_mono (fun a' w' h' => any_round l n hnd fuel _ a' w' h') (h.2 i hi))⟩
theorem wpIn_region_partsS {id l n : Nat} {a : Act} {w : World} (S : World → Prop) (ps : List (List Nat × Nat × Bool)) (takes tail : List Nat) (hm : P.follows .mixedOrders = true) (hd : noDefer ops = true) (hB : wholeB ops tail [] ps takes tail = true)
    (hS : S w.drew) (h : wpPartsI P ops Q S ps (takes ++ tail) a w.drew) : (Code.region id ops true).wpIn (Fence.wide.inRound l) n P Q a w := by
  unfold wholeB at hB
  simp only [Bool.and_eq_true, beq_iff_eq] at hB
  refine wpIn_region_any hm (any_round l n hd _ _ _ _ ?_)
  rw [← hB.1.1.1]
  exact wpAny_of_W _ _ _ _ (partsS_step hB.1.1.2 takes tail ps _ a _ (by rw [hB.1.1.1]; exact hB.2) hS h)
end
end Go.Proofs.YtojnlmfahgeidaaGreatDoor
