/- Commits: CommitMaps' law: how many blocks a map has; parts that are missing or do not fit. -/
import Derived.Test.YtppagdmlfgialaaGreatHCmMaps

namespace Go.Proofs.YtppagdmlfgialaaGreat
theorem sgLHCmMapsLaw : (∀ (α : Type) (a : α) (l r : List α), (a :: l) ++ r = a :: (l ++ r)) ∧ (∀ (α : Type) (l : List α), [] ++ l = l) ∧ (∀ (α : Type) (l : List α), l ++ [] = l) ∧ (∀ (α β : Type) (f : α → Option β) (a : α) (l : List α), (a :: l).filterMap f = match f a with | none => l.filterMap f | some b => b :: l.filterMap f) ∧ (∀ (α β : Type) (f : α → Option β), [].filterMap f = []) ∧ (∀ (α : Type) (l : List α) (i : Nat), l.toArray[i]? = l[i]?) ∧ (∀ (α : Type) (a : α) (l : List α), (a :: l)[0]? = some a) ∧ (∀ (α : Type) (a : α) (l : List α) (i : Nat), (a :: l)[i + 1]? = l[i]?) :=
  ⟨fun _ _ _ _ => List.cons_append, fun _ _ => List.nil_append _, fun _ _ => List.append_nil _, fun _ _ _ _ _ => List.filterMap_cons, fun _ _ _ => List.filterMap_nil, fun _ _ _ => List.getElem?_toArray, fun _ _ _ => List.getElem?_cons_zero, fun _ _ _ _ => List.getElem?_cons_succ⟩
theorem sgPHCmMapsLaw : (∀ (α : Type) (l : List α) (i : Nat) (a : α), l.toArray.setIfInBounds i a = (l.set i a).toArray) ∧ (∀ (α : Type) (a b : α) (l : List α), (a :: l).set 0 b = b :: l) ∧ (∀ (α : Type) (a b : α) (l : List α) (i : Nat), (a :: l).set (i + 1) b = a :: l.set i b) :=
  ⟨fun _ _ _ _ => List.setIfInBounds_toArray _ _ _, fun _ _ _ _ => List.set_cons_zero, fun _ _ _ _ _ => List.set_cons_succ⟩
end Go.Proofs.YtppagdmlfgialaaGreat
namespace Go.Proofs.YtppagdmlfgialaaGreat
open Go Go.RowKit
set_option linter.unusedSimpArgs false
set_option linter.unusedVariables false
theorem su_putu {w : World} {g T : Nat} {x : Sup} (h : Blk w g T (suC x)) (v : Int) : Blk (w.setCell ⟨g, 71, none⟩ (.int .i64 v)) g T (suC { x with u := v }) := by
  have q := h.put 71 (.int .i64 v)
  unfold suC at q
  rw [va_set] at q
  have e : va 72 (upd (suF x) 71 (.int .i64 v)) = suC { x with u := v } := by
    unfold suC
    refine va_congr fun i hi => ?_
    unfold upd
    by_cases h1 : i = 71
    · subst h1
      rw [if_pos rfl]
      rfl
    · rw [if_neg h1]
      unfold suF
      by_cases h2 : i < 71
      · repeat' split
        all_goals first | rfl | omega
      · omega
  rwa [e] at q
/-- the fresh tree's root with a number of used blocks that is so much more -/
def suLs (less : Int) (t m : Rf) : Sup := { suFr 64 t m with u := wrap64 (3 + less) }
/-- what New answers -/
def NewK (less : Int) (p : Option Addr) (k : Int) : Prop := (less = 0 ∧ (∃ a : Nat, p = some ⟨a, 0, none⟩) ∧ k = 0) ∨ (less ≠ 0 ∧ p = none ∧ k = 1)
theorem commitNew_less (less : Int) (hl : -9223372036854775808 ≤ less ∧ less ≤ 9223372036854775807) {W0 : World} {B g c mc rg mr xg mf ml mm rm st lg : Nat} {F : Nat → Nat} {q : QD} {v : Value} {qq : Option Addr} {cq : Nat} {t m s : Rf} {P : Nat → Prop} {r : Nat} (w : World) (hB : Bgn W0 w 64 B g c mc rg mr xg mf ml mm rm st lg 0 none F q v qq cq t m s) (hr : RoomIs w P r 64 us3 us3) : Calls Tryz.prog 8 #[.pointer (some ⟨rg, 0, none⟩), .pointer (some ⟨c, 0, none⟩), .agg (slC (1, s)), .agg (suC (suLs less t m)), .pointer (some ⟨r, 0, none⟩), .pointer (some ⟨xg, 0, none⟩)] w fun e w' => ∃ p k, e = .returned (.tuple #[.pointer p, .int .i64 k]) ∧ NewK less p k ∧ Below w.heap.size w w' := by
  obtain ⟨ht, hm, hs⟩ := hB.at_
  obtain ⟨ot, om, os⟩ := hB.ok
  have hw := suFr_w 64 (by decide) t m ht hm ot om
  have hs1 : ((1, s) : Sl).2.1 < 4294967296 := by show s.1 < _; omega
  have h2 : cntF (qinF us3 us3 64 2) 64 = 3 := (cntF_congr fun p hp => in_us3 64 p hp).trans (cnt_us3 64 (by decide))
  by_cases h0 : less = 0
  · subst h0
    rw [show suLs 0 t m = suFr 64 t m from by
      unfold suLs
      rw [show wrap64 (3 + 0) = 3 from wrap64_at _ (by omega)]
      rfl]
    have hok : trOk 0 m := ⟨by
      unfold rOk
      rw [hm]
      simp, by decide, by decide⟩
    exact (commitNew_leaf (u := 3) (1, s) hs1 (suFr 64 t m) hw rfl rfl rfl (by decide) (by
      show fitS (suFr 64 t m) 1 s.1 ((64 : Nat) : Int) = true
      rw [hs]
      exact fits_fresh 64 (by decide) (by decide) t m ht hm) rfl (fun e => by
      have h1 : m = rf0 := e
      rw [h1] at hm
      exact absurd hm (by decide)) (by show m.1 < _; omega) om hok h2 (cntF_none _ 64 fun p hp => in4_us3 64 p hp) rg xg w hr hB.ca hB.rd.d).mono fun e w' ⟨st, q, cq, h1, _, _, h3⟩ => ⟨_, _, h1, .inl ⟨rfl, ⟨st, rfl⟩, rfl⟩, h3⟩
  · have hu : (suLs less t m).u ≠ ((3 : Nat) : Int) := by
      show wrap64 (3 + less) ≠ 3
      unfold wrap64
      omega
    have hx : SuW (suLs less t m) := ⟨hw.b, hw.c, hw.th, hw.ta, hw.td, hw.n, hw.mh, hw.ma, hw.md, by
      show -9223372036854775808 ≤ wrap64 (3 + less) ∧ wrap64 (3 + less) ≤ 9223372036854775807
      unfold wrap64
      omega⟩
    cases hf : fitS (suLs less t m) 1 s.1 ((64 : Nat) : Int) with
    | false => exact (commitNew_unfit (u := 3) (1, s) hs1 (suLs less t m) hx rfl rfl (by decide) hf h2 rg xg w hr hB.ca hB.rd.d).mono fun e w' ⟨h1, h3⟩ => ⟨_, _, h1, .inr ⟨h0, rfl, rfl⟩, h3⟩
    | true => exact (commitNew_other (u := 3) (1, s) hs1 (suLs less t m) hx rfl rfl (by decide) hf hu h2 rg xg w hr hB.ca hB.rd.d).mono fun e w' ⟨h1, h3⟩ => ⟨_, _, h1, .inr ⟨h0, rfl, rfl⟩, h3⟩
set_option maxRecDepth 100000 in
set_option maxHeartbeats 16000000 in
theorem mapsIn (n less : Int) (hr : rBl n = true) (hl : -9223372036854775808 ≤ less ∧ less ≤ 9223372036854775807) (W0 : World) : Calls Tryz.prog 3 #[.int .i64 n, .int .i64 less] W0 fun e W' => e = .returned (.bool true) ∧ Below W0.heap.size W0 W' := by
  have hz := zero_sd
  have HBg : Hid (∀ w : World, Calls Tryz.prog 5 #[.int .i64 64, .int .i64 0, .pointer none] w fun e w' => BegunP w 64 0 none e w') := fun w => begun21_any 64 (by decide) (by decide) 0 (by decide) (by decide) none w
  have HL : Hid (-9223372036854775808 ≤ less ∧ less ≤ 9223372036854775807) := hl
  clear hl
  have hM := fun w => cMap_any n w
  rw [if_pos hr, if_pos hr] at hM
  have HM : Hid (∀ w : World, Calls Tryz.prog 4 #[.int .i64 n] w fun e w' => e = .returned (.tuple #[.int .i64 (mpN n), .int .i64 0]) ∧ w' = w) := hM
  have hb := (rBl_iff n).1 hr
  have HR : Hid (∀ w : World, Calls Tryz.prog 7 #[.int .i64 n] w fun e w' => e = .returned (.int .i64 (mpN n)) ∧ w' = w) := fun w => map21_any n hb.1 hb.2 w
  have i1 : ¬ n < 16 := by omega
  have i2 : ¬ 8192 < n := by omega
  clear hM hb hr
  generalize mpN n = M at *
  go_enter Tryz.func3, Tryz.ntmps3
  go_wp2_with fail
  refine (HM.out W0).mono ?_
  rintro e W0 ⟨rfl, rfl⟩
  clear HM
  go_wp2_with fail
  refine (HBg.out _).mono ?_
  rintro e w1 ⟨B, g, c, mc, rg, mr, xg, mf, ml, mm, rm, st, lg, F, q, v, qq, cq, t, m, s, a, b, rfl, hB⟩
  have r0 : Blk (w1.alloc (.cells (sdC none none none none none 0 0) 32)) w1.heap.size 32 (sdC none none none none none 0 0) := Blk.new _ _ _
  have hb2 : Below w1.heap.size w1 ((w1.alloc (.cells (sdC none none none none none 0 0) 32)).setRow w1.heap.size (sdC (some g) (some rg) (some st) (some a) (some b) 3 ((64 : Nat) : Int))) := below_setRow (below_new1 _ _) (Nat.le_refl _) _
  have HS : Hid (Blk ((w1.alloc (.cells (sdC none none none none none 0 0) 32)).setRow w1.heap.size (sdC (some g) (some rg) (some st) (some a) (some b) 3 ((64 : Nat) : Int))) w1.heap.size 32 (sdC (some g) (some rg) (some st) (some a) (some b) 3 ((64 : Nat) : Int)) ∧ Bgn W0 ((w1.alloc (.cells (sdC none none none none none 0 0) 32)).setRow w1.heap.size (sdC (some g) (some rg) (some st) (some a) (some b) 3 ((64 : Nat) : Int))) 64 B g c mc rg mr xg mf ml mm rm st lg 0 none F q v qq cq t m s) := ⟨r0.set _, hB.keep hb2⟩
  clear hB hb2 HBg
  go_upto_region 3 with (first
    | (refine wpList_store_row (by rfl) 32 _ _ (by rfl) (w1.heap.size) ((sdC (some g) (some rg) (some st) (some a) (some b) 3 ((64 : Nat) : Int))) (by rfl) (by rfl) 32 (_) (by exact r0) (sizeSd.trans (by rw [sdC_size])) (by simp only [sdC_size]) (sdC_all _ _ _ _ _ _ _) ?_; simp only [Act.put, sgPHCmMapsLaw])
    | fail)
  clear r0 hz
  generalize ((w1.alloc (.cells (sdC none none none none none 0 0) 32)).setRow w1.heap.size (sdC (some g) (some rg) (some st) (some a) (some b) 3 ((64 : Nat) : Int))) = w2 at *
  generalize w1.heap.size = a7 at *
  go_wp2_with fail
  refine (awake21_any w2).mono ?_
  rintro e w3 ⟨rfl, hb3⟩
  have HS3 : Hid (Blk w3 a7 32 (sdC (some g) (some rg) (some st) (some a) (some b) 3 ((64 : Nat) : Int)) ∧ Bgn W0 w3 64 B g c mc rg mr xg mf ml mm rm st lg 0 none F q v qq cq t m s) := ⟨HS.out.1.below hb3 HS.out.1.lt, HS.out.2.keep hb3⟩
  clear HS hb3
  go_wp2_with fail
  refine (HR.out _).mono ?_
  rintro e w3 ⟨rfl, rfl⟩
  clear HR
  go_upto_region 10 with fail
  have hS : Blk w3.drew a7 32 (sdC (some g) (some rg) (some st) (some a) (some b) 3 ((64 : Nat) : Int)) ∧ Bgn W0 w3.drew 64 B g c mc rg mr xg mf ml mm rm st lg 0 none F q v qq cq t m s := ⟨HS3.out.1, HS3.out.2.keep (Below.refl _ _).drew⟩
  clear HS3
  refine wp_region_partsS (fun V => Blk V a7 32 (sdC (some g) (some rg) (some st) (some a) (some b) 3 ((64 : Nat) : Int)) ∧ Bgn W0 V 64 B g c mc rg mr xg mf ml mm rm st lg 0 none F q v qq cq t m s) [([], 0, true), ([], 1, true), ([], 3, true), ([], 4, true), ([], 6, true), ([], 7, true), ([], 9, true), ([], 10, true), ([], 12, true), ([], 13, true), ([], 2, false), ([], 5, false), ([], 8, false), ([], 11, false), ([], 14, false), ([], 15, false)] [16, 17, 18, 19, 20] [] (by kernel_rfl) (by kernel_rfl) hS ?_
  refine partsI_yield0 (v := .pointer (some ⟨a7, 2, none⟩)) (by simp only [List.getElem?_toArray, List.getElem?_cons_zero, List.getElem?_cons_succ]; rfl) ?_ ?_
  · exact Or.inl ⟨by rfl, fun W hW => by go_simp⟩
  simp only [Act.put, sgPHCmMapsLaw]
  refine partsI_yield0 (v := .pointer (some ⟨st, 0, none⟩)) (by simp only [List.getElem?_toArray, List.getElem?_cons_zero, List.getElem?_cons_succ]; rfl) ?_ ?_
  · exact Or.inl ⟨by rfl, fun W hW => by have hc : W.cell? ⟨a7, 2, none⟩ = some (.pointer (some ⟨st, 0, none⟩)) := hW.1.cell 2; go_simp⟩
  simp only [Act.put, sgPHCmMapsLaw]
  refine partsI_yield0 (v := .pointer (some ⟨a7, 2, none⟩)) (by simp only [List.getElem?_toArray, List.getElem?_cons_zero, List.getElem?_cons_succ]; rfl) ?_ ?_
  · exact Or.inl ⟨by rfl, fun W hW => by go_simp⟩
  simp only [Act.put, sgPHCmMapsLaw]
  refine partsI_yield0 (v := .pointer (some ⟨st, 0, none⟩)) (by simp only [List.getElem?_toArray, List.getElem?_cons_zero, List.getElem?_cons_succ]; rfl) ?_ ?_
  · exact Or.inl ⟨by rfl, fun W hW => by have hc : W.cell? ⟨a7, 2, none⟩ = some (.pointer (some ⟨st, 0, none⟩)) := hW.1.cell 2; go_simp⟩
  simp only [Act.put, sgPHCmMapsLaw]
  refine partsI_yield0 (v := .pointer (some ⟨a7, 2, none⟩)) (by simp only [List.getElem?_toArray, List.getElem?_cons_zero, List.getElem?_cons_succ]; rfl) ?_ ?_
  · exact Or.inl ⟨by rfl, fun W hW => by go_simp⟩
  simp only [Act.put, sgPHCmMapsLaw]
  refine partsI_yield0 (v := .pointer (some ⟨st, 0, none⟩)) (by simp only [List.getElem?_toArray, List.getElem?_cons_zero, List.getElem?_cons_succ]; rfl) ?_ ?_
  · exact Or.inl ⟨by rfl, fun W hW => by have hc : W.cell? ⟨a7, 2, none⟩ = some (.pointer (some ⟨st, 0, none⟩)) := hW.1.cell 2; go_simp⟩
  simp only [Act.put, sgPHCmMapsLaw]
  refine partsI_yield0 (v := .pointer (some ⟨a7, 2, none⟩)) (by simp only [List.getElem?_toArray, List.getElem?_cons_zero, List.getElem?_cons_succ]; rfl) ?_ ?_
  · exact Or.inl ⟨by rfl, fun W hW => by go_simp⟩
  simp only [Act.put, sgPHCmMapsLaw]
  refine partsI_yield0 (v := .pointer (some ⟨st, 0, none⟩)) (by simp only [List.getElem?_toArray, List.getElem?_cons_zero, List.getElem?_cons_succ]; rfl) ?_ ?_
  · exact Or.inl ⟨by rfl, fun W hW => by have hc : W.cell? ⟨a7, 2, none⟩ = some (.pointer (some ⟨st, 0, none⟩)) := hW.1.cell 2; go_simp⟩
  simp only [Act.put, sgPHCmMapsLaw]
  refine partsI_yield0 (v := .pointer (some ⟨a7, 2, none⟩)) (by simp only [List.getElem?_toArray, List.getElem?_cons_zero, List.getElem?_cons_succ]; rfl) ?_ ?_
  · exact Or.inl ⟨by rfl, fun W hW => by go_simp⟩
  simp only [Act.put, sgPHCmMapsLaw]
  refine partsI_yield0 (v := .pointer (some ⟨st, 0, none⟩)) (by simp only [List.getElem?_toArray, List.getElem?_cons_zero, List.getElem?_cons_succ]; rfl) ?_ ?_
  · exact Or.inl ⟨by rfl, fun W hW => by have hc : W.cell? ⟨a7, 2, none⟩ = some (.pointer (some ⟨st, 0, none⟩)) := hW.1.cell 2; go_simp⟩
  simp only [Act.put, sgPHCmMapsLaw]
  refine partsI_force ?_
  simp only [sgLHCmMapsLaw]
  refine wpList_hideY (by rfl) fun K QQ hK => ?_
  go_wp2_with fail
  refine (stCache_at _ hS.2.st).mono ?_
  rintro e _ ⟨rfl, rfl⟩
  go_wp2_with fail
  refine ⟨rfl, hS, ?_⟩
  refine partsI_force ?_
  simp only [sgLHCmMapsLaw]
  refine wpList_hideY (by rfl) fun K QQ hK => ?_
  go_wp2_with fail
  refine (stSlot_at _ hS.2.st).mono ?_
  rintro e ws10 ⟨rfl, hb⟩
  have hS1 : Blk ws10 a7 32 (sdC (some g) (some rg) (some st) (some a) (some b) 3 ((64 : Nat) : Int)) ∧ Bgn W0 ws10 64 B g c mc rg mr xg mf ml mm rm st lg 0 none F q v qq cq t m s := ⟨hS.1.below hb hS.1.lt, hS.2.keep hb⟩
  clear hb
  go_wp2_with fail
  refine ⟨rfl, hS1, ?_⟩
  refine partsI_force ?_
  simp only [sgLHCmMapsLaw]
  refine wpList_hideY (by rfl) fun K QQ hK => ?_
  go_wp2_with fail
  refine (stRoot_at _ hS1.2.st).mono ?_
  rintro e wr10 ⟨rfl, hb⟩
  have hS2 : Blk wr10 a7 32 (sdC (some g) (some rg) (some st) (some a) (some b) 3 ((64 : Nat) : Int)) ∧ Bgn W0 wr10 64 B g c mc rg mr xg mf ml mm rm st lg 0 none F q v qq cq t m s := ⟨hS1.1.below hb hS1.1.lt, hS1.2.keep hb⟩
  clear hb
  go_wp2_with fail
  refine ⟨rfl, hS2, ?_⟩
  refine partsI_force ?_
  simp only [sgLHCmMapsLaw]
  refine wpList_hideY (by rfl) fun K QQ hK => ?_
  go_wp2_with fail
  refine (stRoom_at _ hS2.2.st hS2.2.ro).mono ?_
  rintro e wm10 ⟨r10, rfl, hrm, hb⟩
  have HRM10 : Hid (RoomIs wm10 (fun k => _ ≤ k) r10 64 us3 us3) := hrm
  clear hrm
  have hS3 : Blk wm10 a7 32 (sdC (some g) (some rg) (some st) (some a) (some b) 3 ((64 : Nat) : Int)) ∧ Bgn W0 wm10 64 B g c mc rg mr xg mf ml mm rm st lg 0 none F q v qq cq t m s := ⟨hS2.1.below hb hS2.1.lt, hS2.2.keep hb⟩
  clear hb
  go_wp2_with fail
  refine ⟨rfl, hS3, ?_⟩
  refine partsI_force ?_
  simp only [sgLHCmMapsLaw]
  refine wpList_hideY (by rfl) fun K QQ hK => ?_
  go_wp2_with fail
  refine (stInodes_at _ hS3.2.st).mono ?_
  rintro e _ ⟨rfl, rfl⟩
  go_wp2_with fail
  refine ⟨rfl, hS3, ?_⟩
  refine partsI_force ?_
  simp only [sgLHCmMapsLaw]
  refine wpList_hideY (by rfl) fun K QQ hK => ?_
  go_wp2_with fail
  refine (commitNew_nil1 0 c r10 xg (1, s) (suFr 64 t m) _).mono ?_
  rintro e wn10 ⟨rfl, hb⟩
  have hS4 : Blk wn10 a7 32 (sdC (some g) (some rg) (some st) (some a) (some b) 3 ((64 : Nat) : Int)) ∧ Bgn W0 wn10 64 B g c mc rg mr xg mf ml mm rm st lg 0 none F q v qq cq t m s := ⟨hS3.1.below hb hS3.1.lt, hS3.2.keep hb⟩
  clear hb
  go_wp2_with fail
  refine ⟨rfl, hS4, ?_⟩
  refine partsI_last ?_
  simp only [sgLHCmMapsLaw]
  go_wp2_with fail
  refine ⟨rfl, ?_⟩
  have HS10 : Hid (Blk wn10 a7 32 (sdC (some g) (some rg) (some st) (some a) (some b) 3 ((64 : Nat) : Int)) ∧ Bgn W0 wn10 64 B g c mc rg mr xg mf ml mm rm st lg 0 none F q v qq cq t m s) := hS4
  clear hS hS1 hS2 hS3 hS4 HRM10
  go_upto_region 11 with fail
  have hS : Blk wn10.drew a7 32 (sdC (some g) (some rg) (some st) (some a) (some b) 3 ((64 : Nat) : Int)) ∧ Bgn W0 wn10.drew 64 B g c mc rg mr xg mf ml mm rm st lg 0 none F q v qq cq t m s := ⟨HS10.out.1, HS10.out.2.keep (Below.refl _ _).drew⟩
  clear HS10
  refine wp_region_partsS (fun V => Blk V a7 32 (sdC (some g) (some rg) (some st) (some a) (some b) 3 ((64 : Nat) : Int)) ∧ Bgn W0 V 64 B g c mc rg mr xg mf ml mm rm st lg 0 none F q v qq cq t m s) [([], 0, true), ([], 1, true), ([], 2, true), ([], 3, true), ([], 5, true), ([], 6, true), ([], 8, true), ([], 9, true), ([], 11, true), ([], 12, true), ([], 4, false), ([], 7, false), ([], 10, false), ([], 13, false), ([], 14, false)] [15, 16, 17, 18, 19] [] (by kernel_rfl) (by kernel_rfl) hS ?_
  refine partsI_yield0 (v := .pointer (some ⟨a7, 1, none⟩)) (by simp only [List.getElem?_toArray, List.getElem?_cons_zero, List.getElem?_cons_succ]; rfl) ?_ ?_
  · exact Or.inl ⟨by rfl, fun W hW => by go_simp⟩
  simp only [Act.put, sgPHCmMapsLaw]
  refine partsI_yield0 (v := .pointer (some ⟨rg, 0, none⟩)) (by simp only [List.getElem?_toArray, List.getElem?_cons_zero, List.getElem?_cons_succ]; rfl) ?_ ?_
  · exact Or.inl ⟨by rfl, fun W hW => by have hc : W.cell? ⟨a7, 1, none⟩ = some (.pointer (some ⟨rg, 0, none⟩)) := hW.1.cell 1; go_simp⟩
  simp only [Act.put, sgPHCmMapsLaw]
  refine partsI_yield0 (v := .pointer (some ⟨a7, 2, none⟩)) (by simp only [List.getElem?_toArray, List.getElem?_cons_zero, List.getElem?_cons_succ]; rfl) ?_ ?_
  · exact Or.inl ⟨by rfl, fun W hW => by go_simp⟩
  simp only [Act.put, sgPHCmMapsLaw]
  refine partsI_yield0 (v := .pointer (some ⟨st, 0, none⟩)) (by simp only [List.getElem?_toArray, List.getElem?_cons_zero, List.getElem?_cons_succ]; rfl) ?_ ?_
  · exact Or.inl ⟨by rfl, fun W hW => by have hc : W.cell? ⟨a7, 2, none⟩ = some (.pointer (some ⟨st, 0, none⟩)) := hW.1.cell 2; go_simp⟩
  simp only [Act.put, sgPHCmMapsLaw]
  refine partsI_yield0 (v := .pointer (some ⟨a7, 2, none⟩)) (by simp only [List.getElem?_toArray, List.getElem?_cons_zero, List.getElem?_cons_succ]; rfl) ?_ ?_
  · exact Or.inl ⟨by rfl, fun W hW => by go_simp⟩
  simp only [Act.put, sgPHCmMapsLaw]
  refine partsI_yield0 (v := .pointer (some ⟨st, 0, none⟩)) (by simp only [List.getElem?_toArray, List.getElem?_cons_zero, List.getElem?_cons_succ]; rfl) ?_ ?_
  · exact Or.inl ⟨by rfl, fun W hW => by have hc : W.cell? ⟨a7, 2, none⟩ = some (.pointer (some ⟨st, 0, none⟩)) := hW.1.cell 2; go_simp⟩
  simp only [Act.put, sgPHCmMapsLaw]
  refine partsI_yield0 (v := .pointer (some ⟨a7, 2, none⟩)) (by simp only [List.getElem?_toArray, List.getElem?_cons_zero, List.getElem?_cons_succ]; rfl) ?_ ?_
  · exact Or.inl ⟨by rfl, fun W hW => by go_simp⟩
  simp only [Act.put, sgPHCmMapsLaw]
  refine partsI_yield0 (v := .pointer (some ⟨st, 0, none⟩)) (by simp only [List.getElem?_toArray, List.getElem?_cons_zero, List.getElem?_cons_succ]; rfl) ?_ ?_
  · exact Or.inl ⟨by rfl, fun W hW => by have hc : W.cell? ⟨a7, 2, none⟩ = some (.pointer (some ⟨st, 0, none⟩)) := hW.1.cell 2; go_simp⟩
  simp only [Act.put, sgPHCmMapsLaw]
  refine partsI_yield0 (v := .pointer (some ⟨a7, 2, none⟩)) (by simp only [List.getElem?_toArray, List.getElem?_cons_zero, List.getElem?_cons_succ]; rfl) ?_ ?_
  · exact Or.inl ⟨by rfl, fun W hW => by go_simp⟩
  simp only [Act.put, sgPHCmMapsLaw]
  refine partsI_yield0 (v := .pointer (some ⟨st, 0, none⟩)) (by simp only [List.getElem?_toArray, List.getElem?_cons_zero, List.getElem?_cons_succ]; rfl) ?_ ?_
  · exact Or.inl ⟨by rfl, fun W hW => by have hc : W.cell? ⟨a7, 2, none⟩ = some (.pointer (some ⟨st, 0, none⟩)) := hW.1.cell 2; go_simp⟩
  simp only [Act.put, sgPHCmMapsLaw]
  refine partsI_force ?_
  simp only [sgLHCmMapsLaw]
  refine wpList_hideY (by rfl) fun K QQ hK => ?_
  go_wp2_with fail
  refine (stSlot_at _ hS.2.st).mono ?_
  rintro e ws11 ⟨rfl, hb⟩
  have hS1 : Blk ws11 a7 32 (sdC (some g) (some rg) (some st) (some a) (some b) 3 ((64 : Nat) : Int)) ∧ Bgn W0 ws11 64 B g c mc rg mr xg mf ml mm rm st lg 0 none F q v qq cq t m s := ⟨hS.1.below hb hS.1.lt, hS.2.keep hb⟩
  clear hb
  go_wp2_with fail
  refine ⟨rfl, hS1, ?_⟩
  refine partsI_force ?_
  simp only [sgLHCmMapsLaw]
  refine wpList_hideY (by rfl) fun K QQ hK => ?_
  go_wp2_with fail
  refine (stRoot_at _ hS1.2.st).mono ?_
  rintro e wr11 ⟨rfl, hb⟩
  have hS2 : Blk wr11 a7 32 (sdC (some g) (some rg) (some st) (some a) (some b) 3 ((64 : Nat) : Int)) ∧ Bgn W0 wr11 64 B g c mc rg mr xg mf ml mm rm st lg 0 none F q v qq cq t m s := ⟨hS1.1.below hb hS1.1.lt, hS1.2.keep hb⟩
  clear hb
  go_wp2_with fail
  refine ⟨rfl, hS2, ?_⟩
  refine partsI_force ?_
  simp only [sgLHCmMapsLaw]
  refine wpList_hideY (by rfl) fun K QQ hK => ?_
  go_wp2_with fail
  refine (stRoom_at _ hS2.2.st hS2.2.ro).mono ?_
  rintro e wm11 ⟨r11, rfl, hrm, hb⟩
  have HRM11 : Hid (RoomIs wm11 (fun k => _ ≤ k) r11 64 us3 us3) := hrm
  clear hrm
  have hS3 : Blk wm11 a7 32 (sdC (some g) (some rg) (some st) (some a) (some b) 3 ((64 : Nat) : Int)) ∧ Bgn W0 wm11 64 B g c mc rg mr xg mf ml mm rm st lg 0 none F q v qq cq t m s := ⟨hS2.1.below hb hS2.1.lt, hS2.2.keep hb⟩
  clear hb
  go_wp2_with fail
  refine ⟨rfl, hS3, ?_⟩
  refine partsI_force ?_
  simp only [sgLHCmMapsLaw]
  refine wpList_hideY (by rfl) fun K QQ hK => ?_
  go_wp2_with fail
  refine (stInodes_at _ hS3.2.st).mono ?_
  rintro e _ ⟨rfl, rfl⟩
  go_wp2_with fail
  refine ⟨rfl, hS3, ?_⟩
  refine partsI_force ?_
  simp only [sgLHCmMapsLaw]
  refine wpList_hideY (by rfl) fun K QQ hK => ?_
  go_wp2_with fail
  refine (commitNew_nil2 rg 0 r11 xg (1, s) (suFr 64 t m) _).mono ?_
  rintro e wn11 ⟨rfl, hb⟩
  have hS4 : Blk wn11 a7 32 (sdC (some g) (some rg) (some st) (some a) (some b) 3 ((64 : Nat) : Int)) ∧ Bgn W0 wn11 64 B g c mc rg mr xg mf ml mm rm st lg 0 none F q v qq cq t m s := ⟨hS3.1.below hb hS3.1.lt, hS3.2.keep hb⟩
  clear hb
  go_wp2_with fail
  refine ⟨rfl, hS4, ?_⟩
  refine partsI_last ?_
  simp only [sgLHCmMapsLaw]
  go_wp2_with fail
  refine ⟨rfl, ?_⟩
  have HS11 : Hid (Blk wn11 a7 32 (sdC (some g) (some rg) (some st) (some a) (some b) 3 ((64 : Nat) : Int)) ∧ Bgn W0 wn11 64 B g c mc rg mr xg mf ml mm rm st lg 0 none F q v qq cq t m s) := hS4
  clear hS hS1 hS2 hS3 hS4 HRM11
  go_upto_region 12 with fail
  have hS : Blk wn11.drew a7 32 (sdC (some g) (some rg) (some st) (some a) (some b) 3 ((64 : Nat) : Int)) ∧ Bgn W0 wn11.drew 64 B g c mc rg mr xg mf ml mm rm st lg 0 none F q v qq cq t m s := ⟨HS11.out.1, HS11.out.2.keep (Below.refl _ _).drew⟩
  clear HS11
  refine wp_region_partsS (fun V => Blk V a7 32 (sdC (some g) (some rg) (some st) (some a) (some b) 3 ((64 : Nat) : Int)) ∧ Bgn W0 V 64 B g c mc rg mr xg mf ml mm rm st lg 0 none F q v qq cq t m s) [([], 0, true), ([], 1, true), ([], 2, true), ([], 3, true), ([], 5, true), ([], 6, true), ([], 8, true), ([], 9, true), ([], 11, true), ([], 12, true), ([], 4, false), ([], 7, false), ([], 10, false), ([], 13, false), ([], 14, false)] [15, 16, 17, 18, 19] [] (by kernel_rfl) (by kernel_rfl) hS ?_
  refine partsI_yield0 (v := .pointer (some ⟨a7, 1, none⟩)) (by simp only [List.getElem?_toArray, List.getElem?_cons_zero, List.getElem?_cons_succ]; rfl) ?_ ?_
  · exact Or.inl ⟨by rfl, fun W hW => by go_simp⟩
  simp only [Act.put, sgPHCmMapsLaw]
  refine partsI_yield0 (v := .pointer (some ⟨rg, 0, none⟩)) (by simp only [List.getElem?_toArray, List.getElem?_cons_zero, List.getElem?_cons_succ]; rfl) ?_ ?_
  · exact Or.inl ⟨by rfl, fun W hW => by have hc : W.cell? ⟨a7, 1, none⟩ = some (.pointer (some ⟨rg, 0, none⟩)) := hW.1.cell 1; go_simp⟩
  simp only [Act.put, sgPHCmMapsLaw]
  refine partsI_yield0 (v := .pointer (some ⟨a7, 2, none⟩)) (by simp only [List.getElem?_toArray, List.getElem?_cons_zero, List.getElem?_cons_succ]; rfl) ?_ ?_
  · exact Or.inl ⟨by rfl, fun W hW => by go_simp⟩
  simp only [Act.put, sgPHCmMapsLaw]
  refine partsI_yield0 (v := .pointer (some ⟨st, 0, none⟩)) (by simp only [List.getElem?_toArray, List.getElem?_cons_zero, List.getElem?_cons_succ]; rfl) ?_ ?_
  · exact Or.inl ⟨by rfl, fun W hW => by have hc : W.cell? ⟨a7, 2, none⟩ = some (.pointer (some ⟨st, 0, none⟩)) := hW.1.cell 2; go_simp⟩
  simp only [Act.put, sgPHCmMapsLaw]
  refine partsI_yield0 (v := .pointer (some ⟨a7, 2, none⟩)) (by simp only [List.getElem?_toArray, List.getElem?_cons_zero, List.getElem?_cons_succ]; rfl) ?_ ?_
  · exact Or.inl ⟨by rfl, fun W hW => by go_simp⟩
  simp only [Act.put, sgPHCmMapsLaw]
  refine partsI_yield0 (v := .pointer (some ⟨st, 0, none⟩)) (by simp only [List.getElem?_toArray, List.getElem?_cons_zero, List.getElem?_cons_succ]; rfl) ?_ ?_
  · exact Or.inl ⟨by rfl, fun W hW => by have hc : W.cell? ⟨a7, 2, none⟩ = some (.pointer (some ⟨st, 0, none⟩)) := hW.1.cell 2; go_simp⟩
  simp only [Act.put, sgPHCmMapsLaw]
  refine partsI_yield0 (v := .pointer (some ⟨a7, 2, none⟩)) (by simp only [List.getElem?_toArray, List.getElem?_cons_zero, List.getElem?_cons_succ]; rfl) ?_ ?_
  · exact Or.inl ⟨by rfl, fun W hW => by go_simp⟩
  simp only [Act.put, sgPHCmMapsLaw]
  refine partsI_yield0 (v := .pointer (some ⟨st, 0, none⟩)) (by simp only [List.getElem?_toArray, List.getElem?_cons_zero, List.getElem?_cons_succ]; rfl) ?_ ?_
  · exact Or.inl ⟨by rfl, fun W hW => by have hc : W.cell? ⟨a7, 2, none⟩ = some (.pointer (some ⟨st, 0, none⟩)) := hW.1.cell 2; go_simp⟩
  simp only [Act.put, sgPHCmMapsLaw]
  refine partsI_yield0 (v := .pointer (some ⟨a7, 2, none⟩)) (by simp only [List.getElem?_toArray, List.getElem?_cons_zero, List.getElem?_cons_succ]; rfl) ?_ ?_
  · exact Or.inl ⟨by rfl, fun W hW => by go_simp⟩
  simp only [Act.put, sgPHCmMapsLaw]
  refine partsI_yield0 (v := .pointer (some ⟨st, 0, none⟩)) (by simp only [List.getElem?_toArray, List.getElem?_cons_zero, List.getElem?_cons_succ]; rfl) ?_ ?_
  · exact Or.inl ⟨by rfl, fun W hW => by have hc : W.cell? ⟨a7, 2, none⟩ = some (.pointer (some ⟨st, 0, none⟩)) := hW.1.cell 2; go_simp⟩
  simp only [Act.put, sgPHCmMapsLaw]
  refine partsI_force ?_
  simp only [sgLHCmMapsLaw]
  refine wpList_hideY (by rfl) fun K QQ hK => ?_
  go_wp2_with fail
  refine (stCache_at _ hS.2.st).mono ?_
  rintro e _ ⟨rfl, rfl⟩
  go_wp2_with fail
  refine ⟨rfl, hS, ?_⟩
  refine partsI_force ?_
  simp only [sgLHCmMapsLaw]
  refine wpList_hideY (by rfl) fun K QQ hK => ?_
  go_wp2_with fail
  refine (stSlot_at _ hS.2.st).mono ?_
  rintro e ws12 ⟨rfl, hb⟩
  have hS1 : Blk ws12 a7 32 (sdC (some g) (some rg) (some st) (some a) (some b) 3 ((64 : Nat) : Int)) ∧ Bgn W0 ws12 64 B g c mc rg mr xg mf ml mm rm st lg 0 none F q v qq cq t m s := ⟨hS.1.below hb hS.1.lt, hS.2.keep hb⟩
  clear hb
  go_wp2_with fail
  refine ⟨rfl, hS1, ?_⟩
  refine partsI_force ?_
  simp only [sgLHCmMapsLaw]
  refine wpList_hideY (by rfl) fun K QQ hK => ?_
  go_wp2_with fail
  refine (stRoot_at _ hS1.2.st).mono ?_
  rintro e wr12 ⟨rfl, hb⟩
  have hS2 : Blk wr12 a7 32 (sdC (some g) (some rg) (some st) (some a) (some b) 3 ((64 : Nat) : Int)) ∧ Bgn W0 wr12 64 B g c mc rg mr xg mf ml mm rm st lg 0 none F q v qq cq t m s := ⟨hS1.1.below hb hS1.1.lt, hS1.2.keep hb⟩
  clear hb
  go_wp2_with fail
  refine ⟨rfl, hS2, ?_⟩
  refine partsI_force ?_
  simp only [sgLHCmMapsLaw]
  refine wpList_hideY (by rfl) fun K QQ hK => ?_
  go_wp2_with fail
  refine (stInodes_at _ hS2.2.st).mono ?_
  rintro e _ ⟨rfl, rfl⟩
  go_wp2_with fail
  refine ⟨rfl, hS2, ?_⟩
  refine partsI_force ?_
  simp only [sgLHCmMapsLaw]
  refine wpList_hideY (by rfl) fun K QQ hK => ?_
  go_wp2_with fail
  refine (commitNew_nil3 rg c 0 xg (1, s) (suFr 64 t m) _).mono ?_
  rintro e wn12 ⟨rfl, hb⟩
  have hS3 : Blk wn12 a7 32 (sdC (some g) (some rg) (some st) (some a) (some b) 3 ((64 : Nat) : Int)) ∧ Bgn W0 wn12 64 B g c mc rg mr xg mf ml mm rm st lg 0 none F q v qq cq t m s := ⟨hS2.1.below hb hS2.1.lt, hS2.2.keep hb⟩
  clear hb
  go_wp2_with fail
  refine ⟨rfl, hS3, ?_⟩
  refine partsI_last ?_
  simp only [sgLHCmMapsLaw]
  go_wp2_with fail
  refine ⟨rfl, ?_⟩
  have HS12 : Hid (Blk wn12 a7 32 (sdC (some g) (some rg) (some st) (some a) (some b) 3 ((64 : Nat) : Int)) ∧ Bgn W0 wn12 64 B g c mc rg mr xg mf ml mm rm st lg 0 none F q v qq cq t m s) := hS3
  clear hS hS1 hS2 hS3 
  go_upto_region 13 with fail
  have hS : Blk wn12.drew a7 32 (sdC (some g) (some rg) (some st) (some a) (some b) 3 ((64 : Nat) : Int)) ∧ Bgn W0 wn12.drew 64 B g c mc rg mr xg mf ml mm rm st lg 0 none F q v qq cq t m s := ⟨HS12.out.1, HS12.out.2.keep (Below.refl _ _).drew⟩
  clear HS12
  refine wp_region_partsS (fun V => Blk V a7 32 (sdC (some g) (some rg) (some st) (some a) (some b) 3 ((64 : Nat) : Int)) ∧ Bgn W0 V 64 B g c mc rg mr xg mf ml mm rm st lg 0 none F q v qq cq t m s) [([], 0, true), ([], 1, true), ([], 2, true), ([], 3, true), ([], 5, true), ([], 6, true), ([], 8, true), ([], 9, true), ([], 11, true), ([], 12, true), ([], 4, false), ([], 7, false), ([], 10, false), ([], 13, false), ([], 14, false)] [15, 16, 17, 18, 19] [] (by kernel_rfl) (by kernel_rfl) hS ?_
  refine partsI_yield0 (v := .pointer (some ⟨a7, 1, none⟩)) (by simp only [List.getElem?_toArray, List.getElem?_cons_zero, List.getElem?_cons_succ]; rfl) ?_ ?_
  · exact Or.inl ⟨by rfl, fun W hW => by go_simp⟩
  simp only [Act.put, sgPHCmMapsLaw]
  refine partsI_yield0 (v := .pointer (some ⟨rg, 0, none⟩)) (by simp only [List.getElem?_toArray, List.getElem?_cons_zero, List.getElem?_cons_succ]; rfl) ?_ ?_
  · exact Or.inl ⟨by rfl, fun W hW => by have hc : W.cell? ⟨a7, 1, none⟩ = some (.pointer (some ⟨rg, 0, none⟩)) := hW.1.cell 1; go_simp⟩
  simp only [Act.put, sgPHCmMapsLaw]
  refine partsI_yield0 (v := .pointer (some ⟨a7, 2, none⟩)) (by simp only [List.getElem?_toArray, List.getElem?_cons_zero, List.getElem?_cons_succ]; rfl) ?_ ?_
  · exact Or.inl ⟨by rfl, fun W hW => by go_simp⟩
  simp only [Act.put, sgPHCmMapsLaw]
  refine partsI_yield0 (v := .pointer (some ⟨st, 0, none⟩)) (by simp only [List.getElem?_toArray, List.getElem?_cons_zero, List.getElem?_cons_succ]; rfl) ?_ ?_
  · exact Or.inl ⟨by rfl, fun W hW => by have hc : W.cell? ⟨a7, 2, none⟩ = some (.pointer (some ⟨st, 0, none⟩)) := hW.1.cell 2; go_simp⟩
  simp only [Act.put, sgPHCmMapsLaw]
  refine partsI_yield0 (v := .pointer (some ⟨a7, 2, none⟩)) (by simp only [List.getElem?_toArray, List.getElem?_cons_zero, List.getElem?_cons_succ]; rfl) ?_ ?_
  · exact Or.inl ⟨by rfl, fun W hW => by go_simp⟩
  simp only [Act.put, sgPHCmMapsLaw]
  refine partsI_yield0 (v := .pointer (some ⟨st, 0, none⟩)) (by simp only [List.getElem?_toArray, List.getElem?_cons_zero, List.getElem?_cons_succ]; rfl) ?_ ?_
  · exact Or.inl ⟨by rfl, fun W hW => by have hc : W.cell? ⟨a7, 2, none⟩ = some (.pointer (some ⟨st, 0, none⟩)) := hW.1.cell 2; go_simp⟩
  simp only [Act.put, sgPHCmMapsLaw]
  refine partsI_yield0 (v := .pointer (some ⟨a7, 2, none⟩)) (by simp only [List.getElem?_toArray, List.getElem?_cons_zero, List.getElem?_cons_succ]; rfl) ?_ ?_
  · exact Or.inl ⟨by rfl, fun W hW => by go_simp⟩
  simp only [Act.put, sgPHCmMapsLaw]
  refine partsI_yield0 (v := .pointer (some ⟨st, 0, none⟩)) (by simp only [List.getElem?_toArray, List.getElem?_cons_zero, List.getElem?_cons_succ]; rfl) ?_ ?_
  · exact Or.inl ⟨by rfl, fun W hW => by have hc : W.cell? ⟨a7, 2, none⟩ = some (.pointer (some ⟨st, 0, none⟩)) := hW.1.cell 2; go_simp⟩
  simp only [Act.put, sgPHCmMapsLaw]
  refine partsI_yield0 (v := .pointer (some ⟨a7, 2, none⟩)) (by simp only [List.getElem?_toArray, List.getElem?_cons_zero, List.getElem?_cons_succ]; rfl) ?_ ?_
  · exact Or.inl ⟨by rfl, fun W hW => by go_simp⟩
  simp only [Act.put, sgPHCmMapsLaw]
  refine partsI_yield0 (v := .pointer (some ⟨st, 0, none⟩)) (by simp only [List.getElem?_toArray, List.getElem?_cons_zero, List.getElem?_cons_succ]; rfl) ?_ ?_
  · exact Or.inl ⟨by rfl, fun W hW => by have hc : W.cell? ⟨a7, 2, none⟩ = some (.pointer (some ⟨st, 0, none⟩)) := hW.1.cell 2; go_simp⟩
  simp only [Act.put, sgPHCmMapsLaw]
  refine partsI_force ?_
  simp only [sgLHCmMapsLaw]
  refine wpList_hideY (by rfl) fun K QQ hK => ?_
  go_wp2_with fail
  refine (stCache_at _ hS.2.st).mono ?_
  rintro e _ ⟨rfl, rfl⟩
  go_wp2_with fail
  refine ⟨rfl, hS, ?_⟩
  refine partsI_force ?_
  simp only [sgLHCmMapsLaw]
  refine wpList_hideY (by rfl) fun K QQ hK => ?_
  go_wp2_with fail
  refine (stSlot_at _ hS.2.st).mono ?_
  rintro e ws13 ⟨rfl, hb⟩
  have hS1 : Blk ws13 a7 32 (sdC (some g) (some rg) (some st) (some a) (some b) 3 ((64 : Nat) : Int)) ∧ Bgn W0 ws13 64 B g c mc rg mr xg mf ml mm rm st lg 0 none F q v qq cq t m s := ⟨hS.1.below hb hS.1.lt, hS.2.keep hb⟩
  clear hb
  go_wp2_with fail
  refine ⟨rfl, hS1, ?_⟩
  refine partsI_force ?_
  simp only [sgLHCmMapsLaw]
  refine wpList_hideY (by rfl) fun K QQ hK => ?_
  go_wp2_with fail
  refine (stRoot_at _ hS1.2.st).mono ?_
  rintro e wr13 ⟨rfl, hb⟩
  have hS2 : Blk wr13 a7 32 (sdC (some g) (some rg) (some st) (some a) (some b) 3 ((64 : Nat) : Int)) ∧ Bgn W0 wr13 64 B g c mc rg mr xg mf ml mm rm st lg 0 none F q v qq cq t m s := ⟨hS1.1.below hb hS1.1.lt, hS1.2.keep hb⟩
  clear hb
  go_wp2_with fail
  refine ⟨rfl, hS2, ?_⟩
  refine partsI_force ?_
  simp only [sgLHCmMapsLaw]
  refine wpList_hideY (by rfl) fun K QQ hK => ?_
  go_wp2_with fail
  refine (stRoom_at _ hS2.2.st hS2.2.ro).mono ?_
  rintro e wm13 ⟨r13, rfl, hrm, hb⟩
  have HRM13 : Hid (RoomIs wm13 (fun k => _ ≤ k) r13 64 us3 us3) := hrm
  clear hrm
  have hS3 : Blk wm13 a7 32 (sdC (some g) (some rg) (some st) (some a) (some b) 3 ((64 : Nat) : Int)) ∧ Bgn W0 wm13 64 B g c mc rg mr xg mf ml mm rm st lg 0 none F q v qq cq t m s := ⟨hS2.1.below hb hS2.1.lt, hS2.2.keep hb⟩
  clear hb
  go_wp2_with fail
  refine ⟨rfl, hS3, ?_⟩
  refine partsI_force ?_
  simp only [sgLHCmMapsLaw]
  refine wpList_hideY (by rfl) fun K QQ hK => ?_
  go_wp2_with fail
  refine (commitNew_nil4 rg c r13 0 (1, s) (suFr 64 t m) _).mono ?_
  rintro e wn13 ⟨rfl, hb⟩
  have hS4 : Blk wn13 a7 32 (sdC (some g) (some rg) (some st) (some a) (some b) 3 ((64 : Nat) : Int)) ∧ Bgn W0 wn13 64 B g c mc rg mr xg mf ml mm rm st lg 0 none F q v qq cq t m s := ⟨hS3.1.below hb hS3.1.lt, hS3.2.keep hb⟩
  clear hb
  go_wp2_with fail
  refine ⟨rfl, hS4, ?_⟩
  refine partsI_last ?_
  simp only [sgLHCmMapsLaw]
  go_wp2_with fail
  refine ⟨rfl, ?_⟩
  have HS13 : Hid (Blk wn13 a7 32 (sdC (some g) (some rg) (some st) (some a) (some b) 3 ((64 : Nat) : Int)) ∧ Bgn W0 wn13 64 B g c mc rg mr xg mf ml mm rm st lg 0 none F q v qq cq t m s) := hS4
  clear hS hS1 hS2 hS3 hS4 HRM13
  have c7 : wn13.cell? ⟨a7, 2, none⟩ = some (.pointer (some ⟨st, 0, none⟩)) := HS13.out.1.cell 2
  go_upto_region 16 with fail
  go_wp2_with fail
  refine (stRoot_at _ HS13.out.2.st).mono ?_
  rintro e w16 ⟨rfl, hb⟩
  have HS16 : Hid (Blk w16 a7 32 (sdC (some g) (some rg) (some st) (some a) (some b) 3 ((64 : Nat) : Int)) ∧ Bgn W0 w16 64 B g c mc rg mr xg mf ml mm rm st lg 0 none F q v qq cq t m s) := ⟨HS13.out.1.below hb HS13.out.1.lt, HS13.out.2.keep hb⟩
  clear hb HS13 c7
  have hz2 := zero_sup
  have r17 : Blk (w16.alloc (.cells (suC su0) 53)) w16.heap.size 53 (suC su0) := Blk.new _ _ _
  go_upto_region 17 with (first
    | (refine wpList_store_row (by rfl) 53 _ _ (by rfl) (w16.heap.size) (suC (suFr 64 t m)) (by rfl) (by rfl) 53 (_) (by exact r17) (sizeSup.trans (by rw [suC_size])) (by simp only [suC_size]) (suC_all _) ?_; simp only [Act.put, sgPHCmMapsLaw])
    | fail)
  have x17 : Blk ((w16.alloc (.cells (suC su0) 53)).setRow w16.heap.size (suC (suFr 64 t m))) w16.heap.size 53 (suC (suFr 64 t m)) := r17.set _
  have x71 : ((w16.alloc (.cells (suC su0) 53)).setRow w16.heap.size (suC (suFr 64 t m))).cell? ⟨w16.heap.size, 71, none⟩ = some (.int .i64 3) := sup_c71 x17
  have f71 := x17.frozen 71
  have hb17 : Below w16.heap.size w16 (((w16.alloc (.cells (suC su0) 53)).setRow w16.heap.size (suC (suFr 64 t m))).setCell ⟨w16.heap.size, 71, none⟩ (.int .i64 (wrap64 (3 + less)))) := (below_setRow (below_new1 _ _) (Nat.le_refl _) _).setCell (p := ⟨w16.heap.size, 71, none⟩) (Nat.le_refl _) _
  have HS17 : Hid (Blk (((w16.alloc (.cells (suC su0) 53)).setRow w16.heap.size (suC (suFr 64 t m))).setCell ⟨w16.heap.size, 71, none⟩ (.int .i64 (wrap64 (3 + less)))) a7 32 (sdC (some g) (some rg) (some st) (some a) (some b) 3 ((64 : Nat) : Int)) ∧ Bgn W0 (((w16.alloc (.cells (suC su0) 53)).setRow w16.heap.size (suC (suFr 64 t m))).setCell ⟨w16.heap.size, 71, none⟩ (.int .i64 (wrap64 (3 + less)))) 64 B g c mc rg mr xg mf ml mm rm st lg 0 none F q v qq cq t m s ∧ Blk (((w16.alloc (.cells (suC su0) 53)).setRow w16.heap.size (suC (suFr 64 t m))).setCell ⟨w16.heap.size, 71, none⟩ (.int .i64 (wrap64 (3 + less)))) w16.heap.size 53 (suC (suLs less t m))) := ⟨HS16.out.1.below hb17 HS16.out.1.lt, HS16.out.2.keep hb17, su_putu x17 _⟩
  clear r17 x17 hb17 HS16 hz2
  go_upto_region 18 with fail
  clear x71 f71
  generalize (((w16.alloc (.cells (suC su0) 53)).setRow w16.heap.size (suC (suFr 64 t m))).setCell ⟨w16.heap.size, 71, none⟩ (.int .i64 (wrap64 (3 + less)))) = w17 at *
  generalize w16.heap.size = a17 at *
  have HX : Hid (suLs less t m = suLs less t m) := rfl
  have hS : Blk w17.drew a7 32 (sdC (some g) (some rg) (some st) (some a) (some b) 3 ((64 : Nat) : Int)) ∧ Bgn W0 w17.drew 64 B g c mc rg mr xg mf ml mm rm st lg 0 none F q v qq cq t m s ∧ Blk w17.drew a17 53 (suC (suLs less t m)) := ⟨HS17.out.1, HS17.out.2.1.keep (Below.refl _ _).drew, HS17.out.2.2⟩
  clear HS17
  refine wp_region_partsS (fun V => Blk V a7 32 (sdC (some g) (some rg) (some st) (some a) (some b) 3 ((64 : Nat) : Int)) ∧ Bgn W0 V 64 B g c mc rg mr xg mf ml mm rm st lg 0 none F q v qq cq t m s ∧ Blk V a17 53 (suC (suLs less t m))) [([], 0, true), ([], 1, true), ([], 2, true), ([], 3, true), ([], 5, true), ([], 6, true), ([], 8, true), ([], 9, true), ([], 10, true), ([], 12, true), ([], 13, true), ([], 4, false), ([], 7, false), ([], 11, false), ([], 14, false), ([], 15, false)] [16, 17, 18, 19, 20] [] (by kernel_rfl) (by kernel_rfl) hS ?_
  refine partsI_yield0 (v := .pointer (some ⟨a7, 1, none⟩)) (by simp only [List.getElem?_toArray, List.getElem?_cons_zero, List.getElem?_cons_succ]; rfl) ?_ ?_
  · exact Or.inl ⟨by rfl, fun W hW => by go_simp⟩
  simp only [Act.put, sgPHCmMapsLaw]
  refine partsI_yield0 (v := .pointer (some ⟨rg, 0, none⟩)) (by simp only [List.getElem?_toArray, List.getElem?_cons_zero, List.getElem?_cons_succ]; rfl) ?_ ?_
  · exact Or.inl ⟨by rfl, fun W hW => by have hc : W.cell? ⟨a7, 1, none⟩ = some (.pointer (some ⟨rg, 0, none⟩)) := hW.1.cell 1; go_simp⟩
  simp only [Act.put, sgPHCmMapsLaw]
  refine partsI_yield0 (v := .pointer (some ⟨a7, 2, none⟩)) (by simp only [List.getElem?_toArray, List.getElem?_cons_zero, List.getElem?_cons_succ]; rfl) ?_ ?_
  · exact Or.inl ⟨by rfl, fun W hW => by go_simp⟩
  simp only [Act.put, sgPHCmMapsLaw]
  refine partsI_yield0 (v := .pointer (some ⟨st, 0, none⟩)) (by simp only [List.getElem?_toArray, List.getElem?_cons_zero, List.getElem?_cons_succ]; rfl) ?_ ?_
  · exact Or.inl ⟨by rfl, fun W hW => by have hc : W.cell? ⟨a7, 2, none⟩ = some (.pointer (some ⟨st, 0, none⟩)) := hW.1.cell 2; go_simp⟩
  simp only [Act.put, sgPHCmMapsLaw]
  refine partsI_yield0 (v := .pointer (some ⟨a7, 2, none⟩)) (by simp only [List.getElem?_toArray, List.getElem?_cons_zero, List.getElem?_cons_succ]; rfl) ?_ ?_
  · exact Or.inl ⟨by rfl, fun W hW => by go_simp⟩
  simp only [Act.put, sgPHCmMapsLaw]
  refine partsI_yield0 (v := .pointer (some ⟨st, 0, none⟩)) (by simp only [List.getElem?_toArray, List.getElem?_cons_zero, List.getElem?_cons_succ]; rfl) ?_ ?_
  · exact Or.inl ⟨by rfl, fun W hW => by have hc : W.cell? ⟨a7, 2, none⟩ = some (.pointer (some ⟨st, 0, none⟩)) := hW.1.cell 2; go_simp⟩
  simp only [Act.put, sgPHCmMapsLaw]
  refine partsI_yield0 (v := .agg (suC (suLs less t m))) (by simp only [List.getElem?_toArray, List.getElem?_cons_zero, List.getElem?_cons_succ]; rfl) ?_ ?_
  · exact yieldsIf_row (by rfl) 53 _ (by rfl) a17 (by rfl) 53 (suC (suLs less t m)) (fun W hW => hW.2.2) Tryz.underlying53 rfl (sizeSup.trans (by rw [suC_size]))
  simp only [Act.put, sgPHCmMapsLaw]
  refine partsI_yield0 (v := .pointer (some ⟨a7, 2, none⟩)) (by simp only [List.getElem?_toArray, List.getElem?_cons_zero, List.getElem?_cons_succ]; rfl) ?_ ?_
  · exact Or.inl ⟨by rfl, fun W hW => by go_simp⟩
  simp only [Act.put, sgPHCmMapsLaw]
  refine partsI_yield0 (v := .pointer (some ⟨st, 0, none⟩)) (by simp only [List.getElem?_toArray, List.getElem?_cons_zero, List.getElem?_cons_succ]; rfl) ?_ ?_
  · exact Or.inl ⟨by rfl, fun W hW => by have hc : W.cell? ⟨a7, 2, none⟩ = some (.pointer (some ⟨st, 0, none⟩)) := hW.1.cell 2; go_simp⟩
  simp only [Act.put, sgPHCmMapsLaw]
  refine partsI_yield0 (v := .pointer (some ⟨a7, 2, none⟩)) (by simp only [List.getElem?_toArray, List.getElem?_cons_zero, List.getElem?_cons_succ]; rfl) ?_ ?_
  · exact Or.inl ⟨by rfl, fun W hW => by go_simp⟩
  simp only [Act.put, sgPHCmMapsLaw]
  refine partsI_yield0 (v := .pointer (some ⟨st, 0, none⟩)) (by simp only [List.getElem?_toArray, List.getElem?_cons_zero, List.getElem?_cons_succ]; rfl) ?_ ?_
  · exact Or.inl ⟨by rfl, fun W hW => by have hc : W.cell? ⟨a7, 2, none⟩ = some (.pointer (some ⟨st, 0, none⟩)) := hW.1.cell 2; go_simp⟩
  simp only [Act.put, sgPHCmMapsLaw]
  refine partsI_force ?_
  simp only [sgLHCmMapsLaw]
  refine wpList_hideY (by rfl) fun K QQ hK => ?_
  go_wp2_with fail
  refine (stCache_at _ hS.2.1.st).mono ?_
  rintro e _ ⟨rfl, rfl⟩
  go_wp2_with fail
  refine ⟨rfl, hS, ?_⟩
  refine partsI_force ?_
  simp only [sgLHCmMapsLaw]
  refine wpList_hideY (by rfl) fun K QQ hK => ?_
  go_wp2_with fail
  refine (stSlot_at _ hS.2.1.st).mono ?_
  rintro e ws18 ⟨rfl, hb⟩
  have hS1 : Blk ws18 a7 32 (sdC (some g) (some rg) (some st) (some a) (some b) 3 ((64 : Nat) : Int)) ∧ Bgn W0 ws18 64 B g c mc rg mr xg mf ml mm rm st lg 0 none F q v qq cq t m s ∧ Blk ws18 a17 53 (suC (suLs less t m)) := ⟨hS.1.below hb hS.1.lt, hS.2.1.keep hb, hS.2.2.below hb hS.2.2.lt⟩
  clear hb
  go_wp2_with fail
  refine ⟨rfl, hS1, ?_⟩
  refine partsI_force ?_
  simp only [sgLHCmMapsLaw]
  refine wpList_hideY (by rfl) fun K QQ hK => ?_
  go_wp2_with fail
  refine (stRoom_at _ hS1.2.1.st hS1.2.1.ro).mono ?_
  rintro e wm18 ⟨r18, rfl, hrm, hb⟩
  have HRM18 : Hid (RoomIs wm18 (fun k => _ ≤ k) r18 64 us3 us3) := hrm
  clear hrm
  have hS2 : Blk wm18 a7 32 (sdC (some g) (some rg) (some st) (some a) (some b) 3 ((64 : Nat) : Int)) ∧ Bgn W0 wm18 64 B g c mc rg mr xg mf ml mm rm st lg 0 none F q v qq cq t m s ∧ Blk wm18 a17 53 (suC (suLs less t m)) := ⟨hS1.1.below hb hS1.1.lt, hS1.2.1.keep hb, hS1.2.2.below hb hS1.2.2.lt⟩
  clear hb
  go_wp2_with fail
  refine ⟨rfl, hS2, ?_⟩
  refine partsI_force ?_
  simp only [sgLHCmMapsLaw]
  refine wpList_hideY (by rfl) fun K QQ hK => ?_
  go_wp2_with fail
  refine (stInodes_at _ hS2.2.1.st).mono ?_
  rintro e _ ⟨rfl, rfl⟩
  go_wp2_with fail
  refine ⟨rfl, hS2, ?_⟩
  refine partsI_force ?_
  simp only [sgLHCmMapsLaw]
  refine wpList_hideY (by rfl) fun K QQ hK => ?_
  go_wp2_with fail
  refine (commitNew_less less HL.out _ hS2.2.1 HRM18.out).mono ?_
  rintro e wn18 ⟨p, k, rfl, hpk, hb⟩
  have HPK : Hid (NewK less p k) := hpk
  clear hpk
  have hS3 : Blk wn18 a7 32 (sdC (some g) (some rg) (some st) (some a) (some b) 3 ((64 : Nat) : Int)) ∧ Bgn W0 wn18 64 B g c mc rg mr xg mf ml mm rm st lg 0 none F q v qq cq t m s ∧ Blk wn18 a17 53 (suC (suLs less t m)) := ⟨hS2.1.below hb hS2.1.lt, hS2.2.1.keep hb, hS2.2.2.below hb hS2.2.2.lt⟩
  clear hb
  go_wp2_with fail
  refine ⟨rfl, hS3, ?_⟩
  refine partsI_last ?_
  simp only [sgLHCmMapsLaw]
  go_wp2_with fail
  refine ⟨rfl, ?_⟩
  have HS18 : Hid (Blk wn18 a7 32 (sdC (some g) (some rg) (some st) (some a) (some b) 3 ((64 : Nat) : Int)) ∧ Bgn W0 wn18 64 B g c mc rg mr xg mf ml mm rm st lg 0 none F q v qq cq t m s) := ⟨hS3.1, hS3.2.1⟩
  have c7 : wn18.cell? ⟨a7, 2, none⟩ = some (.pointer (some ⟨st, 0, none⟩)) := HS18.out.1.cell 2
  clear hS hS1 hS2 hS3 HRM18 HX
  rcases HPK.out with ⟨h0, ⟨ap, hp⟩, hk⟩ | ⟨h0, hp, hk⟩
  · subst h0
    subst hp
    subst hk
    clear HPK
    go_wp2_with fail
    refine (stKeep_none _).mono ?_
    rintro e _ ⟨rfl, rfl⟩
    go_wp2_with fail
    go_ret
    exact ⟨rfl, HS18.out.2.below⟩
  · subst hp
    subst hk
    clear HPK
    have hlf : (less == 0) = false := by simp [h0]
    go_wp2_with fail
    refine (stKeep_none _).mono ?_
    rintro e _ ⟨rfl, rfl⟩
    go_wp2_with fail
    go_ret
    exact ⟨rfl, HS18.out.2.below⟩
set_option maxRecDepth 100000 in
set_option maxHeartbeats 16000000 in
theorem mapsLow (n less : Int) (i1 : n < 16) (hl : -9223372036854775808 ≤ less ∧ less ≤ 9223372036854775807) (W0 : World) : Calls Tryz.prog 3 #[.int .i64 n, .int .i64 less] W0 fun e W' => e = .returned (.bool true) ∧ Below W0.heap.size W0 W' := by
  have hz := zero_sd
  have HBg : Hid (∀ w : World, Calls Tryz.prog 5 #[.int .i64 64, .int .i64 0, .pointer none] w fun e w' => BegunP w 64 0 none e w') := fun w => begun21_any 64 (by decide) (by decide) 0 (by decide) (by decide) none w
  have HL : Hid (-9223372036854775808 ≤ less ∧ less ≤ 9223372036854775807) := hl
  clear hl
  have hr : ¬ rBl n = true := fun h => by have := (rBl_iff n).1 h; omega
  have hM := fun w => cMap_any n w
  rw [if_neg hr, if_neg hr] at hM
  have HM : Hid (∀ w : World, Calls Tryz.prog 4 #[.int .i64 n] w fun e w' => e = .returned (.tuple #[.int .i64 0, .int .i64 1]) ∧ w' = w) := hM
  clear hM hr
  go_enter Tryz.func3, Tryz.ntmps3
  go_wp2_with fail
  refine (HM.out W0).mono ?_
  rintro e W0 ⟨rfl, rfl⟩
  clear HM
  go_wp2_with fail
  refine (HBg.out _).mono ?_
  rintro e w1 ⟨B, g, c, mc, rg, mr, xg, mf, ml, mm, rm, st, lg, F, q, v, qq, cq, t, m, s, a, b, rfl, hB⟩
  have r0 : Blk (w1.alloc (.cells (sdC none none none none none 0 0) 32)) w1.heap.size 32 (sdC none none none none none 0 0) := Blk.new _ _ _
  have hb2 : Below w1.heap.size w1 ((w1.alloc (.cells (sdC none none none none none 0 0) 32)).setRow w1.heap.size (sdC (some g) (some rg) (some st) (some a) (some b) 3 ((64 : Nat) : Int))) := below_setRow (below_new1 _ _) (Nat.le_refl _) _
  have HS : Hid (Blk ((w1.alloc (.cells (sdC none none none none none 0 0) 32)).setRow w1.heap.size (sdC (some g) (some rg) (some st) (some a) (some b) 3 ((64 : Nat) : Int))) w1.heap.size 32 (sdC (some g) (some rg) (some st) (some a) (some b) 3 ((64 : Nat) : Int)) ∧ Bgn W0 ((w1.alloc (.cells (sdC none none none none none 0 0) 32)).setRow w1.heap.size (sdC (some g) (some rg) (some st) (some a) (some b) 3 ((64 : Nat) : Int))) 64 B g c mc rg mr xg mf ml mm rm st lg 0 none F q v qq cq t m s) := ⟨r0.set _, hB.keep hb2⟩
  clear hB hb2 HBg
  go_upto_region 3 with (first
    | (refine wpList_store_row (by rfl) 32 _ _ (by rfl) (w1.heap.size) ((sdC (some g) (some rg) (some st) (some a) (some b) 3 ((64 : Nat) : Int))) (by rfl) (by rfl) 32 (_) (by exact r0) (sizeSd.trans (by rw [sdC_size])) (by simp only [sdC_size]) (sdC_all _ _ _ _ _ _ _) ?_; simp only [Act.put, sgPHCmMapsLaw])
    | fail)
  clear r0 hz
  generalize ((w1.alloc (.cells (sdC none none none none none 0 0) 32)).setRow w1.heap.size (sdC (some g) (some rg) (some st) (some a) (some b) 3 ((64 : Nat) : Int))) = w2 at *
  generalize w1.heap.size = a7 at *
  go_wp2_with fail
  refine (awake21_any w2).mono ?_
  rintro e w3 ⟨rfl, hb3⟩
  have HS3 : Hid (Blk w3 a7 32 (sdC (some g) (some rg) (some st) (some a) (some b) 3 ((64 : Nat) : Int)) ∧ Bgn W0 w3 64 B g c mc rg mr xg mf ml mm rm st lg 0 none F q v qq cq t m s) := ⟨HS.out.1.below hb3 HS.out.1.lt, HS.out.2.keep hb3⟩
  clear HS hb3
  go_upto_region 10 with fail
  have hS : Blk w3.drew a7 32 (sdC (some g) (some rg) (some st) (some a) (some b) 3 ((64 : Nat) : Int)) ∧ Bgn W0 w3.drew 64 B g c mc rg mr xg mf ml mm rm st lg 0 none F q v qq cq t m s := ⟨HS3.out.1, HS3.out.2.keep (Below.refl _ _).drew⟩
  clear HS3
  refine wp_region_partsS (fun V => Blk V a7 32 (sdC (some g) (some rg) (some st) (some a) (some b) 3 ((64 : Nat) : Int)) ∧ Bgn W0 V 64 B g c mc rg mr xg mf ml mm rm st lg 0 none F q v qq cq t m s) [([], 0, true), ([], 1, true), ([], 3, true), ([], 4, true), ([], 6, true), ([], 7, true), ([], 9, true), ([], 10, true), ([], 12, true), ([], 13, true), ([], 2, false), ([], 5, false), ([], 8, false), ([], 11, false), ([], 14, false), ([], 15, false)] [16, 17, 18, 19, 20] [] (by kernel_rfl) (by kernel_rfl) hS ?_
  refine partsI_yield0 (v := .pointer (some ⟨a7, 2, none⟩)) (by simp only [List.getElem?_toArray, List.getElem?_cons_zero, List.getElem?_cons_succ]; rfl) ?_ ?_
  · exact Or.inl ⟨by rfl, fun W hW => by go_simp⟩
  simp only [Act.put, sgPHCmMapsLaw]
  refine partsI_yield0 (v := .pointer (some ⟨st, 0, none⟩)) (by simp only [List.getElem?_toArray, List.getElem?_cons_zero, List.getElem?_cons_succ]; rfl) ?_ ?_
  · exact Or.inl ⟨by rfl, fun W hW => by have hc : W.cell? ⟨a7, 2, none⟩ = some (.pointer (some ⟨st, 0, none⟩)) := hW.1.cell 2; go_simp⟩
  simp only [Act.put, sgPHCmMapsLaw]
  refine partsI_yield0 (v := .pointer (some ⟨a7, 2, none⟩)) (by simp only [List.getElem?_toArray, List.getElem?_cons_zero, List.getElem?_cons_succ]; rfl) ?_ ?_
  · exact Or.inl ⟨by rfl, fun W hW => by go_simp⟩
  simp only [Act.put, sgPHCmMapsLaw]
  refine partsI_yield0 (v := .pointer (some ⟨st, 0, none⟩)) (by simp only [List.getElem?_toArray, List.getElem?_cons_zero, List.getElem?_cons_succ]; rfl) ?_ ?_
  · exact Or.inl ⟨by rfl, fun W hW => by have hc : W.cell? ⟨a7, 2, none⟩ = some (.pointer (some ⟨st, 0, none⟩)) := hW.1.cell 2; go_simp⟩
  simp only [Act.put, sgPHCmMapsLaw]
  refine partsI_yield0 (v := .pointer (some ⟨a7, 2, none⟩)) (by simp only [List.getElem?_toArray, List.getElem?_cons_zero, List.getElem?_cons_succ]; rfl) ?_ ?_
  · exact Or.inl ⟨by rfl, fun W hW => by go_simp⟩
  simp only [Act.put, sgPHCmMapsLaw]
  refine partsI_yield0 (v := .pointer (some ⟨st, 0, none⟩)) (by simp only [List.getElem?_toArray, List.getElem?_cons_zero, List.getElem?_cons_succ]; rfl) ?_ ?_
  · exact Or.inl ⟨by rfl, fun W hW => by have hc : W.cell? ⟨a7, 2, none⟩ = some (.pointer (some ⟨st, 0, none⟩)) := hW.1.cell 2; go_simp⟩
  simp only [Act.put, sgPHCmMapsLaw]
  refine partsI_yield0 (v := .pointer (some ⟨a7, 2, none⟩)) (by simp only [List.getElem?_toArray, List.getElem?_cons_zero, List.getElem?_cons_succ]; rfl) ?_ ?_
  · exact Or.inl ⟨by rfl, fun W hW => by go_simp⟩
  simp only [Act.put, sgPHCmMapsLaw]
  refine partsI_yield0 (v := .pointer (some ⟨st, 0, none⟩)) (by simp only [List.getElem?_toArray, List.getElem?_cons_zero, List.getElem?_cons_succ]; rfl) ?_ ?_
  · exact Or.inl ⟨by rfl, fun W hW => by have hc : W.cell? ⟨a7, 2, none⟩ = some (.pointer (some ⟨st, 0, none⟩)) := hW.1.cell 2; go_simp⟩
  simp only [Act.put, sgPHCmMapsLaw]
  refine partsI_yield0 (v := .pointer (some ⟨a7, 2, none⟩)) (by simp only [List.getElem?_toArray, List.getElem?_cons_zero, List.getElem?_cons_succ]; rfl) ?_ ?_
  · exact Or.inl ⟨by rfl, fun W hW => by go_simp⟩
  simp only [Act.put, sgPHCmMapsLaw]
  refine partsI_yield0 (v := .pointer (some ⟨st, 0, none⟩)) (by simp only [List.getElem?_toArray, List.getElem?_cons_zero, List.getElem?_cons_succ]; rfl) ?_ ?_
  · exact Or.inl ⟨by rfl, fun W hW => by have hc : W.cell? ⟨a7, 2, none⟩ = some (.pointer (some ⟨st, 0, none⟩)) := hW.1.cell 2; go_simp⟩
  simp only [Act.put, sgPHCmMapsLaw]
  refine partsI_force ?_
  simp only [sgLHCmMapsLaw]
  refine wpList_hideY (by rfl) fun K QQ hK => ?_
  go_wp2_with fail
  refine (stCache_at _ hS.2.st).mono ?_
  rintro e _ ⟨rfl, rfl⟩
  go_wp2_with fail
  refine ⟨rfl, hS, ?_⟩
  refine partsI_force ?_
  simp only [sgLHCmMapsLaw]
  refine wpList_hideY (by rfl) fun K QQ hK => ?_
  go_wp2_with fail
  refine (stSlot_at _ hS.2.st).mono ?_
  rintro e ws10 ⟨rfl, hb⟩
  have hS1 : Blk ws10 a7 32 (sdC (some g) (some rg) (some st) (some a) (some b) 3 ((64 : Nat) : Int)) ∧ Bgn W0 ws10 64 B g c mc rg mr xg mf ml mm rm st lg 0 none F q v qq cq t m s := ⟨hS.1.below hb hS.1.lt, hS.2.keep hb⟩
  clear hb
  go_wp2_with fail
  refine ⟨rfl, hS1, ?_⟩
  refine partsI_force ?_
  simp only [sgLHCmMapsLaw]
  refine wpList_hideY (by rfl) fun K QQ hK => ?_
  go_wp2_with fail
  refine (stRoot_at _ hS1.2.st).mono ?_
  rintro e wr10 ⟨rfl, hb⟩
  have hS2 : Blk wr10 a7 32 (sdC (some g) (some rg) (some st) (some a) (some b) 3 ((64 : Nat) : Int)) ∧ Bgn W0 wr10 64 B g c mc rg mr xg mf ml mm rm st lg 0 none F q v qq cq t m s := ⟨hS1.1.below hb hS1.1.lt, hS1.2.keep hb⟩
  clear hb
  go_wp2_with fail
  refine ⟨rfl, hS2, ?_⟩
  refine partsI_force ?_
  simp only [sgLHCmMapsLaw]
  refine wpList_hideY (by rfl) fun K QQ hK => ?_
  go_wp2_with fail
  refine (stRoom_at _ hS2.2.st hS2.2.ro).mono ?_
  rintro e wm10 ⟨r10, rfl, hrm, hb⟩
  have HRM10 : Hid (RoomIs wm10 (fun k => _ ≤ k) r10 64 us3 us3) := hrm
  clear hrm
  have hS3 : Blk wm10 a7 32 (sdC (some g) (some rg) (some st) (some a) (some b) 3 ((64 : Nat) : Int)) ∧ Bgn W0 wm10 64 B g c mc rg mr xg mf ml mm rm st lg 0 none F q v qq cq t m s := ⟨hS2.1.below hb hS2.1.lt, hS2.2.keep hb⟩
  clear hb
  go_wp2_with fail
  refine ⟨rfl, hS3, ?_⟩
  refine partsI_force ?_
  simp only [sgLHCmMapsLaw]
  refine wpList_hideY (by rfl) fun K QQ hK => ?_
  go_wp2_with fail
  refine (stInodes_at _ hS3.2.st).mono ?_
  rintro e _ ⟨rfl, rfl⟩
  go_wp2_with fail
  refine ⟨rfl, hS3, ?_⟩
  refine partsI_force ?_
  simp only [sgLHCmMapsLaw]
  refine wpList_hideY (by rfl) fun K QQ hK => ?_
  go_wp2_with fail
  refine (commitNew_nil1 0 c r10 xg (1, s) (suFr 64 t m) _).mono ?_
  rintro e wn10 ⟨rfl, hb⟩
  have hS4 : Blk wn10 a7 32 (sdC (some g) (some rg) (some st) (some a) (some b) 3 ((64 : Nat) : Int)) ∧ Bgn W0 wn10 64 B g c mc rg mr xg mf ml mm rm st lg 0 none F q v qq cq t m s := ⟨hS3.1.below hb hS3.1.lt, hS3.2.keep hb⟩
  clear hb
  go_wp2_with fail
  refine ⟨rfl, hS4, ?_⟩
  refine partsI_last ?_
  simp only [sgLHCmMapsLaw]
  go_wp2_with fail
  refine ⟨rfl, ?_⟩
  have HS10 : Hid (Blk wn10 a7 32 (sdC (some g) (some rg) (some st) (some a) (some b) 3 ((64 : Nat) : Int)) ∧ Bgn W0 wn10 64 B g c mc rg mr xg mf ml mm rm st lg 0 none F q v qq cq t m s) := hS4
  clear hS hS1 hS2 hS3 hS4 HRM10
  go_upto_region 11 with fail
  have hS : Blk wn10.drew a7 32 (sdC (some g) (some rg) (some st) (some a) (some b) 3 ((64 : Nat) : Int)) ∧ Bgn W0 wn10.drew 64 B g c mc rg mr xg mf ml mm rm st lg 0 none F q v qq cq t m s := ⟨HS10.out.1, HS10.out.2.keep (Below.refl _ _).drew⟩
  clear HS10
  refine wp_region_partsS (fun V => Blk V a7 32 (sdC (some g) (some rg) (some st) (some a) (some b) 3 ((64 : Nat) : Int)) ∧ Bgn W0 V 64 B g c mc rg mr xg mf ml mm rm st lg 0 none F q v qq cq t m s) [([], 0, true), ([], 1, true), ([], 2, true), ([], 3, true), ([], 5, true), ([], 6, true), ([], 8, true), ([], 9, true), ([], 11, true), ([], 12, true), ([], 4, false), ([], 7, false), ([], 10, false), ([], 13, false), ([], 14, false)] [15, 16, 17, 18, 19] [] (by kernel_rfl) (by kernel_rfl) hS ?_
  refine partsI_yield0 (v := .pointer (some ⟨a7, 1, none⟩)) (by simp only [List.getElem?_toArray, List.getElem?_cons_zero, List.getElem?_cons_succ]; rfl) ?_ ?_
  · exact Or.inl ⟨by rfl, fun W hW => by go_simp⟩
  simp only [Act.put, sgPHCmMapsLaw]
  refine partsI_yield0 (v := .pointer (some ⟨rg, 0, none⟩)) (by simp only [List.getElem?_toArray, List.getElem?_cons_zero, List.getElem?_cons_succ]; rfl) ?_ ?_
  · exact Or.inl ⟨by rfl, fun W hW => by have hc : W.cell? ⟨a7, 1, none⟩ = some (.pointer (some ⟨rg, 0, none⟩)) := hW.1.cell 1; go_simp⟩
  simp only [Act.put, sgPHCmMapsLaw]
  refine partsI_yield0 (v := .pointer (some ⟨a7, 2, none⟩)) (by simp only [List.getElem?_toArray, List.getElem?_cons_zero, List.getElem?_cons_succ]; rfl) ?_ ?_
  · exact Or.inl ⟨by rfl, fun W hW => by go_simp⟩
  simp only [Act.put, sgPHCmMapsLaw]
  refine partsI_yield0 (v := .pointer (some ⟨st, 0, none⟩)) (by simp only [List.getElem?_toArray, List.getElem?_cons_zero, List.getElem?_cons_succ]; rfl) ?_ ?_
  · exact Or.inl ⟨by rfl, fun W hW => by have hc : W.cell? ⟨a7, 2, none⟩ = some (.pointer (some ⟨st, 0, none⟩)) := hW.1.cell 2; go_simp⟩
  simp only [Act.put, sgPHCmMapsLaw]
  refine partsI_yield0 (v := .pointer (some ⟨a7, 2, none⟩)) (by simp only [List.getElem?_toArray, List.getElem?_cons_zero, List.getElem?_cons_succ]; rfl) ?_ ?_
  · exact Or.inl ⟨by rfl, fun W hW => by go_simp⟩
  simp only [Act.put, sgPHCmMapsLaw]
  refine partsI_yield0 (v := .pointer (some ⟨st, 0, none⟩)) (by simp only [List.getElem?_toArray, List.getElem?_cons_zero, List.getElem?_cons_succ]; rfl) ?_ ?_
  · exact Or.inl ⟨by rfl, fun W hW => by have hc : W.cell? ⟨a7, 2, none⟩ = some (.pointer (some ⟨st, 0, none⟩)) := hW.1.cell 2; go_simp⟩
  simp only [Act.put, sgPHCmMapsLaw]
  refine partsI_yield0 (v := .pointer (some ⟨a7, 2, none⟩)) (by simp only [List.getElem?_toArray, List.getElem?_cons_zero, List.getElem?_cons_succ]; rfl) ?_ ?_
  · exact Or.inl ⟨by rfl, fun W hW => by go_simp⟩
  simp only [Act.put, sgPHCmMapsLaw]
  refine partsI_yield0 (v := .pointer (some ⟨st, 0, none⟩)) (by simp only [List.getElem?_toArray, List.getElem?_cons_zero, List.getElem?_cons_succ]; rfl) ?_ ?_
  · exact Or.inl ⟨by rfl, fun W hW => by have hc : W.cell? ⟨a7, 2, none⟩ = some (.pointer (some ⟨st, 0, none⟩)) := hW.1.cell 2; go_simp⟩
  simp only [Act.put, sgPHCmMapsLaw]
  refine partsI_yield0 (v := .pointer (some ⟨a7, 2, none⟩)) (by simp only [List.getElem?_toArray, List.getElem?_cons_zero, List.getElem?_cons_succ]; rfl) ?_ ?_
  · exact Or.inl ⟨by rfl, fun W hW => by go_simp⟩
  simp only [Act.put, sgPHCmMapsLaw]
  refine partsI_yield0 (v := .pointer (some ⟨st, 0, none⟩)) (by simp only [List.getElem?_toArray, List.getElem?_cons_zero, List.getElem?_cons_succ]; rfl) ?_ ?_
  · exact Or.inl ⟨by rfl, fun W hW => by have hc : W.cell? ⟨a7, 2, none⟩ = some (.pointer (some ⟨st, 0, none⟩)) := hW.1.cell 2; go_simp⟩
  simp only [Act.put, sgPHCmMapsLaw]
  refine partsI_force ?_
  simp only [sgLHCmMapsLaw]
  refine wpList_hideY (by rfl) fun K QQ hK => ?_
  go_wp2_with fail
  refine (stSlot_at _ hS.2.st).mono ?_
  rintro e ws11 ⟨rfl, hb⟩
  have hS1 : Blk ws11 a7 32 (sdC (some g) (some rg) (some st) (some a) (some b) 3 ((64 : Nat) : Int)) ∧ Bgn W0 ws11 64 B g c mc rg mr xg mf ml mm rm st lg 0 none F q v qq cq t m s := ⟨hS.1.below hb hS.1.lt, hS.2.keep hb⟩
  clear hb
  go_wp2_with fail
  refine ⟨rfl, hS1, ?_⟩
  refine partsI_force ?_
  simp only [sgLHCmMapsLaw]
  refine wpList_hideY (by rfl) fun K QQ hK => ?_
  go_wp2_with fail
  refine (stRoot_at _ hS1.2.st).mono ?_
  rintro e wr11 ⟨rfl, hb⟩
  have hS2 : Blk wr11 a7 32 (sdC (some g) (some rg) (some st) (some a) (some b) 3 ((64 : Nat) : Int)) ∧ Bgn W0 wr11 64 B g c mc rg mr xg mf ml mm rm st lg 0 none F q v qq cq t m s := ⟨hS1.1.below hb hS1.1.lt, hS1.2.keep hb⟩
  clear hb
  go_wp2_with fail
  refine ⟨rfl, hS2, ?_⟩
  refine partsI_force ?_
  simp only [sgLHCmMapsLaw]
  refine wpList_hideY (by rfl) fun K QQ hK => ?_
  go_wp2_with fail
  refine (stRoom_at _ hS2.2.st hS2.2.ro).mono ?_
  rintro e wm11 ⟨r11, rfl, hrm, hb⟩
  have HRM11 : Hid (RoomIs wm11 (fun k => _ ≤ k) r11 64 us3 us3) := hrm
  clear hrm
  have hS3 : Blk wm11 a7 32 (sdC (some g) (some rg) (some st) (some a) (some b) 3 ((64 : Nat) : Int)) ∧ Bgn W0 wm11 64 B g c mc rg mr xg mf ml mm rm st lg 0 none F q v qq cq t m s := ⟨hS2.1.below hb hS2.1.lt, hS2.2.keep hb⟩
  clear hb
  go_wp2_with fail
  refine ⟨rfl, hS3, ?_⟩
  refine partsI_force ?_
  simp only [sgLHCmMapsLaw]
  refine wpList_hideY (by rfl) fun K QQ hK => ?_
  go_wp2_with fail
  refine (stInodes_at _ hS3.2.st).mono ?_
  rintro e _ ⟨rfl, rfl⟩
  go_wp2_with fail
  refine ⟨rfl, hS3, ?_⟩
  refine partsI_force ?_
  simp only [sgLHCmMapsLaw]
  refine wpList_hideY (by rfl) fun K QQ hK => ?_
  go_wp2_with fail
  refine (commitNew_nil2 rg 0 r11 xg (1, s) (suFr 64 t m) _).mono ?_
  rintro e wn11 ⟨rfl, hb⟩
  have hS4 : Blk wn11 a7 32 (sdC (some g) (some rg) (some st) (some a) (some b) 3 ((64 : Nat) : Int)) ∧ Bgn W0 wn11 64 B g c mc rg mr xg mf ml mm rm st lg 0 none F q v qq cq t m s := ⟨hS3.1.below hb hS3.1.lt, hS3.2.keep hb⟩
  clear hb
  go_wp2_with fail
  refine ⟨rfl, hS4, ?_⟩
  refine partsI_last ?_
  simp only [sgLHCmMapsLaw]
  go_wp2_with fail
  refine ⟨rfl, ?_⟩
  have HS11 : Hid (Blk wn11 a7 32 (sdC (some g) (some rg) (some st) (some a) (some b) 3 ((64 : Nat) : Int)) ∧ Bgn W0 wn11 64 B g c mc rg mr xg mf ml mm rm st lg 0 none F q v qq cq t m s) := hS4
  clear hS hS1 hS2 hS3 hS4 HRM11
  go_upto_region 12 with fail
  have hS : Blk wn11.drew a7 32 (sdC (some g) (some rg) (some st) (some a) (some b) 3 ((64 : Nat) : Int)) ∧ Bgn W0 wn11.drew 64 B g c mc rg mr xg mf ml mm rm st lg 0 none F q v qq cq t m s := ⟨HS11.out.1, HS11.out.2.keep (Below.refl _ _).drew⟩
  clear HS11
  refine wp_region_partsS (fun V => Blk V a7 32 (sdC (some g) (some rg) (some st) (some a) (some b) 3 ((64 : Nat) : Int)) ∧ Bgn W0 V 64 B g c mc rg mr xg mf ml mm rm st lg 0 none F q v qq cq t m s) [([], 0, true), ([], 1, true), ([], 2, true), ([], 3, true), ([], 5, true), ([], 6, true), ([], 8, true), ([], 9, true), ([], 11, true), ([], 12, true), ([], 4, false), ([], 7, false), ([], 10, false), ([], 13, false), ([], 14, false)] [15, 16, 17, 18, 19] [] (by kernel_rfl) (by kernel_rfl) hS ?_
  refine partsI_yield0 (v := .pointer (some ⟨a7, 1, none⟩)) (by simp only [List.getElem?_toArray, List.getElem?_cons_zero, List.getElem?_cons_succ]; rfl) ?_ ?_
  · exact Or.inl ⟨by rfl, fun W hW => by go_simp⟩
  simp only [Act.put, sgPHCmMapsLaw]
  refine partsI_yield0 (v := .pointer (some ⟨rg, 0, none⟩)) (by simp only [List.getElem?_toArray, List.getElem?_cons_zero, List.getElem?_cons_succ]; rfl) ?_ ?_
  · exact Or.inl ⟨by rfl, fun W hW => by have hc : W.cell? ⟨a7, 1, none⟩ = some (.pointer (some ⟨rg, 0, none⟩)) := hW.1.cell 1; go_simp⟩
  simp only [Act.put, sgPHCmMapsLaw]
  refine partsI_yield0 (v := .pointer (some ⟨a7, 2, none⟩)) (by simp only [List.getElem?_toArray, List.getElem?_cons_zero, List.getElem?_cons_succ]; rfl) ?_ ?_
  · exact Or.inl ⟨by rfl, fun W hW => by go_simp⟩
  simp only [Act.put, sgPHCmMapsLaw]
  refine partsI_yield0 (v := .pointer (some ⟨st, 0, none⟩)) (by simp only [List.getElem?_toArray, List.getElem?_cons_zero, List.getElem?_cons_succ]; rfl) ?_ ?_
  · exact Or.inl ⟨by rfl, fun W hW => by have hc : W.cell? ⟨a7, 2, none⟩ = some (.pointer (some ⟨st, 0, none⟩)) := hW.1.cell 2; go_simp⟩
  simp only [Act.put, sgPHCmMapsLaw]
  refine partsI_yield0 (v := .pointer (some ⟨a7, 2, none⟩)) (by simp only [List.getElem?_toArray, List.getElem?_cons_zero, List.getElem?_cons_succ]; rfl) ?_ ?_
  · exact Or.inl ⟨by rfl, fun W hW => by go_simp⟩
  simp only [Act.put, sgPHCmMapsLaw]
  refine partsI_yield0 (v := .pointer (some ⟨st, 0, none⟩)) (by simp only [List.getElem?_toArray, List.getElem?_cons_zero, List.getElem?_cons_succ]; rfl) ?_ ?_
  · exact Or.inl ⟨by rfl, fun W hW => by have hc : W.cell? ⟨a7, 2, none⟩ = some (.pointer (some ⟨st, 0, none⟩)) := hW.1.cell 2; go_simp⟩
  simp only [Act.put, sgPHCmMapsLaw]
  refine partsI_yield0 (v := .pointer (some ⟨a7, 2, none⟩)) (by simp only [List.getElem?_toArray, List.getElem?_cons_zero, List.getElem?_cons_succ]; rfl) ?_ ?_
  · exact Or.inl ⟨by rfl, fun W hW => by go_simp⟩
  simp only [Act.put, sgPHCmMapsLaw]
  refine partsI_yield0 (v := .pointer (some ⟨st, 0, none⟩)) (by simp only [List.getElem?_toArray, List.getElem?_cons_zero, List.getElem?_cons_succ]; rfl) ?_ ?_
  · exact Or.inl ⟨by rfl, fun W hW => by have hc : W.cell? ⟨a7, 2, none⟩ = some (.pointer (some ⟨st, 0, none⟩)) := hW.1.cell 2; go_simp⟩
  simp only [Act.put, sgPHCmMapsLaw]
  refine partsI_yield0 (v := .pointer (some ⟨a7, 2, none⟩)) (by simp only [List.getElem?_toArray, List.getElem?_cons_zero, List.getElem?_cons_succ]; rfl) ?_ ?_
  · exact Or.inl ⟨by rfl, fun W hW => by go_simp⟩
  simp only [Act.put, sgPHCmMapsLaw]
  refine partsI_yield0 (v := .pointer (some ⟨st, 0, none⟩)) (by simp only [List.getElem?_toArray, List.getElem?_cons_zero, List.getElem?_cons_succ]; rfl) ?_ ?_
  · exact Or.inl ⟨by rfl, fun W hW => by have hc : W.cell? ⟨a7, 2, none⟩ = some (.pointer (some ⟨st, 0, none⟩)) := hW.1.cell 2; go_simp⟩
  simp only [Act.put, sgPHCmMapsLaw]
  refine partsI_force ?_
  simp only [sgLHCmMapsLaw]
  refine wpList_hideY (by rfl) fun K QQ hK => ?_
  go_wp2_with fail
  refine (stCache_at _ hS.2.st).mono ?_
  rintro e _ ⟨rfl, rfl⟩
  go_wp2_with fail
  refine ⟨rfl, hS, ?_⟩
  refine partsI_force ?_
  simp only [sgLHCmMapsLaw]
  refine wpList_hideY (by rfl) fun K QQ hK => ?_
  go_wp2_with fail
  refine (stSlot_at _ hS.2.st).mono ?_
  rintro e ws12 ⟨rfl, hb⟩
  have hS1 : Blk ws12 a7 32 (sdC (some g) (some rg) (some st) (some a) (some b) 3 ((64 : Nat) : Int)) ∧ Bgn W0 ws12 64 B g c mc rg mr xg mf ml mm rm st lg 0 none F q v qq cq t m s := ⟨hS.1.below hb hS.1.lt, hS.2.keep hb⟩
  clear hb
  go_wp2_with fail
  refine ⟨rfl, hS1, ?_⟩
  refine partsI_force ?_
  simp only [sgLHCmMapsLaw]
  refine wpList_hideY (by rfl) fun K QQ hK => ?_
  go_wp2_with fail
  refine (stRoot_at _ hS1.2.st).mono ?_
  rintro e wr12 ⟨rfl, hb⟩
  have hS2 : Blk wr12 a7 32 (sdC (some g) (some rg) (some st) (some a) (some b) 3 ((64 : Nat) : Int)) ∧ Bgn W0 wr12 64 B g c mc rg mr xg mf ml mm rm st lg 0 none F q v qq cq t m s := ⟨hS1.1.below hb hS1.1.lt, hS1.2.keep hb⟩
  clear hb
  go_wp2_with fail
  refine ⟨rfl, hS2, ?_⟩
  refine partsI_force ?_
  simp only [sgLHCmMapsLaw]
  refine wpList_hideY (by rfl) fun K QQ hK => ?_
  go_wp2_with fail
  refine (stInodes_at _ hS2.2.st).mono ?_
  rintro e _ ⟨rfl, rfl⟩
  go_wp2_with fail
  refine ⟨rfl, hS2, ?_⟩
  refine partsI_force ?_
  simp only [sgLHCmMapsLaw]
  refine wpList_hideY (by rfl) fun K QQ hK => ?_
  go_wp2_with fail
  refine (commitNew_nil3 rg c 0 xg (1, s) (suFr 64 t m) _).mono ?_
  rintro e wn12 ⟨rfl, hb⟩
  have hS3 : Blk wn12 a7 32 (sdC (some g) (some rg) (some st) (some a) (some b) 3 ((64 : Nat) : Int)) ∧ Bgn W0 wn12 64 B g c mc rg mr xg mf ml mm rm st lg 0 none F q v qq cq t m s := ⟨hS2.1.below hb hS2.1.lt, hS2.2.keep hb⟩
  clear hb
  go_wp2_with fail
  refine ⟨rfl, hS3, ?_⟩
  refine partsI_last ?_
  simp only [sgLHCmMapsLaw]
  go_wp2_with fail
  refine ⟨rfl, ?_⟩
  have HS12 : Hid (Blk wn12 a7 32 (sdC (some g) (some rg) (some st) (some a) (some b) 3 ((64 : Nat) : Int)) ∧ Bgn W0 wn12 64 B g c mc rg mr xg mf ml mm rm st lg 0 none F q v qq cq t m s) := hS3
  clear hS hS1 hS2 hS3 
  go_upto_region 13 with fail
  have hS : Blk wn12.drew a7 32 (sdC (some g) (some rg) (some st) (some a) (some b) 3 ((64 : Nat) : Int)) ∧ Bgn W0 wn12.drew 64 B g c mc rg mr xg mf ml mm rm st lg 0 none F q v qq cq t m s := ⟨HS12.out.1, HS12.out.2.keep (Below.refl _ _).drew⟩
  clear HS12
  refine wp_region_partsS (fun V => Blk V a7 32 (sdC (some g) (some rg) (some st) (some a) (some b) 3 ((64 : Nat) : Int)) ∧ Bgn W0 V 64 B g c mc rg mr xg mf ml mm rm st lg 0 none F q v qq cq t m s) [([], 0, true), ([], 1, true), ([], 2, true), ([], 3, true), ([], 5, true), ([], 6, true), ([], 8, true), ([], 9, true), ([], 11, true), ([], 12, true), ([], 4, false), ([], 7, false), ([], 10, false), ([], 13, false), ([], 14, false)] [15, 16, 17, 18, 19] [] (by kernel_rfl) (by kernel_rfl) hS ?_
  refine partsI_yield0 (v := .pointer (some ⟨a7, 1, none⟩)) (by simp only [List.getElem?_toArray, List.getElem?_cons_zero, List.getElem?_cons_succ]; rfl) ?_ ?_
  · exact Or.inl ⟨by rfl, fun W hW => by go_simp⟩
  simp only [Act.put, sgPHCmMapsLaw]
  refine partsI_yield0 (v := .pointer (some ⟨rg, 0, none⟩)) (by simp only [List.getElem?_toArray, List.getElem?_cons_zero, List.getElem?_cons_succ]; rfl) ?_ ?_
  · exact Or.inl ⟨by rfl, fun W hW => by have hc : W.cell? ⟨a7, 1, none⟩ = some (.pointer (some ⟨rg, 0, none⟩)) := hW.1.cell 1; go_simp⟩
  simp only [Act.put, sgPHCmMapsLaw]
  refine partsI_yield0 (v := .pointer (some ⟨a7, 2, none⟩)) (by simp only [List.getElem?_toArray, List.getElem?_cons_zero, List.getElem?_cons_succ]; rfl) ?_ ?_
  · exact Or.inl ⟨by rfl, fun W hW => by go_simp⟩
  simp only [Act.put, sgPHCmMapsLaw]
  refine partsI_yield0 (v := .pointer (some ⟨st, 0, none⟩)) (by simp only [List.getElem?_toArray, List.getElem?_cons_zero, List.getElem?_cons_succ]; rfl) ?_ ?_
  · exact Or.inl ⟨by rfl, fun W hW => by have hc : W.cell? ⟨a7, 2, none⟩ = some (.pointer (some ⟨st, 0, none⟩)) := hW.1.cell 2; go_simp⟩
  simp only [Act.put, sgPHCmMapsLaw]
  refine partsI_yield0 (v := .pointer (some ⟨a7, 2, none⟩)) (by simp only [List.getElem?_toArray, List.getElem?_cons_zero, List.getElem?_cons_succ]; rfl) ?_ ?_
  · exact Or.inl ⟨by rfl, fun W hW => by go_simp⟩
  simp only [Act.put, sgPHCmMapsLaw]
  refine partsI_yield0 (v := .pointer (some ⟨st, 0, none⟩)) (by simp only [List.getElem?_toArray, List.getElem?_cons_zero, List.getElem?_cons_succ]; rfl) ?_ ?_
  · exact Or.inl ⟨by rfl, fun W hW => by have hc : W.cell? ⟨a7, 2, none⟩ = some (.pointer (some ⟨st, 0, none⟩)) := hW.1.cell 2; go_simp⟩
  simp only [Act.put, sgPHCmMapsLaw]
  refine partsI_yield0 (v := .pointer (some ⟨a7, 2, none⟩)) (by simp only [List.getElem?_toArray, List.getElem?_cons_zero, List.getElem?_cons_succ]; rfl) ?_ ?_
  · exact Or.inl ⟨by rfl, fun W hW => by go_simp⟩
  simp only [Act.put, sgPHCmMapsLaw]
  refine partsI_yield0 (v := .pointer (some ⟨st, 0, none⟩)) (by simp only [List.getElem?_toArray, List.getElem?_cons_zero, List.getElem?_cons_succ]; rfl) ?_ ?_
  · exact Or.inl ⟨by rfl, fun W hW => by have hc : W.cell? ⟨a7, 2, none⟩ = some (.pointer (some ⟨st, 0, none⟩)) := hW.1.cell 2; go_simp⟩
  simp only [Act.put, sgPHCmMapsLaw]
  refine partsI_yield0 (v := .pointer (some ⟨a7, 2, none⟩)) (by simp only [List.getElem?_toArray, List.getElem?_cons_zero, List.getElem?_cons_succ]; rfl) ?_ ?_
  · exact Or.inl ⟨by rfl, fun W hW => by go_simp⟩
  simp only [Act.put, sgPHCmMapsLaw]
  refine partsI_yield0 (v := .pointer (some ⟨st, 0, none⟩)) (by simp only [List.getElem?_toArray, List.getElem?_cons_zero, List.getElem?_cons_succ]; rfl) ?_ ?_
  · exact Or.inl ⟨by rfl, fun W hW => by have hc : W.cell? ⟨a7, 2, none⟩ = some (.pointer (some ⟨st, 0, none⟩)) := hW.1.cell 2; go_simp⟩
  simp only [Act.put, sgPHCmMapsLaw]
  refine partsI_force ?_
  simp only [sgLHCmMapsLaw]
  refine wpList_hideY (by rfl) fun K QQ hK => ?_
  go_wp2_with fail
  refine (stCache_at _ hS.2.st).mono ?_
  rintro e _ ⟨rfl, rfl⟩
  go_wp2_with fail
  refine ⟨rfl, hS, ?_⟩
  refine partsI_force ?_
  simp only [sgLHCmMapsLaw]
  refine wpList_hideY (by rfl) fun K QQ hK => ?_
  go_wp2_with fail
  refine (stSlot_at _ hS.2.st).mono ?_
  rintro e ws13 ⟨rfl, hb⟩
  have hS1 : Blk ws13 a7 32 (sdC (some g) (some rg) (some st) (some a) (some b) 3 ((64 : Nat) : Int)) ∧ Bgn W0 ws13 64 B g c mc rg mr xg mf ml mm rm st lg 0 none F q v qq cq t m s := ⟨hS.1.below hb hS.1.lt, hS.2.keep hb⟩
  clear hb
  go_wp2_with fail
  refine ⟨rfl, hS1, ?_⟩
  refine partsI_force ?_
  simp only [sgLHCmMapsLaw]
  refine wpList_hideY (by rfl) fun K QQ hK => ?_
  go_wp2_with fail
  refine (stRoot_at _ hS1.2.st).mono ?_
  rintro e wr13 ⟨rfl, hb⟩
  have hS2 : Blk wr13 a7 32 (sdC (some g) (some rg) (some st) (some a) (some b) 3 ((64 : Nat) : Int)) ∧ Bgn W0 wr13 64 B g c mc rg mr xg mf ml mm rm st lg 0 none F q v qq cq t m s := ⟨hS1.1.below hb hS1.1.lt, hS1.2.keep hb⟩
  clear hb
  go_wp2_with fail
  refine ⟨rfl, hS2, ?_⟩
  refine partsI_force ?_
  simp only [sgLHCmMapsLaw]
  refine wpList_hideY (by rfl) fun K QQ hK => ?_
  go_wp2_with fail
  refine (stRoom_at _ hS2.2.st hS2.2.ro).mono ?_
  rintro e wm13 ⟨r13, rfl, hrm, hb⟩
  have HRM13 : Hid (RoomIs wm13 (fun k => _ ≤ k) r13 64 us3 us3) := hrm
  clear hrm
  have hS3 : Blk wm13 a7 32 (sdC (some g) (some rg) (some st) (some a) (some b) 3 ((64 : Nat) : Int)) ∧ Bgn W0 wm13 64 B g c mc rg mr xg mf ml mm rm st lg 0 none F q v qq cq t m s := ⟨hS2.1.below hb hS2.1.lt, hS2.2.keep hb⟩
  clear hb
  go_wp2_with fail
  refine ⟨rfl, hS3, ?_⟩
  refine partsI_force ?_
  simp only [sgLHCmMapsLaw]
  refine wpList_hideY (by rfl) fun K QQ hK => ?_
  go_wp2_with fail
  refine (commitNew_nil4 rg c r13 0 (1, s) (suFr 64 t m) _).mono ?_
  rintro e wn13 ⟨rfl, hb⟩
  have hS4 : Blk wn13 a7 32 (sdC (some g) (some rg) (some st) (some a) (some b) 3 ((64 : Nat) : Int)) ∧ Bgn W0 wn13 64 B g c mc rg mr xg mf ml mm rm st lg 0 none F q v qq cq t m s := ⟨hS3.1.below hb hS3.1.lt, hS3.2.keep hb⟩
  clear hb
  go_wp2_with fail
  refine ⟨rfl, hS4, ?_⟩
  refine partsI_last ?_
  simp only [sgLHCmMapsLaw]
  go_wp2_with fail
  refine ⟨rfl, ?_⟩
  have HS13 : Hid (Blk wn13 a7 32 (sdC (some g) (some rg) (some st) (some a) (some b) 3 ((64 : Nat) : Int)) ∧ Bgn W0 wn13 64 B g c mc rg mr xg mf ml mm rm st lg 0 none F q v qq cq t m s) := hS4
  clear hS hS1 hS2 hS3 hS4 HRM13
  have c7 : wn13.cell? ⟨a7, 2, none⟩ = some (.pointer (some ⟨st, 0, none⟩)) := HS13.out.1.cell 2
  go_upto_region 16 with fail
  go_wp2_with fail
  refine (stRoot_at _ HS13.out.2.st).mono ?_
  rintro e w16 ⟨rfl, hb⟩
  have HS16 : Hid (Blk w16 a7 32 (sdC (some g) (some rg) (some st) (some a) (some b) 3 ((64 : Nat) : Int)) ∧ Bgn W0 w16 64 B g c mc rg mr xg mf ml mm rm st lg 0 none F q v qq cq t m s) := ⟨HS13.out.1.below hb HS13.out.1.lt, HS13.out.2.keep hb⟩
  clear hb HS13 c7
  have hz2 := zero_sup
  have r17 : Blk (w16.alloc (.cells (suC su0) 53)) w16.heap.size 53 (suC su0) := Blk.new _ _ _
  go_upto_region 17 with (first
    | (refine wpList_store_row (by rfl) 53 _ _ (by rfl) (w16.heap.size) (suC (suFr 64 t m)) (by rfl) (by rfl) 53 (_) (by exact r17) (sizeSup.trans (by rw [suC_size])) (by simp only [suC_size]) (suC_all _) ?_; simp only [Act.put, sgPHCmMapsLaw])
    | fail)
  have x17 : Blk ((w16.alloc (.cells (suC su0) 53)).setRow w16.heap.size (suC (suFr 64 t m))) w16.heap.size 53 (suC (suFr 64 t m)) := r17.set _
  have x71 : ((w16.alloc (.cells (suC su0) 53)).setRow w16.heap.size (suC (suFr 64 t m))).cell? ⟨w16.heap.size, 71, none⟩ = some (.int .i64 3) := sup_c71 x17
  have f71 := x17.frozen 71
  have hb17 : Below w16.heap.size w16 (((w16.alloc (.cells (suC su0) 53)).setRow w16.heap.size (suC (suFr 64 t m))).setCell ⟨w16.heap.size, 71, none⟩ (.int .i64 (wrap64 (3 + less)))) := (below_setRow (below_new1 _ _) (Nat.le_refl _) _).setCell (p := ⟨w16.heap.size, 71, none⟩) (Nat.le_refl _) _
  have HS17 : Hid (Blk (((w16.alloc (.cells (suC su0) 53)).setRow w16.heap.size (suC (suFr 64 t m))).setCell ⟨w16.heap.size, 71, none⟩ (.int .i64 (wrap64 (3 + less)))) a7 32 (sdC (some g) (some rg) (some st) (some a) (some b) 3 ((64 : Nat) : Int)) ∧ Bgn W0 (((w16.alloc (.cells (suC su0) 53)).setRow w16.heap.size (suC (suFr 64 t m))).setCell ⟨w16.heap.size, 71, none⟩ (.int .i64 (wrap64 (3 + less)))) 64 B g c mc rg mr xg mf ml mm rm st lg 0 none F q v qq cq t m s ∧ Blk (((w16.alloc (.cells (suC su0) 53)).setRow w16.heap.size (suC (suFr 64 t m))).setCell ⟨w16.heap.size, 71, none⟩ (.int .i64 (wrap64 (3 + less)))) w16.heap.size 53 (suC (suLs less t m))) := ⟨HS16.out.1.below hb17 HS16.out.1.lt, HS16.out.2.keep hb17, su_putu x17 _⟩
  clear r17 x17 hb17 HS16 hz2
  go_upto_region 18 with fail
  clear x71 f71
  generalize (((w16.alloc (.cells (suC su0) 53)).setRow w16.heap.size (suC (suFr 64 t m))).setCell ⟨w16.heap.size, 71, none⟩ (.int .i64 (wrap64 (3 + less)))) = w17 at *
  generalize w16.heap.size = a17 at *
  have HX : Hid (suLs less t m = suLs less t m) := rfl
  have hS : Blk w17.drew a7 32 (sdC (some g) (some rg) (some st) (some a) (some b) 3 ((64 : Nat) : Int)) ∧ Bgn W0 w17.drew 64 B g c mc rg mr xg mf ml mm rm st lg 0 none F q v qq cq t m s ∧ Blk w17.drew a17 53 (suC (suLs less t m)) := ⟨HS17.out.1, HS17.out.2.1.keep (Below.refl _ _).drew, HS17.out.2.2⟩
  clear HS17
  refine wp_region_partsS (fun V => Blk V a7 32 (sdC (some g) (some rg) (some st) (some a) (some b) 3 ((64 : Nat) : Int)) ∧ Bgn W0 V 64 B g c mc rg mr xg mf ml mm rm st lg 0 none F q v qq cq t m s ∧ Blk V a17 53 (suC (suLs less t m))) [([], 0, true), ([], 1, true), ([], 2, true), ([], 3, true), ([], 5, true), ([], 6, true), ([], 8, true), ([], 9, true), ([], 10, true), ([], 12, true), ([], 13, true), ([], 4, false), ([], 7, false), ([], 11, false), ([], 14, false), ([], 15, false)] [16, 17, 18, 19, 20] [] (by kernel_rfl) (by kernel_rfl) hS ?_
  refine partsI_yield0 (v := .pointer (some ⟨a7, 1, none⟩)) (by simp only [List.getElem?_toArray, List.getElem?_cons_zero, List.getElem?_cons_succ]; rfl) ?_ ?_
  · exact Or.inl ⟨by rfl, fun W hW => by go_simp⟩
  simp only [Act.put, sgPHCmMapsLaw]
  refine partsI_yield0 (v := .pointer (some ⟨rg, 0, none⟩)) (by simp only [List.getElem?_toArray, List.getElem?_cons_zero, List.getElem?_cons_succ]; rfl) ?_ ?_
  · exact Or.inl ⟨by rfl, fun W hW => by have hc : W.cell? ⟨a7, 1, none⟩ = some (.pointer (some ⟨rg, 0, none⟩)) := hW.1.cell 1; go_simp⟩
  simp only [Act.put, sgPHCmMapsLaw]
  refine partsI_yield0 (v := .pointer (some ⟨a7, 2, none⟩)) (by simp only [List.getElem?_toArray, List.getElem?_cons_zero, List.getElem?_cons_succ]; rfl) ?_ ?_
  · exact Or.inl ⟨by rfl, fun W hW => by go_simp⟩
  simp only [Act.put, sgPHCmMapsLaw]
  refine partsI_yield0 (v := .pointer (some ⟨st, 0, none⟩)) (by simp only [List.getElem?_toArray, List.getElem?_cons_zero, List.getElem?_cons_succ]; rfl) ?_ ?_
  · exact Or.inl ⟨by rfl, fun W hW => by have hc : W.cell? ⟨a7, 2, none⟩ = some (.pointer (some ⟨st, 0, none⟩)) := hW.1.cell 2; go_simp⟩
  simp only [Act.put, sgPHCmMapsLaw]
  refine partsI_yield0 (v := .pointer (some ⟨a7, 2, none⟩)) (by simp only [List.getElem?_toArray, List.getElem?_cons_zero, List.getElem?_cons_succ]; rfl) ?_ ?_
  · exact Or.inl ⟨by rfl, fun W hW => by go_simp⟩
  simp only [Act.put, sgPHCmMapsLaw]
  refine partsI_yield0 (v := .pointer (some ⟨st, 0, none⟩)) (by simp only [List.getElem?_toArray, List.getElem?_cons_zero, List.getElem?_cons_succ]; rfl) ?_ ?_
  · exact Or.inl ⟨by rfl, fun W hW => by have hc : W.cell? ⟨a7, 2, none⟩ = some (.pointer (some ⟨st, 0, none⟩)) := hW.1.cell 2; go_simp⟩
  simp only [Act.put, sgPHCmMapsLaw]
  refine partsI_yield0 (v := .agg (suC (suLs less t m))) (by simp only [List.getElem?_toArray, List.getElem?_cons_zero, List.getElem?_cons_succ]; rfl) ?_ ?_
  · exact yieldsIf_row (by rfl) 53 _ (by rfl) a17 (by rfl) 53 (suC (suLs less t m)) (fun W hW => hW.2.2) Tryz.underlying53 rfl (sizeSup.trans (by rw [suC_size]))
  simp only [Act.put, sgPHCmMapsLaw]
  refine partsI_yield0 (v := .pointer (some ⟨a7, 2, none⟩)) (by simp only [List.getElem?_toArray, List.getElem?_cons_zero, List.getElem?_cons_succ]; rfl) ?_ ?_
  · exact Or.inl ⟨by rfl, fun W hW => by go_simp⟩
  simp only [Act.put, sgPHCmMapsLaw]
  refine partsI_yield0 (v := .pointer (some ⟨st, 0, none⟩)) (by simp only [List.getElem?_toArray, List.getElem?_cons_zero, List.getElem?_cons_succ]; rfl) ?_ ?_
  · exact Or.inl ⟨by rfl, fun W hW => by have hc : W.cell? ⟨a7, 2, none⟩ = some (.pointer (some ⟨st, 0, none⟩)) := hW.1.cell 2; go_simp⟩
  simp only [Act.put, sgPHCmMapsLaw]
  refine partsI_yield0 (v := .pointer (some ⟨a7, 2, none⟩)) (by simp only [List.getElem?_toArray, List.getElem?_cons_zero, List.getElem?_cons_succ]; rfl) ?_ ?_
  · exact Or.inl ⟨by rfl, fun W hW => by go_simp⟩
  simp only [Act.put, sgPHCmMapsLaw]
  refine partsI_yield0 (v := .pointer (some ⟨st, 0, none⟩)) (by simp only [List.getElem?_toArray, List.getElem?_cons_zero, List.getElem?_cons_succ]; rfl) ?_ ?_
  · exact Or.inl ⟨by rfl, fun W hW => by have hc : W.cell? ⟨a7, 2, none⟩ = some (.pointer (some ⟨st, 0, none⟩)) := hW.1.cell 2; go_simp⟩
  simp only [Act.put, sgPHCmMapsLaw]
  refine partsI_force ?_
  simp only [sgLHCmMapsLaw]
  refine wpList_hideY (by rfl) fun K QQ hK => ?_
  go_wp2_with fail
  refine (stCache_at _ hS.2.1.st).mono ?_
  rintro e _ ⟨rfl, rfl⟩
  go_wp2_with fail
  refine ⟨rfl, hS, ?_⟩
  refine partsI_force ?_
  simp only [sgLHCmMapsLaw]
  refine wpList_hideY (by rfl) fun K QQ hK => ?_
  go_wp2_with fail
  refine (stSlot_at _ hS.2.1.st).mono ?_
  rintro e ws18 ⟨rfl, hb⟩
  have hS1 : Blk ws18 a7 32 (sdC (some g) (some rg) (some st) (some a) (some b) 3 ((64 : Nat) : Int)) ∧ Bgn W0 ws18 64 B g c mc rg mr xg mf ml mm rm st lg 0 none F q v qq cq t m s ∧ Blk ws18 a17 53 (suC (suLs less t m)) := ⟨hS.1.below hb hS.1.lt, hS.2.1.keep hb, hS.2.2.below hb hS.2.2.lt⟩
  clear hb
  go_wp2_with fail
  refine ⟨rfl, hS1, ?_⟩
  refine partsI_force ?_
  simp only [sgLHCmMapsLaw]
  refine wpList_hideY (by rfl) fun K QQ hK => ?_
  go_wp2_with fail
  refine (stRoom_at _ hS1.2.1.st hS1.2.1.ro).mono ?_
  rintro e wm18 ⟨r18, rfl, hrm, hb⟩
  have HRM18 : Hid (RoomIs wm18 (fun k => _ ≤ k) r18 64 us3 us3) := hrm
  clear hrm
  have hS2 : Blk wm18 a7 32 (sdC (some g) (some rg) (some st) (some a) (some b) 3 ((64 : Nat) : Int)) ∧ Bgn W0 wm18 64 B g c mc rg mr xg mf ml mm rm st lg 0 none F q v qq cq t m s ∧ Blk wm18 a17 53 (suC (suLs less t m)) := ⟨hS1.1.below hb hS1.1.lt, hS1.2.1.keep hb, hS1.2.2.below hb hS1.2.2.lt⟩
  clear hb
  go_wp2_with fail
  refine ⟨rfl, hS2, ?_⟩
  refine partsI_force ?_
  simp only [sgLHCmMapsLaw]
  refine wpList_hideY (by rfl) fun K QQ hK => ?_
  go_wp2_with fail
  refine (stInodes_at _ hS2.2.1.st).mono ?_
  rintro e _ ⟨rfl, rfl⟩
  go_wp2_with fail
  refine ⟨rfl, hS2, ?_⟩
  refine partsI_force ?_
  simp only [sgLHCmMapsLaw]
  refine wpList_hideY (by rfl) fun K QQ hK => ?_
  go_wp2_with fail
  refine (commitNew_less less HL.out _ hS2.2.1 HRM18.out).mono ?_
  rintro e wn18 ⟨p, k, rfl, hpk, hb⟩
  have HPK : Hid (NewK less p k) := hpk
  clear hpk
  have hS3 : Blk wn18 a7 32 (sdC (some g) (some rg) (some st) (some a) (some b) 3 ((64 : Nat) : Int)) ∧ Bgn W0 wn18 64 B g c mc rg mr xg mf ml mm rm st lg 0 none F q v qq cq t m s ∧ Blk wn18 a17 53 (suC (suLs less t m)) := ⟨hS2.1.below hb hS2.1.lt, hS2.2.1.keep hb, hS2.2.2.below hb hS2.2.2.lt⟩
  clear hb
  go_wp2_with fail
  refine ⟨rfl, hS3, ?_⟩
  refine partsI_last ?_
  simp only [sgLHCmMapsLaw]
  go_wp2_with fail
  refine ⟨rfl, ?_⟩
  have HS18 : Hid (Blk wn18 a7 32 (sdC (some g) (some rg) (some st) (some a) (some b) 3 ((64 : Nat) : Int)) ∧ Bgn W0 wn18 64 B g c mc rg mr xg mf ml mm rm st lg 0 none F q v qq cq t m s) := ⟨hS3.1, hS3.2.1⟩
  have c7 : wn18.cell? ⟨a7, 2, none⟩ = some (.pointer (some ⟨st, 0, none⟩)) := HS18.out.1.cell 2
  clear hS hS1 hS2 hS3 HRM18 HX
  rcases HPK.out with ⟨h0, ⟨ap, hp⟩, hk⟩ | ⟨h0, hp, hk⟩
  · subst h0
    subst hp
    subst hk
    clear HPK
    go_wp2_with fail
    refine (stKeep_none _).mono ?_
    rintro e _ ⟨rfl, rfl⟩
    go_wp2_with fail
    go_ret
    exact ⟨rfl, HS18.out.2.below⟩
  · subst hp
    subst hk
    clear HPK
    have hlf : (less == 0) = false := by simp [h0]
    go_wp2_with fail
    refine (stKeep_none _).mono ?_
    rintro e _ ⟨rfl, rfl⟩
    go_wp2_with fail
    go_ret
    exact ⟨rfl, HS18.out.2.below⟩
set_option maxRecDepth 100000 in
set_option maxHeartbeats 16000000 in
theorem mapsHigh (n less : Int) (i2 : 8192 < n) (hl : -9223372036854775808 ≤ less ∧ less ≤ 9223372036854775807) (W0 : World) : Calls Tryz.prog 3 #[.int .i64 n, .int .i64 less] W0 fun e W' => e = .returned (.bool true) ∧ Below W0.heap.size W0 W' := by
  have hz := zero_sd
  have HBg : Hid (∀ w : World, Calls Tryz.prog 5 #[.int .i64 64, .int .i64 0, .pointer none] w fun e w' => BegunP w 64 0 none e w') := fun w => begun21_any 64 (by decide) (by decide) 0 (by decide) (by decide) none w
  have HL : Hid (-9223372036854775808 ≤ less ∧ less ≤ 9223372036854775807) := hl
  clear hl
  have hr : ¬ rBl n = true := fun h => by have := (rBl_iff n).1 h; omega
  have i1 : ¬ n < 16 := by omega
  have hM := fun w => cMap_any n w
  rw [if_neg hr, if_neg hr] at hM
  have HM : Hid (∀ w : World, Calls Tryz.prog 4 #[.int .i64 n] w fun e w' => e = .returned (.tuple #[.int .i64 0, .int .i64 1]) ∧ w' = w) := hM
  clear hM hr
  go_enter Tryz.func3, Tryz.ntmps3
  go_wp2_with fail
  refine (HM.out W0).mono ?_
  rintro e W0 ⟨rfl, rfl⟩
  clear HM
  go_wp2_with fail
  refine (HBg.out _).mono ?_
  rintro e w1 ⟨B, g, c, mc, rg, mr, xg, mf, ml, mm, rm, st, lg, F, q, v, qq, cq, t, m, s, a, b, rfl, hB⟩
  have r0 : Blk (w1.alloc (.cells (sdC none none none none none 0 0) 32)) w1.heap.size 32 (sdC none none none none none 0 0) := Blk.new _ _ _
  have hb2 : Below w1.heap.size w1 ((w1.alloc (.cells (sdC none none none none none 0 0) 32)).setRow w1.heap.size (sdC (some g) (some rg) (some st) (some a) (some b) 3 ((64 : Nat) : Int))) := below_setRow (below_new1 _ _) (Nat.le_refl _) _
  have HS : Hid (Blk ((w1.alloc (.cells (sdC none none none none none 0 0) 32)).setRow w1.heap.size (sdC (some g) (some rg) (some st) (some a) (some b) 3 ((64 : Nat) : Int))) w1.heap.size 32 (sdC (some g) (some rg) (some st) (some a) (some b) 3 ((64 : Nat) : Int)) ∧ Bgn W0 ((w1.alloc (.cells (sdC none none none none none 0 0) 32)).setRow w1.heap.size (sdC (some g) (some rg) (some st) (some a) (some b) 3 ((64 : Nat) : Int))) 64 B g c mc rg mr xg mf ml mm rm st lg 0 none F q v qq cq t m s) := ⟨r0.set _, hB.keep hb2⟩
  clear hB hb2 HBg
  go_upto_region 3 with (first
    | (refine wpList_store_row (by rfl) 32 _ _ (by rfl) (w1.heap.size) ((sdC (some g) (some rg) (some st) (some a) (some b) 3 ((64 : Nat) : Int))) (by rfl) (by rfl) 32 (_) (by exact r0) (sizeSd.trans (by rw [sdC_size])) (by simp only [sdC_size]) (sdC_all _ _ _ _ _ _ _) ?_; simp only [Act.put, sgPHCmMapsLaw])
    | fail)
  clear r0 hz
  generalize ((w1.alloc (.cells (sdC none none none none none 0 0) 32)).setRow w1.heap.size (sdC (some g) (some rg) (some st) (some a) (some b) 3 ((64 : Nat) : Int))) = w2 at *
  generalize w1.heap.size = a7 at *
  go_wp2_with fail
  refine (awake21_any w2).mono ?_
  rintro e w3 ⟨rfl, hb3⟩
  have HS3 : Hid (Blk w3 a7 32 (sdC (some g) (some rg) (some st) (some a) (some b) 3 ((64 : Nat) : Int)) ∧ Bgn W0 w3 64 B g c mc rg mr xg mf ml mm rm st lg 0 none F q v qq cq t m s) := ⟨HS.out.1.below hb3 HS.out.1.lt, HS.out.2.keep hb3⟩
  clear HS hb3
  go_upto_region 10 with fail
  have hS : Blk w3.drew a7 32 (sdC (some g) (some rg) (some st) (some a) (some b) 3 ((64 : Nat) : Int)) ∧ Bgn W0 w3.drew 64 B g c mc rg mr xg mf ml mm rm st lg 0 none F q v qq cq t m s := ⟨HS3.out.1, HS3.out.2.keep (Below.refl _ _).drew⟩
  clear HS3
  refine wp_region_partsS (fun V => Blk V a7 32 (sdC (some g) (some rg) (some st) (some a) (some b) 3 ((64 : Nat) : Int)) ∧ Bgn W0 V 64 B g c mc rg mr xg mf ml mm rm st lg 0 none F q v qq cq t m s) [([], 0, true), ([], 1, true), ([], 3, true), ([], 4, true), ([], 6, true), ([], 7, true), ([], 9, true), ([], 10, true), ([], 12, true), ([], 13, true), ([], 2, false), ([], 5, false), ([], 8, false), ([], 11, false), ([], 14, false), ([], 15, false)] [16, 17, 18, 19, 20] [] (by kernel_rfl) (by kernel_rfl) hS ?_
  refine partsI_yield0 (v := .pointer (some ⟨a7, 2, none⟩)) (by simp only [List.getElem?_toArray, List.getElem?_cons_zero, List.getElem?_cons_succ]; rfl) ?_ ?_
  · exact Or.inl ⟨by rfl, fun W hW => by go_simp⟩
  simp only [Act.put, sgPHCmMapsLaw]
  refine partsI_yield0 (v := .pointer (some ⟨st, 0, none⟩)) (by simp only [List.getElem?_toArray, List.getElem?_cons_zero, List.getElem?_cons_succ]; rfl) ?_ ?_
  · exact Or.inl ⟨by rfl, fun W hW => by have hc : W.cell? ⟨a7, 2, none⟩ = some (.pointer (some ⟨st, 0, none⟩)) := hW.1.cell 2; go_simp⟩
  simp only [Act.put, sgPHCmMapsLaw]
  refine partsI_yield0 (v := .pointer (some ⟨a7, 2, none⟩)) (by simp only [List.getElem?_toArray, List.getElem?_cons_zero, List.getElem?_cons_succ]; rfl) ?_ ?_
  · exact Or.inl ⟨by rfl, fun W hW => by go_simp⟩
  simp only [Act.put, sgPHCmMapsLaw]
  refine partsI_yield0 (v := .pointer (some ⟨st, 0, none⟩)) (by simp only [List.getElem?_toArray, List.getElem?_cons_zero, List.getElem?_cons_succ]; rfl) ?_ ?_
  · exact Or.inl ⟨by rfl, fun W hW => by have hc : W.cell? ⟨a7, 2, none⟩ = some (.pointer (some ⟨st, 0, none⟩)) := hW.1.cell 2; go_simp⟩
  simp only [Act.put, sgPHCmMapsLaw]
  refine partsI_yield0 (v := .pointer (some ⟨a7, 2, none⟩)) (by simp only [List.getElem?_toArray, List.getElem?_cons_zero, List.getElem?_cons_succ]; rfl) ?_ ?_
  · exact Or.inl ⟨by rfl, fun W hW => by go_simp⟩
  simp only [Act.put, sgPHCmMapsLaw]
  refine partsI_yield0 (v := .pointer (some ⟨st, 0, none⟩)) (by simp only [List.getElem?_toArray, List.getElem?_cons_zero, List.getElem?_cons_succ]; rfl) ?_ ?_
  · exact Or.inl ⟨by rfl, fun W hW => by have hc : W.cell? ⟨a7, 2, none⟩ = some (.pointer (some ⟨st, 0, none⟩)) := hW.1.cell 2; go_simp⟩
  simp only [Act.put, sgPHCmMapsLaw]
  refine partsI_yield0 (v := .pointer (some ⟨a7, 2, none⟩)) (by simp only [List.getElem?_toArray, List.getElem?_cons_zero, List.getElem?_cons_succ]; rfl) ?_ ?_
  · exact Or.inl ⟨by rfl, fun W hW => by go_simp⟩
  simp only [Act.put, sgPHCmMapsLaw]
  refine partsI_yield0 (v := .pointer (some ⟨st, 0, none⟩)) (by simp only [List.getElem?_toArray, List.getElem?_cons_zero, List.getElem?_cons_succ]; rfl) ?_ ?_
  · exact Or.inl ⟨by rfl, fun W hW => by have hc : W.cell? ⟨a7, 2, none⟩ = some (.pointer (some ⟨st, 0, none⟩)) := hW.1.cell 2; go_simp⟩
  simp only [Act.put, sgPHCmMapsLaw]
  refine partsI_yield0 (v := .pointer (some ⟨a7, 2, none⟩)) (by simp only [List.getElem?_toArray, List.getElem?_cons_zero, List.getElem?_cons_succ]; rfl) ?_ ?_
  · exact Or.inl ⟨by rfl, fun W hW => by go_simp⟩
  simp only [Act.put, sgPHCmMapsLaw]
  refine partsI_yield0 (v := .pointer (some ⟨st, 0, none⟩)) (by simp only [List.getElem?_toArray, List.getElem?_cons_zero, List.getElem?_cons_succ]; rfl) ?_ ?_
  · exact Or.inl ⟨by rfl, fun W hW => by have hc : W.cell? ⟨a7, 2, none⟩ = some (.pointer (some ⟨st, 0, none⟩)) := hW.1.cell 2; go_simp⟩
  simp only [Act.put, sgPHCmMapsLaw]
  refine partsI_force ?_
  simp only [sgLHCmMapsLaw]
  refine wpList_hideY (by rfl) fun K QQ hK => ?_
  go_wp2_with fail
  refine (stCache_at _ hS.2.st).mono ?_
  rintro e _ ⟨rfl, rfl⟩
  go_wp2_with fail
  refine ⟨rfl, hS, ?_⟩
  refine partsI_force ?_
  simp only [sgLHCmMapsLaw]
  refine wpList_hideY (by rfl) fun K QQ hK => ?_
  go_wp2_with fail
  refine (stSlot_at _ hS.2.st).mono ?_
  rintro e ws10 ⟨rfl, hb⟩
  have hS1 : Blk ws10 a7 32 (sdC (some g) (some rg) (some st) (some a) (some b) 3 ((64 : Nat) : Int)) ∧ Bgn W0 ws10 64 B g c mc rg mr xg mf ml mm rm st lg 0 none F q v qq cq t m s := ⟨hS.1.below hb hS.1.lt, hS.2.keep hb⟩
  clear hb
  go_wp2_with fail
  refine ⟨rfl, hS1, ?_⟩
  refine partsI_force ?_
  simp only [sgLHCmMapsLaw]
  refine wpList_hideY (by rfl) fun K QQ hK => ?_
  go_wp2_with fail
  refine (stRoot_at _ hS1.2.st).mono ?_
  rintro e wr10 ⟨rfl, hb⟩
  have hS2 : Blk wr10 a7 32 (sdC (some g) (some rg) (some st) (some a) (some b) 3 ((64 : Nat) : Int)) ∧ Bgn W0 wr10 64 B g c mc rg mr xg mf ml mm rm st lg 0 none F q v qq cq t m s := ⟨hS1.1.below hb hS1.1.lt, hS1.2.keep hb⟩
  clear hb
  go_wp2_with fail
  refine ⟨rfl, hS2, ?_⟩
  refine partsI_force ?_
  simp only [sgLHCmMapsLaw]
  refine wpList_hideY (by rfl) fun K QQ hK => ?_
  go_wp2_with fail
  refine (stRoom_at _ hS2.2.st hS2.2.ro).mono ?_
  rintro e wm10 ⟨r10, rfl, hrm, hb⟩
  have HRM10 : Hid (RoomIs wm10 (fun k => _ ≤ k) r10 64 us3 us3) := hrm
  clear hrm
  have hS3 : Blk wm10 a7 32 (sdC (some g) (some rg) (some st) (some a) (some b) 3 ((64 : Nat) : Int)) ∧ Bgn W0 wm10 64 B g c mc rg mr xg mf ml mm rm st lg 0 none F q v qq cq t m s := ⟨hS2.1.below hb hS2.1.lt, hS2.2.keep hb⟩
  clear hb
  go_wp2_with fail
  refine ⟨rfl, hS3, ?_⟩
  refine partsI_force ?_
  simp only [sgLHCmMapsLaw]
  refine wpList_hideY (by rfl) fun K QQ hK => ?_
  go_wp2_with fail
  refine (stInodes_at _ hS3.2.st).mono ?_
  rintro e _ ⟨rfl, rfl⟩
  go_wp2_with fail
  refine ⟨rfl, hS3, ?_⟩
  refine partsI_force ?_
  simp only [sgLHCmMapsLaw]
  refine wpList_hideY (by rfl) fun K QQ hK => ?_
  go_wp2_with fail
  refine (commitNew_nil1 0 c r10 xg (1, s) (suFr 64 t m) _).mono ?_
  rintro e wn10 ⟨rfl, hb⟩
  have hS4 : Blk wn10 a7 32 (sdC (some g) (some rg) (some st) (some a) (some b) 3 ((64 : Nat) : Int)) ∧ Bgn W0 wn10 64 B g c mc rg mr xg mf ml mm rm st lg 0 none F q v qq cq t m s := ⟨hS3.1.below hb hS3.1.lt, hS3.2.keep hb⟩
  clear hb
  go_wp2_with fail
  refine ⟨rfl, hS4, ?_⟩
  refine partsI_last ?_
  simp only [sgLHCmMapsLaw]
  go_wp2_with fail
  refine ⟨rfl, ?_⟩
  have HS10 : Hid (Blk wn10 a7 32 (sdC (some g) (some rg) (some st) (some a) (some b) 3 ((64 : Nat) : Int)) ∧ Bgn W0 wn10 64 B g c mc rg mr xg mf ml mm rm st lg 0 none F q v qq cq t m s) := hS4
  clear hS hS1 hS2 hS3 hS4 HRM10
  go_upto_region 11 with fail
  have hS : Blk wn10.drew a7 32 (sdC (some g) (some rg) (some st) (some a) (some b) 3 ((64 : Nat) : Int)) ∧ Bgn W0 wn10.drew 64 B g c mc rg mr xg mf ml mm rm st lg 0 none F q v qq cq t m s := ⟨HS10.out.1, HS10.out.2.keep (Below.refl _ _).drew⟩
  clear HS10
  refine wp_region_partsS (fun V => Blk V a7 32 (sdC (some g) (some rg) (some st) (some a) (some b) 3 ((64 : Nat) : Int)) ∧ Bgn W0 V 64 B g c mc rg mr xg mf ml mm rm st lg 0 none F q v qq cq t m s) [([], 0, true), ([], 1, true), ([], 2, true), ([], 3, true), ([], 5, true), ([], 6, true), ([], 8, true), ([], 9, true), ([], 11, true), ([], 12, true), ([], 4, false), ([], 7, false), ([], 10, false), ([], 13, false), ([], 14, false)] [15, 16, 17, 18, 19] [] (by kernel_rfl) (by kernel_rfl) hS ?_
  refine partsI_yield0 (v := .pointer (some ⟨a7, 1, none⟩)) (by simp only [List.getElem?_toArray, List.getElem?_cons_zero, List.getElem?_cons_succ]; rfl) ?_ ?_
  · exact Or.inl ⟨by rfl, fun W hW => by go_simp⟩
  simp only [Act.put, sgPHCmMapsLaw]
  refine partsI_yield0 (v := .pointer (some ⟨rg, 0, none⟩)) (by simp only [List.getElem?_toArray, List.getElem?_cons_zero, List.getElem?_cons_succ]; rfl) ?_ ?_
  · exact Or.inl ⟨by rfl, fun W hW => by have hc : W.cell? ⟨a7, 1, none⟩ = some (.pointer (some ⟨rg, 0, none⟩)) := hW.1.cell 1; go_simp⟩
  simp only [Act.put, sgPHCmMapsLaw]
  refine partsI_yield0 (v := .pointer (some ⟨a7, 2, none⟩)) (by simp only [List.getElem?_toArray, List.getElem?_cons_zero, List.getElem?_cons_succ]; rfl) ?_ ?_
  · exact Or.inl ⟨by rfl, fun W hW => by go_simp⟩
  simp only [Act.put, sgPHCmMapsLaw]
  refine partsI_yield0 (v := .pointer (some ⟨st, 0, none⟩)) (by simp only [List.getElem?_toArray, List.getElem?_cons_zero, List.getElem?_cons_succ]; rfl) ?_ ?_
  · exact Or.inl ⟨by rfl, fun W hW => by have hc : W.cell? ⟨a7, 2, none⟩ = some (.pointer (some ⟨st, 0, none⟩)) := hW.1.cell 2; go_simp⟩
  simp only [Act.put, sgPHCmMapsLaw]
  refine partsI_yield0 (v := .pointer (some ⟨a7, 2, none⟩)) (by simp only [List.getElem?_toArray, List.getElem?_cons_zero, List.getElem?_cons_succ]; rfl) ?_ ?_
  · exact Or.inl ⟨by rfl, fun W hW => by go_simp⟩
  simp only [Act.put, sgPHCmMapsLaw]
  refine partsI_yield0 (v := .pointer (some ⟨st, 0, none⟩)) (by simp only [List.getElem?_toArray, List.getElem?_cons_zero, List.getElem?_cons_succ]; rfl) ?_ ?_
  · exact Or.inl ⟨by rfl, fun W hW => by have hc : W.cell? ⟨a7, 2, none⟩ = some (.pointer (some ⟨st, 0, none⟩)) := hW.1.cell 2; go_simp⟩
  simp only [Act.put, sgPHCmMapsLaw]
  refine partsI_yield0 (v := .pointer (some ⟨a7, 2, none⟩)) (by simp only [List.getElem?_toArray, List.getElem?_cons_zero, List.getElem?_cons_succ]; rfl) ?_ ?_
  · exact Or.inl ⟨by rfl, fun W hW => by go_simp⟩
  simp only [Act.put, sgPHCmMapsLaw]
  refine partsI_yield0 (v := .pointer (some ⟨st, 0, none⟩)) (by simp only [List.getElem?_toArray, List.getElem?_cons_zero, List.getElem?_cons_succ]; rfl) ?_ ?_
  · exact Or.inl ⟨by rfl, fun W hW => by have hc : W.cell? ⟨a7, 2, none⟩ = some (.pointer (some ⟨st, 0, none⟩)) := hW.1.cell 2; go_simp⟩
  simp only [Act.put, sgPHCmMapsLaw]
  refine partsI_yield0 (v := .pointer (some ⟨a7, 2, none⟩)) (by simp only [List.getElem?_toArray, List.getElem?_cons_zero, List.getElem?_cons_succ]; rfl) ?_ ?_
  · exact Or.inl ⟨by rfl, fun W hW => by go_simp⟩
  simp only [Act.put, sgPHCmMapsLaw]
  refine partsI_yield0 (v := .pointer (some ⟨st, 0, none⟩)) (by simp only [List.getElem?_toArray, List.getElem?_cons_zero, List.getElem?_cons_succ]; rfl) ?_ ?_
  · exact Or.inl ⟨by rfl, fun W hW => by have hc : W.cell? ⟨a7, 2, none⟩ = some (.pointer (some ⟨st, 0, none⟩)) := hW.1.cell 2; go_simp⟩
  simp only [Act.put, sgPHCmMapsLaw]
  refine partsI_force ?_
  simp only [sgLHCmMapsLaw]
  refine wpList_hideY (by rfl) fun K QQ hK => ?_
  go_wp2_with fail
  refine (stSlot_at _ hS.2.st).mono ?_
  rintro e ws11 ⟨rfl, hb⟩
  have hS1 : Blk ws11 a7 32 (sdC (some g) (some rg) (some st) (some a) (some b) 3 ((64 : Nat) : Int)) ∧ Bgn W0 ws11 64 B g c mc rg mr xg mf ml mm rm st lg 0 none F q v qq cq t m s := ⟨hS.1.below hb hS.1.lt, hS.2.keep hb⟩
  clear hb
  go_wp2_with fail
  refine ⟨rfl, hS1, ?_⟩
  refine partsI_force ?_
  simp only [sgLHCmMapsLaw]
  refine wpList_hideY (by rfl) fun K QQ hK => ?_
  go_wp2_with fail
  refine (stRoot_at _ hS1.2.st).mono ?_
  rintro e wr11 ⟨rfl, hb⟩
  have hS2 : Blk wr11 a7 32 (sdC (some g) (some rg) (some st) (some a) (some b) 3 ((64 : Nat) : Int)) ∧ Bgn W0 wr11 64 B g c mc rg mr xg mf ml mm rm st lg 0 none F q v qq cq t m s := ⟨hS1.1.below hb hS1.1.lt, hS1.2.keep hb⟩
  clear hb
  go_wp2_with fail
  refine ⟨rfl, hS2, ?_⟩
  refine partsI_force ?_
  simp only [sgLHCmMapsLaw]
  refine wpList_hideY (by rfl) fun K QQ hK => ?_
  go_wp2_with fail
  refine (stRoom_at _ hS2.2.st hS2.2.ro).mono ?_
  rintro e wm11 ⟨r11, rfl, hrm, hb⟩
  have HRM11 : Hid (RoomIs wm11 (fun k => _ ≤ k) r11 64 us3 us3) := hrm
  clear hrm
  have hS3 : Blk wm11 a7 32 (sdC (some g) (some rg) (some st) (some a) (some b) 3 ((64 : Nat) : Int)) ∧ Bgn W0 wm11 64 B g c mc rg mr xg mf ml mm rm st lg 0 none F q v qq cq t m s := ⟨hS2.1.below hb hS2.1.lt, hS2.2.keep hb⟩
  clear hb
  go_wp2_with fail
  refine ⟨rfl, hS3, ?_⟩
  refine partsI_force ?_
  simp only [sgLHCmMapsLaw]
  refine wpList_hideY (by rfl) fun K QQ hK => ?_
  go_wp2_with fail
  refine (stInodes_at _ hS3.2.st).mono ?_
  rintro e _ ⟨rfl, rfl⟩
  go_wp2_with fail
  refine ⟨rfl, hS3, ?_⟩
  refine partsI_force ?_
  simp only [sgLHCmMapsLaw]
  refine wpList_hideY (by rfl) fun K QQ hK => ?_
  go_wp2_with fail
  refine (commitNew_nil2 rg 0 r11 xg (1, s) (suFr 64 t m) _).mono ?_
  rintro e wn11 ⟨rfl, hb⟩
  have hS4 : Blk wn11 a7 32 (sdC (some g) (some rg) (some st) (some a) (some b) 3 ((64 : Nat) : Int)) ∧ Bgn W0 wn11 64 B g c mc rg mr xg mf ml mm rm st lg 0 none F q v qq cq t m s := ⟨hS3.1.below hb hS3.1.lt, hS3.2.keep hb⟩
  clear hb
  go_wp2_with fail
  refine ⟨rfl, hS4, ?_⟩
  refine partsI_last ?_
  simp only [sgLHCmMapsLaw]
  go_wp2_with fail
  refine ⟨rfl, ?_⟩
  have HS11 : Hid (Blk wn11 a7 32 (sdC (some g) (some rg) (some st) (some a) (some b) 3 ((64 : Nat) : Int)) ∧ Bgn W0 wn11 64 B g c mc rg mr xg mf ml mm rm st lg 0 none F q v qq cq t m s) := hS4
  clear hS hS1 hS2 hS3 hS4 HRM11
  go_upto_region 12 with fail
  have hS : Blk wn11.drew a7 32 (sdC (some g) (some rg) (some st) (some a) (some b) 3 ((64 : Nat) : Int)) ∧ Bgn W0 wn11.drew 64 B g c mc rg mr xg mf ml mm rm st lg 0 none F q v qq cq t m s := ⟨HS11.out.1, HS11.out.2.keep (Below.refl _ _).drew⟩
  clear HS11
  refine wp_region_partsS (fun V => Blk V a7 32 (sdC (some g) (some rg) (some st) (some a) (some b) 3 ((64 : Nat) : Int)) ∧ Bgn W0 V 64 B g c mc rg mr xg mf ml mm rm st lg 0 none F q v qq cq t m s) [([], 0, true), ([], 1, true), ([], 2, true), ([], 3, true), ([], 5, true), ([], 6, true), ([], 8, true), ([], 9, true), ([], 11, true), ([], 12, true), ([], 4, false), ([], 7, false), ([], 10, false), ([], 13, false), ([], 14, false)] [15, 16, 17, 18, 19] [] (by kernel_rfl) (by kernel_rfl) hS ?_
  refine partsI_yield0 (v := .pointer (some ⟨a7, 1, none⟩)) (by simp only [List.getElem?_toArray, List.getElem?_cons_zero, List.getElem?_cons_succ]; rfl) ?_ ?_
  · exact Or.inl ⟨by rfl, fun W hW => by go_simp⟩
  simp only [Act.put, sgPHCmMapsLaw]
  refine partsI_yield0 (v := .pointer (some ⟨rg, 0, none⟩)) (by simp only [List.getElem?_toArray, List.getElem?_cons_zero, List.getElem?_cons_succ]; rfl) ?_ ?_
  · exact Or.inl ⟨by rfl, fun W hW => by have hc : W.cell? ⟨a7, 1, none⟩ = some (.pointer (some ⟨rg, 0, none⟩)) := hW.1.cell 1; go_simp⟩
  simp only [Act.put, sgPHCmMapsLaw]
  refine partsI_yield0 (v := .pointer (some ⟨a7, 2, none⟩)) (by simp only [List.getElem?_toArray, List.getElem?_cons_zero, List.getElem?_cons_succ]; rfl) ?_ ?_
  · exact Or.inl ⟨by rfl, fun W hW => by go_simp⟩
  simp only [Act.put, sgPHCmMapsLaw]
  refine partsI_yield0 (v := .pointer (some ⟨st, 0, none⟩)) (by simp only [List.getElem?_toArray, List.getElem?_cons_zero, List.getElem?_cons_succ]; rfl) ?_ ?_
  · exact Or.inl ⟨by rfl, fun W hW => by have hc : W.cell? ⟨a7, 2, none⟩ = some (.pointer (some ⟨st, 0, none⟩)) := hW.1.cell 2; go_simp⟩
  simp only [Act.put, sgPHCmMapsLaw]
  refine partsI_yield0 (v := .pointer (some ⟨a7, 2, none⟩)) (by simp only [List.getElem?_toArray, List.getElem?_cons_zero, List.getElem?_cons_succ]; rfl) ?_ ?_
  · exact Or.inl ⟨by rfl, fun W hW => by go_simp⟩
  simp only [Act.put, sgPHCmMapsLaw]
  refine partsI_yield0 (v := .pointer (some ⟨st, 0, none⟩)) (by simp only [List.getElem?_toArray, List.getElem?_cons_zero, List.getElem?_cons_succ]; rfl) ?_ ?_
  · exact Or.inl ⟨by rfl, fun W hW => by have hc : W.cell? ⟨a7, 2, none⟩ = some (.pointer (some ⟨st, 0, none⟩)) := hW.1.cell 2; go_simp⟩
  simp only [Act.put, sgPHCmMapsLaw]
  refine partsI_yield0 (v := .pointer (some ⟨a7, 2, none⟩)) (by simp only [List.getElem?_toArray, List.getElem?_cons_zero, List.getElem?_cons_succ]; rfl) ?_ ?_
  · exact Or.inl ⟨by rfl, fun W hW => by go_simp⟩
  simp only [Act.put, sgPHCmMapsLaw]
  refine partsI_yield0 (v := .pointer (some ⟨st, 0, none⟩)) (by simp only [List.getElem?_toArray, List.getElem?_cons_zero, List.getElem?_cons_succ]; rfl) ?_ ?_
  · exact Or.inl ⟨by rfl, fun W hW => by have hc : W.cell? ⟨a7, 2, none⟩ = some (.pointer (some ⟨st, 0, none⟩)) := hW.1.cell 2; go_simp⟩
  simp only [Act.put, sgPHCmMapsLaw]
  refine partsI_yield0 (v := .pointer (some ⟨a7, 2, none⟩)) (by simp only [List.getElem?_toArray, List.getElem?_cons_zero, List.getElem?_cons_succ]; rfl) ?_ ?_
  · exact Or.inl ⟨by rfl, fun W hW => by go_simp⟩
  simp only [Act.put, sgPHCmMapsLaw]
  refine partsI_yield0 (v := .pointer (some ⟨st, 0, none⟩)) (by simp only [List.getElem?_toArray, List.getElem?_cons_zero, List.getElem?_cons_succ]; rfl) ?_ ?_
  · exact Or.inl ⟨by rfl, fun W hW => by have hc : W.cell? ⟨a7, 2, none⟩ = some (.pointer (some ⟨st, 0, none⟩)) := hW.1.cell 2; go_simp⟩
  simp only [Act.put, sgPHCmMapsLaw]
  refine partsI_force ?_
  simp only [sgLHCmMapsLaw]
  refine wpList_hideY (by rfl) fun K QQ hK => ?_
  go_wp2_with fail
  refine (stCache_at _ hS.2.st).mono ?_
  rintro e _ ⟨rfl, rfl⟩
  go_wp2_with fail
  refine ⟨rfl, hS, ?_⟩
  refine partsI_force ?_
  simp only [sgLHCmMapsLaw]
  refine wpList_hideY (by rfl) fun K QQ hK => ?_
  go_wp2_with fail
  refine (stSlot_at _ hS.2.st).mono ?_
  rintro e ws12 ⟨rfl, hb⟩
  have hS1 : Blk ws12 a7 32 (sdC (some g) (some rg) (some st) (some a) (some b) 3 ((64 : Nat) : Int)) ∧ Bgn W0 ws12 64 B g c mc rg mr xg mf ml mm rm st lg 0 none F q v qq cq t m s := ⟨hS.1.below hb hS.1.lt, hS.2.keep hb⟩
  clear hb
  go_wp2_with fail
  refine ⟨rfl, hS1, ?_⟩
  refine partsI_force ?_
  simp only [sgLHCmMapsLaw]
  refine wpList_hideY (by rfl) fun K QQ hK => ?_
  go_wp2_with fail
  refine (stRoot_at _ hS1.2.st).mono ?_
  rintro e wr12 ⟨rfl, hb⟩
  have hS2 : Blk wr12 a7 32 (sdC (some g) (some rg) (some st) (some a) (some b) 3 ((64 : Nat) : Int)) ∧ Bgn W0 wr12 64 B g c mc rg mr xg mf ml mm rm st lg 0 none F q v qq cq t m s := ⟨hS1.1.below hb hS1.1.lt, hS1.2.keep hb⟩
  clear hb
  go_wp2_with fail
  refine ⟨rfl, hS2, ?_⟩
  refine partsI_force ?_
  simp only [sgLHCmMapsLaw]
  refine wpList_hideY (by rfl) fun K QQ hK => ?_
  go_wp2_with fail
  refine (stInodes_at _ hS2.2.st).mono ?_
  rintro e _ ⟨rfl, rfl⟩
  go_wp2_with fail
  refine ⟨rfl, hS2, ?_⟩
  refine partsI_force ?_
  simp only [sgLHCmMapsLaw]
  refine wpList_hideY (by rfl) fun K QQ hK => ?_
  go_wp2_with fail
  refine (commitNew_nil3 rg c 0 xg (1, s) (suFr 64 t m) _).mono ?_
  rintro e wn12 ⟨rfl, hb⟩
  have hS3 : Blk wn12 a7 32 (sdC (some g) (some rg) (some st) (some a) (some b) 3 ((64 : Nat) : Int)) ∧ Bgn W0 wn12 64 B g c mc rg mr xg mf ml mm rm st lg 0 none F q v qq cq t m s := ⟨hS2.1.below hb hS2.1.lt, hS2.2.keep hb⟩
  clear hb
  go_wp2_with fail
  refine ⟨rfl, hS3, ?_⟩
  refine partsI_last ?_
  simp only [sgLHCmMapsLaw]
  go_wp2_with fail
  refine ⟨rfl, ?_⟩
  have HS12 : Hid (Blk wn12 a7 32 (sdC (some g) (some rg) (some st) (some a) (some b) 3 ((64 : Nat) : Int)) ∧ Bgn W0 wn12 64 B g c mc rg mr xg mf ml mm rm st lg 0 none F q v qq cq t m s) := hS3
  clear hS hS1 hS2 hS3 
  go_upto_region 13 with fail
  have hS : Blk wn12.drew a7 32 (sdC (some g) (some rg) (some st) (some a) (some b) 3 ((64 : Nat) : Int)) ∧ Bgn W0 wn12.drew 64 B g c mc rg mr xg mf ml mm rm st lg 0 none F q v qq cq t m s := ⟨HS12.out.1, HS12.out.2.keep (Below.refl _ _).drew⟩
  clear HS12
  refine wp_region_partsS (fun V => Blk V a7 32 (sdC (some g) (some rg) (some st) (some a) (some b) 3 ((64 : Nat) : Int)) ∧ Bgn W0 V 64 B g c mc rg mr xg mf ml mm rm st lg 0 none F q v qq cq t m s) [([], 0, true), ([], 1, true), ([], 2, true), ([], 3, true), ([], 5, true), ([], 6, true), ([], 8, true), ([], 9, true), ([], 11, true), ([], 12, true), ([], 4, false), ([], 7, false), ([], 10, false), ([], 13, false), ([], 14, false)] [15, 16, 17, 18, 19] [] (by kernel_rfl) (by kernel_rfl) hS ?_
  refine partsI_yield0 (v := .pointer (some ⟨a7, 1, none⟩)) (by simp only [List.getElem?_toArray, List.getElem?_cons_zero, List.getElem?_cons_succ]; rfl) ?_ ?_
  · exact Or.inl ⟨by rfl, fun W hW => by go_simp⟩
  simp only [Act.put, sgPHCmMapsLaw]
  refine partsI_yield0 (v := .pointer (some ⟨rg, 0, none⟩)) (by simp only [List.getElem?_toArray, List.getElem?_cons_zero, List.getElem?_cons_succ]; rfl) ?_ ?_
  · exact Or.inl ⟨by rfl, fun W hW => by have hc : W.cell? ⟨a7, 1, none⟩ = some (.pointer (some ⟨rg, 0, none⟩)) := hW.1.cell 1; go_simp⟩
  simp only [Act.put, sgPHCmMapsLaw]
  refine partsI_yield0 (v := .pointer (some ⟨a7, 2, none⟩)) (by simp only [List.getElem?_toArray, List.getElem?_cons_zero, List.getElem?_cons_succ]; rfl) ?_ ?_
  · exact Or.inl ⟨by rfl, fun W hW => by go_simp⟩
  simp only [Act.put, sgPHCmMapsLaw]
  refine partsI_yield0 (v := .pointer (some ⟨st, 0, none⟩)) (by simp only [List.getElem?_toArray, List.getElem?_cons_zero, List.getElem?_cons_succ]; rfl) ?_ ?_
  · exact Or.inl ⟨by rfl, fun W hW => by have hc : W.cell? ⟨a7, 2, none⟩ = some (.pointer (some ⟨st, 0, none⟩)) := hW.1.cell 2; go_simp⟩
  simp only [Act.put, sgPHCmMapsLaw]
  refine partsI_yield0 (v := .pointer (some ⟨a7, 2, none⟩)) (by simp only [List.getElem?_toArray, List.getElem?_cons_zero, List.getElem?_cons_succ]; rfl) ?_ ?_
  · exact Or.inl ⟨by rfl, fun W hW => by go_simp⟩
  simp only [Act.put, sgPHCmMapsLaw]
  refine partsI_yield0 (v := .pointer (some ⟨st, 0, none⟩)) (by simp only [List.getElem?_toArray, List.getElem?_cons_zero, List.getElem?_cons_succ]; rfl) ?_ ?_
  · exact Or.inl ⟨by rfl, fun W hW => by have hc : W.cell? ⟨a7, 2, none⟩ = some (.pointer (some ⟨st, 0, none⟩)) := hW.1.cell 2; go_simp⟩
  simp only [Act.put, sgPHCmMapsLaw]
  refine partsI_yield0 (v := .pointer (some ⟨a7, 2, none⟩)) (by simp only [List.getElem?_toArray, List.getElem?_cons_zero, List.getElem?_cons_succ]; rfl) ?_ ?_
  · exact Or.inl ⟨by rfl, fun W hW => by go_simp⟩
  simp only [Act.put, sgPHCmMapsLaw]
  refine partsI_yield0 (v := .pointer (some ⟨st, 0, none⟩)) (by simp only [List.getElem?_toArray, List.getElem?_cons_zero, List.getElem?_cons_succ]; rfl) ?_ ?_
  · exact Or.inl ⟨by rfl, fun W hW => by have hc : W.cell? ⟨a7, 2, none⟩ = some (.pointer (some ⟨st, 0, none⟩)) := hW.1.cell 2; go_simp⟩
  simp only [Act.put, sgPHCmMapsLaw]
  refine partsI_yield0 (v := .pointer (some ⟨a7, 2, none⟩)) (by simp only [List.getElem?_toArray, List.getElem?_cons_zero, List.getElem?_cons_succ]; rfl) ?_ ?_
  · exact Or.inl ⟨by rfl, fun W hW => by go_simp⟩
  simp only [Act.put, sgPHCmMapsLaw]
  refine partsI_yield0 (v := .pointer (some ⟨st, 0, none⟩)) (by simp only [List.getElem?_toArray, List.getElem?_cons_zero, List.getElem?_cons_succ]; rfl) ?_ ?_
  · exact Or.inl ⟨by rfl, fun W hW => by have hc : W.cell? ⟨a7, 2, none⟩ = some (.pointer (some ⟨st, 0, none⟩)) := hW.1.cell 2; go_simp⟩
  simp only [Act.put, sgPHCmMapsLaw]
  refine partsI_force ?_
  simp only [sgLHCmMapsLaw]
  refine wpList_hideY (by rfl) fun K QQ hK => ?_
  go_wp2_with fail
  refine (stCache_at _ hS.2.st).mono ?_
  rintro e _ ⟨rfl, rfl⟩
  go_wp2_with fail
  refine ⟨rfl, hS, ?_⟩
  refine partsI_force ?_
  simp only [sgLHCmMapsLaw]
  refine wpList_hideY (by rfl) fun K QQ hK => ?_
  go_wp2_with fail
  refine (stSlot_at _ hS.2.st).mono ?_
  rintro e ws13 ⟨rfl, hb⟩
  have hS1 : Blk ws13 a7 32 (sdC (some g) (some rg) (some st) (some a) (some b) 3 ((64 : Nat) : Int)) ∧ Bgn W0 ws13 64 B g c mc rg mr xg mf ml mm rm st lg 0 none F q v qq cq t m s := ⟨hS.1.below hb hS.1.lt, hS.2.keep hb⟩
  clear hb
  go_wp2_with fail
  refine ⟨rfl, hS1, ?_⟩
  refine partsI_force ?_
  simp only [sgLHCmMapsLaw]
  refine wpList_hideY (by rfl) fun K QQ hK => ?_
  go_wp2_with fail
  refine (stRoot_at _ hS1.2.st).mono ?_
  rintro e wr13 ⟨rfl, hb⟩
  have hS2 : Blk wr13 a7 32 (sdC (some g) (some rg) (some st) (some a) (some b) 3 ((64 : Nat) : Int)) ∧ Bgn W0 wr13 64 B g c mc rg mr xg mf ml mm rm st lg 0 none F q v qq cq t m s := ⟨hS1.1.below hb hS1.1.lt, hS1.2.keep hb⟩
  clear hb
  go_wp2_with fail
  refine ⟨rfl, hS2, ?_⟩
  refine partsI_force ?_
  simp only [sgLHCmMapsLaw]
  refine wpList_hideY (by rfl) fun K QQ hK => ?_
  go_wp2_with fail
  refine (stRoom_at _ hS2.2.st hS2.2.ro).mono ?_
  rintro e wm13 ⟨r13, rfl, hrm, hb⟩
  have HRM13 : Hid (RoomIs wm13 (fun k => _ ≤ k) r13 64 us3 us3) := hrm
  clear hrm
  have hS3 : Blk wm13 a7 32 (sdC (some g) (some rg) (some st) (some a) (some b) 3 ((64 : Nat) : Int)) ∧ Bgn W0 wm13 64 B g c mc rg mr xg mf ml mm rm st lg 0 none F q v qq cq t m s := ⟨hS2.1.below hb hS2.1.lt, hS2.2.keep hb⟩
  clear hb
  go_wp2_with fail
  refine ⟨rfl, hS3, ?_⟩
  refine partsI_force ?_
  simp only [sgLHCmMapsLaw]
  refine wpList_hideY (by rfl) fun K QQ hK => ?_
  go_wp2_with fail
  refine (commitNew_nil4 rg c r13 0 (1, s) (suFr 64 t m) _).mono ?_
  rintro e wn13 ⟨rfl, hb⟩
  have hS4 : Blk wn13 a7 32 (sdC (some g) (some rg) (some st) (some a) (some b) 3 ((64 : Nat) : Int)) ∧ Bgn W0 wn13 64 B g c mc rg mr xg mf ml mm rm st lg 0 none F q v qq cq t m s := ⟨hS3.1.below hb hS3.1.lt, hS3.2.keep hb⟩
  clear hb
  go_wp2_with fail
  refine ⟨rfl, hS4, ?_⟩
  refine partsI_last ?_
  simp only [sgLHCmMapsLaw]
  go_wp2_with fail
  refine ⟨rfl, ?_⟩
  have HS13 : Hid (Blk wn13 a7 32 (sdC (some g) (some rg) (some st) (some a) (some b) 3 ((64 : Nat) : Int)) ∧ Bgn W0 wn13 64 B g c mc rg mr xg mf ml mm rm st lg 0 none F q v qq cq t m s) := hS4
  clear hS hS1 hS2 hS3 hS4 HRM13
  have c7 : wn13.cell? ⟨a7, 2, none⟩ = some (.pointer (some ⟨st, 0, none⟩)) := HS13.out.1.cell 2
  go_upto_region 16 with fail
  go_wp2_with fail
  refine (stRoot_at _ HS13.out.2.st).mono ?_
  rintro e w16 ⟨rfl, hb⟩
  have HS16 : Hid (Blk w16 a7 32 (sdC (some g) (some rg) (some st) (some a) (some b) 3 ((64 : Nat) : Int)) ∧ Bgn W0 w16 64 B g c mc rg mr xg mf ml mm rm st lg 0 none F q v qq cq t m s) := ⟨HS13.out.1.below hb HS13.out.1.lt, HS13.out.2.keep hb⟩
  clear hb HS13 c7
  have hz2 := zero_sup
  have r17 : Blk (w16.alloc (.cells (suC su0) 53)) w16.heap.size 53 (suC su0) := Blk.new _ _ _
  go_upto_region 17 with (first
    | (refine wpList_store_row (by rfl) 53 _ _ (by rfl) (w16.heap.size) (suC (suFr 64 t m)) (by rfl) (by rfl) 53 (_) (by exact r17) (sizeSup.trans (by rw [suC_size])) (by simp only [suC_size]) (suC_all _) ?_; simp only [Act.put, sgPHCmMapsLaw])
    | fail)
  have x17 : Blk ((w16.alloc (.cells (suC su0) 53)).setRow w16.heap.size (suC (suFr 64 t m))) w16.heap.size 53 (suC (suFr 64 t m)) := r17.set _
  have x71 : ((w16.alloc (.cells (suC su0) 53)).setRow w16.heap.size (suC (suFr 64 t m))).cell? ⟨w16.heap.size, 71, none⟩ = some (.int .i64 3) := sup_c71 x17
  have f71 := x17.frozen 71
  have hb17 : Below w16.heap.size w16 (((w16.alloc (.cells (suC su0) 53)).setRow w16.heap.size (suC (suFr 64 t m))).setCell ⟨w16.heap.size, 71, none⟩ (.int .i64 (wrap64 (3 + less)))) := (below_setRow (below_new1 _ _) (Nat.le_refl _) _).setCell (p := ⟨w16.heap.size, 71, none⟩) (Nat.le_refl _) _
  have HS17 : Hid (Blk (((w16.alloc (.cells (suC su0) 53)).setRow w16.heap.size (suC (suFr 64 t m))).setCell ⟨w16.heap.size, 71, none⟩ (.int .i64 (wrap64 (3 + less)))) a7 32 (sdC (some g) (some rg) (some st) (some a) (some b) 3 ((64 : Nat) : Int)) ∧ Bgn W0 (((w16.alloc (.cells (suC su0) 53)).setRow w16.heap.size (suC (suFr 64 t m))).setCell ⟨w16.heap.size, 71, none⟩ (.int .i64 (wrap64 (3 + less)))) 64 B g c mc rg mr xg mf ml mm rm st lg 0 none F q v qq cq t m s ∧ Blk (((w16.alloc (.cells (suC su0) 53)).setRow w16.heap.size (suC (suFr 64 t m))).setCell ⟨w16.heap.size, 71, none⟩ (.int .i64 (wrap64 (3 + less)))) w16.heap.size 53 (suC (suLs less t m))) := ⟨HS16.out.1.below hb17 HS16.out.1.lt, HS16.out.2.keep hb17, su_putu x17 _⟩
  clear r17 x17 hb17 HS16 hz2
  go_upto_region 18 with fail
  clear x71 f71
  generalize (((w16.alloc (.cells (suC su0) 53)).setRow w16.heap.size (suC (suFr 64 t m))).setCell ⟨w16.heap.size, 71, none⟩ (.int .i64 (wrap64 (3 + less)))) = w17 at *
  generalize w16.heap.size = a17 at *
  have HX : Hid (suLs less t m = suLs less t m) := rfl
  have hS : Blk w17.drew a7 32 (sdC (some g) (some rg) (some st) (some a) (some b) 3 ((64 : Nat) : Int)) ∧ Bgn W0 w17.drew 64 B g c mc rg mr xg mf ml mm rm st lg 0 none F q v qq cq t m s ∧ Blk w17.drew a17 53 (suC (suLs less t m)) := ⟨HS17.out.1, HS17.out.2.1.keep (Below.refl _ _).drew, HS17.out.2.2⟩
  clear HS17
  refine wp_region_partsS (fun V => Blk V a7 32 (sdC (some g) (some rg) (some st) (some a) (some b) 3 ((64 : Nat) : Int)) ∧ Bgn W0 V 64 B g c mc rg mr xg mf ml mm rm st lg 0 none F q v qq cq t m s ∧ Blk V a17 53 (suC (suLs less t m))) [([], 0, true), ([], 1, true), ([], 2, true), ([], 3, true), ([], 5, true), ([], 6, true), ([], 8, true), ([], 9, true), ([], 10, true), ([], 12, true), ([], 13, true), ([], 4, false), ([], 7, false), ([], 11, false), ([], 14, false), ([], 15, false)] [16, 17, 18, 19, 20] [] (by kernel_rfl) (by kernel_rfl) hS ?_
  refine partsI_yield0 (v := .pointer (some ⟨a7, 1, none⟩)) (by simp only [List.getElem?_toArray, List.getElem?_cons_zero, List.getElem?_cons_succ]; rfl) ?_ ?_
  · exact Or.inl ⟨by rfl, fun W hW => by go_simp⟩
  simp only [Act.put, sgPHCmMapsLaw]
  refine partsI_yield0 (v := .pointer (some ⟨rg, 0, none⟩)) (by simp only [List.getElem?_toArray, List.getElem?_cons_zero, List.getElem?_cons_succ]; rfl) ?_ ?_
  · exact Or.inl ⟨by rfl, fun W hW => by have hc : W.cell? ⟨a7, 1, none⟩ = some (.pointer (some ⟨rg, 0, none⟩)) := hW.1.cell 1; go_simp⟩
  simp only [Act.put, sgPHCmMapsLaw]
  refine partsI_yield0 (v := .pointer (some ⟨a7, 2, none⟩)) (by simp only [List.getElem?_toArray, List.getElem?_cons_zero, List.getElem?_cons_succ]; rfl) ?_ ?_
  · exact Or.inl ⟨by rfl, fun W hW => by go_simp⟩
  simp only [Act.put, sgPHCmMapsLaw]
  refine partsI_yield0 (v := .pointer (some ⟨st, 0, none⟩)) (by simp only [List.getElem?_toArray, List.getElem?_cons_zero, List.getElem?_cons_succ]; rfl) ?_ ?_
  · exact Or.inl ⟨by rfl, fun W hW => by have hc : W.cell? ⟨a7, 2, none⟩ = some (.pointer (some ⟨st, 0, none⟩)) := hW.1.cell 2; go_simp⟩
  simp only [Act.put, sgPHCmMapsLaw]
  refine partsI_yield0 (v := .pointer (some ⟨a7, 2, none⟩)) (by simp only [List.getElem?_toArray, List.getElem?_cons_zero, List.getElem?_cons_succ]; rfl) ?_ ?_
  · exact Or.inl ⟨by rfl, fun W hW => by go_simp⟩
  simp only [Act.put, sgPHCmMapsLaw]
  refine partsI_yield0 (v := .pointer (some ⟨st, 0, none⟩)) (by simp only [List.getElem?_toArray, List.getElem?_cons_zero, List.getElem?_cons_succ]; rfl) ?_ ?_
  · exact Or.inl ⟨by rfl, fun W hW => by have hc : W.cell? ⟨a7, 2, none⟩ = some (.pointer (some ⟨st, 0, none⟩)) := hW.1.cell 2; go_simp⟩
  simp only [Act.put, sgPHCmMapsLaw]
  refine partsI_yield0 (v := .agg (suC (suLs less t m))) (by simp only [List.getElem?_toArray, List.getElem?_cons_zero, List.getElem?_cons_succ]; rfl) ?_ ?_
  · exact yieldsIf_row (by rfl) 53 _ (by rfl) a17 (by rfl) 53 (suC (suLs less t m)) (fun W hW => hW.2.2) Tryz.underlying53 rfl (sizeSup.trans (by rw [suC_size]))
  simp only [Act.put, sgPHCmMapsLaw]
  refine partsI_yield0 (v := .pointer (some ⟨a7, 2, none⟩)) (by simp only [List.getElem?_toArray, List.getElem?_cons_zero, List.getElem?_cons_succ]; rfl) ?_ ?_
  · exact Or.inl ⟨by rfl, fun W hW => by go_simp⟩
  simp only [Act.put, sgPHCmMapsLaw]
  refine partsI_yield0 (v := .pointer (some ⟨st, 0, none⟩)) (by simp only [List.getElem?_toArray, List.getElem?_cons_zero, List.getElem?_cons_succ]; rfl) ?_ ?_
  · exact Or.inl ⟨by rfl, fun W hW => by have hc : W.cell? ⟨a7, 2, none⟩ = some (.pointer (some ⟨st, 0, none⟩)) := hW.1.cell 2; go_simp⟩
  simp only [Act.put, sgPHCmMapsLaw]
  refine partsI_yield0 (v := .pointer (some ⟨a7, 2, none⟩)) (by simp only [List.getElem?_toArray, List.getElem?_cons_zero, List.getElem?_cons_succ]; rfl) ?_ ?_
  · exact Or.inl ⟨by rfl, fun W hW => by go_simp⟩
  simp only [Act.put, sgPHCmMapsLaw]
  refine partsI_yield0 (v := .pointer (some ⟨st, 0, none⟩)) (by simp only [List.getElem?_toArray, List.getElem?_cons_zero, List.getElem?_cons_succ]; rfl) ?_ ?_
  · exact Or.inl ⟨by rfl, fun W hW => by have hc : W.cell? ⟨a7, 2, none⟩ = some (.pointer (some ⟨st, 0, none⟩)) := hW.1.cell 2; go_simp⟩
  simp only [Act.put, sgPHCmMapsLaw]
  refine partsI_force ?_
  simp only [sgLHCmMapsLaw]
  refine wpList_hideY (by rfl) fun K QQ hK => ?_
  go_wp2_with fail
  refine (stCache_at _ hS.2.1.st).mono ?_
  rintro e _ ⟨rfl, rfl⟩
  go_wp2_with fail
  refine ⟨rfl, hS, ?_⟩
  refine partsI_force ?_
  simp only [sgLHCmMapsLaw]
  refine wpList_hideY (by rfl) fun K QQ hK => ?_
  go_wp2_with fail
  refine (stSlot_at _ hS.2.1.st).mono ?_
  rintro e ws18 ⟨rfl, hb⟩
  have hS1 : Blk ws18 a7 32 (sdC (some g) (some rg) (some st) (some a) (some b) 3 ((64 : Nat) : Int)) ∧ Bgn W0 ws18 64 B g c mc rg mr xg mf ml mm rm st lg 0 none F q v qq cq t m s ∧ Blk ws18 a17 53 (suC (suLs less t m)) := ⟨hS.1.below hb hS.1.lt, hS.2.1.keep hb, hS.2.2.below hb hS.2.2.lt⟩
  clear hb
  go_wp2_with fail
  refine ⟨rfl, hS1, ?_⟩
  refine partsI_force ?_
  simp only [sgLHCmMapsLaw]
  refine wpList_hideY (by rfl) fun K QQ hK => ?_
  go_wp2_with fail
  refine (stRoom_at _ hS1.2.1.st hS1.2.1.ro).mono ?_
  rintro e wm18 ⟨r18, rfl, hrm, hb⟩
  have HRM18 : Hid (RoomIs wm18 (fun k => _ ≤ k) r18 64 us3 us3) := hrm
  clear hrm
  have hS2 : Blk wm18 a7 32 (sdC (some g) (some rg) (some st) (some a) (some b) 3 ((64 : Nat) : Int)) ∧ Bgn W0 wm18 64 B g c mc rg mr xg mf ml mm rm st lg 0 none F q v qq cq t m s ∧ Blk wm18 a17 53 (suC (suLs less t m)) := ⟨hS1.1.below hb hS1.1.lt, hS1.2.1.keep hb, hS1.2.2.below hb hS1.2.2.lt⟩
  clear hb
  go_wp2_with fail
  refine ⟨rfl, hS2, ?_⟩
  refine partsI_force ?_
  simp only [sgLHCmMapsLaw]
  refine wpList_hideY (by rfl) fun K QQ hK => ?_
  go_wp2_with fail
  refine (stInodes_at _ hS2.2.1.st).mono ?_
  rintro e _ ⟨rfl, rfl⟩
  go_wp2_with fail
  refine ⟨rfl, hS2, ?_⟩
  refine partsI_force ?_
  simp only [sgLHCmMapsLaw]
  refine wpList_hideY (by rfl) fun K QQ hK => ?_
  go_wp2_with fail
  refine (commitNew_less less HL.out _ hS2.2.1 HRM18.out).mono ?_
  rintro e wn18 ⟨p, k, rfl, hpk, hb⟩
  have HPK : Hid (NewK less p k) := hpk
  clear hpk
  have hS3 : Blk wn18 a7 32 (sdC (some g) (some rg) (some st) (some a) (some b) 3 ((64 : Nat) : Int)) ∧ Bgn W0 wn18 64 B g c mc rg mr xg mf ml mm rm st lg 0 none F q v qq cq t m s ∧ Blk wn18 a17 53 (suC (suLs less t m)) := ⟨hS2.1.below hb hS2.1.lt, hS2.2.1.keep hb, hS2.2.2.below hb hS2.2.2.lt⟩
  clear hb
  go_wp2_with fail
  refine ⟨rfl, hS3, ?_⟩
  refine partsI_last ?_
  simp only [sgLHCmMapsLaw]
  go_wp2_with fail
  refine ⟨rfl, ?_⟩
  have HS18 : Hid (Blk wn18 a7 32 (sdC (some g) (some rg) (some st) (some a) (some b) 3 ((64 : Nat) : Int)) ∧ Bgn W0 wn18 64 B g c mc rg mr xg mf ml mm rm st lg 0 none F q v qq cq t m s) := ⟨hS3.1, hS3.2.1⟩
  have c7 : wn18.cell? ⟨a7, 2, none⟩ = some (.pointer (some ⟨st, 0, none⟩)) := HS18.out.1.cell 2
  clear hS hS1 hS2 hS3 HRM18 HX
  rcases HPK.out with ⟨h0, ⟨ap, hp⟩, hk⟩ | ⟨h0, hp, hk⟩
  · subst h0
    subst hp
    subst hk
    clear HPK
    go_wp2_with fail
    refine (stKeep_none _).mono ?_
    rintro e _ ⟨rfl, rfl⟩
    go_wp2_with fail
    go_ret
    exact ⟨rfl, HS18.out.2.below⟩
  · subst hp
    subst hk
    clear HPK
    have hlf : (less == 0) = false := by simp [h0]
    go_wp2_with fail
    refine (stKeep_none _).mono ?_
    rintro e _ ⟨rfl, rfl⟩
    go_wp2_with fail
    go_ret
    exact ⟨rfl, HS18.out.2.below⟩
theorem commitMapsLaw (n less : Int) (hl : -9223372036854775808 ≤ less ∧ less ≤ 9223372036854775807) (W0 : World) : Calls Tryz.prog 3 #[.int .i64 n, .int .i64 less] W0 fun e W' => e = .returned (.bool true) ∧ Below W0.heap.size W0 W' := by
  by_cases h1 : n < 16
  · exact mapsLow n less h1 hl W0
  · by_cases h2 : 8192 < n
    · exact mapsHigh n less h2 hl W0
    · exact mapsIn n less ((rBl_iff n).2 ⟨by omega, by omega⟩) hl W0
end Go.Proofs.YtppagdmlfgialaaGreat
