/- Inodes: copies of their three maps. -/
import Derived.Test.YtojnlmfahgeidaaGreatDoorHPaForm
import Derived.Test.YtojnlmfahgeidaaGreatDoorHNdTake
import Derived.Test.YtojnlmfahgeidaaGreatDoorHPaShelf
import Derived.Test.YtojnlmfahgeidaaGreatDoorHMathCount
import Derived.Handy
import Derived.Test.YtojnlmfahgeidaaGreatDoorHDkWrite
import Derived.Shelf.SlMaps.Clone

namespace Go.Proofs.YtojnlmfahgeidaaGreatDoor
theorem sgLHInsCloneK : (∀ (α : Type) (a : α) (l r : List α), (a :: l) ++ r = a :: (l ++ r)) ∧ (∀ (α : Type) (l : List α), [] ++ l = l) ∧ (∀ (α : Type) (l : List α), l ++ [] = l) ∧ (∀ (α β : Type) (f : α → Option β) (a : α) (l : List α), (a :: l).filterMap f = match f a with | none => l.filterMap f | some b => b :: l.filterMap f) ∧ (∀ (α β : Type) (f : α → Option β), [].filterMap f = []) ∧ (∀ (α : Type) (l : List α) (i : Nat), l.toArray[i]? = l[i]?) ∧ (∀ (α : Type) (a : α) (l : List α), (a :: l)[0]? = some a) ∧ (∀ (α : Type) (a : α) (l : List α) (i : Nat), (a :: l)[i + 1]? = l[i]?) :=
  ⟨fun _ _ _ _ => List.cons_append, fun _ _ => List.nil_append _, fun _ _ => List.append_nil _, fun _ _ _ _ _ => List.filterMap_cons, fun _ _ _ => List.filterMap_nil, fun _ _ _ => List.getElem?_toArray, fun _ _ _ => List.getElem?_cons_zero, fun _ _ _ _ => List.getElem?_cons_succ⟩
theorem sgPHInsCloneK : (∀ (α : Type) (l : List α) (i : Nat) (a : α), l.toArray.setIfInBounds i a = (l.set i a).toArray) ∧ (∀ (α : Type) (a b : α) (l : List α), (a :: l).set 0 b = b :: l) ∧ (∀ (α : Type) (a b : α) (l : List α) (i : Nat), (a :: l).set (i + 1) b = a :: l.set i b) :=
  ⟨fun _ _ _ _ => List.setIfInBounds_toArray _ _ _, fun _ _ _ _ => List.set_cons_zero, fun _ _ _ _ _ => List.set_cons_succ⟩
end Go.Proofs.YtojnlmfahgeidaaGreatDoor
namespace Go.Proofs.YtojnlmfahgeidaaGreatDoor
open Go Go.RowKit Go.Shelf
set_option linter.unusedVariables false
set_option linter.unusedSimpArgs false
theorem own_cap {w : World} {B n m c : Nat} {a : Option Addr} {t : TypeId} {xs : List Value} (h : w.ownsRow B t 1 (.slice a m c) n xs) : n ≤ c := by
  rcases h.2 with ⟨hv, hn⟩ | ⟨g, cap, cur, hv, _, _, hc, _⟩
  · omega
  · cases hv; exact hc
/-- Parse told in single things -/
theorem parse_at (s : ByteArray) {N : List ByteArray} {d : Bool} {i : Nat} {z : Int} (hp : prs s.data.toList = (N, d, i, z)) (w : World) : Calls Tryz.prog 73 #[.string s] w fun e w' => ∃ (a : Option Addr) (c : Nat), e = .returned (.tuple #[.agg #[.slice a N.length c, .bool d], .int .i64 (i : Int), .int .i64 z]) ∧ w'.ownsRow w.heap.size 9 1 (.slice a N.length c) N.length (N.map Value.string) ∧ Below w.heap.size w w' := by
  refine (parse_any s w).mono ?_
  rintro e w' ⟨v, he, ho, hb⟩
  rw [hp] at he ho
  obtain ⟨a, c, rfl⟩ := kown_slice ho
  exact ⟨a, c, he, ho, hb⟩
/-- what Split answers: names, directory, the last name, error -/
def splR (l : List UInt8) : List ByteArray × Bool × ByteArray × Int :=
  if (prs l).2.2.2 = 0 then (match (prs l).1.getLast? with
    | none => ([], false, ⟨#[]⟩, 180)
    | some x => ((prs l).1.dropLast, true, x, 0)) else ([], false, ⟨#[]⟩, (prs l).2.2.2)
def SRet (l : List UInt8) (w : World) (e : Ending) (w' : World) : Prop :=
  ∃ v, e = .returned (.tuple #[.agg #[v, .bool (splR l).2.1], .string (splR l).2.2.1, .int .i64 (splR l).2.2.2]) ∧ w'.ownsRow w.heap.size 9 1 v (splR l).1.length ((splR l).1.map Value.string) ∧ Below w.heap.size w w'
theorem sret_of {l : List UInt8} {w W : World} {v : Value} {N : List ByteArray} {d : Bool} {x : ByteArray} {e : Int} (hp : splR l = (N, d, x, e)) (ho : W.ownsRow w.heap.size 9 1 v N.length (N.map Value.string)) (hb : Below w.heap.size w W) : SRet l w (.returned (.tuple #[.agg #[v, .bool d], .string x, .int .i64 e])) W := by
  unfold SRet
  rw [hp]
  exact ⟨v, rfl, ho, hb⟩
theorem sclone_any {w : World} {g o c : Nat} {N : List ByteArray} (hN : ∀ j x, N[j]? = some x → w.cell? ⟨g, o + j, none⟩ = some (.string x)) (hl : N.length ≤ 1000000) :
    Calls Tryz.prog 128 #[.slice (some ⟨g, o, none⟩) N.length c] w fun e w' => ∃ g' c', e = .returned (.slice (some ⟨g', 0, none⟩) N.length c') ∧ w'.ownsRow w.heap.size 9 1 (.slice (some ⟨g', 0, none⟩) N.length c') N.length (N.map Value.string) ∧ Below w.heap.size w w' := by
  refine (Any.slices_Clone_string Tryz.sclA g o N.length c N w (Nat.le_refl _) (by omega) (fun j hj => hN j _ (by simp [List.getElem?_eq_getElem hj]))).mono ?_
  rintro e w' ⟨v, rfl, ho, hn, hb⟩
  rw [List.take_length] at ho
  rcases ho.2 with ⟨rfl, _⟩ | ⟨g', c', cur, rfl, _⟩
  · exact absurd rfl hn
  · exact ⟨g', c', rfl, ho, hb⟩
end Go.Proofs.YtojnlmfahgeidaaGreatDoor

namespace Go.Proofs.YtojnlmfahgeidaaGreatDoor
open Go Go.RowKit Go.Shelf
set_option linter.unusedVariables false
set_option linter.unusedSimpArgs false
set_option maxRecDepth 100000 in
set_option maxHeartbeats 4000000 in
theorem split_any (s : ByteArray) (w : World) : Calls Tryz.prog 76 #[.string s] w fun e w' => SRet s.data.toList w e w' := by
  obtain ⟨N, d, i, z, hp⟩ : ∃ N d i z, prs s.data.toList = (N, d, i, z) := ⟨_, _, _, _, rfl⟩
  have hG : GoodN N := by have := good_prs s.data.toList; rwa [hp] at this
  have HX : Hid (∀ w : World, Calls Tryz.prog 73 #[.string s] w fun e w' => ∃ (a : Option Addr) (c : Nat), e = .returned (.tuple #[.agg #[.slice a N.length c, .bool d], .int .i64 (i : Int), .int .i64 z]) ∧ w'.ownsRow w.heap.size 9 1 (.slice a N.length c) N.length (N.map Value.string) ∧ Below w.heap.size w w') := fun w => parse_at s hp w
  have hn32 := hG.1
  have hba : Below w.heap.size w (w.alloc (.cells #[.slice none 0 0, .bool false] 94)) := (Below.refl _ w).alloc (Nat.le_refl _) _
  have ka := Blk.new w 94 #[.slice none 0 0, .bool false]
  by_cases hz : z = 0
  · subst hz
    rcases List.eq_nil_or_concat N with rfl | ⟨M, y, rfl⟩
    · have HR : Hid (splR s.data.toList = ([], false, ⟨#[]⟩, 180)) := by show splR _ = _; unfold splR; rw [hp]; rfl
      clear hp hG
      go_enter Tryz.func76, Tryz.ntmps76
      go_wp2_with fail
      refine (HX.out _).mono ?_
      rintro e w1 ⟨a, c, rfl, ho, hb⟩
      have k1 := (ka.below hb (by simp)).alloc (.cells #[.slice a 0 c, .bool d] 94)
      have hB := (hba.trans (hb.mono hba.size)).alloc (Nat.le_trans hba.size hb.size) (.cells #[.slice a 0 c, .bool d] 94)
      have c0 := k1.cell 0
      have c1 := k1.cell 1
      have f0 := k1.frozen 0
      have f1 := k1.frozen 1
      have kk := (k1.put 0 (.slice none 0 0)).put 1 (.bool false)
      have HE : Hid (_ ∧ _ ∧ _) := ⟨kk.cell 0, kk.cell 1, sret_of (v := .slice none 0 0) HR.out (World.ownsRow_nil _ _ _ _) ((hB.setCell (p := ⟨w.heap.size, 0, none⟩) (Nat.le_refl _) (.slice none 0 0)).setCell (p := ⟨w.heap.size, 1, none⟩) (Nat.le_refl _) (.bool false))⟩
      clear k1 hB kk ho hb
      go_wp2_with fail
      obtain ⟨r0, r1, hr⟩ := HE.out
      clear c0 c1 f0 f1
      generalize ((w1.alloc (.cells #[.slice a 0 c, .bool d] 94)).setCell ⟨w.heap.size, 0, none⟩ (.slice none 0 0)).setCell ⟨w.heap.size, 1, none⟩ (.bool false) = Wf at *
      refine bodyPost_ret (v := .tuple #[.agg #[.slice none 0 0, .bool false], .string ⟨#[]⟩, .int .i64 180]) ?_ rfl hr
      simp [results, Tryz.f76, go_sem, r0, r1]
    · rw [List.concat_eq_append] at *
      have HR : Hid (splR s.data.toList = (M, true, y, 0)) := by show splR _ = _; unfold splR; rw [hp]; simp
      have hlen : (M ++ [y]).length = M.length + 1 := by simp
      rw [hlen] at HX hn32
      clear hp hG
      obtain ⟨m, hm⟩ : ∃ m, M.length = m := ⟨_, rfl⟩
      have HM : Hid (M.length = m) := hm
      rw [hm] at HX hn32
      clear hm hlen
      go_enter Tryz.func76, Tryz.ntmps76
      go_wp2_with fail
      refine (HX.out _).mono ?_
      rintro e w1 ⟨a, c, rfl, ho, hb⟩
      obtain ⟨g, rfl⟩ : ∃ g, a = some ⟨g, 0, none⟩ := by
        obtain ⟨g, cap, hv⟩ := ownsRow_succ ho
        cases hv; exact ⟨g, rfl⟩
      have hmc := own_cap ho
      have k1 := (ka.below hb (by simp)).alloc (.cells #[.slice (some ⟨g, 0, none⟩) (m + 1) c, .bool d] 94)
      have k2 := Blk.new w1 94 #[.slice (some ⟨g, 0, none⟩) (m + 1) c, .bool d]
      have hs1 : w.heap.size < w1.heap.size := by have := hb.size; simp at this; omega
      have hB := (hba.trans (hb.mono hba.size)).alloc (Nat.le_trans hba.size hb.size) (.cells #[.slice (some ⟨g, 0, none⟩) (m + 1) c, .bool d] 94)
      have hO := ho.alloc (.cells #[.slice (some ⟨g, 0, none⟩) (m + 1) c, .bool d] 94)
      have HI : Hid (_ ∧ _ ∧ _ ∧ _) := ⟨k1, k2, hB, hO⟩
      have n1 : (m : Int) + 1 - 1 = (m : Int) := by omega
      have n2 : ¬ (m : Int) < 0 := by omega
      have gl := (hO.lt g rfl).2
      have hgb : w.heap.size < g := by have := (ho.lt g rfl).1; simp at this; omega
      clear k1 k2 hB hO ho hb HX ka hba
      go_wp2_with fail
      generalize hW : w1.alloc (.cells #[.slice (some ⟨g, 0, none⟩) (m + 1) c, .bool d] 94) = W at *
      have hWs : W.heap.size = w1.heap.size + 1 := by rw [← hW]; simp
      clear hW
      obtain ⟨k1, k2, hB, hO⟩ := HI.out
      have hy : W.cell? ⟨g, m, none⟩ = some (.string y) := by
        rw [hO.cellAt m (by omega), List.map_append, List.getElem?_append_right (by rw [List.length_map, HM.out]; exact Nat.le_refl _), List.length_map, HM.out, Nat.sub_self]
        rfl
      have HCl : Hid (∀ U, Below W.heap.size W U → Calls Tryz.prog 128 #[.slice (some ⟨g, 0, none⟩) m c] U fun e w' => ∃ g' c', e = .returned (.slice (some ⟨g', 0, none⟩) m c') ∧ w'.ownsRow U.heap.size 9 1 (.slice (some ⟨g', 0, none⟩) m c') m (M.map Value.string) ∧ Below U.heap.size U w') := fun U hU => by
        have := sclone_any (w := U) (g := g) (o := 0) (c := c) (N := M) (fun j x hj => by
          have hl := (List.getElem?_eq_some_iff.1 hj).1
          rw [HM.out] at hl
          rw [Nat.zero_add, (hU.cell (p := ⟨g, j, none⟩) gl), hO.cellAt j (by omega), List.map_append, List.getElem?_append_left (by rw [List.length_map, HM.out]; exact hl), List.getElem?_map, hj]
          rfl) (by rw [HM.out]; omega)
        rwa [HM.out] at this
      have i1 : (0 : Int) ≤ (m : Int) := by omega
      have i2 : (m : Int) ≤ (c : Int) := by omega
      have i3 : (m : Int) < (m : Int) + 1 := by omega
      have hS : (fun U : World => Blk U w1.heap.size 94 #[.slice (some ⟨g, 0, none⟩) (m + 1) c, .bool d] ∧ U.cell? ⟨g, m, none⟩ = some (.string y)) W.drew := ⟨k2, hy⟩
      refine wp_region_plan (fun U => Blk U w1.heap.size 94 #[.slice (some ⟨g, 0, none⟩) (m + 1) c, .bool d] ∧ U.cell? ⟨g, m, none⟩ = some (.string y)) (.yield [2] 0 (.yield [] 1 (.yield [] 3 (.yield [8] 6 (.yield [] 7 (.yield [] 9 (.yield [] 10 (.force [] 4 (.force [] 5 (.force [] 11 (.force [] 12 (.force [] 13 (.fin [])))))))))))))  (by kernel_rfl) (by kernel_rfl) hS (plan_yield ?_)
      simp only [sgLHInsCloneK]
      go_wp2_with fail
      first
        | refine ⟨rfl, _, .pointer (some ⟨w1.heap.size, 0, none⟩), rfl, Or.inl ⟨by rfl, fun U hU => by go_simp⟩, plan_yield ?_⟩
        | refine ⟨rfl, .pointer (some ⟨w1.heap.size, 0, none⟩), Or.inl ⟨by rfl, fun U hU => by go_simp⟩, plan_yield ?_⟩
      simp only [Act.put, sgPHInsCloneK]
      simp only [sgLHInsCloneK]
      go_wp2_with fail
      first
        | refine ⟨rfl, _, .slice (some ⟨g, 0, none⟩) (m + 1) c, rfl, Or.inl ⟨by rfl, fun U hU => by have c1 := hU.1.cell 0; go_simp⟩, plan_yield ?_⟩
        | refine ⟨rfl, .slice (some ⟨g, 0, none⟩) (m + 1) c, Or.inl ⟨by rfl, fun U hU => by have c1 := hU.1.cell 0; go_simp⟩, plan_yield ?_⟩
      simp only [Act.put, sgPHInsCloneK]
      simp only [sgLHInsCloneK]
      go_wp2_with fail
      first
        | refine ⟨rfl, _, .slice (some ⟨g, 0, none⟩) m c, rfl, Or.inl ⟨by rfl, fun U hU => by go_simp⟩, plan_yield ?_⟩
        | refine ⟨rfl, .slice (some ⟨g, 0, none⟩) m c, Or.inl ⟨by rfl, fun U hU => by go_simp⟩, plan_yield ?_⟩
      simp only [Act.put, sgPHInsCloneK]
      simp only [sgLHInsCloneK]
      go_wp2_with fail
      first
        | refine ⟨rfl, _, .pointer (some ⟨w1.heap.size, 0, none⟩), rfl, Or.inl ⟨by rfl, fun U hU => by go_simp⟩, plan_yield ?_⟩
        | refine ⟨rfl, .pointer (some ⟨w1.heap.size, 0, none⟩), Or.inl ⟨by rfl, fun U hU => by go_simp⟩, plan_yield ?_⟩
      simp only [Act.put, sgPHInsCloneK]
      simp only [sgLHInsCloneK]
      go_wp2_with fail
      first
        | refine ⟨rfl, _, .slice (some ⟨g, 0, none⟩) (m + 1) c, rfl, Or.inl ⟨by rfl, fun U hU => by have c1 := hU.1.cell 0; go_simp⟩, plan_yield ?_⟩
        | refine ⟨rfl, .slice (some ⟨g, 0, none⟩) (m + 1) c, Or.inl ⟨by rfl, fun U hU => by have c1 := hU.1.cell 0; go_simp⟩, plan_yield ?_⟩
      simp only [Act.put, sgPHInsCloneK]
      simp only [sgLHInsCloneK]
      go_wp2_with fail
      first
        | refine ⟨rfl, _, .pointer (some ⟨g, m, none⟩), rfl, Or.inl ⟨by rfl, fun U hU => by go_simp⟩, plan_yield ?_⟩
        | refine ⟨rfl, .pointer (some ⟨g, m, none⟩), Or.inl ⟨by rfl, fun U hU => by go_simp⟩, plan_yield ?_⟩
      simp only [Act.put, sgPHInsCloneK]
      simp only [sgLHInsCloneK]
      go_wp2_with fail
      first
        | refine ⟨rfl, _, .string y, rfl, Or.inl ⟨by rfl, fun U hU => by have c1 := hU.2; go_simp⟩, plan_force ?_⟩
        | refine ⟨rfl, .string y, Or.inl ⟨by rfl, fun U hU => by have c1 := hU.2; go_simp⟩, plan_force ?_⟩
      simp only [Act.put, sgPHInsCloneK]
      simp only [sgLHInsCloneK]
      go_wp2_with fail
      refine (HCl.out _ (Below.refl _ W).drew).mono ?_
      rintro e U1 ⟨g', c', rfl, hO1, hU1⟩
      have hb1 : Below W.heap.size W U1 := (Below.refl _ W).drew.trans hU1
      have q1 := k1.below hb1 k1.lt
      have q0 := hB.trans (hb1.mono hB.size)
      have hO2 : U1.ownsRow (w.heap.size + 1) 9 1 (.slice (some ⟨g', 0, none⟩) m c') m (M.map Value.string) := kown_mono hO1 (by show w.heap.size + 1 ≤ W.heap.size; omega)
      have c0 := q1.cell 0
      have c1 := q1.cell 1
      have f0 := q1.frozen 0
      have f1 := q1.frozen 1
      have kk := (q1.put 0 (.slice (some ⟨g', 0, none⟩) m c')).put 1 (.bool true)
      have HE : Hid (_ ∧ _ ∧ SRet s.data.toList w (.returned (.tuple #[.agg #[.slice (some ⟨g', 0, none⟩) m c', .bool true], .string y, .int .i64 0])) ((U1.setCell ⟨w.heap.size, 0, none⟩ (.slice (some ⟨g', 0, none⟩) m c')).setCell ⟨w.heap.size, 1, none⟩ (.bool true))) := ⟨kk.cell 0, kk.cell 1, sret_of HR.out (by rw [HM.out]; exact kown_mono (own_cell (own_cell hO2 (by omega) _) (by omega) _) (by omega)) ((q0.setCell (p := ⟨w.heap.size, 0, none⟩) (Nat.le_refl _) _).setCell (p := ⟨w.heap.size, 1, none⟩) (Nat.le_refl _) _)⟩
      have s1 : Blk U1 w1.heap.size 94 #[.slice (some ⟨g, 0, none⟩) (m + 1) c, .bool d] ∧ U1.cell? ⟨g, m, none⟩ = some (.string y) := ⟨k2.below hb1 k2.lt, (hb1.cell (p := ⟨g, m, none⟩) gl).trans hy⟩
      have s2 : Blk ((U1.setCell ⟨w.heap.size, 0, none⟩ (.slice (some ⟨g', 0, none⟩) m c')).setCell ⟨w.heap.size, 1, none⟩ (.bool true)) w1.heap.size 94 #[.slice (some ⟨g, 0, none⟩) (m + 1) c, .bool d] ∧ ((U1.setCell ⟨w.heap.size, 0, none⟩ (.slice (some ⟨g', 0, none⟩) m c')).setCell ⟨w.heap.size, 1, none⟩ (.bool true)).cell? ⟨g, m, none⟩ = some (.string y) := ⟨(s1.1.put_other _ _ (by omega)).put_other _ _ (by omega), ((World.cell?_of_block (Below.heap_setCell _ _ _ g (by show g ≠ w.heap.size; omega))).trans (World.cell?_of_block (Below.heap_setCell _ _ _ g (by show g ≠ w.heap.size; omega)))).trans s1.2⟩
      have HS1 : Hid (_ ∧ _) := s1
      have HS2 : Hid (_ ∧ _) := s2
      clear kk q1 q0 hO2 hO1 k1 k2 hB hO HCl s1 s2 hS hy
      go_wp2_with fail
      refine ⟨rfl, HS1.out, plan_force ?_⟩
      simp only [sgLHInsCloneK]
      go_wp2_with fail
      refine ⟨rfl, HS1.out, plan_force ?_⟩
      simp only [sgLHInsCloneK]
      go_wp2_with fail
      refine ⟨rfl, HS2.out, plan_force ?_⟩
      simp only [sgLHInsCloneK]
      go_wp2_with fail
      refine ⟨rfl, HS2.out, plan_force ?_⟩
      simp only [sgLHInsCloneK]
      go_wp2_with fail
      refine ⟨rfl, HS2.out, plan_fin ?_⟩
      simp only [sgLHInsCloneK]
      go_wp2_with fail
      refine ⟨rfl, ?_⟩
      clear HS1 HS2 c0 c1 f0 f1
      go_wp2_with fail
      obtain ⟨r0, r1, hr⟩ := HE.out
      generalize (U1.setCell ⟨w.heap.size, 0, none⟩ (.slice (some ⟨g', 0, none⟩) m c')).setCell ⟨w.heap.size, 1, none⟩ (.bool true) = Wf at *
      refine bodyPost_ret (v := .tuple #[.agg #[.slice (some ⟨g', 0, none⟩) m c', .bool true], .string y, .int .i64 0]) ?_ rfl hr
      simp [results, Tryz.f76, go_sem, r0, r1]
  · have HR : Hid (splR s.data.toList = ([], false, ⟨#[]⟩, z)) := by show splR _ = _; unfold splR; rw [hp, if_neg (show ¬ (N, d, i, z).2.2.2 = 0 from hz)]
    clear hp hG
    go_enter Tryz.func76, Tryz.ntmps76
    go_wp2_with fail
    refine (HX.out _).mono ?_
    rintro e w1 ⟨a, c, rfl, ho, hb⟩
    have k1 := (ka.below hb (by simp)).alloc (.cells #[.slice a N.length c, .bool d] 94)
    have hB := (hba.trans (hb.mono hba.size)).alloc (Nat.le_trans hba.size hb.size) (.cells #[.slice a N.length c, .bool d] 94)
    have c0 := k1.cell 0
    have c1 := k1.cell 1
    have f0 := k1.frozen 0
    have f1 := k1.frozen 1
    have kk := (k1.put 0 (.slice none 0 0)).put 1 (.bool false)
    have HE : Hid (_ ∧ _ ∧ _) := ⟨kk.cell 0, kk.cell 1, sret_of (v := .slice none 0 0) HR.out (World.ownsRow_nil _ _ _ _) ((hB.setCell (p := ⟨w.heap.size, 0, none⟩) (Nat.le_refl _) (.slice none 0 0)).setCell (p := ⟨w.heap.size, 1, none⟩) (Nat.le_refl _) (.bool false))⟩
    clear k1 hB kk ho hb
    go_wp2_with fail
    obtain ⟨r0, r1, hr⟩ := HE.out
    clear c0 c1 f0 f1
    generalize ((w1.alloc (.cells #[.slice a N.length c, .bool d] 94)).setCell ⟨w.heap.size, 0, none⟩ (.slice none 0 0)).setCell ⟨w.heap.size, 1, none⟩ (.bool false) = Wf at *
    refine bodyPost_ret (v := .tuple #[.agg #[.slice none 0 0, .bool false], .string ⟨#[]⟩, .int .i64 z]) ?_ rfl hr
    simp [results, Tryz.f76, go_sem, r0, r1]
end Go.Proofs.YtojnlmfahgeidaaGreatDoor

namespace Go.Proofs.YtojnlmfahgeidaaGreatDoor
open Go Go.RowKit
set_option linter.unusedSimpArgs false
set_option linter.unusedVariables false
set_option maxRecDepth 100000 in
set_option maxHeartbeats 4000000 in
theorem along_none (x : Nat) (a : Option Addr) (c : Nat) (fv : Value) (w : World) : Calls Tryz.prog 70 #[.pointer (some ⟨x, 0, none⟩), .slice a 0 c, fv] w fun e w' => e = .returned (.int .i64 0) ∧ w' = w := by
  go_enter Tryz.func70, Tryz.ntmps70
  go_wp2_with fail
  go_loopw [20] (fun v wr => v = .int .i64 0 ∧ w = wr) (fun _ _ => 0)
  case atStart => exact ⟨rfl, rfl⟩
  case round =>
    obtain ⟨rfl, rfl⟩ := hrel
    go_wp2_with fail
    go_loopw [32] (fun v wr => v = .int .i64 0 ∧ w = wr) (fun _ _ => 0)
    case atStart => exact ⟨rfl, rfl⟩
    case round =>
      obtain ⟨rfl, rfl⟩ := hrel
      go_wp2_with fail
      go_ret
      exact ⟨rfl, rfl⟩
set_option maxRecDepth 100000 in
set_option maxHeartbeats 4000000 in
theorem walk_none (x : Nat) (a : Option Addr) (c : Nat) (w : World) : Calls Tryz.prog 33 #[.pointer (some ⟨x, 0, none⟩), .slice a 0 c] w fun e w' => e = .returned (.tuple #[.int .i64 1, .int .i64 0]) ∧ Below w.heap.size w w' := by
  have HA : Hid (∀ (fv : Value) (w : World), Calls Tryz.prog 70 #[.pointer (some ⟨x, 0, none⟩), .slice a 0 c, fv] w fun e w' => e = .returned (.int .i64 0) ∧ w' = w) := fun fv w => along_none x a c fv w
  have b1 : Blk (w.alloc (.cells #[.int .i64 1] 3)) w.heap.size 3 #[.int .i64 1] := Blk.new _ _ _
  have HB : Hid (Below w.heap.size w (w.alloc (.cells #[.int .i64 1] 3))) := below_new1 _ _
  have c0 := (b1.cell 0).trans rfl
  clear b1
  go_enter Tryz.func33, Tryz.ntmps33
  go_wp2_with fail
  generalize (w.alloc (.cells #[.int .i64 1] 3)) = w1 at *
  refine (HA.out _ _).mono ?_
  rintro e w2 ⟨rfl, hw⟩
  subst w2
  go_wp2_with fail
  go_ret2
  exact ⟨rfl, HB.out⟩
set_option maxRecDepth 100000 in
set_option maxHeartbeats 4000000 in
theorem named_root (x : Nat) (a : Option Addr) (c : Nat) (b : Bool) (l z : Int) (st : Nat) (w : World) (HG0 : ∀ V, Below w.heap.size w V → Calls Tryz.prog 56 #[.pointer (some ⟨x, 0, none⟩), .int .i64 1] V fun e w' => e = .returned (.tuple #[.agg (nfC 1 2 l z st), .int .i64 0]) ∧ Below V.heap.size V w') :
    Calls Tryz.prog 74 #[.pointer (some ⟨x, 0, none⟩), .agg #[.slice a 0 c, .bool b]] w fun e w' => e = .returned (.tuple #[.agg (nfC 1 2 l z st), .int .i64 0]) ∧ Below w.heap.size w w' := by
  have HG : Hid (∀ V, Below w.heap.size w V → Calls Tryz.prog 56 #[.pointer (some ⟨x, 0, none⟩), .int .i64 1] V fun e w' => e = .returned (.tuple #[.agg (nfC 1 2 l z st), .int .i64 0]) ∧ Below V.heap.size V w') := HG0
  have HW : Hid (∀ w : World, Calls Tryz.prog 33 #[.pointer (some ⟨x, 0, none⟩), .slice a 0 c] w fun e w' => e = .returned (.tuple #[.int .i64 1, .int .i64 0]) ∧ Below w.heap.size w w') := walk_none x a c
  clear HG0
  have hz := zero_nf
  have b0 : Blk ((w.alloc (.cells #[.slice a 0 c, .bool b] 94)).alloc (.cells nf0 86)) w.heap.size 94 #[.slice a 0 c, .bool b] := Blk.alloc (Blk.new _ _ _) _
  have b1 : Blk ((w.alloc (.cells #[.slice a 0 c, .bool b] 94)).alloc (.cells nf0 86)) (w.heap.size + 1) 86 nf0 := Blk.new1 _ _ _ _
  have hb : Below w.heap.size w ((w.alloc (.cells #[.slice a 0 c, .bool b] 94)).alloc (.cells nf0 86)) := below_new2 _ _ _
  have c0 := (b0.cell 0).trans rfl
  go_enter Tryz.func74, Tryz.ntmps74
  go_wp2_with fail
  generalize ((w.alloc (.cells #[.slice a 0 c, .bool b] 94)).alloc (.cells nf0 86)) = w1 at *
  refine (HW.out _).mono ?_
  rintro e w2 ⟨rfl, hb2⟩
  have hb12 := hb.trans (hb2.mono hb.size)
  have d0 := b0.below hb2 b0.lt
  have d1 := b1.below hb2 b1.lt
  have H1 := HG.out w2 hb12
  clear b0 b1 c0 hb hb2 HW HG
  go_wp2_with fail
  refine H1.mono ?_
  rintro e w3 ⟨rfl, hb3⟩
  have hb13 := hb12.trans (hb3.mono hb12.size)
  have e0 := d0.below hb3 d0.lt
  have e1 := d1.below hb3 d1.lt
  have u1 : Blk (w3.alloc (.cells nf0 86)) w3.heap.size 86 nf0 := Blk.new _ _ _
  have u2 : Blk ((w3.alloc (.cells nf0 86)).setRow w3.heap.size (nfC 1 2 l z st)) w3.heap.size 86 (nfC 1 2 l z st) := u1.set _
  have hn : Below w3.heap.size w3 ((w3.alloc (.cells nf0 86)).setRow w3.heap.size (nfC 1 2 l z st)) := below_setRow (below_new1 _ _) (Nat.le_refl _) _
  have e0' := e0.below hn e0.lt
  have e1' := e1.below hn e1.lt
  have hb14 := hb13.trans (hn.mono hb13.size)
  obtain ⟨n0, n1, n2, n3, n4⟩ := nf_cs u2
  have k1 := (e0'.cell 1).trans rfl
  have r1 := e1'.set (nfC 1 2 l z st)
  have HB : Hid (Below w.heap.size w (((w3.alloc (.cells nf0 86)).setRow w3.heap.size (nfC 1 2 l z st)).setRow (w.heap.size + 1) (nfC 1 2 l z st))) := below_setRow hb14 (by omega) _
  clear d0 d1 hb12 hb3 hb13 e0 e1 hn hb14 H1 e0'
  cases b
  all_goals
    go_wp2_with (first | (refine wpList_store_row (by rfl) 86 _ _ (by rfl) (w3.heap.size) ((nfC 1 2 l z st)) (by rfl) (by rfl) 86 (nf0) (by exact u1) (size_nf.trans (by rfl)) (by rfl) (nf_all _ _ _ _ _) ?_; simp only [Act.put, sgPHInsCloneK]) | (refine wpList_load_row (by rfl) 86 _ (by rfl) (w3.heap.size) (by rfl) 86 ((nfC 1 2 l z st)) (0, 0) _ (by exact u2) Tryz.underlying86 (by rfl) (size_nf.trans (by rfl)) ?_; simp only [Act.put, sgPHInsCloneK]) | (refine wpList_store_row (by rfl) 86 _ _ (by rfl) (w.heap.size + 1) ((nfC 1 2 l z st)) (by rfl) (by rfl) 86 (nf0) (by exact e1') (size_nf.trans (by rfl)) (by rfl) (nf_all _ _ _ _ _) ?_; simp only [Act.put, sgPHInsCloneK]) | fail)
    try simp only [Exit.inBlock, Exit.then]
    refine bodyPost_ret (results_row2 Tryz.results74 _ _ (w.heap.size + 1) 86 (nfC 1 2 l z st) (0, 0) _ rfl r1 Tryz.underlying86 rfl (size_nf.trans (by rfl))) rfl ?_
    exact ⟨rfl, HB.out⟩
theorem nf_far {w : World} {g gi : Nat} {p0 : Array Value} {l z : Int} {st : Nat} (h0 : Blk w g 94 p0) (h1 : Blk w gi 86 (nfC 1 2 l z st)) (u v : Value) : Blk ((w.setCell ⟨g, 0, none⟩ u).setCell ⟨g, 1, none⟩ v) gi 86 (nfC 1 2 l z st) := by
  have hne : gi ≠ g := fun e => by
    subst e
    have h := h0.symm.trans h1
    simp [nfC] at h
  exact (h1.put_other 0 u hne).put_other 1 v hne
set_option maxRecDepth 100000 in
set_option maxHeartbeats 4000000 in
theorem parent_root (x : Nat) (s nm : ByteArray) (N : List ByteArray) (dd : Bool) (i : Nat) (hp : prs s.data.toList = (N, dd, i, 0)) (hs : splR s.data.toList = ([], true, nm, 0)) (l z : Int) (st : Nat) (w : World) (HG0 : ∀ V, Below w.heap.size w V → Calls Tryz.prog 56 #[.pointer (some ⟨x, 0, none⟩), .int .i64 1] V fun e w' => e = .returned (.tuple #[.agg (nfC 1 2 l z st), .int .i64 0]) ∧ Below V.heap.size V w') :
    Calls Tryz.prog 39 #[.pointer (some ⟨x, 0, none⟩), .string s] w fun e w' => ∃ a2 c2, e = .returned (.tuple #[.int .i64 1, .string nm, .agg #[.slice a2 N.length c2, .bool dd], .int .i64 0]) ∧ Below w.heap.size w w' := by
  have HG : Hid (∀ V, Below w.heap.size w V → Calls Tryz.prog 56 #[.pointer (some ⟨x, 0, none⟩), .int .i64 1] V fun e w' => e = .returned (.tuple #[.agg (nfC 1 2 l z st), .int .i64 0]) ∧ Below V.heap.size V w') := HG0
  have HS : Hid (∀ V : World, Calls Tryz.prog 76 #[.string s] V fun e w' => ∃ a c, e = .returned (.tuple #[.agg #[.slice a 0 c, .bool true], .string nm, .int .i64 0]) ∧ Below V.heap.size V w') := fun V => (split_any s V).mono fun e w' ⟨v, h1, h2, h3⟩ => by
    rw [hs] at h1 h2
    obtain ⟨a, c, rfl⟩ := kown_slice h2
    exact ⟨a, c, h1, h3⟩
  have HP : Hid (∀ V : World, Calls Tryz.prog 73 #[.string s] V fun e w' => ∃ a2 c2, e = .returned (.tuple #[.agg #[.slice a2 N.length c2, .bool dd], .int .i64 (i : Int), .int .i64 0]) ∧ Below V.heap.size V w') := fun V => (parse_at s hp V).mono fun e w' ⟨a, c, h1, h2, h3⟩ => ⟨a, c, h1, h3⟩
  clear HG0 hp hs
  have hz := zero_nf
  have hz2 := pt_zero
  have b0 : Blk (w.alloc (.cells #[.slice none 0 0, .bool false] 94)) w.heap.size 94 #[.slice none 0 0, .bool false] := Blk.new _ _ _
  have hb : Below w.heap.size w (w.alloc (.cells #[.slice none 0 0, .bool false] 94)) := below_new1 _ _
  go_enter Tryz.func39, Tryz.ntmps39
  go_wp2_with fail
  generalize (w.alloc (.cells #[.slice none 0 0, .bool false] 94)) = w1 at *
  refine (HS.out _).mono ?_
  rintro e w2 ⟨a, c, rfl, hb2⟩
  have hb12 := hb.trans (hb2.mono hb.size)
  have d0 := (b0.below hb2 b0.lt).alloc (.cells #[.slice a 0 c, .bool true] 94)
  have hb13 : Below w.heap.size w (w2.alloc (.cells #[.slice a 0 c, .bool true] 94)) := hb12.alloc hb12.size _
  have H1 := named_root x a c true l z st (w2.alloc (.cells #[.slice a 0 c, .bool true] 94)) (fun V hV => HG.out V (hb13.trans (hV.mono hb13.size)))
  clear b0 hb hb2 hb12 HS HG
  go_wp2_with fail
  generalize (w2.alloc (.cells #[.slice a 0 c, .bool true] 94)) = w2' at *
  refine H1.mono ?_
  rintro e w3 ⟨rfl, hb3⟩
  have e0 := d0.below hb3 d0.lt
  have hb14 := hb13.trans (hb3.mono hb13.size)
  have u1 : Blk (w3.alloc (.cells nf0 86)) w3.heap.size 86 nf0 := Blk.new _ _ _
  have u2 : Blk ((w3.alloc (.cells nf0 86)).setRow w3.heap.size (nfC 1 2 l z st)) w3.heap.size 86 (nfC 1 2 l z st) := u1.set _
  have hn : Below w3.heap.size w3 ((w3.alloc (.cells nf0 86)).setRow w3.heap.size (nfC 1 2 l z st)) := below_setRow (below_new1 _ _) (Nat.le_refl _) _
  have e1 := e0.below hn e0.lt
  have hb15 := hb14.trans (hn.mono hb14.size)
  clear d0 hb13 hb3 hb14 hn H1 e0
  go_wp2_with (first | (refine wpList_store_row (by rfl) 86 _ _ (by rfl) (w3.heap.size) ((nfC 1 2 l z st)) (by rfl) (by rfl) 86 (nf0) (by exact u1) (size_nf.trans (by rfl)) (by rfl) (nf_all _ _ _ _ _) ?_; simp only [Act.put, sgPHInsCloneK]) | fail)
  generalize ((w3.alloc (.cells nf0 86)).setRow w3.heap.size (nfC 1 2 l z st)) = w4 at *
  generalize w3.heap.size = gi at *
  refine (HP.out _).mono ?_
  rintro e w5 ⟨a2, c2, rfl, hb5⟩
  have f0 := (e1.below hb5 e1.lt).alloc (.cells #[.slice a2 N.length c2, .bool dd] 94)
  have f1 := (u2.below hb5 u2.lt).alloc (.cells #[.slice a2 N.length c2, .bool dd] 94)
  have f2 : Blk (w5.alloc (.cells #[.slice a2 N.length c2, .bool dd] 94)) w5.heap.size 94 #[.slice a2 N.length c2, .bool dd] := Blk.new _ _ _
  have hb16 := hb15.trans (hb5.mono hb15.size)
  have hb17 : Below w.heap.size w (w5.alloc (.cells #[.slice a2 N.length c2, .bool dd] 94)) := hb16.alloc hb16.size _
  have l0 := (e1.below hb5 e1.lt).lt
  clear e1 u1 u2 hb15 hb5 hb16 HP
  have F0 := f0.drew
  have F1 := f1.drew
  have F2 := f2.drew
  have HB6 : Hid (Below w.heap.size w (w5.alloc (.cells #[.slice a2 N.length c2, .bool dd] 94)).drew) := hb17.drew
  have lg : w5.heap.size < (w5.alloc (.cells #[.slice a2 N.length c2, .bool dd] 94)).drew.heap.size := F2.lt
  clear f0 f1 f2 hb17
  go_wp2_with fail
  refine wp_region_partsS (fun U => Blk U gi 86 (nfC 1 2 l z st)) [([2, 4], 0, true), ([], 1, true), ([5, 6], 3, false), ([], 7, false)] [8] [] (by kernel_rfl) (by kernel_rfl) F1 (partsI_yield ?_)
  generalize (w5.alloc (.cells #[.slice a2 N.length c2, .bool dd] 94)).drew = w6 at *
  generalize w5.heap.size = g5 at *
  have k0 := (F2.cell 0).trans rfl
  have k1 := (F2.cell 1).trans rfl
  have t0 := (F0.cell 0).trans rfl
  have t1 := (F0.cell 1).trans rfl
  have z0 := F0.frozen 0
  have z1 := F0.frozen 1
  have R1 := (F0.put 0 (.slice a2 N.length c2)).put 1 (.bool dd)
  have F1' : Blk ((w6.setCell ⟨w.heap.size, 0, none⟩ (.slice a2 N.length c2)).setCell ⟨w.heap.size, 1, none⟩ (.bool dd)) gi 86 (nfC 1 2 l z st) := nf_far F0 F1 _ _
  have HBE : Hid (Below w.heap.size w ((w6.setCell ⟨w.heap.size, 0, none⟩ (.slice a2 N.length c2)).setCell ⟨w.heap.size, 1, none⟩ (.bool dd))) := (HB6.out.setCell (p := ⟨w.heap.size, 0, none⟩) (Nat.le_refl _) _).setCell (p := ⟨w.heap.size, 1, none⟩) (Nat.le_refl _) _
  simp only [sgLHInsCloneK]
  go_wp2_with fail
  refine ⟨rfl, _, .pointer (some ⟨gi, 0, none⟩), rfl, Or.inl ⟨by rfl, fun W hW => by go_simp⟩, partsI_yield ?_⟩
  simp only [Act.put, sgPHInsCloneK]
  simp only [sgLHInsCloneK]
  go_wp2_with fail
  refine ⟨rfl, _, .int .i64 1, rfl, Or.inl ⟨by rfl, fun W hW => by obtain ⟨n0, n1, n2, n3, n4⟩ := nf_cs hW; go_simp⟩, partsI_force ?_⟩
  simp only [Act.put, sgPHInsCloneK]
  simp only [sgLHInsCloneK]
  go_wp2_with fail
  refine ⟨rfl, F1, partsI_force ?_⟩
  simp only [sgLHInsCloneK]
  go_wp2_with fail
  refine ⟨rfl, F1', partsI_last ?_⟩
  simp only [sgLHInsCloneK]
  go_wp2_with fail
  refine ⟨rfl, ?_⟩
  clear k0 k1 t0 t1 z0 z1 F0 F1 F2 F1'
  go_wp2_with fail
  try simp only [Exit.inBlock, Exit.then]
  refine bodyPost_ret (res_ttct Tryz.results39 _ _ w.heap.size 94 #[.slice a2 N.length c2, .bool dd] _ rfl R1 Tryz.underlying94 rfl (size_pt.trans rfl)) rfl ?_
  exact ⟨a2, c2, rfl, HBE.out⟩
end Go.Proofs.YtojnlmfahgeidaaGreatDoor

namespace Go.Proofs.YtojnlmfahgeidaaGreatDoor
open Go Go.RowKit
set_option linter.unusedSimpArgs false
set_option linter.unusedVariables false
attribute [local go_sem] st_nil st_fun
set_option maxRecDepth 100000 in
set_option maxHeartbeats 4000000 in
theorem spot_at (x st : Nat) (fv : Value) (s nm : ByteArray) (k2 : Nat) (dd : Bool) (w : World) (HP0 : ∀ V, Below w.heap.size w V → Calls Tryz.prog 39 #[.pointer (some ⟨x, 0, none⟩), .string s] V fun e w' => ∃ a2 c2, e = .returned (.tuple #[.int .i64 1, .string nm, .agg #[.slice a2 k2 c2, .bool dd], .int .i64 0]) ∧ Below V.heap.size V w') :
    Calls Tryz.prog 86 #[.agg #[.pointer (some ⟨x, 0, none⟩), .int .u64 ((st : Nat) : Int), fv], .string s] w fun e w' => ∃ a2 c2, e = .returned (.tuple #[.agg #[.int .i64 1, .string nm, .slice a2 k2 c2, .bool dd], .int .i64 0]) ∧ Below w.heap.size w w' := by
  have hz := sp_zero
  have hz2 := pt_zero
  have b0 : Blk ((w.alloc (.cells #[.pointer (some ⟨x, 0, none⟩), .int .u64 ((st : Nat) : Int), fv] 161)).alloc (.cells #[.int .i64 0, .string ⟨#[]⟩, .slice none 0 0, .bool false] 163)) w.heap.size 161 #[.pointer (some ⟨x, 0, none⟩), .int .u64 ((st : Nat) : Int), fv] := Blk.alloc (Blk.new _ _ _) _
  have b1 : Blk ((w.alloc (.cells #[.pointer (some ⟨x, 0, none⟩), .int .u64 ((st : Nat) : Int), fv] 161)).alloc (.cells #[.int .i64 0, .string ⟨#[]⟩, .slice none 0 0, .bool false] 163)) (w.heap.size + 1) 163 #[.int .i64 0, .string ⟨#[]⟩, .slice none 0 0, .bool false] := Blk.new1 _ _ _ _
  have hb : Below w.heap.size w ((w.alloc (.cells #[.pointer (some ⟨x, 0, none⟩), .int .u64 ((st : Nat) : Int), fv] 161)).alloc (.cells #[.int .i64 0, .string ⟨#[]⟩, .slice none 0 0, .bool false] 163)) := below_new2 _ _ _
  have c0' := (b0.cell 0).trans rfl
  have HP := HP0 _ hb
  clear HP0
  go_enter Tryz.func86, Tryz.ntmps86
  go_wp2_with fail
  generalize ((w.alloc (.cells #[.pointer (some ⟨x, 0, none⟩), .int .u64 ((st : Nat) : Int), fv] 161)).alloc (.cells #[.int .i64 0, .string ⟨#[]⟩, .slice none 0 0, .bool false] 163)) = w1 at *
  refine HP.mono ?_
  rintro e w2 ⟨a2, c2, rfl, hb2⟩
  have b2 := b1.below hb2 b1.lt
  have hb12 := hb.trans (hb2.mono hb.size)
  have b3 : Blk (w2.alloc (.cells #[.slice a2 k2 c2, .bool dd] 94)) (w.heap.size + 1) 163 #[.int .i64 0, .string ⟨#[]⟩, .slice none 0 0, .bool false] := b2.alloc _
  have r3 := ((((b3.put 0 (.int .i64 1)).put 1 (.string nm)).put 2 (.slice a2 k2 c2)).put 3 (.bool dd))
  have HB : Hid (Below w.heap.size w (((((w2.alloc (.cells #[.slice a2 k2 c2, .bool dd] 94)).setCell ⟨w.heap.size + 1, 0, none⟩ (.int .i64 1)).setCell ⟨w.heap.size + 1, 1, none⟩ (.string nm)).setCell ⟨w.heap.size + 1, 2, none⟩ (.slice a2 k2 c2)).setCell ⟨w.heap.size + 1, 3, none⟩ (.bool dd))) := (((((hb12.alloc hb12.size _).setCell (p := ⟨w.heap.size + 1, 0, none⟩) (by show w.heap.size ≤ w.heap.size + 1; omega) (.int .i64 1)).setCell (p := ⟨w.heap.size + 1, 1, none⟩) (by show w.heap.size ≤ w.heap.size + 1; omega) (.string nm)).setCell (p := ⟨w.heap.size + 1, 2, none⟩) (by show w.heap.size ≤ w.heap.size + 1; omega) (.slice a2 k2 c2)).setCell (p := ⟨w.heap.size + 1, 3, none⟩) (by show w.heap.size ≤ w.heap.size + 1; omega) (.bool dd))
  have cc0 := (b3.cell 0).trans rfl
  have f0 := b3.frozen 0
  have cc1 := (b3.cell 1).trans rfl
  have f1 := b3.frozen 1
  have cc2 := (b3.cell 2).trans rfl
  have f2 := b3.frozen 2
  have cc3 := (b3.cell 3).trans rfl
  have f3 := b3.frozen 3
  clear b0 b1 hb hb2 HP b2
  go_wp2_with fail
  try simp only [Exit.inBlock, Exit.then]
  refine bodyPost_ret (results_row2 Tryz.results86 _ _ (w.heap.size + 1) 163 #[.int .i64 1, .string nm, .slice a2 k2 c2, .bool dd] (0, 0) _ rfl r3 Tryz.underlying163 rfl (size_sp.trans (by rfl))) rfl ?_
  exact ⟨a2, c2, rfl, HB.out⟩
set_option maxRecDepth 100000 in
set_option maxHeartbeats 4000000 in
theorem asks_any (nm : ByteArray) (i : Int) (a2 : Option Addr) (k2 c2 : Nat) (dd : Bool) (w : World) : Calls Tryz.prog 87 #[.agg #[.int .i64 i, .string nm, .slice a2 k2 c2, .bool dd]] w fun e w' => e = .returned (.bool dd) ∧ Below w.heap.size w w' := by
  have b0 : Blk (w.alloc (.cells #[.int .i64 i, .string nm, .slice a2 k2 c2, .bool dd] 163)) w.heap.size 163 #[.int .i64 i, .string nm, .slice a2 k2 c2, .bool dd] := Blk.new _ _ _
  have HB : Hid (Below w.heap.size w (w.alloc (.cells #[.int .i64 i, .string nm, .slice a2 k2 c2, .bool dd] 163))) := below_new1 _ _
  have c3 := (b0.cell 3).trans rfl
  clear b0
  go_enter Tryz.func87, Tryz.ntmps87
  go_wp2_with fail
  go_ret
  exact ⟨rfl, HB.out⟩
set_option maxRecDepth 100000 in
set_option maxHeartbeats 4000000 in
theorem vacant_ok (x st : Nat) (fv : Value) (nm : ByteArray) (a2 : Option Addr) (k2 c2 : Nat) (dd : Bool) (w : World) (HF0 : ∀ V, Below w.heap.size w V → Calls Tryz.prog 14 #[.pointer (some ⟨x, 0, none⟩), .int .i64 1, .string nm] V fun e w' => e = .returned (.tuple #[.int .i64 0, .int .i64 0, .int .i64 171]) ∧ Below V.heap.size V w') :
    Calls Tryz.prog 88 #[.agg #[.pointer (some ⟨x, 0, none⟩), .int .u64 ((st : Nat) : Int), fv], .agg #[.int .i64 1, .string nm, .slice a2 k2 c2, .bool dd]] w fun e w' => e = .returned (.int .i64 0) ∧ Below w.heap.size w w' := by
  have b0 : Blk ((w.alloc (.cells #[.pointer (some ⟨x, 0, none⟩), .int .u64 ((st : Nat) : Int), fv] 161)).alloc (.cells #[.int .i64 1, .string nm, .slice a2 k2 c2, .bool dd] 163)) w.heap.size 161 #[.pointer (some ⟨x, 0, none⟩), .int .u64 ((st : Nat) : Int), fv] := Blk.alloc (Blk.new _ _ _) _
  have b1 : Blk ((w.alloc (.cells #[.pointer (some ⟨x, 0, none⟩), .int .u64 ((st : Nat) : Int), fv] 161)).alloc (.cells #[.int .i64 1, .string nm, .slice a2 k2 c2, .bool dd] 163)) (w.heap.size + 1) 163 #[.int .i64 1, .string nm, .slice a2 k2 c2, .bool dd] := Blk.new1 _ _ _ _
  have hb : Below w.heap.size w ((w.alloc (.cells #[.pointer (some ⟨x, 0, none⟩), .int .u64 ((st : Nat) : Int), fv] 161)).alloc (.cells #[.int .i64 1, .string nm, .slice a2 k2 c2, .bool dd] 163)) := below_new2 _ _ _
  have k0 := (b0.cell 0).trans rfl
  have k1 := (b1.cell 0).trans rfl
  have k2' := (b1.cell 1).trans rfl
  have HF := HF0 _ hb
  clear HF0 b0 b1
  go_enter Tryz.func88, Tryz.ntmps88
  go_wp2_with fail
  generalize ((w.alloc (.cells #[.pointer (some ⟨x, 0, none⟩), .int .u64 ((st : Nat) : Int), fv] 161)).alloc (.cells #[.int .i64 1, .string nm, .slice a2 k2 c2, .bool dd] 163)) = w1 at *
  refine HF.mono ?_
  rintro e w2 ⟨rfl, hb2⟩
  have HB : Hid (Below w.heap.size w w2) := hb.trans (hb2.mono hb.size)
  clear hb hb2 k0 k1 k2' HF
  go_wp2_with fail
  go_ret
  exact ⟨rfl, HB.out⟩
set_option maxRecDepth 100000 in
set_option maxHeartbeats 4000000 in
theorem fresh_at (x st : Nat) (fv : Value) (nm : ByteArray) (kd : Int) (n : Nat) (w : World) (T : Nat → Prop) (hT : ∀ b, T b → b < w.heap.size) (P1 P2 : World → Prop)
    (HM0 : ∀ V, Below w.heap.size w V → Calls Tryz.prog 49 #[.pointer (some ⟨x, 0, none⟩), .int .i64 kd, .int .u64 ((st : Nat) : Int)] V fun e w' => e = .returned (.tuple #[.int .i64 (n : Int), .int .i64 0]) ∧ P1 w' ∧ Turns T V w')
    (HA0 : ∀ V, P1 V → Calls Tryz.prog 50 #[.pointer (some ⟨x, 0, none⟩), .int .i64 1, .agg #[.int .i64 (n : Int), .string nm], .int .u64 ((st : Nat) : Int)] V fun e w' => e = .returned (.int .i64 0) ∧ P2 w' ∧ Turns T V w') :
    Calls Tryz.prog 144 #[.agg #[.pointer (some ⟨x, 0, none⟩), .int .u64 ((st : Nat) : Int), fv], .int .i64 1, .string nm, .int .i64 kd] w fun e w' => e = .returned (.tuple #[.int .i64 (n : Int), .int .i64 0]) ∧ P2 w' ∧ Turns T w w' := by
  have HA : Hid (∀ V, P1 V → Calls Tryz.prog 50 #[.pointer (some ⟨x, 0, none⟩), .int .i64 1, .agg #[.int .i64 (n : Int), .string nm], .int .u64 ((st : Nat) : Int)] V fun e w' => e = .returned (.int .i64 0) ∧ P2 w' ∧ Turns T V w') := HA0
  have HT : Hid (∀ b, T b → b < w.heap.size) := hT
  have b0 : Blk (w.alloc (.cells #[.pointer (some ⟨x, 0, none⟩), .int .u64 ((st : Nat) : Int), fv] 161)) w.heap.size 161 #[.pointer (some ⟨x, 0, none⟩), .int .u64 ((st : Nat) : Int), fv] := Blk.new _ _ _
  have hb : Below w.heap.size w (w.alloc (.cells #[.pointer (some ⟨x, 0, none⟩), .int .u64 ((st : Nat) : Int), fv] 161)) := below_new1 _ _
  have k0 := (b0.cell 0).trans rfl
  have k1 := (b0.cell 1).trans rfl
  have HM := HM0 _ hb
  clear HM0 HA0 hT
  go_enter Tryz.func144, Tryz.ntmps144
  go_wp2_with fail
  generalize (w.alloc (.cells #[.pointer (some ⟨x, 0, none⟩), .int .u64 ((st : Nat) : Int), fv] 161)) = w1 at *
  refine HM.mono ?_
  rintro e w2 ⟨rfl, hp1, hT1⟩
  have d0 : Blk w2 w.heap.size 161 #[.pointer (some ⟨x, 0, none⟩), .int .u64 ((st : Nat) : Int), fv] := (hT1.block _ b0.lt (fun h => by have := HT.out _ h; omega)).trans b0
  have HT2 : Hid (Turns T w w2) := (Turns.of_below hb).trans hT1 fun b hb => .inl hb
  have H2 := HA.out w2 hp1
  clear b0 k0 k1 hb hp1 hT1 HM HA
  have k0 := (d0.cell 0).trans rfl
  have k1 := (d0.cell 1).trans rfl
  clear d0
  go_wp2_with fail
  refine H2.mono ?_
  rintro e w3 ⟨rfl, hp2, hT3⟩
  have HE : Hid (P2 w3 ∧ Turns T w w3) := ⟨hp2, HT2.out.trans hT3 fun b hb => .inl hb⟩
  clear hp2 hT3 H2 k0 k1 HT2
  go_wp2_with fail
  go_ret2
  exact ⟨rfl, HE.out.1, HE.out.2⟩
set_option maxRecDepth 100000 in
set_option maxHeartbeats 4000000 in
theorem make1_at (x st : Nat) (fv : Value) (nm : ByteArray) (kd : Int) (n gs gk : Nat) (a2 : Option Addr) (k2 c2 : Nat) (dd : Bool) (w : World) (T : Nat → Prop) (P2 : World → Prop) (hs : Blk w gs 163 #[.int .i64 1, .string nm, .slice a2 k2 c2, .bool dd]) (hk : w.cell? ⟨gk, 0, none⟩ = some (.int .i64 kd)) (hgk : gk < w.heap.size)
    (HF0 : ∀ V, Below w.heap.size w V → Calls Tryz.prog 144 #[.agg #[.pointer (some ⟨x, 0, none⟩), .int .u64 ((st : Nat) : Int), fv], .int .i64 1, .string nm, .int .i64 kd] V fun e w' => e = .returned (.tuple #[.int .i64 (n : Int), .int .i64 0]) ∧ P2 w' ∧ Turns T V w') :
    Calls Tryz.prog 191 #[.agg #[.pointer (some ⟨x, 0, none⟩), .int .u64 ((st : Nat) : Int), fv], .pointer (some ⟨gs, 0, none⟩), .pointer (some ⟨gk, 0, none⟩)] w fun e w' => e = .returned (.tuple #[.int .i64 (n : Int), .int .i64 0]) ∧ P2 w' ∧ Turns T w w' := by
  have b0 : Blk (w.alloc (.cells #[.pointer (some ⟨x, 0, none⟩), .int .u64 ((st : Nat) : Int), fv] 161)) w.heap.size 161 #[.pointer (some ⟨x, 0, none⟩), .int .u64 ((st : Nat) : Int), fv] := Blk.new _ _ _
  have hb : Below w.heap.size w (w.alloc (.cells #[.pointer (some ⟨x, 0, none⟩), .int .u64 ((st : Nat) : Int), fv] 161)) := below_new1 _ _
  have q0 := (b0.cell 0).trans rfl
  have q1 := (b0.cell 1).trans rfl
  have q2 := (b0.cell 2).trans rfl
  have s0 := ((hs.below hb hs.lt).cell 0).trans rfl
  have s1 := ((hs.below hb hs.lt).cell 1).trans rfl
  have q3 := (hb.cell (p := ⟨gk, 0, none⟩) hgk).trans hk
  have HF := HF0 _ hb
  have HB : Hid (Below w.heap.size w (w.alloc (.cells #[.pointer (some ⟨x, 0, none⟩), .int .u64 ((st : Nat) : Int), fv] 161))) := hb
  clear HF0 hs hk b0 hb
  go_enter Tryz.func191, Tryz.ntmps191
  go_wp2_with fail
  generalize (w.alloc (.cells #[.pointer (some ⟨x, 0, none⟩), .int .u64 ((st : Nat) : Int), fv] 161)) = w1 at *
  refine HF.mono ?_
  rintro e w2 ⟨rfl, hp, hT⟩
  have HE : Hid (P2 w2 ∧ Turns T w w2) := ⟨hp, (Turns.of_below HB.out).trans hT fun b hb => .inl hb⟩
  clear hp hT HF HB q0 q1 q2 q3 s0 s1
  go_wp2_with fail
  go_ret2
  exact ⟨rfl, HE.out.1, HE.out.2⟩
end Go.Proofs.YtojnlmfahgeidaaGreatDoor

namespace Go.Proofs.YtojnlmfahgeidaaGreatDoor
open Go Go.RowKit
set_option linter.unusedSimpArgs false
set_option linter.unusedVariables false
set_option maxRecDepth 100000 in
set_option maxHeartbeats 2000000 in
theorem cloneFours (r : Nat) (es) (cl) (w : World) (hg : w.heap[r]? = some (.map es cl)) :
    Calls Tryz.prog 196 #[.map (some r)] w fun e w' => e = .returned (.map (some w.heap.size)) ∧ w' = w.alloc (.map es cl) := by
  have hq := fun w => run_eql_map_nil_sl (P := Tryz.prog) w 214 _ _ (some r) Tryz.underlying214
  go_enter Tryz.func196, Tryz.ntmps196
  go_wp2_with fail
  rw [run_callFunc_extern Tryz.func226 (by kernel_rfl) (by kernel_rfl) (by kernel_rfl) (e := Extern.MapsClone.clone) (by kernel_rfl), run_maps_clone_sl w 214 hg]
  simp only [Result.andThen]
  rw [Oper.upon_value]
  go_wp2_with fail
  rw [run_typeAssert_map_sl _ 214 _ _ _ _ Tryz.underlying214]
  simp only [Result.andThen]
  rw [Oper.upon_value]
  go_wp2_with fail
  go_ret
  exact ⟨rfl, rfl⟩
set_option maxRecDepth 100000 in
set_option maxHeartbeats 2000000 in
theorem cloneLeaves (r : Nat) (es) (cl) (w : World) (hg : w.heap[r]? = some (.map es cl)) :
    Calls Tryz.prog 197 #[.map (some r)] w fun e w' => e = .returned (.map (some w.heap.size)) ∧ w' = w.alloc (.map es cl) := by
  have hq := fun w => run_eql_map_nil_sl (P := Tryz.prog) w 215 _ _ (some r) Tryz.underlying215
  go_enter Tryz.func197, Tryz.ntmps197
  go_wp2_with fail
  rw [run_callFunc_extern Tryz.func226 (by kernel_rfl) (by kernel_rfl) (by kernel_rfl) (e := Extern.MapsClone.clone) (by kernel_rfl), run_maps_clone_sl w 215 hg]
  simp only [Result.andThen]
  rw [Oper.upon_value]
  go_wp2_with fail
  rw [run_typeAssert_map_sl _ 215 _ _ _ _ Tryz.underlying215]
  simp only [Result.andThen]
  rw [Oper.upon_value]
  go_wp2_with fail
  go_ret
  exact ⟨rfl, rfl⟩
set_option maxRecDepth 100000 in
set_option maxHeartbeats 2000000 in
theorem cloneCounts (r : Nat) (es) (cl) (w : World) (hg : w.heap[r]? = some (.map es cl)) :
    Calls Tryz.prog 198 #[.map (some r)] w fun e w' => e = .returned (.map (some w.heap.size)) ∧ w' = w.alloc (.map es cl) := by
  have hq := fun w => run_eql_map_nil_sl (P := Tryz.prog) w 216 _ _ (some r) Tryz.underlying216
  go_enter Tryz.func198, Tryz.ntmps198
  go_wp2_with fail
  rw [run_callFunc_extern Tryz.func226 (by kernel_rfl) (by kernel_rfl) (by kernel_rfl) (e := Extern.MapsClone.clone) (by kernel_rfl), run_maps_clone_sl w 216 hg]
  simp only [Result.andThen]
  rw [Oper.upon_value]
  go_wp2_with fail
  rw [run_typeAssert_map_sl _ 216 _ _ _ _ Tryz.underlying216]
  simp only [Result.andThen]
  rw [Oper.upon_value]
  go_wp2_with fail
  go_ret
  exact ⟨rfl, rfl⟩
end Go.Proofs.YtojnlmfahgeidaaGreatDoor
