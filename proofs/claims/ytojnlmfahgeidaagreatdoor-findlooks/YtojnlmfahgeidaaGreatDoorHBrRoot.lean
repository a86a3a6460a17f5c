/- Names in the root directory: find's and branch's calls. -/
import Derived.Test.YtojnlmfahgeidaaGreatDoorHPaRParse
import Derived.Test.YtojnlmfahgeidaaGreatDoorHPaForm
import Derived.Test.YtojnlmfahgeidaaGreatDoorHPaParts
import Derived.Test.YtojnlmfahgeidaaGreatDoorHInsDrop
import Derived.Test.YtojnlmfahgeidaaGreatDoorHMathCount
import Derived.Handy

namespace Go.Proofs.YtojnlmfahgeidaaGreatDoor
theorem sgLHBrRoot : (∀ (α : Type) (a : α) (l r : List α), (a :: l) ++ r = a :: (l ++ r)) ∧ (∀ (α : Type) (l : List α), [] ++ l = l) ∧ (∀ (α : Type) (l : List α), l ++ [] = l) ∧ (∀ (α β : Type) (f : α → Option β) (a : α) (l : List α), (a :: l).filterMap f = match f a with | none => l.filterMap f | some b => b :: l.filterMap f) ∧ (∀ (α β : Type) (f : α → Option β), [].filterMap f = []) ∧ (∀ (α : Type) (l : List α) (i : Nat), l.toArray[i]? = l[i]?) ∧ (∀ (α : Type) (a : α) (l : List α), (a :: l)[0]? = some a) ∧ (∀ (α : Type) (a : α) (l : List α) (i : Nat), (a :: l)[i + 1]? = l[i]?) :=
  ⟨fun _ _ _ _ => List.cons_append, fun _ _ => List.nil_append _, fun _ _ => List.append_nil _, fun _ _ _ _ _ => List.filterMap_cons, fun _ _ _ => List.filterMap_nil, fun _ _ _ => List.getElem?_toArray, fun _ _ _ => List.getElem?_cons_zero, fun _ _ _ _ => List.getElem?_cons_succ⟩
theorem sgPHBrRoot : (∀ (α : Type) (l : List α) (i : Nat) (a : α), l.toArray.setIfInBounds i a = (l.set i a).toArray) ∧ (∀ (α : Type) (a b : α) (l : List α), (a :: l).set 0 b = b :: l) ∧ (∀ (α : Type) (a b : α) (l : List α) (i : Nat), (a :: l).set (i + 1) b = a :: l.set i b) :=
  ⟨fun _ _ _ _ => List.setIfInBounds_toArray _ _ _, fun _ _ _ _ => List.set_cons_zero, fun _ _ _ _ _ => List.set_cons_succ⟩
end Go.Proofs.YtojnlmfahgeidaaGreatDoor
namespace Go.Proofs.YtojnlmfahgeidaaGreatDoor
open Go Go.RowKit Go.Shelf
set_option linter.unusedVariables false
set_option linter.unusedSimpArgs false
set_option maxRecDepth 100000 in
set_option maxHeartbeats 4000000 in
theorem rparse_any (s : ByteArray) (w : World) : Calls Tryz.prog 38 #[.string s] w fun e w' => PRet s.data.toList w e w' := by
  have hb : Below w.heap.size w (w.alloc (.cells #[.slice none 0 0, .bool false] 90)) := (Below.refl _ w).alloc (Nat.le_refl _) _
  have k0 := Blk.new w 90 #[.slice none 0 0, .bool false]
  have c0 := k0.cell 0
  have c1 := k0.cell 1
  by_cases h1 : s.size ≤ 1024
  · by_cases h2 : s.data.toList[0]? = some 47
    · exact rparse_main s h1 h2 w
    · have hz : (s.size : Int) ≤ 1024 := by omega
      have HR : Hid (PRet s.data.toList w (.returned (.tuple #[.agg #[.slice none 0 0, .bool false], .int .i64 ((0 : Nat) : Int), .int .i64 180])) (w.alloc (.cells #[.slice none 0 0, .bool false] 90))) := by
        refine pret_of (N := []) ?_ (World.ownsRow_nil _ _ _ _) hb
        unfold prs
        rw [if_neg (by rw [← Lib.size_eq]; omega), if_neg h2]
      have htl : s.toList = s.data.toList := Lib.toList_data s
      by_cases h3 : s.data.toList = []
      · have t0 : s.toList = [] := htl.trans h3
        have q0 : s.toList.isEmpty = true := by rw [t0]; rfl
        clear h2 h3 htl
        go_enter Tryz.func38, Tryz.ntmps38
        go_wp2_with fail
        generalize w.alloc (.cells #[.slice none 0 0, .bool false] 90) = Wf at *
        refine bodyPost_ret (v := .tuple #[.agg #[.slice none 0 0, .bool false], .int .i64 0, .int .i64 180]) ?_ rfl HR.out
        simp [results, Tryz.f38, go_sem, c0, c1]
      · have t0 : ¬ s.toList = [] := by rw [htl]; exact h3
        have q0 : s.toList.isEmpty = false := by simpa using t0
        have hpos : 0 < s.size := by rw [Lib.size_eq]; exact List.length_pos_iff.2 h3
        have x0 := Lib.data_getElem? s 0 hpos
        have x1 : (s[0]'hpos) ≠ 47 := fun e => h2 (by rw [x0, e])
        have b1 : (((s[0]'hpos).toNat : Int) == 47) = false := ubeq_ne x1
        have b2 : ¬ ((s[0]'hpos).toNat : Int) = 47 := by simpa using b1
        clear h2 h3 htl x0 x1
        go_enter Tryz.func38, Tryz.ntmps38
        go_wp2_with fail
        generalize w.alloc (.cells #[.slice none 0 0, .bool false] 90) = Wf at *
        refine bodyPost_ret (v := .tuple #[.agg #[.slice none 0 0, .bool false], .int .i64 0, .int .i64 180]) ?_ rfl HR.out
        simp [results, Tryz.f38, go_sem, c0, c1]
  · have hz : (1024 : Int) < (s.size : Int) := by omega
    have HR : Hid (PRet s.data.toList w (.returned (.tuple #[.agg #[.slice none 0 0, .bool false], .int .i64 ((1024 : Nat) : Int), .int .i64 181])) (w.alloc (.cells #[.slice none 0 0, .bool false] 90))) := by
      refine pret_of (N := []) ?_ (World.ownsRow_nil _ _ _ _) hb
      unfold prs
      rw [if_pos (by rw [← Lib.size_eq]; omega)]
    go_enter Tryz.func38, Tryz.ntmps38
    go_wp2_with fail
    generalize w.alloc (.cells #[.slice none 0 0, .bool false] 90) = Wf at *
    refine bodyPost_ret (v := .tuple #[.agg #[.slice none 0 0, .bool false], .int .i64 1024, .int .i64 181]) ?_ rfl HR.out
    simp [results, Tryz.f38, go_sem, c0, c1]
end Go.Proofs.YtojnlmfahgeidaaGreatDoor

namespace Go.Proofs.YtojnlmfahgeidaaGreatDoor
open Go Go.RowKit Go.Shelf
set_option linter.unusedVariables false
set_option linter.unusedSimpArgs false
theorem own_cap {w : World} {B n m c : Nat} {a : Option Addr} {t : TypeId} {xs : List Value} (h : w.ownsRow B t 1 (.slice a m c) n xs) : n ≤ c := by
  rcases h.2 with ⟨hv, hn⟩ | ⟨g, cap, cur, hv, _, _, hc, _⟩
  · omega
  · cases hv; exact hc
/-- Parse told in single things -/
theorem parse_at (s : ByteArray) {N : List ByteArray} {d : Bool} {i : Nat} {z : Int} (hp : prs s.data.toList = (N, d, i, z)) (w : World) : Calls Tryz.prog 73 #[.string s] w fun e w' => ∃ (a : Option Addr) (c : Nat), e = .returned (.tuple #[.agg #[.slice a N.length c, .bool d], .int .i64 (i : Int), .int .i64 z]) ∧ w'.ownsRow w.heap.size 9 1 (.slice a N.length c) N.length (N.map Value.string) ∧ Below w.heap.size w w' := by
  refine (parse_any s w).mono ?_
  rintro e w' ⟨v, he, ho, hb⟩
  rw [hp] at he ho
  obtain ⟨a, c, rfl⟩ := kown_slice ho
  exact ⟨a, c, he, ho, hb⟩
theorem rparse_at (s : ByteArray) {N : List ByteArray} {d : Bool} {i : Nat} {z : Int} (hp : prs s.data.toList = (N, d, i, z)) (w : World) : Calls Tryz.prog 38 #[.string s] w fun e w' => ∃ (a : Option Addr) (c : Nat), e = .returned (.tuple #[.agg #[.slice a N.length c, .bool d], .int .i64 (i : Int), .int .i64 z]) ∧ w'.ownsRow w.heap.size 9 1 (.slice a N.length c) N.length (N.map Value.string) ∧ Below w.heap.size w w' := by
  refine (rparse_any s w).mono ?_
  rintro e w' ⟨v, he, ho, hb⟩
  rw [hp] at he ho
  obtain ⟨a, c, rfl⟩ := kown_slice ho
  exact ⟨a, c, he, ho, hb⟩
/-- what Split answers: names, directory, the last name, error -/
def splR (l : List UInt8) : List ByteArray × Bool × ByteArray × Int :=
  if (prs l).2.2.2 = 0 then (match (prs l).1.getLast? with
    | none => ([], false, ⟨#[]⟩, 180)
    | some x => ((prs l).1.dropLast, true, x, 0)) else ([], false, ⟨#[]⟩, (prs l).2.2.2)
def SRet (l : List UInt8) (w : World) (e : Ending) (w' : World) : Prop :=
  ∃ v, e = .returned (.tuple #[.agg #[v, .bool (splR l).2.1], .string (splR l).2.2.1, .int .i64 (splR l).2.2.2]) ∧ w'.ownsRow w.heap.size 9 1 v (splR l).1.length ((splR l).1.map Value.string) ∧ Below w.heap.size w w'
theorem sret_of {l : List UInt8} {w W : World} {v : Value} {N : List ByteArray} {d : Bool} {x : ByteArray} {e : Int} (hp : splR l = (N, d, x, e)) (ho : W.ownsRow w.heap.size 9 1 v N.length (N.map Value.string)) (hb : Below w.heap.size w W) : SRet l w (.returned (.tuple #[.agg #[v, .bool d], .string x, .int .i64 e])) W := by
  unfold SRet
  rw [hp]
  exact ⟨v, rfl, ho, hb⟩
theorem sclone_any {w : World} {g o c : Nat} {N : List ByteArray} (hN : ∀ j x, N[j]? = some x → w.cell? ⟨g, o + j, none⟩ = some (.string x)) (hl : N.length ≤ 1000000) :
    Calls Tryz.prog 128 #[.slice (some ⟨g, o, none⟩) N.length c] w fun e w' => ∃ g' c', e = .returned (.slice (some ⟨g', 0, none⟩) N.length c') ∧ w'.ownsRow w.heap.size 9 1 (.slice (some ⟨g', 0, none⟩) N.length c') N.length (N.map Value.string) ∧ Below w.heap.size w w' := by
  refine (Any.slices_Clone_string Tryz.sclA g o N.length c N w (Nat.le_refl _) (by omega) (fun j hj => hN j _ (by simp [List.getElem?_eq_getElem hj]))).mono ?_
  rintro e w' ⟨v, rfl, ho, hn, hb⟩
  rw [List.take_length] at ho
  rcases ho.2 with ⟨rfl, _⟩ | ⟨g', c', cur, rfl, _⟩
  · exact absurd rfl hn
  · exact ⟨g', c', rfl, ho, hb⟩
end Go.Proofs.YtojnlmfahgeidaaGreatDoor

namespace Go.Proofs.YtojnlmfahgeidaaGreatDoor
open Go Go.RowKit Go.Shelf
set_option linter.unusedVariables false
set_option linter.unusedSimpArgs false
set_option maxRecDepth 100000 in
set_option maxHeartbeats 4000000 in
theorem split_any (s : ByteArray) (w : World) : Calls Tryz.prog 76 #[.string s] w fun e w' => SRet s.data.toList w e w' := by
  obtain ⟨N, d, i, z, hp⟩ : ∃ N d i z, prs s.data.toList = (N, d, i, z) := ⟨_, _, _, _, rfl⟩
  have hG : GoodN N := by have := good_prs s.data.toList; rwa [hp] at this
  have HX : Hid (∀ w : World, Calls Tryz.prog 73 #[.string s] w fun e w' => ∃ (a : Option Addr) (c : Nat), e = .returned (.tuple #[.agg #[.slice a N.length c, .bool d], .int .i64 (i : Int), .int .i64 z]) ∧ w'.ownsRow w.heap.size 9 1 (.slice a N.length c) N.length (N.map Value.string) ∧ Below w.heap.size w w') := fun w => parse_at s hp w
  have hn32 := hG.1
  have hba : Below w.heap.size w (w.alloc (.cells #[.slice none 0 0, .bool false] 94)) := (Below.refl _ w).alloc (Nat.le_refl _) _
  have ka := Blk.new w 94 #[.slice none 0 0, .bool false]
  by_cases hz : z = 0
  · subst hz
    rcases List.eq_nil_or_concat N with rfl | ⟨M, y, rfl⟩
    · have HR : Hid (splR s.data.toList = ([], false, ⟨#[]⟩, 180)) := by show splR _ = _; unfold splR; rw [hp]; rfl
      clear hp hG
      go_enter Tryz.func76, Tryz.ntmps76
      go_wp2_with fail
      refine (HX.out _).mono ?_
      rintro e w1 ⟨a, c, rfl, ho, hb⟩
      have k1 := (ka.below hb (by simp)).alloc (.cells #[.slice a 0 c, .bool d] 94)
      have hB := (hba.trans (hb.mono hba.size)).alloc (Nat.le_trans hba.size hb.size) (.cells #[.slice a 0 c, .bool d] 94)
      have c0 := k1.cell 0
      have c1 := k1.cell 1
      have f0 := k1.frozen 0
      have f1 := k1.frozen 1
      have kk := (k1.put 0 (.slice none 0 0)).put 1 (.bool false)
      have HE : Hid (_ ∧ _ ∧ _) := ⟨kk.cell 0, kk.cell 1, sret_of (v := .slice none 0 0) HR.out (World.ownsRow_nil _ _ _ _) ((hB.setCell (p := ⟨w.heap.size, 0, none⟩) (Nat.le_refl _) (.slice none 0 0)).setCell (p := ⟨w.heap.size, 1, none⟩) (Nat.le_refl _) (.bool false))⟩
      clear k1 hB kk ho hb
      go_wp2_with fail
      obtain ⟨r0, r1, hr⟩ := HE.out
      clear c0 c1 f0 f1
      generalize ((w1.alloc (.cells #[.slice a 0 c, .bool d] 94)).setCell ⟨w.heap.size, 0, none⟩ (.slice none 0 0)).setCell ⟨w.heap.size, 1, none⟩ (.bool false) = Wf at *
      refine bodyPost_ret (v := .tuple #[.agg #[.slice none 0 0, .bool false], .string ⟨#[]⟩, .int .i64 180]) ?_ rfl hr
      simp [results, Tryz.f76, go_sem, r0, r1]
    · rw [List.concat_eq_append] at *
      have HR : Hid (splR s.data.toList = (M, true, y, 0)) := by show splR _ = _; unfold splR; rw [hp]; simp
      have hlen : (M ++ [y]).length = M.length + 1 := by simp
      rw [hlen] at HX hn32
      clear hp hG
      obtain ⟨m, hm⟩ : ∃ m, M.length = m := ⟨_, rfl⟩
      have HM : Hid (M.length = m) := hm
      rw [hm] at HX hn32
      clear hm hlen
      go_enter Tryz.func76, Tryz.ntmps76
      go_wp2_with fail
      refine (HX.out _).mono ?_
      rintro e w1 ⟨a, c, rfl, ho, hb⟩
      obtain ⟨g, rfl⟩ : ∃ g, a = some ⟨g, 0, none⟩ := by
        obtain ⟨g, cap, hv⟩ := ownsRow_succ ho
        cases hv; exact ⟨g, rfl⟩
      have hmc := own_cap ho
      have k1 := (ka.below hb (by simp)).alloc (.cells #[.slice (some ⟨g, 0, none⟩) (m + 1) c, .bool d] 94)
      have k2 := Blk.new w1 94 #[.slice (some ⟨g, 0, none⟩) (m + 1) c, .bool d]
      have hs1 : w.heap.size < w1.heap.size := by have := hb.size; simp at this; omega
      have hB := (hba.trans (hb.mono hba.size)).alloc (Nat.le_trans hba.size hb.size) (.cells #[.slice (some ⟨g, 0, none⟩) (m + 1) c, .bool d] 94)
      have hO := ho.alloc (.cells #[.slice (some ⟨g, 0, none⟩) (m + 1) c, .bool d] 94)
      have HI : Hid (_ ∧ _ ∧ _ ∧ _) := ⟨k1, k2, hB, hO⟩
      have n1 : (m : Int) + 1 - 1 = (m : Int) := by omega
      have n2 : ¬ (m : Int) < 0 := by omega
      have gl := (hO.lt g rfl).2
      have hgb : w.heap.size < g := by have := (ho.lt g rfl).1; simp at this; omega
      clear k1 k2 hB hO ho hb HX ka hba
      go_wp2_with fail
      generalize hW : w1.alloc (.cells #[.slice (some ⟨g, 0, none⟩) (m + 1) c, .bool d] 94) = W at *
      have hWs : W.heap.size = w1.heap.size + 1 := by rw [← hW]; simp
      clear hW
      obtain ⟨k1, k2, hB, hO⟩ := HI.out
      have hy : W.cell? ⟨g, m, none⟩ = some (.string y) := by
        rw [hO.cellAt m (by omega), List.map_append, List.getElem?_append_right (by rw [List.length_map, HM.out]; exact Nat.le_refl _), List.length_map, HM.out, Nat.sub_self]
        rfl
      have HCl : Hid (∀ U, Below W.heap.size W U → Calls Tryz.prog 128 #[.slice (some ⟨g, 0, none⟩) m c] U fun e w' => ∃ g' c', e = .returned (.slice (some ⟨g', 0, none⟩) m c') ∧ w'.ownsRow U.heap.size 9 1 (.slice (some ⟨g', 0, none⟩) m c') m (M.map Value.string) ∧ Below U.heap.size U w') := fun U hU => by
        have := sclone_any (w := U) (g := g) (o := 0) (c := c) (N := M) (fun j x hj => by
          have hl := (List.getElem?_eq_some_iff.1 hj).1
          rw [HM.out] at hl
          rw [Nat.zero_add, (hU.cell (p := ⟨g, j, none⟩) gl), hO.cellAt j (by omega), List.map_append, List.getElem?_append_left (by rw [List.length_map, HM.out]; exact hl), List.getElem?_map, hj]
          rfl) (by rw [HM.out]; omega)
        rwa [HM.out] at this
      have i1 : (0 : Int) ≤ (m : Int) := by omega
      have i2 : (m : Int) ≤ (c : Int) := by omega
      have i3 : (m : Int) < (m : Int) + 1 := by omega
      have hS : (fun U : World => Blk U w1.heap.size 94 #[.slice (some ⟨g, 0, none⟩) (m + 1) c, .bool d] ∧ U.cell? ⟨g, m, none⟩ = some (.string y)) W.drew := ⟨k2, hy⟩
      refine wp_region_plan (fun U => Blk U w1.heap.size 94 #[.slice (some ⟨g, 0, none⟩) (m + 1) c, .bool d] ∧ U.cell? ⟨g, m, none⟩ = some (.string y)) (.yield [2] 0 (.yield [] 1 (.yield [] 3 (.yield [8] 6 (.yield [] 7 (.yield [] 9 (.yield [] 10 (.force [] 4 (.force [] 5 (.force [] 11 (.force [] 12 (.force [] 13 (.fin [])))))))))))))  (by kernel_rfl) (by kernel_rfl) hS (plan_yield ?_)
      simp only [sgLHBrRoot]
      go_wp2_with fail
      first
        | refine ⟨rfl, _, .pointer (some ⟨w1.heap.size, 0, none⟩), rfl, Or.inl ⟨by rfl, fun U hU => by go_simp⟩, plan_yield ?_⟩
        | refine ⟨rfl, .pointer (some ⟨w1.heap.size, 0, none⟩), Or.inl ⟨by rfl, fun U hU => by go_simp⟩, plan_yield ?_⟩
      simp only [Act.put, sgPHBrRoot]
      simp only [sgLHBrRoot]
      go_wp2_with fail
      first
        | refine ⟨rfl, _, .slice (some ⟨g, 0, none⟩) (m + 1) c, rfl, Or.inl ⟨by rfl, fun U hU => by have c1 := hU.1.cell 0; go_simp⟩, plan_yield ?_⟩
        | refine ⟨rfl, .slice (some ⟨g, 0, none⟩) (m + 1) c, Or.inl ⟨by rfl, fun U hU => by have c1 := hU.1.cell 0; go_simp⟩, plan_yield ?_⟩
      simp only [Act.put, sgPHBrRoot]
      simp only [sgLHBrRoot]
      go_wp2_with fail
      first
        | refine ⟨rfl, _, .slice (some ⟨g, 0, none⟩) m c, rfl, Or.inl ⟨by rfl, fun U hU => by go_simp⟩, plan_yield ?_⟩
        | refine ⟨rfl, .slice (some ⟨g, 0, none⟩) m c, Or.inl ⟨by rfl, fun U hU => by go_simp⟩, plan_yield ?_⟩
      simp only [Act.put, sgPHBrRoot]
      simp only [sgLHBrRoot]
      go_wp2_with fail
      first
        | refine ⟨rfl, _, .pointer (some ⟨w1.heap.size, 0, none⟩), rfl, Or.inl ⟨by rfl, fun U hU => by go_simp⟩, plan_yield ?_⟩
        | refine ⟨rfl, .pointer (some ⟨w1.heap.size, 0, none⟩), Or.inl ⟨by rfl, fun U hU => by go_simp⟩, plan_yield ?_⟩
      simp only [Act.put, sgPHBrRoot]
      simp only [sgLHBrRoot]
      go_wp2_with fail
      first
        | refine ⟨rfl, _, .slice (some ⟨g, 0, none⟩) (m + 1) c, rfl, Or.inl ⟨by rfl, fun U hU => by have c1 := hU.1.cell 0; go_simp⟩, plan_yield ?_⟩
        | refine ⟨rfl, .slice (some ⟨g, 0, none⟩) (m + 1) c, Or.inl ⟨by rfl, fun U hU => by have c1 := hU.1.cell 0; go_simp⟩, plan_yield ?_⟩
      simp only [Act.put, sgPHBrRoot]
      simp only [sgLHBrRoot]
      go_wp2_with fail
      first
        | refine ⟨rfl, _, .pointer (some ⟨g, m, none⟩), rfl, Or.inl ⟨by rfl, fun U hU => by go_simp⟩, plan_yield ?_⟩
        | refine ⟨rfl, .pointer (some ⟨g, m, none⟩), Or.inl ⟨by rfl, fun U hU => by go_simp⟩, plan_yield ?_⟩
      simp only [Act.put, sgPHBrRoot]
      simp only [sgLHBrRoot]
      go_wp2_with fail
      first
        | refine ⟨rfl, _, .string y, rfl, Or.inl ⟨by rfl, fun U hU => by have c1 := hU.2; go_simp⟩, plan_force ?_⟩
        | refine ⟨rfl, .string y, Or.inl ⟨by rfl, fun U hU => by have c1 := hU.2; go_simp⟩, plan_force ?_⟩
      simp only [Act.put, sgPHBrRoot]
      simp only [sgLHBrRoot]
      go_wp2_with fail
      refine (HCl.out _ (Below.refl _ W).drew).mono ?_
      rintro e U1 ⟨g', c', rfl, hO1, hU1⟩
      have hb1 : Below W.heap.size W U1 := (Below.refl _ W).drew.trans hU1
      have q1 := k1.below hb1 k1.lt
      have q0 := hB.trans (hb1.mono hB.size)
      have hO2 : U1.ownsRow (w.heap.size + 1) 9 1 (.slice (some ⟨g', 0, none⟩) m c') m (M.map Value.string) := kown_mono hO1 (by show w.heap.size + 1 ≤ W.heap.size; omega)
      have c0 := q1.cell 0
      have c1 := q1.cell 1
      have f0 := q1.frozen 0
      have f1 := q1.frozen 1
      have kk := (q1.put 0 (.slice (some ⟨g', 0, none⟩) m c')).put 1 (.bool true)
      have HE : Hid (_ ∧ _ ∧ SRet s.data.toList w (.returned (.tuple #[.agg #[.slice (some ⟨g', 0, none⟩) m c', .bool true], .string y, .int .i64 0])) ((U1.setCell ⟨w.heap.size, 0, none⟩ (.slice (some ⟨g', 0, none⟩) m c')).setCell ⟨w.heap.size, 1, none⟩ (.bool true))) := ⟨kk.cell 0, kk.cell 1, sret_of HR.out (by rw [HM.out]; exact kown_mono (own_cell (own_cell hO2 (by omega) _) (by omega) _) (by omega)) ((q0.setCell (p := ⟨w.heap.size, 0, none⟩) (Nat.le_refl _) _).setCell (p := ⟨w.heap.size, 1, none⟩) (Nat.le_refl _) _)⟩
      have s1 : Blk U1 w1.heap.size 94 #[.slice (some ⟨g, 0, none⟩) (m + 1) c, .bool d] ∧ U1.cell? ⟨g, m, none⟩ = some (.string y) := ⟨k2.below hb1 k2.lt, (hb1.cell (p := ⟨g, m, none⟩) gl).trans hy⟩
      have s2 : Blk ((U1.setCell ⟨w.heap.size, 0, none⟩ (.slice (some ⟨g', 0, none⟩) m c')).setCell ⟨w.heap.size, 1, none⟩ (.bool true)) w1.heap.size 94 #[.slice (some ⟨g, 0, none⟩) (m + 1) c, .bool d] ∧ ((U1.setCell ⟨w.heap.size, 0, none⟩ (.slice (some ⟨g', 0, none⟩) m c')).setCell ⟨w.heap.size, 1, none⟩ (.bool true)).cell? ⟨g, m, none⟩ = some (.string y) := ⟨(s1.1.put_other _ _ (by omega)).put_other _ _ (by omega), ((World.cell?_of_block (Below.heap_setCell _ _ _ g (by show g ≠ w.heap.size; omega))).trans (World.cell?_of_block (Below.heap_setCell _ _ _ g (by show g ≠ w.heap.size; omega)))).trans s1.2⟩
      have HS1 : Hid (_ ∧ _) := s1
      have HS2 : Hid (_ ∧ _) := s2
      clear kk q1 q0 hO2 hO1 k1 k2 hB hO HCl s1 s2 hS hy
      go_wp2_with fail
      refine ⟨rfl, HS1.out, plan_force ?_⟩
      simp only [sgLHBrRoot]
      go_wp2_with fail
      refine ⟨rfl, HS1.out, plan_force ?_⟩
      simp only [sgLHBrRoot]
      go_wp2_with fail
      refine ⟨rfl, HS2.out, plan_force ?_⟩
      simp only [sgLHBrRoot]
      go_wp2_with fail
      refine ⟨rfl, HS2.out, plan_force ?_⟩
      simp only [sgLHBrRoot]
      go_wp2_with fail
      refine ⟨rfl, HS2.out, plan_fin ?_⟩
      simp only [sgLHBrRoot]
      go_wp2_with fail
      refine ⟨rfl, ?_⟩
      clear HS1 HS2 c0 c1 f0 f1
      go_wp2_with fail
      obtain ⟨r0, r1, hr⟩ := HE.out
      generalize (U1.setCell ⟨w.heap.size, 0, none⟩ (.slice (some ⟨g', 0, none⟩) m c')).setCell ⟨w.heap.size, 1, none⟩ (.bool true) = Wf at *
      refine bodyPost_ret (v := .tuple #[.agg #[.slice (some ⟨g', 0, none⟩) m c', .bool true], .string y, .int .i64 0]) ?_ rfl hr
      simp [results, Tryz.f76, go_sem, r0, r1]
  · have HR : Hid (splR s.data.toList = ([], false, ⟨#[]⟩, z)) := by show splR _ = _; unfold splR; rw [hp, if_neg (show ¬ (N, d, i, z).2.2.2 = 0 from hz)]
    clear hp hG
    go_enter Tryz.func76, Tryz.ntmps76
    go_wp2_with fail
    refine (HX.out _).mono ?_
    rintro e w1 ⟨a, c, rfl, ho, hb⟩
    have k1 := (ka.below hb (by simp)).alloc (.cells #[.slice a N.length c, .bool d] 94)
    have hB := (hba.trans (hb.mono hba.size)).alloc (Nat.le_trans hba.size hb.size) (.cells #[.slice a N.length c, .bool d] 94)
    have c0 := k1.cell 0
    have c1 := k1.cell 1
    have f0 := k1.frozen 0
    have f1 := k1.frozen 1
    have kk := (k1.put 0 (.slice none 0 0)).put 1 (.bool false)
    have HE : Hid (_ ∧ _ ∧ _) := ⟨kk.cell 0, kk.cell 1, sret_of (v := .slice none 0 0) HR.out (World.ownsRow_nil _ _ _ _) ((hB.setCell (p := ⟨w.heap.size, 0, none⟩) (Nat.le_refl _) (.slice none 0 0)).setCell (p := ⟨w.heap.size, 1, none⟩) (Nat.le_refl _) (.bool false))⟩
    clear k1 hB kk ho hb
    go_wp2_with fail
    obtain ⟨r0, r1, hr⟩ := HE.out
    clear c0 c1 f0 f1
    generalize ((w1.alloc (.cells #[.slice a N.length c, .bool d] 94)).setCell ⟨w.heap.size, 0, none⟩ (.slice none 0 0)).setCell ⟨w.heap.size, 1, none⟩ (.bool false) = Wf at *
    refine bodyPost_ret (v := .tuple #[.agg #[.slice none 0 0, .bool false], .string ⟨#[]⟩, .int .i64 z]) ?_ rfl hr
    simp [results, Tryz.f76, go_sem, r0, r1]
set_option maxRecDepth 100000 in
set_option maxHeartbeats 4000000 in
theorem rsplit_any (s : ByteArray) (w : World) : Calls Tryz.prog 40 #[.string s] w fun e w' => SRet s.data.toList w e w' := by
  obtain ⟨N, d, i, z, hp⟩ : ∃ N d i z, prs s.data.toList = (N, d, i, z) := ⟨_, _, _, _, rfl⟩
  have hG : GoodN N := by have := good_prs s.data.toList; rwa [hp] at this
  have HX : Hid (∀ w : World, Calls Tryz.prog 38 #[.string s] w fun e w' => ∃ (a : Option Addr) (c : Nat), e = .returned (.tuple #[.agg #[.slice a N.length c, .bool d], .int .i64 (i : Int), .int .i64 z]) ∧ w'.ownsRow w.heap.size 9 1 (.slice a N.length c) N.length (N.map Value.string) ∧ Below w.heap.size w w') := fun w => rparse_at s hp w
  have hn32 := hG.1
  have hba : Below w.heap.size w (w.alloc (.cells #[.slice none 0 0, .bool false] 90)) := (Below.refl _ w).alloc (Nat.le_refl _) _
  have ka := Blk.new w 90 #[.slice none 0 0, .bool false]
  by_cases hz : z = 0
  · subst hz
    rcases List.eq_nil_or_concat N with rfl | ⟨M, y, rfl⟩
    · have HR : Hid (splR s.data.toList = ([], false, ⟨#[]⟩, 180)) := by show splR _ = _; unfold splR; rw [hp]; rfl
      clear hp hG
      go_enter Tryz.func40, Tryz.ntmps40
      go_wp2_with fail
      refine (HX.out _).mono ?_
      rintro e w1 ⟨a, c, rfl, ho, hb⟩
      have k1 := (ka.below hb (by simp)).alloc (.cells #[.slice a 0 c, .bool d] 90)
      have hB := (hba.trans (hb.mono hba.size)).alloc (Nat.le_trans hba.size hb.size) (.cells #[.slice a 0 c, .bool d] 90)
      have c0 := k1.cell 0
      have c1 := k1.cell 1
      have f0 := k1.frozen 0
      have f1 := k1.frozen 1
      have kk := (k1.put 0 (.slice none 0 0)).put 1 (.bool false)
      have HE : Hid (_ ∧ _ ∧ _) := ⟨kk.cell 0, kk.cell 1, sret_of (v := .slice none 0 0) HR.out (World.ownsRow_nil _ _ _ _) ((hB.setCell (p := ⟨w.heap.size, 0, none⟩) (Nat.le_refl _) (.slice none 0 0)).setCell (p := ⟨w.heap.size, 1, none⟩) (Nat.le_refl _) (.bool false))⟩
      clear k1 hB kk ho hb
      go_wp2_with fail
      obtain ⟨r0, r1, hr⟩ := HE.out
      clear c0 c1 f0 f1
      generalize ((w1.alloc (.cells #[.slice a 0 c, .bool d] 90)).setCell ⟨w.heap.size, 0, none⟩ (.slice none 0 0)).setCell ⟨w.heap.size, 1, none⟩ (.bool false) = Wf at *
      refine bodyPost_ret (v := .tuple #[.agg #[.slice none 0 0, .bool false], .string ⟨#[]⟩, .int .i64 180]) ?_ rfl hr
      simp [results, Tryz.f40, go_sem, r0, r1]
    · rw [List.concat_eq_append] at *
      have HR : Hid (splR s.data.toList = (M, true, y, 0)) := by show splR _ = _; unfold splR; rw [hp]; simp
      have hlen : (M ++ [y]).length = M.length + 1 := by simp
      rw [hlen] at HX hn32
      clear hp hG
      obtain ⟨m, hm⟩ : ∃ m, M.length = m := ⟨_, rfl⟩
      have HM : Hid (M.length = m) := hm
      rw [hm] at HX hn32
      clear hm hlen
      go_enter Tryz.func40, Tryz.ntmps40
      go_wp2_with fail
      refine (HX.out _).mono ?_
      rintro e w1 ⟨a, c, rfl, ho, hb⟩
      obtain ⟨g, rfl⟩ : ∃ g, a = some ⟨g, 0, none⟩ := by
        obtain ⟨g, cap, hv⟩ := ownsRow_succ ho
        cases hv; exact ⟨g, rfl⟩
      have hmc := own_cap ho
      have k1 := (ka.below hb (by simp)).alloc (.cells #[.slice (some ⟨g, 0, none⟩) (m + 1) c, .bool d] 90)
      have k2 := Blk.new w1 90 #[.slice (some ⟨g, 0, none⟩) (m + 1) c, .bool d]
      have hs1 : w.heap.size < w1.heap.size := by have := hb.size; simp at this; omega
      have hB := (hba.trans (hb.mono hba.size)).alloc (Nat.le_trans hba.size hb.size) (.cells #[.slice (some ⟨g, 0, none⟩) (m + 1) c, .bool d] 90)
      have hO := ho.alloc (.cells #[.slice (some ⟨g, 0, none⟩) (m + 1) c, .bool d] 90)
      have HI : Hid (_ ∧ _ ∧ _ ∧ _) := ⟨k1, k2, hB, hO⟩
      have n1 : (m : Int) + 1 - 1 = (m : Int) := by omega
      have n2 : ¬ (m : Int) < 0 := by omega
      have gl := (hO.lt g rfl).2
      have hgb : w.heap.size < g := by have := (ho.lt g rfl).1; simp at this; omega
      clear k1 k2 hB hO ho hb HX ka hba
      go_wp2_with fail
      generalize hW : w1.alloc (.cells #[.slice (some ⟨g, 0, none⟩) (m + 1) c, .bool d] 90) = W at *
      have hWs : W.heap.size = w1.heap.size + 1 := by rw [← hW]; simp
      clear hW
      obtain ⟨k1, k2, hB, hO⟩ := HI.out
      have hy : W.cell? ⟨g, m, none⟩ = some (.string y) := by
        rw [hO.cellAt m (by omega), List.map_append, List.getElem?_append_right (by rw [List.length_map, HM.out]; exact Nat.le_refl _), List.length_map, HM.out, Nat.sub_self]
        rfl
      have i1 : (0 : Int) ≤ (m : Int) := by omega
      have i2 : (m : Int) ≤ (c : Int) := by omega
      have i3 : (m : Int) < (m : Int) + 1 := by omega
      have kd := k1
      have ke := k2
      have c0 := kd.cell 0
      have c1 := kd.cell 1
      have f0 := kd.frozen 0
      have f1 := kd.frozen 1
      have e0 := ke.cell 0
      have c1' := (kd.put 0 (.slice (some ⟨g, 0, none⟩) m c)).cell 1
      have f1' := (kd.put 0 (.slice (some ⟨g, 0, none⟩) m c)).frozen 1
      have iw : IntKind.i64.wrap (m : Int) = (m : Int) := by
        rw [IntKind.wrap_i64]
        omega
      have hP : W.ownsRow (w.heap.size + 1) 9 1 (.slice (some ⟨g, 0, none⟩) m c) m (M.map Value.string) := by
        rw [List.map_append] at hO
        have := ownsRow_pop (by rw [List.length_map, HM.out, Nat.mul_one]) hO
        exact kown_mono this (by simp)
      have kk := (k1.put 0 (.slice (some ⟨g, 0, none⟩) m c)).put 1 (.bool true)
      have HE : Hid (_ ∧ _ ∧ SRet s.data.toList w (.returned (.tuple #[.agg #[.slice (some ⟨g, 0, none⟩) m c, .bool true], .string y, .int .i64 0])) (((W.setCell ⟨w.heap.size, 0, none⟩ (.slice (some ⟨g, 0, none⟩) m c)).setCell ⟨w.heap.size, 1, none⟩ (.bool true)).drew)) := ⟨kk.cell 0, kk.cell 1, sret_of HR.out (by rw [HM.out]; exact kown_mono (own_cell (own_cell hP (by omega) _) (by omega) _).drew (by omega)) (((hB.setCell (p := ⟨w.heap.size, 0, none⟩) (Nat.le_refl _) _).setCell (p := ⟨w.heap.size, 1, none⟩) (Nat.le_refl _) _).drew)⟩
      clear kk k1 k2 kd ke hB hO hP
      go_region
      go_wp2_with fail
      obtain ⟨r0, r1, hr⟩ := HE.out
      clear c0 c1 f0 f1 c1' f1' hy e0
      have r0' : (((W.setCell ⟨w.heap.size, 0, none⟩ (.slice (some ⟨g, 0, none⟩) m c)).setCell ⟨w.heap.size, 1, none⟩ (.bool true)).drew).cell? ⟨w.heap.size, 0, none⟩ = some (.slice (some ⟨g, 0, none⟩) m c) := r0
      have r1' : (((W.setCell ⟨w.heap.size, 0, none⟩ (.slice (some ⟨g, 0, none⟩) m c)).setCell ⟨w.heap.size, 1, none⟩ (.bool true)).drew).cell? ⟨w.heap.size, 1, none⟩ = some (.bool true) := r1
      clear r0 r1
      generalize ((W.setCell ⟨w.heap.size, 0, none⟩ (.slice (some ⟨g, 0, none⟩) m c)).setCell ⟨w.heap.size, 1, none⟩ (.bool true)).drew = Wf at *
      refine bodyPost_ret (v := .tuple #[.agg #[.slice (some ⟨g, 0, none⟩) m c, .bool true], .string y, .int .i64 0]) ?_ rfl hr
      simp [results, Tryz.f40, go_sem, r0', r1']
  · have HR : Hid (splR s.data.toList = ([], false, ⟨#[]⟩, z)) := by show splR _ = _; unfold splR; rw [hp, if_neg (show ¬ (N, d, i, z).2.2.2 = 0 from hz)]
    clear hp hG
    go_enter Tryz.func40, Tryz.ntmps40
    go_wp2_with fail
    refine (HX.out _).mono ?_
    rintro e w1 ⟨a, c, rfl, ho, hb⟩
    have k1 := (ka.below hb (by simp)).alloc (.cells #[.slice a N.length c, .bool d] 90)
    have hB := (hba.trans (hb.mono hba.size)).alloc (Nat.le_trans hba.size hb.size) (.cells #[.slice a N.length c, .bool d] 90)
    have c0 := k1.cell 0
    have c1 := k1.cell 1
    have f0 := k1.frozen 0
    have f1 := k1.frozen 1
    have kk := (k1.put 0 (.slice none 0 0)).put 1 (.bool false)
    have HE : Hid (_ ∧ _ ∧ _) := ⟨kk.cell 0, kk.cell 1, sret_of (v := .slice none 0 0) HR.out (World.ownsRow_nil _ _ _ _) ((hB.setCell (p := ⟨w.heap.size, 0, none⟩) (Nat.le_refl _) (.slice none 0 0)).setCell (p := ⟨w.heap.size, 1, none⟩) (Nat.le_refl _) (.bool false))⟩
    clear k1 hB kk ho hb
    go_wp2_with fail
    obtain ⟨r0, r1, hr⟩ := HE.out
    clear c0 c1 f0 f1
    generalize ((w1.alloc (.cells #[.slice a N.length c, .bool d] 90)).setCell ⟨w.heap.size, 0, none⟩ (.slice none 0 0)).setCell ⟨w.heap.size, 1, none⟩ (.bool false) = Wf at *
    refine bodyPost_ret (v := .tuple #[.agg #[.slice none 0 0, .bool false], .string ⟨#[]⟩, .int .i64 z]) ?_ rfl hr
    simp [results, Tryz.f40, go_sem, r0, r1]
end Go.Proofs.YtojnlmfahgeidaaGreatDoor

namespace Go.Proofs.YtojnlmfahgeidaaGreatDoor
open Go Go.RowKit
set_option linter.unusedSimpArgs false
set_option linter.unusedVariables false
set_option maxRecDepth 100000 in
set_option maxHeartbeats 4000000 in
theorem along_none (x : Nat) (a : Option Addr) (c : Nat) (fv : Value) (w : World) : Calls Tryz.prog 70 #[.pointer (some ⟨x, 0, none⟩), .slice a 0 c, fv] w fun e w' => e = .returned (.int .i64 0) ∧ w' = w := by
  go_enter Tryz.func70, Tryz.ntmps70
  go_wp2_with fail
  go_loopw [20] (fun v wr => v = .int .i64 0 ∧ w = wr) (fun _ _ => 0)
  case atStart => exact ⟨rfl, rfl⟩
  case round =>
    obtain ⟨rfl, rfl⟩ := hrel
    go_wp2_with fail
    go_loopw [32] (fun v wr => v = .int .i64 0 ∧ w = wr) (fun _ _ => 0)
    case atStart => exact ⟨rfl, rfl⟩
    case round =>
      obtain ⟨rfl, rfl⟩ := hrel
      go_wp2_with fail
      go_ret
      exact ⟨rfl, rfl⟩
set_option maxRecDepth 100000 in
set_option maxHeartbeats 4000000 in
theorem walk_none (x : Nat) (a : Option Addr) (c : Nat) (w : World) : Calls Tryz.prog 33 #[.pointer (some ⟨x, 0, none⟩), .slice a 0 c] w fun e w' => e = .returned (.tuple #[.int .i64 1, .int .i64 0]) ∧ Below w.heap.size w w' := by
  have HA : Hid (∀ (fv : Value) (w : World), Calls Tryz.prog 70 #[.pointer (some ⟨x, 0, none⟩), .slice a 0 c, fv] w fun e w' => e = .returned (.int .i64 0) ∧ w' = w) := fun fv w => along_none x a c fv w
  have b1 : Blk (w.alloc (.cells #[.int .i64 1] 3)) w.heap.size 3 #[.int .i64 1] := Blk.new _ _ _
  have HB : Hid (Below w.heap.size w (w.alloc (.cells #[.int .i64 1] 3))) := below_new1 _ _
  have c0 := (b1.cell 0).trans rfl
  clear b1
  go_enter Tryz.func33, Tryz.ntmps33
  go_wp2_with fail
  generalize (w.alloc (.cells #[.int .i64 1] 3)) = w1 at *
  refine (HA.out _ _).mono ?_
  rintro e w2 ⟨rfl, hw⟩
  subst w2
  go_wp2_with fail
  go_ret2
  exact ⟨rfl, HB.out⟩
end Go.Proofs.YtojnlmfahgeidaaGreatDoor
