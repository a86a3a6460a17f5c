/- The walk of the statement on memory: what is handed out is the caller's own. -/
import Derived.Test.YthoohhokoeihiaaHPaRParse
import Derived.Test.YthoohhokoeihiaaHPaForm

namespace Go.Proofs.Ythoohhokoeihiaa
open Go Go.RowKit Go.Shelf
set_option linter.unusedVariables false
set_option linter.unusedSimpArgs false
set_option maxRecDepth 100000 in
set_option maxHeartbeats 4000000 in
theorem rparse_any (s : ByteArray) (w : World) : Calls Try.prog 11 #[.string s] w fun e w' => PRet s.data.toList w e w' := by
  have hb : Below w.heap.size w (w.alloc (.cells #[.slice none 0 0, .bool false] 29)) := (Below.refl _ w).alloc (Nat.le_refl _) _
  have k0 := Blk.new w 29 #[.slice none 0 0, .bool false]
  have c0 := k0.cell 0
  have c1 := k0.cell 1
  by_cases h1 : s.size ≤ 1024
  · by_cases h2 : s.data.toList[0]? = some 47
    · exact rparse_main s h1 h2 w
    · have hz : (s.size : Int) ≤ 1024 := by omega
      have HR : Hid (PRet s.data.toList w (.returned (.tuple #[.agg #[.slice none 0 0, .bool false], .int .i64 ((0 : Nat) : Int), .int .i64 180])) (w.alloc (.cells #[.slice none 0 0, .bool false] 29))) := by
        refine pret_of (N := []) ?_ (World.ownsRow_nil _ _ _ _) hb
        unfold prs
        rw [if_neg (by rw [← Lib.size_eq]; omega), if_neg h2]
      have htl : s.toList = s.data.toList := Lib.toList_data s
      by_cases h3 : s.data.toList = []
      · have t0 : s.toList = [] := htl.trans h3
        have q0 : s.toList.isEmpty = true := by rw [t0]; rfl
        clear h2 h3 htl
        go_enter Try.func11, Try.ntmps11
        go_wp2_with fail
        generalize w.alloc (.cells #[.slice none 0 0, .bool false] 29) = Wf at *
        refine bodyPost_ret (v := .tuple #[.agg #[.slice none 0 0, .bool false], .int .i64 0, .int .i64 180]) ?_ rfl HR.out
        simp [results, Try.f11, go_sem, c0, c1]
      · have t0 : ¬ s.toList = [] := by rw [htl]; exact h3
        have q0 : s.toList.isEmpty = false := by simpa using t0
        have hpos : 0 < s.size := by rw [Lib.size_eq]; exact List.length_pos_iff.2 h3
        have x0 := Lib.data_getElem? s 0 hpos
        have x1 : (s[0]'hpos) ≠ 47 := fun e => h2 (by rw [x0, e])
        have b1 : (((s[0]'hpos).toNat : Int) == 47) = false := ubeq_ne x1
        have b2 : ¬ ((s[0]'hpos).toNat : Int) = 47 := by simpa using b1
        clear h2 h3 htl x0 x1
        go_enter Try.func11, Try.ntmps11
        go_wp2_with fail
        generalize w.alloc (.cells #[.slice none 0 0, .bool false] 29) = Wf at *
        refine bodyPost_ret (v := .tuple #[.agg #[.slice none 0 0, .bool false], .int .i64 0, .int .i64 180]) ?_ rfl HR.out
        simp [results, Try.f11, go_sem, c0, c1]
  · have hz : (1024 : Int) < (s.size : Int) := by omega
    have HR : Hid (PRet s.data.toList w (.returned (.tuple #[.agg #[.slice none 0 0, .bool false], .int .i64 ((1024 : Nat) : Int), .int .i64 181])) (w.alloc (.cells #[.slice none 0 0, .bool false] 29))) := by
      refine pret_of (N := []) ?_ (World.ownsRow_nil _ _ _ _) hb
      unfold prs
      rw [if_pos (by rw [← Lib.size_eq]; omega)]
    go_enter Try.func11, Try.ntmps11
    go_wp2_with fail
    generalize w.alloc (.cells #[.slice none 0 0, .bool false] 29) = Wf at *
    refine bodyPost_ret (v := .tuple #[.agg #[.slice none 0 0, .bool false], .int .i64 1024, .int .i64 181]) ?_ rfl HR.out
    simp [results, Try.f11, go_sem, c0, c1]
end Go.Proofs.Ythoohhokoeihiaa

namespace Go.Proofs.Ythoohhokoeihiaa
open Go Go.RowKit Go.Shelf
set_option linter.unusedVariables false
set_option linter.unusedSimpArgs false
theorem own_cap {w : World} {B n m c : Nat} {a : Option Addr} {t : TypeId} {xs : List Value} (h : w.ownsRow B t 1 (.slice a m c) n xs) : n ≤ c := by
  rcases h.2 with ⟨hv, hn⟩ | ⟨g, cap, cur, hv, _, _, hc, _⟩
  · omega
  · cases hv; exact hc
/-- Parse told in single things -/
theorem parse_at (s : ByteArray) {N : List ByteArray} {d : Bool} {i : Nat} {z : Int} (hp : prs s.data.toList = (N, d, i, z)) (w : World) : Calls Try.prog 10 #[.string s] w fun e w' => ∃ (a : Option Addr) (c : Nat), e = .returned (.tuple #[.agg #[.slice a N.length c, .bool d], .int .i64 (i : Int), .int .i64 z]) ∧ w'.ownsRow w.heap.size 9 1 (.slice a N.length c) N.length (N.map Value.string) ∧ Below w.heap.size w w' := by
  refine (parse_any s w).mono ?_
  rintro e w' ⟨v, he, ho, hb⟩
  rw [hp] at he ho
  obtain ⟨a, c, rfl⟩ := kown_slice ho
  exact ⟨a, c, he, ho, hb⟩
theorem rparse_at (s : ByteArray) {N : List ByteArray} {d : Bool} {i : Nat} {z : Int} (hp : prs s.data.toList = (N, d, i, z)) (w : World) : Calls Try.prog 11 #[.string s] w fun e w' => ∃ (a : Option Addr) (c : Nat), e = .returned (.tuple #[.agg #[.slice a N.length c, .bool d], .int .i64 (i : Int), .int .i64 z]) ∧ w'.ownsRow w.heap.size 9 1 (.slice a N.length c) N.length (N.map Value.string) ∧ Below w.heap.size w w' := by
  refine (rparse_any s w).mono ?_
  rintro e w' ⟨v, he, ho, hb⟩
  rw [hp] at he ho
  obtain ⟨a, c, rfl⟩ := kown_slice ho
  exact ⟨a, c, he, ho, hb⟩
/-- what Split answers: names, directory, the last name, error -/
def splR (l : List UInt8) : List ByteArray × Bool × ByteArray × Int :=
  if (prs l).2.2.2 = 0 then (match (prs l).1.getLast? with
    | none => ([], false, ⟨#[]⟩, 180)
    | some x => ((prs l).1.dropLast, true, x, 0)) else ([], false, ⟨#[]⟩, (prs l).2.2.2)
def SRet (l : List UInt8) (w : World) (e : Ending) (w' : World) : Prop :=
  ∃ v, e = .returned (.tuple #[.agg #[v, .bool (splR l).2.1], .string (splR l).2.2.1, .int .i64 (splR l).2.2.2]) ∧ w'.ownsRow w.heap.size 9 1 v (splR l).1.length ((splR l).1.map Value.string) ∧ Below w.heap.size w w'
theorem sret_of {l : List UInt8} {w W : World} {v : Value} {N : List ByteArray} {d : Bool} {x : ByteArray} {e : Int} (hp : splR l = (N, d, x, e)) (ho : W.ownsRow w.heap.size 9 1 v N.length (N.map Value.string)) (hb : Below w.heap.size w W) : SRet l w (.returned (.tuple #[.agg #[v, .bool d], .string x, .int .i64 e])) W := by
  unfold SRet
  rw [hp]
  exact ⟨v, rfl, ho, hb⟩
theorem sclone_any {w : World} {g o c : Nat} {N : List ByteArray} (hN : ∀ j x, N[j]? = some x → w.cell? ⟨g, o + j, none⟩ = some (.string x)) (hl : N.length ≤ 1000000) :
    Calls Try.prog 35 #[.slice (some ⟨g, o, none⟩) N.length c] w fun e w' => ∃ g' c', e = .returned (.slice (some ⟨g', 0, none⟩) N.length c') ∧ w'.ownsRow w.heap.size 9 1 (.slice (some ⟨g', 0, none⟩) N.length c') N.length (N.map Value.string) ∧ Below w.heap.size w w' := by
  refine (Any.slices_Clone_string Try.sclA g o N.length c N w (Nat.le_refl _) (by omega) (fun j hj => hN j _ (by simp [List.getElem?_eq_getElem hj]))).mono ?_
  rintro e w' ⟨v, rfl, ho, hn, hb⟩
  rw [List.take_length] at ho
  rcases ho.2 with ⟨rfl, _⟩ | ⟨g', c', cur, rfl, _⟩
  · exact absurd rfl hn
  · exact ⟨g', c', rfl, ho, hb⟩
end Go.Proofs.Ythoohhokoeihiaa

namespace Go.Proofs.Ythoohhokoeihiaa
open Go Go.RowKit Go.Shelf
set_option linter.unusedVariables false
set_option linter.unusedSimpArgs false
set_option maxRecDepth 100000 in
set_option maxHeartbeats 4000000 in
theorem split_any (s : ByteArray) (w : World) : Calls Try.prog 15 #[.string s] w fun e w' => SRet s.data.toList w e w' := by
  obtain ⟨N, d, i, z, hp⟩ : ∃ N d i z, prs s.data.toList = (N, d, i, z) := ⟨_, _, _, _, rfl⟩
  have hG : GoodN N := by have := good_prs s.data.toList; rwa [hp] at this
  have HX : Hid (∀ w : World, Calls Try.prog 10 #[.string s] w fun e w' => ∃ (a : Option Addr) (c : Nat), e = .returned (.tuple #[.agg #[.slice a N.length c, .bool d], .int .i64 (i : Int), .int .i64 z]) ∧ w'.ownsRow w.heap.size 9 1 (.slice a N.length c) N.length (N.map Value.string) ∧ Below w.heap.size w w') := fun w => parse_at s hp w
  have hn32 := hG.1
  have hba : Below w.heap.size w (w.alloc (.cells #[.slice none 0 0, .bool false] 25)) := (Below.refl _ w).alloc (Nat.le_refl _) _
  have ka := Blk.new w 25 #[.slice none 0 0, .bool false]
  by_cases hz : z = 0
  · subst hz
    rcases List.eq_nil_or_concat N with rfl | ⟨M, y, rfl⟩
    · have HR : Hid (splR s.data.toList = ([], false, ⟨#[]⟩, 180)) := by show splR _ = _; unfold splR; rw [hp]; rfl
      clear hp hG
      go_enter Try.func15, Try.ntmps15
      go_wp2_with fail
      refine (HX.out _).mono ?_
      rintro e w1 ⟨a, c, rfl, ho, hb⟩
      have k1 := (ka.below hb (by simp)).alloc (.cells #[.slice a 0 c, .bool d] 25)
      have hB := (hba.trans (hb.mono hba.size)).alloc (Nat.le_trans hba.size hb.size) (.cells #[.slice a 0 c, .bool d] 25)
      have c0 := k1.cell 0
      have c1 := k1.cell 1
      have f0 := k1.frozen 0
      have f1 := k1.frozen 1
      have kk := (k1.put 0 (.slice none 0 0)).put 1 (.bool false)
      have HE : Hid (_ ∧ _ ∧ _) := ⟨kk.cell 0, kk.cell 1, sret_of (v := .slice none 0 0) HR.out (World.ownsRow_nil _ _ _ _) ((hB.setCell (p := ⟨w.heap.size, 0, none⟩) (Nat.le_refl _) (.slice none 0 0)).setCell (p := ⟨w.heap.size, 1, none⟩) (Nat.le_refl _) (.bool false))⟩
      clear k1 hB kk ho hb
      go_wp2_with fail
      obtain ⟨r0, r1, hr⟩ := HE.out
      clear c0 c1 f0 f1
      generalize ((w1.alloc (.cells #[.slice a 0 c, .bool d] 25)).setCell ⟨w.heap.size, 0, none⟩ (.slice none 0 0)).setCell ⟨w.heap.size, 1, none⟩ (.bool false) = Wf at *
      refine bodyPost_ret (v := .tuple #[.agg #[.slice none 0 0, .bool false], .string ⟨#[]⟩, .int .i64 180]) ?_ rfl hr
      simp [results, Try.f15, go_sem, r0, r1]
    · rw [List.concat_eq_append] at *
      have HR : Hid (splR s.data.toList = (M, true, y, 0)) := by show splR _ = _; unfold splR; rw [hp]; simp
      have hlen : (M ++ [y]).length = M.length + 1 := by simp
      rw [hlen] at HX hn32
      clear hp hG
      obtain ⟨m, hm⟩ : ∃ m, M.length = m := ⟨_, rfl⟩
      have HM : Hid (M.length = m) := hm
      rw [hm] at HX hn32
      clear hm hlen
      go_enter Try.func15, Try.ntmps15
      go_wp2_with fail
      refine (HX.out _).mono ?_
      rintro e w1 ⟨a, c, rfl, ho, hb⟩
      obtain ⟨g, rfl⟩ : ∃ g, a = some ⟨g, 0, none⟩ := by
        obtain ⟨g, cap, hv⟩ := ownsRow_succ ho
        cases hv; exact ⟨g, rfl⟩
      have hmc := own_cap ho
      have k1 := (ka.below hb (by simp)).alloc (.cells #[.slice (some ⟨g, 0, none⟩) (m + 1) c, .bool d] 25)
      have k2 := Blk.new w1 25 #[.slice (some ⟨g, 0, none⟩) (m + 1) c, .bool d]
      have hs1 : w.heap.size < w1.heap.size := by have := hb.size; simp at this; omega
      have hB := (hba.trans (hb.mono hba.size)).alloc (Nat.le_trans hba.size hb.size) (.cells #[.slice (some ⟨g, 0, none⟩) (m + 1) c, .bool d] 25)
      have hO := ho.alloc (.cells #[.slice (some ⟨g, 0, none⟩) (m + 1) c, .bool d] 25)
      have HI : Hid (_ ∧ _ ∧ _ ∧ _) := ⟨k1, k2, hB, hO⟩
      have n1 : (m : Int) + 1 - 1 = (m : Int) := by omega
      have n2 : ¬ (m : Int) < 0 := by omega
      have gl := (hO.lt g rfl).2
      have hgb : w.heap.size < g := by have := (ho.lt g rfl).1; simp at this; omega
      clear k1 k2 hB hO ho hb HX ka hba
      go_wp2_with fail
      generalize hW : w1.alloc (.cells #[.slice (some ⟨g, 0, none⟩) (m + 1) c, .bool d] 25) = W at *
      have hWs : W.heap.size = w1.heap.size + 1 := by rw [← hW]; simp
      clear hW
      obtain ⟨k1, k2, hB, hO⟩ := HI.out
      have hy : W.cell? ⟨g, m, none⟩ = some (.string y) := by
        rw [hO.cellAt m (by omega), List.map_append, List.getElem?_append_right (by rw [List.length_map, HM.out]; exact Nat.le_refl _), List.length_map, HM.out, Nat.sub_self]
        rfl
      have HCl : Hid (∀ U, Below W.heap.size W U → Calls Try.prog 35 #[.slice (some ⟨g, 0, none⟩) m c] U fun e w' => ∃ g' c', e = .returned (.slice (some ⟨g', 0, none⟩) m c') ∧ w'.ownsRow U.heap.size 9 1 (.slice (some ⟨g', 0, none⟩) m c') m (M.map Value.string) ∧ Below U.heap.size U w') := fun U hU => by
        have := sclone_any (w := U) (g := g) (o := 0) (c := c) (N := M) (fun j x hj => by
          have hl := (List.getElem?_eq_some_iff.1 hj).1
          rw [HM.out] at hl
          rw [Nat.zero_add, (hU.cell (p := ⟨g, j, none⟩) gl), hO.cellAt j (by omega), List.map_append, List.getElem?_append_left (by rw [List.length_map, HM.out]; exact hl), List.getElem?_map, hj]
          rfl) (by rw [HM.out]; omega)
        rwa [HM.out] at this
      have i1 : (0 : Int) ≤ (m : Int) := by omega
      have i2 : (m : Int) ≤ (c : Int) := by omega
      have i3 : (m : Int) < (m : Int) + 1 := by omega
      have hS : (fun U : World => Blk U w1.heap.size 25 #[.slice (some ⟨g, 0, none⟩) (m + 1) c, .bool d] ∧ U.cell? ⟨g, m, none⟩ = some (.string y)) W.drew := ⟨k2, hy⟩
      refine wp_region_plan (fun U => Blk U w1.heap.size 25 #[.slice (some ⟨g, 0, none⟩) (m + 1) c, .bool d] ∧ U.cell? ⟨g, m, none⟩ = some (.string y)) (.yield [2] 0 (.yield [] 1 (.yield [] 3 (.yield [8] 6 (.yield [] 7 (.yield [] 9 (.yield [] 10 (.force [] 4 (.force [] 5 (.force [] 11 (.force [] 12 (.force [] 13 (.fin [])))))))))))))  (by kernel_rfl) (by kernel_rfl) hS (plan_yield ?_)
      simp only [List.cons_append, List.nil_append, List.append_nil, List.filterMap_cons, List.filterMap_nil, List.getElem?_toArray, List.getElem?_cons_zero, List.getElem?_cons_succ]
      go_wp2_with fail
      first
        | refine ⟨rfl, _, .pointer (some ⟨w1.heap.size, 0, none⟩), rfl, Or.inl ⟨by rfl, fun U hU => by go_simp⟩, plan_yield ?_⟩
        | refine ⟨rfl, .pointer (some ⟨w1.heap.size, 0, none⟩), Or.inl ⟨by rfl, fun U hU => by go_simp⟩, plan_yield ?_⟩
      simp only [Act.put, List.setIfInBounds_toArray, List.set_cons_zero, List.set_cons_succ]
      simp only [List.cons_append, List.nil_append, List.append_nil, List.filterMap_cons, List.filterMap_nil, List.getElem?_toArray, List.getElem?_cons_zero, List.getElem?_cons_succ]
      go_wp2_with fail
      first
        | refine ⟨rfl, _, .slice (some ⟨g, 0, none⟩) (m + 1) c, rfl, Or.inl ⟨by rfl, fun U hU => by have c1 := hU.1.cell 0; go_simp⟩, plan_yield ?_⟩
        | refine ⟨rfl, .slice (some ⟨g, 0, none⟩) (m + 1) c, Or.inl ⟨by rfl, fun U hU => by have c1 := hU.1.cell 0; go_simp⟩, plan_yield ?_⟩
      simp only [Act.put, List.setIfInBounds_toArray, List.set_cons_zero, List.set_cons_succ]
      simp only [List.cons_append, List.nil_append, List.append_nil, List.filterMap_cons, List.filterMap_nil, List.getElem?_toArray, List.getElem?_cons_zero, List.getElem?_cons_succ]
      go_wp2_with fail
      first
        | refine ⟨rfl, _, .slice (some ⟨g, 0, none⟩) m c, rfl, Or.inl ⟨by rfl, fun U hU => by go_simp⟩, plan_yield ?_⟩
        | refine ⟨rfl, .slice (some ⟨g, 0, none⟩) m c, Or.inl ⟨by rfl, fun U hU => by go_simp⟩, plan_yield ?_⟩
      simp only [Act.put, List.setIfInBounds_toArray, List.set_cons_zero, List.set_cons_succ]
      simp only [List.cons_append, List.nil_append, List.append_nil, List.filterMap_cons, List.filterMap_nil, List.getElem?_toArray, List.getElem?_cons_zero, List.getElem?_cons_succ]
      go_wp2_with fail
      first
        | refine ⟨rfl, _, .pointer (some ⟨w1.heap.size, 0, none⟩), rfl, Or.inl ⟨by rfl, fun U hU => by go_simp⟩, plan_yield ?_⟩
        | refine ⟨rfl, .pointer (some ⟨w1.heap.size, 0, none⟩), Or.inl ⟨by rfl, fun U hU => by go_simp⟩, plan_yield ?_⟩
      simp only [Act.put, List.setIfInBounds_toArray, List.set_cons_zero, List.set_cons_succ]
      simp only [List.cons_append, List.nil_append, List.append_nil, List.filterMap_cons, List.filterMap_nil, List.getElem?_toArray, List.getElem?_cons_zero, List.getElem?_cons_succ]
      go_wp2_with fail
      first
        | refine ⟨rfl, _, .slice (some ⟨g, 0, none⟩) (m + 1) c, rfl, Or.inl ⟨by rfl, fun U hU => by have c1 := hU.1.cell 0; go_simp⟩, plan_yield ?_⟩
        | refine ⟨rfl, .slice (some ⟨g, 0, none⟩) (m + 1) c, Or.inl ⟨by rfl, fun U hU => by have c1 := hU.1.cell 0; go_simp⟩, plan_yield ?_⟩
      simp only [Act.put, List.setIfInBounds_toArray, List.set_cons_zero, List.set_cons_succ]
      simp only [List.cons_append, List.nil_append, List.append_nil, List.filterMap_cons, List.filterMap_nil, List.getElem?_toArray, List.getElem?_cons_zero, List.getElem?_cons_succ]
      go_wp2_with fail
      first
        | refine ⟨rfl, _, .pointer (some ⟨g, m, none⟩), rfl, Or.inl ⟨by rfl, fun U hU => by go_simp⟩, plan_yield ?_⟩
        | refine ⟨rfl, .pointer (some ⟨g, m, none⟩), Or.inl ⟨by rfl, fun U hU => by go_simp⟩, plan_yield ?_⟩
      simp only [Act.put, List.setIfInBounds_toArray, List.set_cons_zero, List.set_cons_succ]
      simp only [List.cons_append, List.nil_append, List.append_nil, List.filterMap_cons, List.filterMap_nil, List.getElem?_toArray, List.getElem?_cons_zero, List.getElem?_cons_succ]
      go_wp2_with fail
      first
        | refine ⟨rfl, _, .string y, rfl, Or.inl ⟨by rfl, fun U hU => by have c1 := hU.2; go_simp⟩, plan_force ?_⟩
        | refine ⟨rfl, .string y, Or.inl ⟨by rfl, fun U hU => by have c1 := hU.2; go_simp⟩, plan_force ?_⟩
      simp only [Act.put, List.setIfInBounds_toArray, List.set_cons_zero, List.set_cons_succ]
      simp only [List.cons_append, List.nil_append, List.append_nil, List.filterMap_cons, List.filterMap_nil, List.getElem?_toArray, List.getElem?_cons_zero, List.getElem?_cons_succ]
      go_wp2_with fail
      refine (HCl.out _ (Below.refl _ W).drew).mono ?_
      rintro e U1 ⟨g', c', rfl, hO1, hU1⟩
      have hb1 : Below W.heap.size W U1 := (Below.refl _ W).drew.trans hU1
      have q1 := k1.below hb1 k1.lt
      have q0 := hB.trans (hb1.mono hB.size)
      have hO2 : U1.ownsRow (w.heap.size + 1) 9 1 (.slice (some ⟨g', 0, none⟩) m c') m (M.map Value.string) := kown_mono hO1 (by show w.heap.size + 1 ≤ W.heap.size; omega)
      have c0 := q1.cell 0
      have c1 := q1.cell 1
      have f0 := q1.frozen 0
      have f1 := q1.frozen 1
      have kk := (q1.put 0 (.slice (some ⟨g', 0, none⟩) m c')).put 1 (.bool true)
      have HE : Hid (_ ∧ _ ∧ SRet s.data.toList w (.returned (.tuple #[.agg #[.slice (some ⟨g', 0, none⟩) m c', .bool true], .string y, .int .i64 0])) ((U1.setCell ⟨w.heap.size, 0, none⟩ (.slice (some ⟨g', 0, none⟩) m c')).setCell ⟨w.heap.size, 1, none⟩ (.bool true))) := ⟨kk.cell 0, kk.cell 1, sret_of HR.out (by rw [HM.out]; exact kown_mono (own_cell (own_cell hO2 (by omega) _) (by omega) _) (by omega)) ((q0.setCell (p := ⟨w.heap.size, 0, none⟩) (Nat.le_refl _) _).setCell (p := ⟨w.heap.size, 1, none⟩) (Nat.le_refl _) _)⟩
      have s1 : Blk U1 w1.heap.size 25 #[.slice (some ⟨g, 0, none⟩) (m + 1) c, .bool d] ∧ U1.cell? ⟨g, m, none⟩ = some (.string y) := ⟨k2.below hb1 k2.lt, (hb1.cell (p := ⟨g, m, none⟩) gl).trans hy⟩
      have s2 : Blk ((U1.setCell ⟨w.heap.size, 0, none⟩ (.slice (some ⟨g', 0, none⟩) m c')).setCell ⟨w.heap.size, 1, none⟩ (.bool true)) w1.heap.size 25 #[.slice (some ⟨g, 0, none⟩) (m + 1) c, .bool d] ∧ ((U1.setCell ⟨w.heap.size, 0, none⟩ (.slice (some ⟨g', 0, none⟩) m c')).setCell ⟨w.heap.size, 1, none⟩ (.bool true)).cell? ⟨g, m, none⟩ = some (.string y) := ⟨(s1.1.put_other _ _ (by omega)).put_other _ _ (by omega), ((World.cell?_of_block (Below.heap_setCell _ _ _ g (by show g ≠ w.heap.size; omega))).trans (World.cell?_of_block (Below.heap_setCell _ _ _ g (by show g ≠ w.heap.size; omega)))).trans s1.2⟩
      have HS1 : Hid (_ ∧ _) := s1
      have HS2 : Hid (_ ∧ _) := s2
      clear kk q1 q0 hO2 hO1 k1 k2 hB hO HCl s1 s2 hS hy
      go_wp2_with fail
      refine ⟨rfl, HS1.out, plan_force ?_⟩
      simp only [List.cons_append, List.nil_append, List.append_nil, List.filterMap_cons, List.filterMap_nil, List.getElem?_toArray, List.getElem?_cons_zero, List.getElem?_cons_succ]
      go_wp2_with fail
      refine ⟨rfl, HS1.out, plan_force ?_⟩
      simp only [List.cons_append, List.nil_append, List.append_nil, List.filterMap_cons, List.filterMap_nil, List.getElem?_toArray, List.getElem?_cons_zero, List.getElem?_cons_succ]
      go_wp2_with fail
      refine ⟨rfl, HS2.out, plan_force ?_⟩
      simp only [List.cons_append, List.nil_append, List.append_nil, List.filterMap_cons, List.filterMap_nil, List.getElem?_toArray, List.getElem?_cons_zero, List.getElem?_cons_succ]
      go_wp2_with fail
      refine ⟨rfl, HS2.out, plan_force ?_⟩
      simp only [List.cons_append, List.nil_append, List.append_nil, List.filterMap_cons, List.filterMap_nil, List.getElem?_toArray, List.getElem?_cons_zero, List.getElem?_cons_succ]
      go_wp2_with fail
      refine ⟨rfl, HS2.out, plan_fin ?_⟩
      simp only [List.cons_append, List.nil_append, List.append_nil, List.filterMap_cons, List.filterMap_nil, List.getElem?_toArray, List.getElem?_cons_zero, List.getElem?_cons_succ]
      go_wp2_with fail
      refine ⟨rfl, ?_⟩
      clear HS1 HS2 c0 c1 f0 f1
      go_wp2_with fail
      obtain ⟨r0, r1, hr⟩ := HE.out
      generalize (U1.setCell ⟨w.heap.size, 0, none⟩ (.slice (some ⟨g', 0, none⟩) m c')).setCell ⟨w.heap.size, 1, none⟩ (.bool true) = Wf at *
      refine bodyPost_ret (v := .tuple #[.agg #[.slice (some ⟨g', 0, none⟩) m c', .bool true], .string y, .int .i64 0]) ?_ rfl hr
      simp [results, Try.f15, go_sem, r0, r1]
  · have HR : Hid (splR s.data.toList = ([], false, ⟨#[]⟩, z)) := by show splR _ = _; unfold splR; rw [hp, if_neg (show ¬ (N, d, i, z).2.2.2 = 0 from hz)]
    clear hp hG
    go_enter Try.func15, Try.ntmps15
    go_wp2_with fail
    refine (HX.out _).mono ?_
    rintro e w1 ⟨a, c, rfl, ho, hb⟩
    have k1 := (ka.below hb (by simp)).alloc (.cells #[.slice a N.length c, .bool d] 25)
    have hB := (hba.trans (hb.mono hba.size)).alloc (Nat.le_trans hba.size hb.size) (.cells #[.slice a N.length c, .bool d] 25)
    have c0 := k1.cell 0
    have c1 := k1.cell 1
    have f0 := k1.frozen 0
    have f1 := k1.frozen 1
    have kk := (k1.put 0 (.slice none 0 0)).put 1 (.bool false)
    have HE : Hid (_ ∧ _ ∧ _) := ⟨kk.cell 0, kk.cell 1, sret_of (v := .slice none 0 0) HR.out (World.ownsRow_nil _ _ _ _) ((hB.setCell (p := ⟨w.heap.size, 0, none⟩) (Nat.le_refl _) (.slice none 0 0)).setCell (p := ⟨w.heap.size, 1, none⟩) (Nat.le_refl _) (.bool false))⟩
    clear k1 hB kk ho hb
    go_wp2_with fail
    obtain ⟨r0, r1, hr⟩ := HE.out
    clear c0 c1 f0 f1
    generalize ((w1.alloc (.cells #[.slice a N.length c, .bool d] 25)).setCell ⟨w.heap.size, 0, none⟩ (.slice none 0 0)).setCell ⟨w.heap.size, 1, none⟩ (.bool false) = Wf at *
    refine bodyPost_ret (v := .tuple #[.agg #[.slice none 0 0, .bool false], .string ⟨#[]⟩, .int .i64 z]) ?_ rfl hr
    simp [results, Try.f15, go_sem, r0, r1]
end Go.Proofs.Ythoohhokoeihiaa

namespace Go.Proofs.Ythoohhokoeihiaa
open Go Go.RowKit Go.Shelf
set_option linter.unusedVariables false
set_option linter.unusedSimpArgs false
theorem prs_awake : prs [47, 97, 47, 47, 98, 47, 46, 47, 99, 47, 46, 46, 47, 100] = ([⟨#[97]⟩, ⟨#[98]⟩, ⟨#[100]⟩], false, 0, 0) := by kernel_rfl
set_option maxRecDepth 100000 in
set_option maxHeartbeats 4000000 in
theorem awake18_any (w : World) : Calls Try.prog 9 #[] w fun e w' => e = .returned (.bool true) ∧ Below w.heap.size w w' := by
  have HX : Hid (∀ w : World, Calls Try.prog 10 #[.string ⟨#[47, 97, 47, 47, 98, 47, 46, 47, 99, 47, 46, 46, 47, 100]⟩] w fun e w' => ∃ g cap, e = .returned (.tuple #[.agg #[.slice (some ⟨g, 0, none⟩) 3 cap, .bool false], .int .i64 0, .int .i64 0]) ∧ w'.cell? ⟨g, 2, none⟩ = some (.string ⟨#[100]⟩) ∧ g < w'.heap.size ∧ Below w.heap.size w w') := fun w => by
    refine (parse_any _ w).mono ?_
    rintro e w' ⟨v, he, ho, hb⟩
    have e1 : prs ((⟨#[47, 97, 47, 47, 98, 47, 46, 47, 99, 47, 46, 46, 47, 100]⟩ : ByteArray).data.toList) = ([⟨#[97]⟩, ⟨#[98]⟩, ⟨#[100]⟩], false, 0, 0) := prs_awake
    rw [e1] at he ho
    obtain ⟨g, cap, rfl⟩ := ownsRow_succ ho
    exact ⟨g, cap, he, ho.cellAt 2 (by decide), (ho.lt g rfl).2, hb⟩
  go_enter Try.func9, Try.ntmps9
  go_wp2_with fail
  refine (HX.out _).mono ?_
  rintro e w9 ⟨g, cap, rfl, hc, hg, hb⟩
  have hb2 := hb.alloc hb.size (.cells #[.slice (some ⟨g, 0, none⟩) 3 cap, .bool false] 25)
  have hc2 : (w9.alloc (.cells #[.slice (some ⟨g, 0, none⟩) 3 cap, .bool false] 25)).cell? ⟨g, 2, none⟩ = some (.string ⟨#[100]⟩) := (((Below.refl _ w9).alloc (Nat.le_refl _) _).cell (p := ⟨g, 2, none⟩) hg).trans hc
  go_wp2_with fail
  go_ret
  exact ⟨rfl, hb2⟩
end Go.Proofs.Ythoohhokoeihiaa

namespace Go.Proofs.Ythoohhokoeihiaa
open Go Go.RowKit Go.Shelf
set_option linter.unusedVariables false
set_option linter.unusedSimpArgs false
theorem IsN.cell_other {w : World} {a : Option Addr} {N : List ByteArray} (h : IsN w a N) {g j : Nat} (u : Value) (hg : ∀ k o, a = some ⟨k, o, none⟩ → k ≠ g) : IsN (w.setCell ⟨g, j, none⟩ u) a N := by
  rcases h with h | ⟨k, o, rfl, hk, hc⟩
  · exact .inl h
  · refine .inr ⟨k, o, rfl, by rw [World.size_setCell]; exact hk, fun i x hx => ?_⟩
    exact (World.cell?_of_block (Below.heap_setCell _ _ _ k (hg k o rfl))).trans (hc i x hx)
theorem own_far {w : World} {B n m c : Nat} {a : Option Addr} {t : TypeId} {xs : List Value} (h : w.ownsRow B t 1 (.slice a m c) n xs) : ∀ k o, a = some ⟨k, o, none⟩ → B ≤ k := by
  intro k o e
  subst e
  exact (h.lt k rfl).1
/-- Split told in single things -/
theorem split_at (s : ByteArray) {N : List ByteArray} {d : Bool} {x : ByteArray} {z : Int} (hp : splR s.data.toList = (N, d, x, z)) (w : World) : Calls Try.prog 15 #[.string s] w fun e w' => ∃ (a : Option Addr) (c : Nat), e = .returned (.tuple #[.agg #[.slice a N.length c, .bool d], .string x, .int .i64 z]) ∧ w'.ownsRow w.heap.size 9 1 (.slice a N.length c) N.length (N.map Value.string) ∧ Below w.heap.size w w' := by
  refine (split_any s w).mono ?_
  rintro e w' ⟨v, he, ho, hb⟩
  rw [hp] at he ho
  obtain ⟨a, c, rfl⟩ := kown_slice ho
  exact ⟨a, c, he, ho, hb⟩
theorem lsame_yes {w : World} {a b : Option Addr} {c d : Nat} {N : List ByteArray} (hN : IsN w a N) (hM : IsN w b N) (h1 : N.length ≤ 9223372036854775807) (p : Bool) :
    Calls Try.prog 12 #[.agg #[.slice a N.length c, .bool p], .agg #[.slice b N.length d, .bool p]] w fun e w' => e = .returned (.bool true) ∧ Below w.heap.size w w' := by
  have := lsame_any (c := c) (d := d) hN hM h1 h1 p p
  rwa [decide_eq_true rfl, decide_eq_true rfl, Bool.and_true] at this
theorem spl_good (l : List UInt8) : (splR l).1.length ≤ 32 := by
  unfold splR
  split
  · split
    · simp
    · have := (good_prs l).1
      simp
      omega
  · simp
end Go.Proofs.Ythoohhokoeihiaa

namespace Go.Proofs.Ythoohhokoeihiaa
open Go Go.RowKit Go.Shelf
set_option linter.unusedVariables false
set_option linter.unusedSimpArgs false
theorem IsN.grown {w w' : World} {a : Option Addr} {N : List ByteArray} {row : Option Nat} (h : IsN w a N) (hg : w.grownBy w' row) (hne : ∀ g o, a = some ⟨g, o, none⟩ → some g ≠ row) : IsN w' a N := by
  rcases h with h | ⟨g, o, rfl, hk, hc⟩
  · exact .inl h
  · exact .inr ⟨g, o, rfl, Nat.lt_of_lt_of_le hk hg.size, fun j x hx => hg.cell (a := ⟨g, o + j, none⟩) (hc j x hx) (hne g o rfl)⟩
theorem own_top {w : World} {B n m c : Nat} {a : Option Addr} {t : TypeId} {xs : List Value} (h : w.ownsRow B t 1 (.slice a m c) n xs) : ∀ k o, a = some ⟨k, o, none⟩ → k < w.heap.size := by
  intro k o e
  subst e
  exact (h.lt k rfl).2
/-- the rooms of the statement: two paths that stay, one whose names are written over -/
structure MemS (w : World) (s1 s2 gp ga gq : Nat) (ap aa aq : Option Addr) (cp ca cq : Nat) (N : List ByteArray) (m : Nat) (d d2 : Bool) (wr : World) : Prop where
  kp : Blk wr gp 25 #[.slice ap N.length cp, .bool d]
  ka : Blk wr ga 25 #[.slice aa m ca, .bool d2]
  kq : Blk wr gq 29 #[.slice aq N.length cq, .bool d]
  np : IsN wr ap N
  nq : IsN wr aq N
  ow : ∃ xs, wr.ownsRow s1 9 1 (.slice aa m ca) m xs
  lp : ∀ k o, ap = some ⟨k, o, none⟩ → k < s1
  la : ∀ k o, aa = some ⟨k, o, none⟩ → k < s2
  lq : ∀ k o, aq = some ⟨k, o, none⟩ → s2 < k
  lt : gp < s1 ∧ ga = s2 ∧ s1 ≤ s2 ∧ s2 < gq ∧ w.heap.size ≤ gp
  hb : Below w.heap.size w wr
theorem MemS.below {w wr wr' : World} {s1 s2 gp ga gq : Nat} {ap aa aq : Option Addr} {cp ca cq : Nat} {N : List ByteArray} {m : Nat} {d d2 : Bool} (h : MemS w s1 s2 gp ga gq ap aa aq cp ca cq N m d d2 wr) (hb : Below wr.heap.size wr wr') : MemS w s1 s2 gp ga gq ap aa aq cp ca cq N m d d2 wr' :=
  ⟨h.kp.below hb h.kp.lt, h.ka.below hb h.ka.lt, h.kq.below hb h.kq.lt, h.np.below hb, h.nq.below hb, by obtain ⟨xs, hx⟩ := h.ow; exact ⟨xs, kown_below hx hb⟩, h.lp, h.la, h.lq, h.lt, h.hb.trans (hb.mono h.hb.size)⟩
theorem own_store {w : World} {B n c g j : Nat} {t : TypeId} {xs : List Value} (h : w.ownsRow B t 1 (.slice (some ⟨g, 0, none⟩) n c) n xs) (u : Value) (hj : j < n) : ∃ ys, (w.setCell ⟨g, j, none⟩ u).ownsRow B t 1 (.slice (some ⟨g, 0, none⟩) n c) n ys := ⟨_, (h.stored j u).1⟩
theorem blk_not_row {W : World} {g base n : Nat} {t t' : TypeId} {v : Value} {xs : List Value} {cs : Array Value} (h : Blk W g t' cs) (hne : t' ≠ t) (hr : W.ownsRow base t 1 v n xs) : some g ≠ v.ownBlock := by
  rcases hr.2 with ⟨rfl, _⟩ | ⟨g', cap, cur, rfl, _, hgb, _⟩
  · simp [Value.ownBlock]
  · intro e'
    obtain rfl : g = g' := by simpa [Value.ownBlock] using e'
    have := (show W.heap[g]? = _ from h).symm.trans hgb
    simp at this
    exact hne this.2
theorem MemS.mark {w wr : World} {s1 s2 gp ga gq : Nat} {ap aq : Option Addr} {cp ca cq g : Nat} {N : List ByteArray} {m : Nat} {d d2 : Bool} (h : MemS w s1 s2 gp ga gq ap (some ⟨g, 0, none⟩) aq cp ca cq N m d d2 wr) {j : Nat} (hj : j < m) (u : Value) : MemS w s1 s2 gp ga gq ap (some ⟨g, 0, none⟩) aq cp ca cq N m d d2 (wr.setCell ⟨g, j, none⟩ u) := by
  obtain ⟨xs, hx⟩ := h.ow
  have e1 : gp ≠ g := fun e => blk_not_row h.kp (by decide) hx (by rw [e]; rfl)
  have e2 : ga ≠ g := fun e => blk_not_row h.ka (by decide) hx (by rw [e]; rfl)
  have e3 : gq ≠ g := fun e => blk_not_row h.kq (by decide) hx (by rw [e]; rfl)
  have hg1 := (hx.lt g rfl).1
  have hg2 := h.la g 0 rfl
  have hlt := h.lt
  refine ⟨h.kp.put_other _ _ e1, h.ka.put_other _ _ e2, h.kq.put_other _ _ e3, h.np.cell_other _ (fun k o e => ?_), h.nq.cell_other _ (fun k o e => ?_), own_store hx u hj, h.lp, h.la, h.lq, h.lt, h.hb.setCell (p := ⟨g, j, none⟩) (by show w.heap.size ≤ g; omega) u⟩
  · have := h.lp k o e; omega
  · have := h.lq k o e; omega
theorem spl_err {l : List UInt8} {N : List ByteArray} {d : Bool} {i : Nat} {z : Int} (hp : prs l = (N, d, i, z)) {M : List ByteArray} {d2 : Bool} {y : ByteArray} {z2 : Int} (hq : splR l = (M, d2, y, z2)) : (z ≠ 0 → z2 = z) ∧ (z = 0 → N = [] → z2 = 180) ∧ (z = 0 → N ≠ [] → z2 = 0) := by
  unfold splR at hq
  rw [hp] at hq
  refine ⟨fun h => ?_, fun h h2 => ?_, fun h h2 => ?_⟩
  · rw [if_neg (show ¬ (N, d, i, z).2.2.2 = 0 from h)] at hq
    have := congrArg (fun x => x.2.2.2) hq
    exact this.symm
  · subst h h2
    have := congrArg (fun x => x.2.2.2) hq
    exact this.symm
  · subst h
    rw [if_pos (show (N, d, i, (0 : Int)).2.2.2 = 0 from rfl)] at hq
    obtain ⟨x, hx⟩ : ∃ x, N.getLast? = some x := by
      cases hh : N.getLast? with
      | none => rw [List.getLast?_eq_none_iff] at hh; exact absurd hh h2
      | some x => exact ⟨x, rfl⟩
    have e : ((N, d, i, (0 : Int)).1).getLast? = some x := hx
    rw [e] at hq
    have := congrArg (fun x => x.2.2.2) hq
    exact this.symm
set_option maxRecDepth 100000 in
set_option maxHeartbeats 8000000 in
theorem pathMemoryLaw (s : ByteArray) (w : World) : Calls Try.prog 7 #[.string s] w fun e w' => e = .returned (.bool true) ∧ Below w.heap.size w w' := by
  obtain ⟨N, d, i, z, hp⟩ : ∃ N d i z, prs s.data.toList = (N, d, i, z) := ⟨_, _, _, _, rfl⟩
  obtain ⟨M, d2, y, z2, hq⟩ : ∃ M d2 y z2, splR s.data.toList = (M, d2, y, z2) := ⟨_, _, _, _, rfl⟩
  have hN32 : N.length ≤ 32 := by have := (good_prs s.data.toList).1; rwa [hp] at this
  have hM32 : M.length ≤ 32 := by have := spl_good s.data.toList; rwa [hq] at this
  have HA : Hid (∀ w : World, Calls Try.prog 9 #[] w fun e w' => e = .returned (.bool true) ∧ Below w.heap.size w w') := awake18_any
  have HH : Hid (_ ∧ _ ∧ _) := ⟨parse_at s hp, rparse_at s hp, split_at s hq⟩
  have HE : Hid (_ ∧ _ ∧ _) := spl_err hp hq
  clear hp hq
  obtain ⟨m, hm⟩ : ∃ m, M.length = m := ⟨_, rfl⟩
  rw [hm] at hM32 HH
  clear hm
  have hzz : (z != z) = false := by simp
  go_enter Try.func7, Try.ntmps7
  go_wp2_with fail
  refine (HH.out.1 _).mono ?_
  rintro e w1 ⟨ap, cp, rfl, ho1, hb1⟩
  have k1 := Blk.new w1 25 #[.slice ap N.length cp, .bool d]
  have n1 := (own_isN ho1).below ((Below.refl _ w1).alloc (Nat.le_refl _) (.cells #[.slice ap N.length cp, .bool d] 25))
  have B1 := hb1.alloc hb1.size (.cells #[.slice ap N.length cp, .bool d] 25)
  have t1 := own_top ho1
  have hs1 : (w1.alloc (.cells #[.slice ap N.length cp, .bool d] 25)).heap.size = w1.heap.size + 1 := by simp
  have hw1 := hb1.size
  clear ho1 hb1
  go_wp2_with fail
  generalize w1.alloc (.cells #[.slice ap N.length cp, .bool d] 25) = w1a at *
  generalize w1.heap.size = gp at *
  refine (HH.out.2.2 _).mono ?_
  rintro e w2 ⟨aa, ca, rfl, ho2, hb2⟩
  have al2 := hb2.alloc hb2.size (.cells #[.slice aa m ca, .bool d2] 25)
  have k2 := k1.below al2 k1.lt
  have a2 := Blk.new w2 25 #[.slice aa m ca, .bool d2]
  have n2 := n1.below al2
  have o2 := ho2.alloc (.cells #[.slice aa m ca, .bool d2] 25)
  have B2 := B1.trans (al2.mono B1.size)
  have t2 := own_top ho2
  have hs2 := hb2.size
  have hs2a : (w2.alloc (.cells #[.slice aa m ca, .bool d2] 25)).heap.size = w2.heap.size + 1 := by simp
  clear ho2 hb2 k1 n1 B1 al2
  go_wp2_with fail
  generalize w2.alloc (.cells #[.slice aa m ca, .bool d2] 25) = w2a at *
  generalize w2.heap.size = ga at *
  refine (HH.out.2.1 _).mono ?_
  rintro e w3 ⟨aq, cq, rfl, ho3, hb3⟩
  have al3 := hb3.alloc hb3.size (.cells #[.slice aq N.length cq, .bool d] 29)
  have k3 := k2.below al3 k2.lt
  have a3 := a2.below al3 a2.lt
  have q3 := Blk.new w3 29 #[.slice aq N.length cq, .bool d]
  have n3 := n2.below al3
  have m3 := (own_isN ho3).below ((Below.refl _ w3).alloc (Nat.le_refl _) (.cells #[.slice aq N.length cq, .bool d] 29))
  have o3 := kown_below o2 al3
  have B3 := B2.trans (al3.mono B2.size)
  have f3 := own_far ho3
  have hs3 := hb3.size
  have HM : Hid (MemS w w1a.heap.size ga gp ga w3.heap.size ap aa aq cp ca cq N m d d2 (w3.alloc (.cells #[.slice aq N.length cq, .bool d] 29))) :=
    ⟨k3, a3, q3, n3, m3, ⟨_, o3⟩, fun k o e => by have := t1 k o e; omega, t2, fun k o e => by have := f3 k o e; omega, ⟨by omega, rfl, by omega, by omega, hw1⟩, B3⟩
  clear ho3 hb3 al3 k2 a2 n2 o2 B2 k3 a3 q3 n3 m3 o3 B3 f3 t1 t2
  go_wp2_with fail
  generalize w3.alloc (.cells #[.slice aq N.length cq, .bool d] 29) = w3a at *
  generalize w3.heap.size = gq at *
  generalize w1a.heap.size = s1 at *
  refine (HA.out _).mono ?_
  rintro e w4 ⟨rfl, hb4⟩
  have HM4 : Hid (_) := HM.out.below hb4
  clear HM hb4
  have ca0 := HM4.out.ka.cell 0
  go_wp2_with fail
  clear ca0
  go_loopw [44] (fun v wr => Hid (∃ k : Nat, k ≤ m ∧ v = .int .i64 (k : Int) ∧ MemS w s1 ga gp ga gq ap aa aq cp ca cq N m d d2 wr)) (fun v wr => m - (intOf v).toNat)
  case atStart => exact ⟨0, by omega, rfl, HM4.out⟩
  case round =>
    obtain ⟨k, hkm, rfl, hMS⟩ := Hid.out hrel
    have HM : Hid (MemS w s1 ga gp ga gq ap aa aq cp ca cq N m d d2 wr) := hMS
    clear hrel HM4 hMS
    have ca0 := HM.out.ka.cell 0
    by_cases hk : k < m
    · have hkz : (k : Int) < (m : Int) := by omega
      have hk0 : (0 : Int) ≤ (k : Int) := by omega
      obtain ⟨xs, hx⟩ := HM.out.ow
      obtain ⟨g, hg⟩ : ∃ g, aa = some ⟨g, 0, none⟩ := by
        obtain ⟨g, cap, hv, _⟩ := kown_form hx (by omega)
        cases hv
        exact ⟨g, rfl⟩
      subst hg
      have hck := hx.cellAt k (by omega)
      have hlx : xs.length = m := by have := hx.1; omega
      obtain ⟨u, hu⟩ : ∃ u, xs[k]? = some u := ⟨_, List.getElem?_eq_getElem (by omega)⟩
      rw [hu] at hck
      have hfk := hx.frozenAt k
      have HN : Hid (MemS w s1 ga gp ga gq ap (some ⟨g, 0, none⟩) aq cp ca cq N m d d2 (wr.setCell ⟨g, k, none⟩ (.string ⟨#[109, 97, 114, 107]⟩))) := HM.out.mark hk _
      clear hx hu hlx HM
      go_wp2_with fail
      go_roundw
      case rel => exact ⟨k + 1, by omega, by first | rfl | go_num | simp, HN.out⟩
      case measure => simp [intOf]; omega
    · obtain rfl : k = m := by omega
      have hkz : ¬ (k : Int) < (k : Int) := by omega
      obtain ⟨i0, hi0, hz0, hz1, hz2⟩ := info_parts infoStr
      obtain ⟨xs, hx⟩ := HM.out.ow
      have HOW : Hid ((wr.alloc (.cells #[.string ⟨#[109, 97, 114, 107]⟩, .string ⟨#[109, 97, 114, 107]⟩] 9)).ownsRow s1 9 1 (.slice aa k ca) k xs) := hx.alloc _
      have HNW : Hid (∀ j u, [Value.string ⟨#[109, 97, 114, 107]⟩, Value.string ⟨#[109, 97, 114, 107]⟩][j]? = some u → (wr.alloc (.cells #[.string ⟨#[109, 97, 114, 107]⟩, .string ⟨#[109, 97, 114, 107]⟩] 9)).cell? ((⟨wr.heap.size, 0, none⟩ : Addr).add j) = some u) := fun j u hj => by
        rw [Addr.add_mid, Nat.zero_add, (Blk.new wr 9 #[.string ⟨#[109, 97, 114, 107]⟩, .string ⟨#[109, 97, 114, 107]⟩]).cell j]
        rw [← hj]
        simp
      have hsz : s1 ≤ wr.heap.size + 1 := by have := HM.out.lt; have := HM.out.kq.lt; omega
      have HMa : Hid (MemS w s1 ga gp ga gq ap aa aq cp ca cq N k d d2 (wr.alloc (.cells #[.string ⟨#[109, 97, 114, 107]⟩, .string ⟨#[109, 97, 114, 107]⟩] 9))) := HM.out.below ((Below.refl _ _).alloc (Nat.le_refl _) _)
      clear hx HM
      go_wp2_with (first
        | (at_builtin; refine wpList_append_own _ rfl _ _ 23 rfl s1 9 i0 (.string ⟨#[]⟩) 1 16 Try.underlying23 hi0 hz0 hz1 hz2 rfl (by decide) _ _ _ rfl HOW.out ⟨wr.heap.size, 0, none⟩ 2 2 [.string ⟨#[109, 97, 114, 107]⟩, .string ⟨#[109, 97, 114, 107]⟩] rfl rfl HNW.out (fun y hy => by simp at hy; subst hy; rfl) (by unfold maxLen; omega) (by omega) (by simpa using hsz) ?_)
        | fail)
      rintro v' w5 hown hgrow -
      obtain ⟨g5, c5, rfl⟩ := ownsRow_succ hown
      have hM5 := HMa.out
      generalize wr.alloc (.cells #[.string ⟨#[109, 97, 114, 107]⟩, .string ⟨#[109, 97, 114, 107]⟩] 9) = wra at *
      have kp5 : Blk w5 gp 25 #[.slice ap N.length cp, .bool d] := (hgrow.block gp hM5.kp.lt (blk_not_row hM5.kp (by decide) HOW.out)).trans hM5.kp
      have ka5 : Blk w5 ga 25 #[.slice aa k ca, .bool d2] := (hgrow.block ga hM5.ka.lt (blk_not_row hM5.ka (by decide) HOW.out)).trans hM5.ka
      have kq5 : Blk w5 gq 29 #[.slice aq N.length cq, .bool d] := (hgrow.block gq hM5.kq.lt (blk_not_row hM5.kq (by decide) HOW.out)).trans hM5.kq
      have hown0 : ∀ k, (Value.slice aa k ca).ownBlock = none ∨ ∃ g, (Value.slice aa k ca).ownBlock = some g ∧ s1 ≤ g ∧ g < ga := fun k' => by
        rcases HOW.out.2 with ⟨hv, _⟩ | ⟨g, cap, cur, hv, hg, _⟩
        · cases hv; exact .inl rfl
        · cases hv; exact .inr ⟨g, rfl, hg, hM5.la g 0 rfl⟩
      have np5 : IsN w5 ap N := hM5.np.grown hgrow fun g o e e2 => by
        rcases hown0 k with h | ⟨g', h, h1, h2⟩
        · rw [h] at e2; cases e2
        · rw [h] at e2; cases e2
          have := hM5.lp g o e; omega
      have nq5 : IsN w5 aq N := hM5.nq.grown hgrow fun g o e e2 => by
        rcases hown0 k with h | ⟨g', h, h1, h2⟩
        · rw [h] at e2; cases e2
        · rw [h] at e2; cases e2
          have := hM5.lq g o e; omega
      have hlt := hM5.lt
      have B5 : Below w.heap.size w w5 := below_row HOW.out hgrow hM5.hb (by omega) hM5.hb.size
      have cc0 := ka5.cell 0
      have ff0 := ka5.frozen 0
      have kp6 := kp5.put_other (g := ga) 0 (.slice (some ⟨g5, 0, none⟩) (k + 1 + 1) c5) (by omega)
      have kq6 := kq5.put_other (g := ga) 0 (.slice (some ⟨g5, 0, none⟩) (k + 1 + 1) c5) (by omega)
      have np6 := np5.cell_other (g := ga) (j := 0) (.slice (some ⟨g5, 0, none⟩) (k + 1 + 1) c5) (fun g o e => by have := hM5.lp g o e; omega)
      have nq6 := nq5.cell_other (g := ga) (j := 0) (.slice (some ⟨g5, 0, none⟩) (k + 1 + 1) c5) (fun g o e => by have := hM5.lq g o e; omega)
      have B6 := B5.setCell (p := ⟨ga, 0, none⟩) (by show w.heap.size ≤ ga; omega) (.slice (some ⟨g5, 0, none⟩) (k + 1 + 1) c5)
      have HI : Hid (_ ∧ _ ∧ _ ∧ _ ∧ _) := ⟨kp6, kq6, np6, nq6, B6⟩
      clear kp5 ka5 kq5 np5 nq5 B5 kp6 kq6 np6 nq6 B6 hM5 HMa HOW HNW hgrow hown0 hown ca0
      go_wp2_with fail
      clear cc0 ff0
      obtain ⟨kp6, kq6, np6, nq6, B6⟩ := HI.out
      generalize w5.setCell ⟨ga, 0, none⟩ (.slice (some ⟨g5, 0, none⟩) (k + 1 + 1) c5) = w6 at *
      clear HI
      refine (HH.out.1 _).mono ?_
      rintro e w7 ⟨a7, c7, rfl, ho7, hb7⟩
      have al7 := hb7.alloc hb7.size (.cells #[.slice a7 N.length c7, .bool d] 25)
      have kp7 := kp6.below al7 kp6.lt
      have kq7 := kq6.below al7 kq6.lt
      have kr7 := Blk.new w7 25 #[.slice a7 N.length c7, .bool d]
      have np7 := np6.below al7
      have nq7 := nq6.below al7
      have nr7 := (own_isN ho7).below ((Below.refl _ w7).alloc (Nat.le_refl _) (.cells #[.slice a7 N.length c7, .bool d] 25))
      have B7 := B6.trans (al7.mono B6.size)
      have c1 := kp7.cell 0
      have c2 := kp7.cell 1
      have c3 := kq7.cell 0
      have c4 := kq7.cell 1
      have HI : Hid (_ ∧ _ ∧ _ ∧ _ ∧ _ ∧ _) := ⟨kq7, kr7, np7, nq7, nr7, B7⟩
      clear ho7 hb7 al7 kp6 kq6 np6 nq6 B6 kp7 kq7 kr7 np7 nq7 nr7 B7
      go_wp2_with fail
      clear c1 c2 c3 c4
      obtain ⟨kq7, kr7, np7, nq7, nr7, B7⟩ := HI.out
      generalize w7.alloc (.cells #[.slice a7 N.length c7, .bool d] 25) = w7a at *
      generalize w7.heap.size = gr at *
      clear HI
      refine (lsame_yes np7 nq7 (by omega) d).mono ?_
      rintro e w8 ⟨rfl, hb8⟩
      have kq8 := kq7.below hb8 kq7.lt
      have kr8 := kr7.below hb8 kr7.lt
      have nq8 := nq7.below hb8
      have nr8 := nr7.below hb8
      have B8 := B7.trans (hb8.mono B7.size)
      have c1 := kr8.cell 0
      have c2 := kr8.cell 1
      have c3 := kq8.cell 0
      have c4 := kq8.cell 1
      have HI : Hid (_ ∧ _ ∧ _ ∧ _) := ⟨kq8, nq8, nr8, B8⟩
      clear kq7 kr7 np7 nq7 nr7 B7 hb8 kq8 kr8 nq8 nr8 B8
      go_wp2_with fail
      clear c1 c2 c3 c4
      obtain ⟨kq8, nq8, nr8, B8⟩ := HI.out
      clear HI
      refine (lsame_yes nr8 nq8 (by omega) d).mono ?_
      rintro e w9 ⟨rfl, hb9⟩
      have kq9 := kq8.below hb9 kq8.lt
      have B9 := B8.trans (hb9.mono B8.size)
      have c3 := kq9.cell 0
      clear kq8 nq8 nr8 B8 hb9 kq9
      by_cases hz : z = 0
      · by_cases hN0 : N = []
        · obtain rfl : z2 = 180 := HE.out.2.1 hz hN0
          have hl : N.length = 0 := by rw [hN0]; rfl
          have hl2 : ¬ (0 : Int) < (N.length : Int) := by omega
          have hzb : (z == 0) = true := by rw [hz]; rfl
          clear hN0 hz
          go_wp2_with fail
          go_ret
          exact ⟨rfl, B9⟩
        · obtain rfl : z2 = 0 := HE.out.2.2 hz hN0
          have hl := List.length_pos_iff.2 hN0
          have hl2 : (0 : Int) < (N.length : Int) := by omega
          have hzb : (z == 0) = true := by rw [hz]; rfl
          clear hN0 hz
          go_wp2_with fail
          go_ret
          exact ⟨rfl, B9⟩
      · obtain rfl : z2 = z := HE.out.1 hz
        have hzb : (z2 == 0) = false := by simpa using hz
        clear hz
        go_wp2_with fail
        go_ret
        exact ⟨rfl, B9⟩
end Go.Proofs.Ythoohhokoeihiaa
