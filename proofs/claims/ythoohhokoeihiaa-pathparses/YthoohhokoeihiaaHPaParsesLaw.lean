/- The walk of the statement on Parse, Clean and Split. -/
import Derived.Test.YthoohhokoeihiaaHPaRParse
import Derived.Test.YthoohhokoeihiaaHPaForm

namespace Go.Proofs.Ythoohhokoeihiaa
open Go Go.RowKit Go.Shelf
set_option linter.unusedVariables false
set_option linter.unusedSimpArgs false
set_option maxRecDepth 100000 in
set_option maxHeartbeats 4000000 in
theorem rparse_any (s : ByteArray) (w : World) : Calls Try.prog 11 #[.string s] w fun e w' => PRet s.data.toList w e w' := by
  have hb : Below w.heap.size w (w.alloc (.cells #[.slice none 0 0, .bool false] 29)) := (Below.refl _ w).alloc (Nat.le_refl _) _
  have k0 := Blk.new w 29 #[.slice none 0 0, .bool false]
  have c0 := k0.cell 0
  have c1 := k0.cell 1
  by_cases h1 : s.size ≤ 1024
  · by_cases h2 : s.data.toList[0]? = some 47
    · exact rparse_main s h1 h2 w
    · have hz : (s.size : Int) ≤ 1024 := by omega
      have HR : Hid (PRet s.data.toList w (.returned (.tuple #[.agg #[.slice none 0 0, .bool false], .int .i64 ((0 : Nat) : Int), .int .i64 180])) (w.alloc (.cells #[.slice none 0 0, .bool false] 29))) := by
        refine pret_of (N := []) ?_ (World.ownsRow_nil _ _ _ _) hb
        unfold prs
        rw [if_neg (by rw [← Lib.size_eq]; omega), if_neg h2]
      have htl : s.toList = s.data.toList := Lib.toList_data s
      by_cases h3 : s.data.toList = []
      · have t0 : s.toList = [] := htl.trans h3
        have q0 : s.toList.isEmpty = true := by rw [t0]; rfl
        clear h2 h3 htl
        go_enter Try.func11, Try.ntmps11
        go_wp2_with fail
        generalize w.alloc (.cells #[.slice none 0 0, .bool false] 29) = Wf at *
        refine bodyPost_ret (v := .tuple #[.agg #[.slice none 0 0, .bool false], .int .i64 0, .int .i64 180]) ?_ rfl HR.out
        simp [results, Try.f11, go_sem, c0, c1]
      · have t0 : ¬ s.toList = [] := by rw [htl]; exact h3
        have q0 : s.toList.isEmpty = false := by simpa using t0
        have hpos : 0 < s.size := by rw [Lib.size_eq]; exact List.length_pos_iff.2 h3
        have x0 := Lib.data_getElem? s 0 hpos
        have x1 : (s[0]'hpos) ≠ 47 := fun e => h2 (by rw [x0, e])
        have b1 : (((s[0]'hpos).toNat : Int) == 47) = false := ubeq_ne x1
        have b2 : ¬ ((s[0]'hpos).toNat : Int) = 47 := by simpa using b1
        clear h2 h3 htl x0 x1
        go_enter Try.func11, Try.ntmps11
        go_wp2_with fail
        generalize w.alloc (.cells #[.slice none 0 0, .bool false] 29) = Wf at *
        refine bodyPost_ret (v := .tuple #[.agg #[.slice none 0 0, .bool false], .int .i64 0, .int .i64 180]) ?_ rfl HR.out
        simp [results, Try.f11, go_sem, c0, c1]
  · have hz : (1024 : Int) < (s.size : Int) := by omega
    have HR : Hid (PRet s.data.toList w (.returned (.tuple #[.agg #[.slice none 0 0, .bool false], .int .i64 ((1024 : Nat) : Int), .int .i64 181])) (w.alloc (.cells #[.slice none 0 0, .bool false] 29))) := by
      refine pret_of (N := []) ?_ (World.ownsRow_nil _ _ _ _) hb
      unfold prs
      rw [if_pos (by rw [← Lib.size_eq]; omega)]
    go_enter Try.func11, Try.ntmps11
    go_wp2_with fail
    generalize w.alloc (.cells #[.slice none 0 0, .bool false] 29) = Wf at *
    refine bodyPost_ret (v := .tuple #[.agg #[.slice none 0 0, .bool false], .int .i64 1024, .int .i64 181]) ?_ rfl HR.out
    simp [results, Try.f11, go_sem, c0, c1]
end Go.Proofs.Ythoohhokoeihiaa

namespace Go.Proofs.Ythoohhokoeihiaa
open Go Go.RowKit Go.Shelf
set_option linter.unusedVariables false
set_option linter.unusedSimpArgs false
/-- the text that Clean answers -/
def clnS (l : List UInt8) : ByteArray := if (prs l).2.2.2 = 0 then bsL (frmL (prs l).1) else ⟨#[]⟩
theorem own_cap {w : World} {B n m c : Nat} {a : Option Addr} {t : TypeId} {xs : List Value} (h : w.ownsRow B t 1 (.slice a m c) n xs) : n ≤ c := by
  rcases h.2 with ⟨hv, hn⟩ | ⟨g, cap, cur, hv, _, _, hc, _⟩
  · omega
  · cases hv; exact hc
/-- Parse told in single things -/
theorem parse_at (s : ByteArray) {N : List ByteArray} {d : Bool} {i : Nat} {z : Int} (hp : prs s.data.toList = (N, d, i, z)) (w : World) : Calls Try.prog 10 #[.string s] w fun e w' => ∃ (a : Option Addr) (c : Nat), e = .returned (.tuple #[.agg #[.slice a N.length c, .bool d], .int .i64 (i : Int), .int .i64 z]) ∧ w'.ownsRow w.heap.size 9 1 (.slice a N.length c) N.length (N.map Value.string) ∧ Below w.heap.size w w' := by
  refine (parse_any s w).mono ?_
  rintro e w' ⟨v, he, ho, hb⟩
  rw [hp] at he ho
  obtain ⟨a, c, rfl⟩ := kown_slice ho
  exact ⟨a, c, he, ho, hb⟩
theorem rparse_at (s : ByteArray) {N : List ByteArray} {d : Bool} {i : Nat} {z : Int} (hp : prs s.data.toList = (N, d, i, z)) (w : World) : Calls Try.prog 11 #[.string s] w fun e w' => ∃ (a : Option Addr) (c : Nat), e = .returned (.tuple #[.agg #[.slice a N.length c, .bool d], .int .i64 (i : Int), .int .i64 z]) ∧ w'.ownsRow w.heap.size 9 1 (.slice a N.length c) N.length (N.map Value.string) ∧ Below w.heap.size w w' := by
  refine (rparse_any s w).mono ?_
  rintro e w' ⟨v, he, ho, hb⟩
  rw [hp] at he ho
  obtain ⟨a, c, rfl⟩ := kown_slice ho
  exact ⟨a, c, he, ho, hb⟩
set_option maxRecDepth 100000 in
set_option maxHeartbeats 4000000 in
theorem clean_any (s : ByteArray) (w : World) : Calls Try.prog 13 #[.string s] w fun e w' => e = .returned (.tuple #[.string (clnS s.data.toList), .int .i64 (prs s.data.toList).2.2.2]) ∧ Below w.heap.size w w' := by
  obtain ⟨N, d, i, z, hp⟩ : ∃ N d i z, prs s.data.toList = (N, d, i, z) := ⟨_, _, _, _, rfl⟩
  have hG : GoodN N := by have := good_prs s.data.toList; rwa [hp] at this
  unfold clnS
  rw [hp]
  have HX : Hid (∀ w : World, Calls Try.prog 10 #[.string s] w fun e w' => ∃ (a : Option Addr) (c : Nat), e = .returned (.tuple #[.agg #[.slice a N.length c, .bool d], .int .i64 (i : Int), .int .i64 z]) ∧ w'.ownsRow w.heap.size 9 1 (.slice a N.length c) N.length (N.map Value.string) ∧ Below w.heap.size w w') := fun w => parse_at s hp w
  have HG : Hid (GoodN N) := hG
  clear hp hG
  by_cases hz : z = 0
  · subst hz
    rw [if_pos (show (N, d, i, (0 : Int)).2.2.2 = 0 from rfl)]
    generalize hq : bsL (frmL (N, d, i, (0 : Int)).1) = q
    have HQ : Hid (bsL (frmL N) = q) := hq
    clear hq
    show Calls _ _ _ _ fun e w' => e = .returned (.tuple #[.string q, .int .i64 0]) ∧ _
    go_enter Try.func13, Try.ntmps13
    go_wp2_with fail
    refine (HX.out _).mono ?_
    rintro e w1 ⟨a, c, rfl, ho, hb⟩
    have hb2 : Below w1.heap.size w1 (w1.alloc (.cells #[.slice a N.length c, .bool d] 25)) := (Below.refl _ w1).alloc (Nat.le_refl _) _
    have HF : Hid (Calls Try.prog 34 #[.slice a N.length c] (w1.alloc (.cells #[.slice a N.length c, .bool d] 25)) fun e w' => e = .returned (.string q) ∧ Below (w1.alloc (.cells #[.slice a N.length c, .bool d] 25)).heap.size (w1.alloc (.cells #[.slice a N.length c, .bool d] 25)) w') := by
      have := oneForm_any (c := c) (own_isN (kown_below ho hb2)) (own_cap ho) HG.out
      rwa [HQ.out] at this
    have HB : Hid (Below w.heap.size w (w1.alloc (.cells #[.slice a N.length c, .bool d] 25))) := hb.trans (hb2.mono hb.size)
    clear ho hb hb2
    go_wp2_with fail
    refine HF.out.mono ?_
    rintro e w3 ⟨rfl, hb3⟩
    go_wp2_with fail
    go_ret2
    exact ⟨rfl, HB.out.trans (hb3.mono HB.out.size)⟩
  · rw [if_neg (show ¬ (N, d, i, z).2.2.2 = 0 from hz)]
    show Calls _ _ _ _ fun e w' => e = .returned (.tuple #[.string ⟨#[]⟩, .int .i64 z]) ∧ _
    go_enter Try.func13, Try.ntmps13
    go_wp2_with fail
    refine (HX.out _).mono ?_
    rintro e w1 ⟨a, c, rfl, ho, hb⟩
    have hb2 : Below w1.heap.size w1 (w1.alloc (.cells #[.slice a N.length c, .bool d] 25)) := (Below.refl _ w1).alloc (Nat.le_refl _) _
    have HB : Hid (Below w.heap.size w (w1.alloc (.cells #[.slice a N.length c, .bool d] 25))) := hb.trans (hb2.mono hb.size)
    clear ho hb hb2
    go_wp2_with fail
    go_ret2
    exact ⟨rfl, HB.out⟩
/-- what Split answers: names, directory, the last name, error -/
def splR (l : List UInt8) : List ByteArray × Bool × ByteArray × Int :=
  if (prs l).2.2.2 = 0 then (match (prs l).1.getLast? with
    | none => ([], false, ⟨#[]⟩, 180)
    | some x => ((prs l).1.dropLast, true, x, 0)) else ([], false, ⟨#[]⟩, (prs l).2.2.2)
def SRet (l : List UInt8) (w : World) (e : Ending) (w' : World) : Prop :=
  ∃ v, e = .returned (.tuple #[.agg #[v, .bool (splR l).2.1], .string (splR l).2.2.1, .int .i64 (splR l).2.2.2]) ∧ w'.ownsRow w.heap.size 9 1 v (splR l).1.length ((splR l).1.map Value.string) ∧ Below w.heap.size w w'
theorem sret_of {l : List UInt8} {w W : World} {v : Value} {N : List ByteArray} {d : Bool} {x : ByteArray} {e : Int} (hp : splR l = (N, d, x, e)) (ho : W.ownsRow w.heap.size 9 1 v N.length (N.map Value.string)) (hb : Below w.heap.size w W) : SRet l w (.returned (.tuple #[.agg #[v, .bool d], .string x, .int .i64 e])) W := by
  unfold SRet
  rw [hp]
  exact ⟨v, rfl, ho, hb⟩
theorem sclone_any {w : World} {g o c : Nat} {N : List ByteArray} (hN : ∀ j x, N[j]? = some x → w.cell? ⟨g, o + j, none⟩ = some (.string x)) (hl : N.length ≤ 1000000) :
    Calls Try.prog 35 #[.slice (some ⟨g, o, none⟩) N.length c] w fun e w' => ∃ g' c', e = .returned (.slice (some ⟨g', 0, none⟩) N.length c') ∧ w'.ownsRow w.heap.size 9 1 (.slice (some ⟨g', 0, none⟩) N.length c') N.length (N.map Value.string) ∧ Below w.heap.size w w' := by
  refine (Any.slices_Clone_string Try.sclA g o N.length c N w (Nat.le_refl _) (by omega) (fun j hj => hN j _ (by simp [List.getElem?_eq_getElem hj]))).mono ?_
  rintro e w' ⟨v, rfl, ho, hn, hb⟩
  rw [List.take_length] at ho
  rcases ho.2 with ⟨rfl, _⟩ | ⟨g', c', cur, rfl, _⟩
  · exact absurd rfl hn
  · exact ⟨g', c', rfl, ho, hb⟩
end Go.Proofs.Ythoohhokoeihiaa

namespace Go.Proofs.Ythoohhokoeihiaa
open Go Go.RowKit Go.Shelf
set_option linter.unusedVariables false
set_option linter.unusedSimpArgs false
set_option maxRecDepth 100000 in
set_option maxHeartbeats 4000000 in
theorem split_any (s : ByteArray) (w : World) : Calls Try.prog 15 #[.string s] w fun e w' => SRet s.data.toList w e w' := by
  obtain ⟨N, d, i, z, hp⟩ : ∃ N d i z, prs s.data.toList = (N, d, i, z) := ⟨_, _, _, _, rfl⟩
  have hG : GoodN N := by have := good_prs s.data.toList; rwa [hp] at this
  have HX : Hid (∀ w : World, Calls Try.prog 10 #[.string s] w fun e w' => ∃ (a : Option Addr) (c : Nat), e = .returned (.tuple #[.agg #[.slice a N.length c, .bool d], .int .i64 (i : Int), .int .i64 z]) ∧ w'.ownsRow w.heap.size 9 1 (.slice a N.length c) N.length (N.map Value.string) ∧ Below w.heap.size w w') := fun w => parse_at s hp w
  have hn32 := hG.1
  have hba : Below w.heap.size w (w.alloc (.cells #[.slice none 0 0, .bool false] 25)) := (Below.refl _ w).alloc (Nat.le_refl _) _
  have ka := Blk.new w 25 #[.slice none 0 0, .bool false]
  by_cases hz : z = 0
  · subst hz
    rcases List.eq_nil_or_concat N with rfl | ⟨M, y, rfl⟩
    · have HR : Hid (splR s.data.toList = ([], false, ⟨#[]⟩, 180)) := by show splR _ = _; unfold splR; rw [hp]; rfl
      clear hp hG
      go_enter Try.func15, Try.ntmps15
      go_wp2_with fail
      refine (HX.out _).mono ?_
      rintro e w1 ⟨a, c, rfl, ho, hb⟩
      have k1 := (ka.below hb (by simp)).alloc (.cells #[.slice a 0 c, .bool d] 25)
      have hB := (hba.trans (hb.mono hba.size)).alloc (Nat.le_trans hba.size hb.size) (.cells #[.slice a 0 c, .bool d] 25)
      have c0 := k1.cell 0
      have c1 := k1.cell 1
      have f0 := k1.frozen 0
      have f1 := k1.frozen 1
      have kk := (k1.put 0 (.slice none 0 0)).put 1 (.bool false)
      have HE : Hid (_ ∧ _ ∧ _) := ⟨kk.cell 0, kk.cell 1, sret_of (v := .slice none 0 0) HR.out (World.ownsRow_nil _ _ _ _) ((hB.setCell (p := ⟨w.heap.size, 0, none⟩) (Nat.le_refl _) (.slice none 0 0)).setCell (p := ⟨w.heap.size, 1, none⟩) (Nat.le_refl _) (.bool false))⟩
      clear k1 hB kk ho hb
      go_wp2_with fail
      obtain ⟨r0, r1, hr⟩ := HE.out
      clear c0 c1 f0 f1
      generalize ((w1.alloc (.cells #[.slice a 0 c, .bool d] 25)).setCell ⟨w.heap.size, 0, none⟩ (.slice none 0 0)).setCell ⟨w.heap.size, 1, none⟩ (.bool false) = Wf at *
      refine bodyPost_ret (v := .tuple #[.agg #[.slice none 0 0, .bool false], .string ⟨#[]⟩, .int .i64 180]) ?_ rfl hr
      simp [results, Try.f15, go_sem, r0, r1]
    · rw [List.concat_eq_append] at *
      have HR : Hid (splR s.data.toList = (M, true, y, 0)) := by show splR _ = _; unfold splR; rw [hp]; simp
      have hlen : (M ++ [y]).length = M.length + 1 := by simp
      rw [hlen] at HX hn32
      clear hp hG
      obtain ⟨m, hm⟩ : ∃ m, M.length = m := ⟨_, rfl⟩
      have HM : Hid (M.length = m) := hm
      rw [hm] at HX hn32
      clear hm hlen
      go_enter Try.func15, Try.ntmps15
      go_wp2_with fail
      refine (HX.out _).mono ?_
      rintro e w1 ⟨a, c, rfl, ho, hb⟩
      obtain ⟨g, rfl⟩ : ∃ g, a = some ⟨g, 0, none⟩ := by
        obtain ⟨g, cap, hv⟩ := ownsRow_succ ho
        cases hv; exact ⟨g, rfl⟩
      have hmc := own_cap ho
      have k1 := (ka.below hb (by simp)).alloc (.cells #[.slice (some ⟨g, 0, none⟩) (m + 1) c, .bool d] 25)
      have k2 := Blk.new w1 25 #[.slice (some ⟨g, 0, none⟩) (m + 1) c, .bool d]
      have hs1 : w.heap.size < w1.heap.size := by have := hb.size; simp at this; omega
      have hB := (hba.trans (hb.mono hba.size)).alloc (Nat.le_trans hba.size hb.size) (.cells #[.slice (some ⟨g, 0, none⟩) (m + 1) c, .bool d] 25)
      have hO := ho.alloc (.cells #[.slice (some ⟨g, 0, none⟩) (m + 1) c, .bool d] 25)
      have HI : Hid (_ ∧ _ ∧ _ ∧ _) := ⟨k1, k2, hB, hO⟩
      have n1 : (m : Int) + 1 - 1 = (m : Int) := by omega
      have n2 : ¬ (m : Int) < 0 := by omega
      have gl := (hO.lt g rfl).2
      have hgb : w.heap.size < g := by have := (ho.lt g rfl).1; simp at this; omega
      clear k1 k2 hB hO ho hb HX ka hba
      go_wp2_with fail
      generalize hW : w1.alloc (.cells #[.slice (some ⟨g, 0, none⟩) (m + 1) c, .bool d] 25) = W at *
      have hWs : W.heap.size = w1.heap.size + 1 := by rw [← hW]; simp
      clear hW
      obtain ⟨k1, k2, hB, hO⟩ := HI.out
      have hy : W.cell? ⟨g, m, none⟩ = some (.string y) := by
        rw [hO.cellAt m (by omega), List.map_append, List.getElem?_append_right (by rw [List.length_map, HM.out]; exact Nat.le_refl _), List.length_map, HM.out, Nat.sub_self]
        rfl
      have HCl : Hid (∀ U, Below W.heap.size W U → Calls Try.prog 35 #[.slice (some ⟨g, 0, none⟩) m c] U fun e w' => ∃ g' c', e = .returned (.slice (some ⟨g', 0, none⟩) m c') ∧ w'.ownsRow U.heap.size 9 1 (.slice (some ⟨g', 0, none⟩) m c') m (M.map Value.string) ∧ Below U.heap.size U w') := fun U hU => by
        have := sclone_any (w := U) (g := g) (o := 0) (c := c) (N := M) (fun j x hj => by
          have hl := (List.getElem?_eq_some_iff.1 hj).1
          rw [HM.out] at hl
          rw [Nat.zero_add, (hU.cell (p := ⟨g, j, none⟩) gl), hO.cellAt j (by omega), List.map_append, List.getElem?_append_left (by rw [List.length_map, HM.out]; exact hl), List.getElem?_map, hj]
          rfl) (by rw [HM.out]; omega)
        rwa [HM.out] at this
      have i1 : (0 : Int) ≤ (m : Int) := by omega
      have i2 : (m : Int) ≤ (c : Int) := by omega
      have i3 : (m : Int) < (m : Int) + 1 := by omega
      have hS : (fun U : World => Blk U w1.heap.size 25 #[.slice (some ⟨g, 0, none⟩) (m + 1) c, .bool d] ∧ U.cell? ⟨g, m, none⟩ = some (.string y)) W.drew := ⟨k2, hy⟩
      refine wp_region_plan (fun U => Blk U w1.heap.size 25 #[.slice (some ⟨g, 0, none⟩) (m + 1) c, .bool d] ∧ U.cell? ⟨g, m, none⟩ = some (.string y)) (.yield [2] 0 (.yield [] 1 (.yield [] 3 (.yield [8] 6 (.yield [] 7 (.yield [] 9 (.yield [] 10 (.force [] 4 (.force [] 5 (.force [] 11 (.force [] 12 (.force [] 13 (.fin [])))))))))))))  (by kernel_rfl) (by kernel_rfl) hS (plan_yield ?_)
      simp only [List.cons_append, List.nil_append, List.append_nil, List.filterMap_cons, List.filterMap_nil, List.getElem?_toArray, List.getElem?_cons_zero, List.getElem?_cons_succ]
      go_wp2_with fail
      first
        | refine ⟨rfl, _, .pointer (some ⟨w1.heap.size, 0, none⟩), rfl, Or.inl ⟨by rfl, fun U hU => by go_simp⟩, plan_yield ?_⟩
        | refine ⟨rfl, .pointer (some ⟨w1.heap.size, 0, none⟩), Or.inl ⟨by rfl, fun U hU => by go_simp⟩, plan_yield ?_⟩
      simp only [Act.put, List.setIfInBounds_toArray, List.set_cons_zero, List.set_cons_succ]
      simp only [List.cons_append, List.nil_append, List.append_nil, List.filterMap_cons, List.filterMap_nil, List.getElem?_toArray, List.getElem?_cons_zero, List.getElem?_cons_succ]
      go_wp2_with fail
      first
        | refine ⟨rfl, _, .slice (some ⟨g, 0, none⟩) (m + 1) c, rfl, Or.inl ⟨by rfl, fun U hU => by have c1 := hU.1.cell 0; go_simp⟩, plan_yield ?_⟩
        | refine ⟨rfl, .slice (some ⟨g, 0, none⟩) (m + 1) c, Or.inl ⟨by rfl, fun U hU => by have c1 := hU.1.cell 0; go_simp⟩, plan_yield ?_⟩
      simp only [Act.put, List.setIfInBounds_toArray, List.set_cons_zero, List.set_cons_succ]
      simp only [List.cons_append, List.nil_append, List.append_nil, List.filterMap_cons, List.filterMap_nil, List.getElem?_toArray, List.getElem?_cons_zero, List.getElem?_cons_succ]
      go_wp2_with fail
      first
        | refine ⟨rfl, _, .slice (some ⟨g, 0, none⟩) m c, rfl, Or.inl ⟨by rfl, fun U hU => by go_simp⟩, plan_yield ?_⟩
        | refine ⟨rfl, .slice (some ⟨g, 0, none⟩) m c, Or.inl ⟨by rfl, fun U hU => by go_simp⟩, plan_yield ?_⟩
      simp only [Act.put, List.setIfInBounds_toArray, List.set_cons_zero, List.set_cons_succ]
      simp only [List.cons_append, List.nil_append, List.append_nil, List.filterMap_cons, List.filterMap_nil, List.getElem?_toArray, List.getElem?_cons_zero, List.getElem?_cons_succ]
      go_wp2_with fail
      first
        | refine ⟨rfl, _, .pointer (some ⟨w1.heap.size, 0, none⟩), rfl, Or.inl ⟨by rfl, fun U hU => by go_simp⟩, plan_yield ?_⟩
        | refine ⟨rfl, .pointer (some ⟨w1.heap.size, 0, none⟩), Or.inl ⟨by rfl, fun U hU => by go_simp⟩, plan_yield ?_⟩
      simp only [Act.put, List.setIfInBounds_toArray, List.set_cons_zero, List.set_cons_succ]
      simp only [List.cons_append, List.nil_append, List.append_nil, List.filterMap_cons, List.filterMap_nil, List.getElem?_toArray, List.getElem?_cons_zero, List.getElem?_cons_succ]
      go_wp2_with fail
      first
        | refine ⟨rfl, _, .slice (some ⟨g, 0, none⟩) (m + 1) c, rfl, Or.inl ⟨by rfl, fun U hU => by have c1 := hU.1.cell 0; go_simp⟩, plan_yield ?_⟩
        | refine ⟨rfl, .slice (some ⟨g, 0, none⟩) (m + 1) c, Or.inl ⟨by rfl, fun U hU => by have c1 := hU.1.cell 0; go_simp⟩, plan_yield ?_⟩
      simp only [Act.put, List.setIfInBounds_toArray, List.set_cons_zero, List.set_cons_succ]
      simp only [List.cons_append, List.nil_append, List.append_nil, List.filterMap_cons, List.filterMap_nil, List.getElem?_toArray, List.getElem?_cons_zero, List.getElem?_cons_succ]
      go_wp2_with fail
      first
        | refine ⟨rfl, _, .pointer (some ⟨g, m, none⟩), rfl, Or.inl ⟨by rfl, fun U hU => by go_simp⟩, plan_yield ?_⟩
        | refine ⟨rfl, .pointer (some ⟨g, m, none⟩), Or.inl ⟨by rfl, fun U hU => by go_simp⟩, plan_yield ?_⟩
      simp only [Act.put, List.setIfInBounds_toArray, List.set_cons_zero, List.set_cons_succ]
      simp only [List.cons_append, List.nil_append, List.append_nil, List.filterMap_cons, List.filterMap_nil, List.getElem?_toArray, List.getElem?_cons_zero, List.getElem?_cons_succ]
      go_wp2_with fail
      first
        | refine ⟨rfl, _, .string y, rfl, Or.inl ⟨by rfl, fun U hU => by have c1 := hU.2; go_simp⟩, plan_force ?_⟩
        | refine ⟨rfl, .string y, Or.inl ⟨by rfl, fun U hU => by have c1 := hU.2; go_simp⟩, plan_force ?_⟩
      simp only [Act.put, List.setIfInBounds_toArray, List.set_cons_zero, List.set_cons_succ]
      simp only [List.cons_append, List.nil_append, List.append_nil, List.filterMap_cons, List.filterMap_nil, List.getElem?_toArray, List.getElem?_cons_zero, List.getElem?_cons_succ]
      go_wp2_with fail
      refine (HCl.out _ (Below.refl _ W).drew).mono ?_
      rintro e U1 ⟨g', c', rfl, hO1, hU1⟩
      have hb1 : Below W.heap.size W U1 := (Below.refl _ W).drew.trans hU1
      have q1 := k1.below hb1 k1.lt
      have q0 := hB.trans (hb1.mono hB.size)
      have hO2 : U1.ownsRow (w.heap.size + 1) 9 1 (.slice (some ⟨g', 0, none⟩) m c') m (M.map Value.string) := kown_mono hO1 (by show w.heap.size + 1 ≤ W.heap.size; omega)
      have c0 := q1.cell 0
      have c1 := q1.cell 1
      have f0 := q1.frozen 0
      have f1 := q1.frozen 1
      have kk := (q1.put 0 (.slice (some ⟨g', 0, none⟩) m c')).put 1 (.bool true)
      have HE : Hid (_ ∧ _ ∧ SRet s.data.toList w (.returned (.tuple #[.agg #[.slice (some ⟨g', 0, none⟩) m c', .bool true], .string y, .int .i64 0])) ((U1.setCell ⟨w.heap.size, 0, none⟩ (.slice (some ⟨g', 0, none⟩) m c')).setCell ⟨w.heap.size, 1, none⟩ (.bool true))) := ⟨kk.cell 0, kk.cell 1, sret_of HR.out (by rw [HM.out]; exact kown_mono (own_cell (own_cell hO2 (by omega) _) (by omega) _) (by omega)) ((q0.setCell (p := ⟨w.heap.size, 0, none⟩) (Nat.le_refl _) _).setCell (p := ⟨w.heap.size, 1, none⟩) (Nat.le_refl _) _)⟩
      have s1 : Blk U1 w1.heap.size 25 #[.slice (some ⟨g, 0, none⟩) (m + 1) c, .bool d] ∧ U1.cell? ⟨g, m, none⟩ = some (.string y) := ⟨k2.below hb1 k2.lt, (hb1.cell (p := ⟨g, m, none⟩) gl).trans hy⟩
      have s2 : Blk ((U1.setCell ⟨w.heap.size, 0, none⟩ (.slice (some ⟨g', 0, none⟩) m c')).setCell ⟨w.heap.size, 1, none⟩ (.bool true)) w1.heap.size 25 #[.slice (some ⟨g, 0, none⟩) (m + 1) c, .bool d] ∧ ((U1.setCell ⟨w.heap.size, 0, none⟩ (.slice (some ⟨g', 0, none⟩) m c')).setCell ⟨w.heap.size, 1, none⟩ (.bool true)).cell? ⟨g, m, none⟩ = some (.string y) := ⟨(s1.1.put_other _ _ (by omega)).put_other _ _ (by omega), ((World.cell?_of_block (Below.heap_setCell _ _ _ g (by show g ≠ w.heap.size; omega))).trans (World.cell?_of_block (Below.heap_setCell _ _ _ g (by show g ≠ w.heap.size; omega)))).trans s1.2⟩
      have HS1 : Hid (_ ∧ _) := s1
      have HS2 : Hid (_ ∧ _) := s2
      clear kk q1 q0 hO2 hO1 k1 k2 hB hO HCl s1 s2 hS hy
      go_wp2_with fail
      refine ⟨rfl, HS1.out, plan_force ?_⟩
      simp only [List.cons_append, List.nil_append, List.append_nil, List.filterMap_cons, List.filterMap_nil, List.getElem?_toArray, List.getElem?_cons_zero, List.getElem?_cons_succ]
      go_wp2_with fail
      refine ⟨rfl, HS1.out, plan_force ?_⟩
      simp only [List.cons_append, List.nil_append, List.append_nil, List.filterMap_cons, List.filterMap_nil, List.getElem?_toArray, List.getElem?_cons_zero, List.getElem?_cons_succ]
      go_wp2_with fail
      refine ⟨rfl, HS2.out, plan_force ?_⟩
      simp only [List.cons_append, List.nil_append, List.append_nil, List.filterMap_cons, List.filterMap_nil, List.getElem?_toArray, List.getElem?_cons_zero, List.getElem?_cons_succ]
      go_wp2_with fail
      refine ⟨rfl, HS2.out, plan_force ?_⟩
      simp only [List.cons_append, List.nil_append, List.append_nil, List.filterMap_cons, List.filterMap_nil, List.getElem?_toArray, List.getElem?_cons_zero, List.getElem?_cons_succ]
      go_wp2_with fail
      refine ⟨rfl, HS2.out, plan_fin ?_⟩
      simp only [List.cons_append, List.nil_append, List.append_nil, List.filterMap_cons, List.filterMap_nil, List.getElem?_toArray, List.getElem?_cons_zero, List.getElem?_cons_succ]
      go_wp2_with fail
      refine ⟨rfl, ?_⟩
      clear HS1 HS2 c0 c1 f0 f1
      go_wp2_with fail
      obtain ⟨r0, r1, hr⟩ := HE.out
      generalize (U1.setCell ⟨w.heap.size, 0, none⟩ (.slice (some ⟨g', 0, none⟩) m c')).setCell ⟨w.heap.size, 1, none⟩ (.bool true) = Wf at *
      refine bodyPost_ret (v := .tuple #[.agg #[.slice (some ⟨g', 0, none⟩) m c', .bool true], .string y, .int .i64 0]) ?_ rfl hr
      simp [results, Try.f15, go_sem, r0, r1]
  · have HR : Hid (splR s.data.toList = ([], false, ⟨#[]⟩, z)) := by show splR _ = _; unfold splR; rw [hp, if_neg (show ¬ (N, d, i, z).2.2.2 = 0 from hz)]
    clear hp hG
    go_enter Try.func15, Try.ntmps15
    go_wp2_with fail
    refine (HX.out _).mono ?_
    rintro e w1 ⟨a, c, rfl, ho, hb⟩
    have k1 := (ka.below hb (by simp)).alloc (.cells #[.slice a N.length c, .bool d] 25)
    have hB := (hba.trans (hb.mono hba.size)).alloc (Nat.le_trans hba.size hb.size) (.cells #[.slice a N.length c, .bool d] 25)
    have c0 := k1.cell 0
    have c1 := k1.cell 1
    have f0 := k1.frozen 0
    have f1 := k1.frozen 1
    have kk := (k1.put 0 (.slice none 0 0)).put 1 (.bool false)
    have HE : Hid (_ ∧ _ ∧ _) := ⟨kk.cell 0, kk.cell 1, sret_of (v := .slice none 0 0) HR.out (World.ownsRow_nil _ _ _ _) ((hB.setCell (p := ⟨w.heap.size, 0, none⟩) (Nat.le_refl _) (.slice none 0 0)).setCell (p := ⟨w.heap.size, 1, none⟩) (Nat.le_refl _) (.bool false))⟩
    clear k1 hB kk ho hb
    go_wp2_with fail
    obtain ⟨r0, r1, hr⟩ := HE.out
    clear c0 c1 f0 f1
    generalize ((w1.alloc (.cells #[.slice a N.length c, .bool d] 25)).setCell ⟨w.heap.size, 0, none⟩ (.slice none 0 0)).setCell ⟨w.heap.size, 1, none⟩ (.bool false) = Wf at *
    refine bodyPost_ret (v := .tuple #[.agg #[.slice none 0 0, .bool false], .string ⟨#[]⟩, .int .i64 z]) ?_ rfl hr
    simp [results, Try.f15, go_sem, r0, r1]
set_option maxRecDepth 100000 in
set_option maxHeartbeats 4000000 in
theorem rsplit_any (s : ByteArray) (w : World) : Calls Try.prog 16 #[.string s] w fun e w' => SRet s.data.toList w e w' := by
  obtain ⟨N, d, i, z, hp⟩ : ∃ N d i z, prs s.data.toList = (N, d, i, z) := ⟨_, _, _, _, rfl⟩
  have hG : GoodN N := by have := good_prs s.data.toList; rwa [hp] at this
  have HX : Hid (∀ w : World, Calls Try.prog 11 #[.string s] w fun e w' => ∃ (a : Option Addr) (c : Nat), e = .returned (.tuple #[.agg #[.slice a N.length c, .bool d], .int .i64 (i : Int), .int .i64 z]) ∧ w'.ownsRow w.heap.size 9 1 (.slice a N.length c) N.length (N.map Value.string) ∧ Below w.heap.size w w') := fun w => rparse_at s hp w
  have hn32 := hG.1
  have hba : Below w.heap.size w (w.alloc (.cells #[.slice none 0 0, .bool false] 29)) := (Below.refl _ w).alloc (Nat.le_refl _) _
  have ka := Blk.new w 29 #[.slice none 0 0, .bool false]
  by_cases hz : z = 0
  · subst hz
    rcases List.eq_nil_or_concat N with rfl | ⟨M, y, rfl⟩
    · have HR : Hid (splR s.data.toList = ([], false, ⟨#[]⟩, 180)) := by show splR _ = _; unfold splR; rw [hp]; rfl
      clear hp hG
      go_enter Try.func16, Try.ntmps16
      go_wp2_with fail
      refine (HX.out _).mono ?_
      rintro e w1 ⟨a, c, rfl, ho, hb⟩
      have k1 := (ka.below hb (by simp)).alloc (.cells #[.slice a 0 c, .bool d] 29)
      have hB := (hba.trans (hb.mono hba.size)).alloc (Nat.le_trans hba.size hb.size) (.cells #[.slice a 0 c, .bool d] 29)
      have c0 := k1.cell 0
      have c1 := k1.cell 1
      have f0 := k1.frozen 0
      have f1 := k1.frozen 1
      have kk := (k1.put 0 (.slice none 0 0)).put 1 (.bool false)
      have HE : Hid (_ ∧ _ ∧ _) := ⟨kk.cell 0, kk.cell 1, sret_of (v := .slice none 0 0) HR.out (World.ownsRow_nil _ _ _ _) ((hB.setCell (p := ⟨w.heap.size, 0, none⟩) (Nat.le_refl _) (.slice none 0 0)).setCell (p := ⟨w.heap.size, 1, none⟩) (Nat.le_refl _) (.bool false))⟩
      clear k1 hB kk ho hb
      go_wp2_with fail
      obtain ⟨r0, r1, hr⟩ := HE.out
      clear c0 c1 f0 f1
      generalize ((w1.alloc (.cells #[.slice a 0 c, .bool d] 29)).setCell ⟨w.heap.size, 0, none⟩ (.slice none 0 0)).setCell ⟨w.heap.size, 1, none⟩ (.bool false) = Wf at *
      refine bodyPost_ret (v := .tuple #[.agg #[.slice none 0 0, .bool false], .string ⟨#[]⟩, .int .i64 180]) ?_ rfl hr
      simp [results, Try.f16, go_sem, r0, r1]
    · rw [List.concat_eq_append] at *
      have HR : Hid (splR s.data.toList = (M, true, y, 0)) := by show splR _ = _; unfold splR; rw [hp]; simp
      have hlen : (M ++ [y]).length = M.length + 1 := by simp
      rw [hlen] at HX hn32
      clear hp hG
      obtain ⟨m, hm⟩ : ∃ m, M.length = m := ⟨_, rfl⟩
      have HM : Hid (M.length = m) := hm
      rw [hm] at HX hn32
      clear hm hlen
      go_enter Try.func16, Try.ntmps16
      go_wp2_with fail
      refine (HX.out _).mono ?_
      rintro e w1 ⟨a, c, rfl, ho, hb⟩
      obtain ⟨g, rfl⟩ : ∃ g, a = some ⟨g, 0, none⟩ := by
        obtain ⟨g, cap, hv⟩ := ownsRow_succ ho
        cases hv; exact ⟨g, rfl⟩
      have hmc := own_cap ho
      have k1 := (ka.below hb (by simp)).alloc (.cells #[.slice (some ⟨g, 0, none⟩) (m + 1) c, .bool d] 29)
      have k2 := Blk.new w1 29 #[.slice (some ⟨g, 0, none⟩) (m + 1) c, .bool d]
      have hs1 : w.heap.size < w1.heap.size := by have := hb.size; simp at this; omega
      have hB := (hba.trans (hb.mono hba.size)).alloc (Nat.le_trans hba.size hb.size) (.cells #[.slice (some ⟨g, 0, none⟩) (m + 1) c, .bool d] 29)
      have hO := ho.alloc (.cells #[.slice (some ⟨g, 0, none⟩) (m + 1) c, .bool d] 29)
      have HI : Hid (_ ∧ _ ∧ _ ∧ _) := ⟨k1, k2, hB, hO⟩
      have n1 : (m : Int) + 1 - 1 = (m : Int) := by omega
      have n2 : ¬ (m : Int) < 0 := by omega
      have gl := (hO.lt g rfl).2
      have hgb : w.heap.size < g := by have := (ho.lt g rfl).1; simp at this; omega
      clear k1 k2 hB hO ho hb HX ka hba
      go_wp2_with fail
      generalize hW : w1.alloc (.cells #[.slice (some ⟨g, 0, none⟩) (m + 1) c, .bool d] 29) = W at *
      have hWs : W.heap.size = w1.heap.size + 1 := by rw [← hW]; simp
      clear hW
      obtain ⟨k1, k2, hB, hO⟩ := HI.out
      have hy : W.cell? ⟨g, m, none⟩ = some (.string y) := by
        rw [hO.cellAt m (by omega), List.map_append, List.getElem?_append_right (by rw [List.length_map, HM.out]; exact Nat.le_refl _), List.length_map, HM.out, Nat.sub_self]
        rfl
      have i1 : (0 : Int) ≤ (m : Int) := by omega
      have i2 : (m : Int) ≤ (c : Int) := by omega
      have i3 : (m : Int) < (m : Int) + 1 := by omega
      have kd := k1
      have ke := k2
      have c0 := kd.cell 0
      have c1 := kd.cell 1
      have f0 := kd.frozen 0
      have f1 := kd.frozen 1
      have e0 := ke.cell 0
      have c1' := (kd.put 0 (.slice (some ⟨g, 0, none⟩) m c)).cell 1
      have f1' := (kd.put 0 (.slice (some ⟨g, 0, none⟩) m c)).frozen 1
      have iw : IntKind.i64.wrap (m : Int) = (m : Int) := by
        rw [IntKind.wrap_i64]
        omega
      have hP : W.ownsRow (w.heap.size + 1) 9 1 (.slice (some ⟨g, 0, none⟩) m c) m (M.map Value.string) := by
        rw [List.map_append] at hO
        have := ownsRow_pop (by rw [List.length_map, HM.out, Nat.mul_one]) hO
        exact kown_mono this (by simp)
      have kk := (k1.put 0 (.slice (some ⟨g, 0, none⟩) m c)).put 1 (.bool true)
      have HE : Hid (_ ∧ _ ∧ SRet s.data.toList w (.returned (.tuple #[.agg #[.slice (some ⟨g, 0, none⟩) m c, .bool true], .string y, .int .i64 0])) (((W.setCell ⟨w.heap.size, 0, none⟩ (.slice (some ⟨g, 0, none⟩) m c)).setCell ⟨w.heap.size, 1, none⟩ (.bool true)).drew)) := ⟨kk.cell 0, kk.cell 1, sret_of HR.out (by rw [HM.out]; exact kown_mono (own_cell (own_cell hP (by omega) _) (by omega) _).drew (by omega)) (((hB.setCell (p := ⟨w.heap.size, 0, none⟩) (Nat.le_refl _) _).setCell (p := ⟨w.heap.size, 1, none⟩) (Nat.le_refl _) _).drew)⟩
      clear kk k1 k2 kd ke hB hO hP
      go_region
      go_wp2_with fail
      obtain ⟨r0, r1, hr⟩ := HE.out
      clear c0 c1 f0 f1 c1' f1' hy e0
      have r0' : (((W.setCell ⟨w.heap.size, 0, none⟩ (.slice (some ⟨g, 0, none⟩) m c)).setCell ⟨w.heap.size, 1, none⟩ (.bool true)).drew).cell? ⟨w.heap.size, 0, none⟩ = some (.slice (some ⟨g, 0, none⟩) m c) := r0
      have r1' : (((W.setCell ⟨w.heap.size, 0, none⟩ (.slice (some ⟨g, 0, none⟩) m c)).setCell ⟨w.heap.size, 1, none⟩ (.bool true)).drew).cell? ⟨w.heap.size, 1, none⟩ = some (.bool true) := r1
      clear r0 r1
      generalize ((W.setCell ⟨w.heap.size, 0, none⟩ (.slice (some ⟨g, 0, none⟩) m c)).setCell ⟨w.heap.size, 1, none⟩ (.bool true)).drew = Wf at *
      refine bodyPost_ret (v := .tuple #[.agg #[.slice (some ⟨g, 0, none⟩) m c, .bool true], .string y, .int .i64 0]) ?_ rfl hr
      simp [results, Try.f16, go_sem, r0', r1']
  · have HR : Hid (splR s.data.toList = ([], false, ⟨#[]⟩, z)) := by show splR _ = _; unfold splR; rw [hp, if_neg (show ¬ (N, d, i, z).2.2.2 = 0 from hz)]
    clear hp hG
    go_enter Try.func16, Try.ntmps16
    go_wp2_with fail
    refine (HX.out _).mono ?_
    rintro e w1 ⟨a, c, rfl, ho, hb⟩
    have k1 := (ka.below hb (by simp)).alloc (.cells #[.slice a N.length c, .bool d] 29)
    have hB := (hba.trans (hb.mono hba.size)).alloc (Nat.le_trans hba.size hb.size) (.cells #[.slice a N.length c, .bool d] 29)
    have c0 := k1.cell 0
    have c1 := k1.cell 1
    have f0 := k1.frozen 0
    have f1 := k1.frozen 1
    have kk := (k1.put 0 (.slice none 0 0)).put 1 (.bool false)
    have HE : Hid (_ ∧ _ ∧ _) := ⟨kk.cell 0, kk.cell 1, sret_of (v := .slice none 0 0) HR.out (World.ownsRow_nil _ _ _ _) ((hB.setCell (p := ⟨w.heap.size, 0, none⟩) (Nat.le_refl _) (.slice none 0 0)).setCell (p := ⟨w.heap.size, 1, none⟩) (Nat.le_refl _) (.bool false))⟩
    clear k1 hB kk ho hb
    go_wp2_with fail
    obtain ⟨r0, r1, hr⟩ := HE.out
    clear c0 c1 f0 f1
    generalize ((w1.alloc (.cells #[.slice a N.length c, .bool d] 29)).setCell ⟨w.heap.size, 0, none⟩ (.slice none 0 0)).setCell ⟨w.heap.size, 1, none⟩ (.bool false) = Wf at *
    refine bodyPost_ret (v := .tuple #[.agg #[.slice none 0 0, .bool false], .string ⟨#[]⟩, .int .i64 z]) ?_ rfl hr
    simp [results, Try.f16, go_sem, r0, r1]
end Go.Proofs.Ythoohhokoeihiaa

namespace Go.Proofs.Ythoohhokoeihiaa
open Go Go.RowKit Go.Shelf
set_option linter.unusedVariables false
set_option linter.unusedSimpArgs false
theorem prs_awake : prs [47, 97, 47, 47, 98, 47, 46, 47, 99, 47, 46, 46, 47, 100] = ([⟨#[97]⟩, ⟨#[98]⟩, ⟨#[100]⟩], false, 0, 0) := by kernel_rfl
set_option maxRecDepth 100000 in
set_option maxHeartbeats 4000000 in
theorem awake18_any (w : World) : Calls Try.prog 9 #[] w fun e w' => e = .returned (.bool true) ∧ Below w.heap.size w w' := by
  have HX : Hid (∀ w : World, Calls Try.prog 10 #[.string ⟨#[47, 97, 47, 47, 98, 47, 46, 47, 99, 47, 46, 46, 47, 100]⟩] w fun e w' => ∃ g cap, e = .returned (.tuple #[.agg #[.slice (some ⟨g, 0, none⟩) 3 cap, .bool false], .int .i64 0, .int .i64 0]) ∧ w'.cell? ⟨g, 2, none⟩ = some (.string ⟨#[100]⟩) ∧ g < w'.heap.size ∧ Below w.heap.size w w') := fun w => by
    refine (parse_any _ w).mono ?_
    rintro e w' ⟨v, he, ho, hb⟩
    have e1 : prs ((⟨#[47, 97, 47, 47, 98, 47, 46, 47, 99, 47, 46, 46, 47, 100]⟩ : ByteArray).data.toList) = ([⟨#[97]⟩, ⟨#[98]⟩, ⟨#[100]⟩], false, 0, 0) := prs_awake
    rw [e1] at he ho
    obtain ⟨g, cap, rfl⟩ := ownsRow_succ ho
    exact ⟨g, cap, he, ho.cellAt 2 (by decide), (ho.lt g rfl).2, hb⟩
  go_enter Try.func9, Try.ntmps9
  go_wp2_with fail
  refine (HX.out _).mono ?_
  rintro e w9 ⟨g, cap, rfl, hc, hg, hb⟩
  have hb2 := hb.alloc hb.size (.cells #[.slice (some ⟨g, 0, none⟩) 3 cap, .bool false] 25)
  have hc2 : (w9.alloc (.cells #[.slice (some ⟨g, 0, none⟩) 3 cap, .bool false] 25)).cell? ⟨g, 2, none⟩ = some (.string ⟨#[100]⟩) := (((Below.refl _ w9).alloc (Nat.le_refl _) _).cell (p := ⟨g, 2, none⟩) hg).trans hc
  go_wp2_with fail
  go_ret
  exact ⟨rfl, hb2⟩
end Go.Proofs.Ythoohhokoeihiaa

namespace Go.Proofs.Ythoohhokoeihiaa
open Go Go.RowKit Go.Shelf
set_option linter.unusedVariables false
set_option linter.unusedSimpArgs false
theorem IsN.cell_other {w : World} {a : Option Addr} {N : List ByteArray} (h : IsN w a N) {g j : Nat} (u : Value) (hg : ∀ k o, a = some ⟨k, o, none⟩ → k ≠ g) : IsN (w.setCell ⟨g, j, none⟩ u) a N := by
  rcases h with h | ⟨k, o, rfl, hk, hc⟩
  · exact .inl h
  · refine .inr ⟨k, o, rfl, by rw [World.size_setCell]; exact hk, fun i x hx => ?_⟩
    exact (World.cell?_of_block (Below.heap_setCell _ _ _ k (hg k o rfl))).trans (hc i x hx)
theorem own_far {w : World} {B n m c : Nat} {a : Option Addr} {t : TypeId} {xs : List Value} (h : w.ownsRow B t 1 (.slice a m c) n xs) : ∀ k o, a = some ⟨k, o, none⟩ → B ≤ k := by
  intro k o e
  subst e
  exact (h.lt k rfl).1
/-- Split told in single things -/
theorem split_at (s : ByteArray) {N : List ByteArray} {d : Bool} {x : ByteArray} {z : Int} (hp : splR s.data.toList = (N, d, x, z)) (w : World) : Calls Try.prog 15 #[.string s] w fun e w' => ∃ (a : Option Addr) (c : Nat), e = .returned (.tuple #[.agg #[.slice a N.length c, .bool d], .string x, .int .i64 z]) ∧ w'.ownsRow w.heap.size 9 1 (.slice a N.length c) N.length (N.map Value.string) ∧ Below w.heap.size w w' := by
  refine (split_any s w).mono ?_
  rintro e w' ⟨v, he, ho, hb⟩
  rw [hp] at he ho
  obtain ⟨a, c, rfl⟩ := kown_slice ho
  exact ⟨a, c, he, ho, hb⟩
theorem rsplit_at (s : ByteArray) {N : List ByteArray} {d : Bool} {x : ByteArray} {z : Int} (hp : splR s.data.toList = (N, d, x, z)) (w : World) : Calls Try.prog 16 #[.string s] w fun e w' => ∃ (a : Option Addr) (c : Nat), e = .returned (.tuple #[.agg #[.slice a N.length c, .bool d], .string x, .int .i64 z]) ∧ w'.ownsRow w.heap.size 9 1 (.slice a N.length c) N.length (N.map Value.string) ∧ Below w.heap.size w w' := by
  refine (rsplit_any s w).mono ?_
  rintro e w' ⟨v, he, ho, hb⟩
  rw [hp] at he ho
  obtain ⟨a, c, rfl⟩ := kown_slice ho
  exact ⟨a, c, he, ho, hb⟩
theorem lsame_yes {w : World} {a b : Option Addr} {c d : Nat} {N : List ByteArray} (hN : IsN w a N) (hM : IsN w b N) (h1 : N.length ≤ 9223372036854775807) (p : Bool) :
    Calls Try.prog 12 #[.agg #[.slice a N.length c, .bool p], .agg #[.slice b N.length d, .bool p]] w fun e w' => e = .returned (.bool true) ∧ Below w.heap.size w w' := by
  have := lsame_any (c := c) (d := d) hN hM h1 h1 p p
  rwa [decide_eq_true rfl, decide_eq_true rfl, Bool.and_true] at this
theorem spl_good (l : List UInt8) : (splR l).1.length ≤ 32 := by
  unfold splR
  split
  · split
    · simp
    · have := (good_prs l).1
      simp
      omega
  · simp
set_option maxRecDepth 100000 in
set_option maxHeartbeats 8000000 in
theorem pathParsesLaw (s : ByteArray) (w : World) : Calls Try.prog 3 #[.string s] w fun e w' => e = .returned (.bool true) ∧ Below w.heap.size w w' := by
  obtain ⟨N, d, i, z, hp⟩ : ∃ N d i z, prs s.data.toList = (N, d, i, z) := ⟨_, _, _, _, rfl⟩
  obtain ⟨M, d2, y, z2, hq⟩ : ∃ M d2 y z2, splR s.data.toList = (M, d2, y, z2) := ⟨_, _, _, _, rfl⟩
  have hG : GoodN N := by have := good_prs s.data.toList; rwa [hp] at this
  have hM32 : M.length ≤ 32 := by have := spl_good s.data.toList; rwa [hq] at this
  have hN32 := hG.1
  have HA : Hid (∀ w : World, Calls Try.prog 9 #[] w fun e w' => e = .returned (.bool true) ∧ Below w.heap.size w w') := awake18_any
  have HP := parse_at s hp
  have HR := rparse_at s hp
  have HS := split_at s hq
  have HT := rsplit_at s hq
  have HC := clean_any s
  rw [hp] at HC
  have hcl : clnS s.data.toList = if z = 0 then bsL (frmL N) else ⟨#[]⟩ := by unfold clnS; rw [hp]
  rw [hcl] at HC
  have HH : Hid (_ ∧ _ ∧ _ ∧ _ ∧ _) := ⟨HP, HR, HS, HT, HC⟩
  have HG : Hid (GoodN N) := hG
  clear HP HR HS HT HC hp hq hcl hG
  have hii : ((i : Int) != (i : Int)) = false := by simp
  have hzz : (z != z) = false := by simp
  have hz2 : (z2 == z2) = true := by simp
  have hyy : (y.toList == y.toList) = true := by simp
  go_enter Try.func3, Try.ntmps3
  go_wp2_with fail
  refine (HA.out _).mono ?_
  rintro e w1 ⟨rfl, hb1⟩
  go_wp2_with fail
  refine (HH.out.1 _).mono ?_
  rintro e w2 ⟨a, c, rfl, ho2, hb2⟩
  have hB2 := hb1.trans (hb2.mono hb1.size)
  have k2 := Blk.new w2 25 #[.slice a N.length c, .bool d]
  have n2 := (own_isN ho2).below ((Below.refl _ w2).alloc (Nat.le_refl _) (.cells #[.slice a N.length c, .bool d] 25))
  have hB2a := hB2.alloc hB2.size (.cells #[.slice a N.length c, .bool d] 25)
  have hlt2 : w2.heap.size < (w2.alloc (.cells #[.slice a N.length c, .bool d] 25)).heap.size := by simp
  have hws2 : w.heap.size ≤ w2.heap.size := hB2.size
  clear hb1 hb2 hB2 ho2
  go_wp2_with fail
  generalize w2.alloc (.cells #[.slice a N.length c, .bool d] 25) = w2a at *
  generalize w2.heap.size = gp at *
  refine (HH.out.2.1 _).mono ?_
  rintro e w3 ⟨a', c', rfl, ho3, hb3⟩
  have al3 := (Below.refl w3.heap.size w3).alloc (Nat.le_refl _) (.cells #[.slice a' N.length c', .bool d] 29)
  have al3' := hb3.alloc hb3.size (.cells #[.slice a' N.length c', .bool d] 29)
  have k3 := k2.below al3' k2.lt
  have q3 := Blk.new w3 29 #[.slice a' N.length c', .bool d]
  have n3 := n2.below al3'
  have m3 := (own_isN ho3).below al3
  have hB3 := hB2a.trans (al3'.mono hB2a.size)
  have hgq : gp < w3.heap.size := Nat.lt_of_lt_of_le k2.lt hb3.size
  have hws3 : w.heap.size ≤ w3.heap.size := by omega
  have cp0 := k3.cell 0
  have cp1 := k3.cell 1
  have cq0 := q3.cell 0
  have cq1 := q3.cell 1
  clear al3 al3' hb3 k2 n2 ho3 hB2a hlt2
  have HI : Hid (_ ∧ _ ∧ _ ∧ _ ∧ _) := ⟨k3, q3, n3, m3, hB3⟩
  clear k3 q3 n3 m3 hB3
  go_wp2_with fail
  obtain ⟨k3, q3, n3, m3, hB3⟩ := HI.out
  clear HI
  generalize w3.alloc (.cells #[.slice a' N.length c', .bool d] 29) = w3a at *
  generalize w3.heap.size = gq at *
  refine (lsame_yes n3 m3 (by omega) d).mono ?_
  rintro e w4 ⟨rfl, hb4⟩
  have k4 := k3.below hb4 k3.lt
  have q4 := q3.below hb4 q3.lt
  have m4 := m3.below hb4
  have hB4 := hB3.trans (hb4.mono hB3.size)
  clear k3 q3 n3 m3 hB3 hb4 cp0 cp1 cq0 cq1
  have HI : Hid (_ ∧ _ ∧ _ ∧ _) := ⟨k4, q4, m4, hB4⟩
  clear k4 q4 m4 hB4
  by_cases hz : z = 0
  · subst hz
    have HC := HH.out.2.2.2.2
    rw [if_pos rfl] at HC
    have HF : Hid (∀ U, IsN U a' N → Calls Try.prog 14 #[.slice a' N.length c'] U fun e w' => e = .returned (.string (bsL (frmL N))) ∧ w' = U) := fun U hU => form18_any hU HG.out
    generalize bsL (frmL N) = t at *
    have htt : (t.toList != t.toList) = false := by simp
    go_wp2_with fail
    refine (HC _).mono ?_
    rintro e w5 ⟨rfl, hb5⟩
    obtain ⟨k4, q4, m4, hB4⟩ := HI.out
    have k5 := k4.below hb5 k4.lt
    have q5 := q4.below hb5 q4.lt
    have m5 := m4.below hb5
    have hB5 := hB4.trans (hb5.mono hB4.size)
    have cq0 := q5.cell 0
    clear k4 q4 m4 hB4 hb5 HI HC
    have HI : Hid (_ ∧ _ ∧ _ ∧ _) := ⟨k5, q5, m5, hB5⟩
    clear k5 q5 m5 hB5
    go_wp2_with fail
    refine (HF.out _ HI.out.2.2.1).mono ?_
    rintro e w9 ⟨rfl, hw9⟩
    subst w9
    clear cq0 HF
    go_wp2_with fail
    refine (HH.out.2.2.1 _).mono ?_
    rintro e w6 ⟨a2, c2, rfl, ho6, hb6⟩
    obtain ⟨k4, q4, m4, hB4⟩ := HI.out
    have k6 := k4.below hb6 k4.lt
    have q6 := q4.below hb6 q4.lt
    have hB6 := hB4.trans (hb6.mono hB4.size)
    have cp0 := k6.cell 0
    have cp1 := k6.cell 1
    have fp0 := k6.frozen 0
    have fp1 := k6.frozen 1
    have k6a := (k6.put 0 (.slice a2 M.length c2)).put 1 (.bool d2)
    have q6a := (q6.put_other (g := gp) 0 (.slice a2 M.length c2) (by omega)).put_other (g := gp) 1 (.bool d2) (by omega)
    have n6 := ((own_isN ho6).cell_other (g := gp) (j := 0) (.slice a2 M.length c2) (fun k o e => by have := own_far ho6 k o e; have := k4.lt; omega)).cell_other (g := gp) (j := 1) (.bool d2) (fun k o e => by have := own_far ho6 k o e; have := k4.lt; omega)
    have hB6a := (hB6.setCell (p := ⟨gp, 0, none⟩) hws2 (.slice a2 M.length c2)).setCell (p := ⟨gp, 1, none⟩) hws2 (.bool d2)
    have HFAR : Hid (∀ k o, a2 = some ⟨k, o, none⟩ → k ≠ gq) := fun k o e => by have := own_far ho6 k o e; have := q4.lt; omega
    have HI2 : Hid (_ ∧ _ ∧ _ ∧ _) := ⟨k6a, q6a, n6, hB6a⟩
    clear k4 q4 m4 hB4 HI ho6 hb6 k6 q6 hB6 k6a q6a n6 hB6a
    go_wp2_with fail
    clear cp0 cp1 fp0 fp1
    obtain ⟨k6, q6, n6, hB6⟩ := HI2.out
    clear HI2
    generalize (w6.setCell ⟨gp, 0, none⟩ (.slice a2 M.length c2)).setCell ⟨gp, 1, none⟩ (.bool d2) = w6a at *
    refine (HH.out.2.2.2.1 _).mono ?_
    rintro e w7 ⟨a3, c3, rfl, ho7, hb7⟩
    have k7 := k6.below hb7 k6.lt
    have q7 := q6.below hb7 q6.lt
    have n7 := n6.below hb7
    have hB7 := hB6.trans (hb7.mono hB6.size)
    have cq0 := q7.cell 0
    have cq1 := q7.cell 1
    have fq0 := q7.frozen 0
    have fq1 := q7.frozen 1
    have q7a := (q7.put 0 (.slice a3 M.length c3)).put 1 (.bool d2)
    have k7a := (k7.put_other (g := gq) 0 (.slice a3 M.length c3) (by omega)).put_other (g := gq) 1 (.bool d2) (by omega)
    have m7 := ((own_isN ho7).cell_other (g := gq) (j := 0) (.slice a3 M.length c3) (fun k o e => by have := own_far ho7 k o e; have := q6.lt; omega)).cell_other (g := gq) (j := 1) (.bool d2) (fun k o e => by have := own_far ho7 k o e; have := q6.lt; omega)
    have n7a := (n7.cell_other (g := gq) (j := 0) (.slice a3 M.length c3) HFAR.out).cell_other (g := gq) (j := 1) (.bool d2) HFAR.out
    have hB7a := (hB7.setCell (p := ⟨gq, 0, none⟩) hws3 (.slice a3 M.length c3)).setCell (p := ⟨gq, 1, none⟩) hws3 (.bool d2)
    have dp0 := k7a.cell 0
    have dp1 := k7a.cell 1
    have dq0 := q7a.cell 0
    have dq1 := q7a.cell 1
    have HI3 : Hid (_ ∧ _ ∧ _) := ⟨n7a, m7, hB7a⟩
    clear k6 q6 n6 hB6 ho7 hb7 k7 q7 n7 hB7 q7a k7a m7 n7a hB7a
    go_wp2_with fail
    obtain ⟨n7, m7, hB7⟩ := HI3.out
    clear cq0 cq1 fq0 fq1 dp0 dp1 dq0 dq1
    generalize (w7.setCell ⟨gq, 0, none⟩ (.slice a3 M.length c3)).setCell ⟨gq, 1, none⟩ (.bool d2) = w7a at *
    refine (lsame_yes n7 m7 (by omega) d2).mono ?_
    rintro e w8 ⟨rfl, hb8⟩
    have hB8 := hB7.trans (hb8.mono hB7.size)
    clear n7 m7 hB7 hb8 HI3
    go_wp2_with fail
    go_ret
    exact ⟨rfl, hB8⟩
  · have HC := HH.out.2.2.2.2
    rw [if_neg hz] at HC
    have hzb : (z != 0) = true := by simpa using hz
    go_wp2_with fail
    refine (HC _).mono ?_
    rintro e w5 ⟨rfl, hb5⟩
    obtain ⟨k4, q4, m4, hB4⟩ := HI.out
    have k5 := k4.below hb5 k4.lt
    have q5 := q4.below hb5 q4.lt
    have m5 := m4.below hb5
    have hB5 := hB4.trans (hb5.mono hB4.size)
    clear k4 q4 m4 hB4 hb5 HI HC
    have HI : Hid (_ ∧ _ ∧ _ ∧ _) := ⟨k5, q5, m5, hB5⟩
    clear k5 q5 m5 hB5
    go_wp2_with fail
    refine (HH.out.2.2.1 _).mono ?_
    rintro e w6 ⟨a2, c2, rfl, ho6, hb6⟩
    obtain ⟨k4, q4, m4, hB4⟩ := HI.out
    have k6 := k4.below hb6 k4.lt
    have q6 := q4.below hb6 q4.lt
    have hB6 := hB4.trans (hb6.mono hB4.size)
    have cp0 := k6.cell 0
    have cp1 := k6.cell 1
    have fp0 := k6.frozen 0
    have fp1 := k6.frozen 1
    have k6a := (k6.put 0 (.slice a2 M.length c2)).put 1 (.bool d2)
    have q6a := (q6.put_other (g := gp) 0 (.slice a2 M.length c2) (by omega)).put_other (g := gp) 1 (.bool d2) (by omega)
    have n6 := ((own_isN ho6).cell_other (g := gp) (j := 0) (.slice a2 M.length c2) (fun k o e => by have := own_far ho6 k o e; have := k4.lt; omega)).cell_other (g := gp) (j := 1) (.bool d2) (fun k o e => by have := own_far ho6 k o e; have := k4.lt; omega)
    have hB6a := (hB6.setCell (p := ⟨gp, 0, none⟩) hws2 (.slice a2 M.length c2)).setCell (p := ⟨gp, 1, none⟩) hws2 (.bool d2)
    have HFAR : Hid (∀ k o, a2 = some ⟨k, o, none⟩ → k ≠ gq) := fun k o e => by have := own_far ho6 k o e; have := q4.lt; omega
    have HI2 : Hid (_ ∧ _ ∧ _ ∧ _) := ⟨k6a, q6a, n6, hB6a⟩
    clear k4 q4 m4 hB4 HI ho6 hb6 k6 q6 hB6 k6a q6a n6 hB6a
    go_wp2_with fail
    clear cp0 cp1 fp0 fp1
    obtain ⟨k6, q6, n6, hB6⟩ := HI2.out
    clear HI2
    generalize (w6.setCell ⟨gp, 0, none⟩ (.slice a2 M.length c2)).setCell ⟨gp, 1, none⟩ (.bool d2) = w6a at *
    refine (HH.out.2.2.2.1 _).mono ?_
    rintro e w7 ⟨a3, c3, rfl, ho7, hb7⟩
    have k7 := k6.below hb7 k6.lt
    have q7 := q6.below hb7 q6.lt
    have n7 := n6.below hb7
    have hB7 := hB6.trans (hb7.mono hB6.size)
    have cq0 := q7.cell 0
    have cq1 := q7.cell 1
    have fq0 := q7.frozen 0
    have fq1 := q7.frozen 1
    have q7a := (q7.put 0 (.slice a3 M.length c3)).put 1 (.bool d2)
    have k7a := (k7.put_other (g := gq) 0 (.slice a3 M.length c3) (by omega)).put_other (g := gq) 1 (.bool d2) (by omega)
    have m7 := ((own_isN ho7).cell_other (g := gq) (j := 0) (.slice a3 M.length c3) (fun k o e => by have := own_far ho7 k o e; have := q6.lt; omega)).cell_other (g := gq) (j := 1) (.bool d2) (fun k o e => by have := own_far ho7 k o e; have := q6.lt; omega)
    have n7a := (n7.cell_other (g := gq) (j := 0) (.slice a3 M.length c3) HFAR.out).cell_other (g := gq) (j := 1) (.bool d2) HFAR.out
    have hB7a := (hB7.setCell (p := ⟨gq, 0, none⟩) hws3 (.slice a3 M.length c3)).setCell (p := ⟨gq, 1, none⟩) hws3 (.bool d2)
    have dp0 := k7a.cell 0
    have dp1 := k7a.cell 1
    have dq0 := q7a.cell 0
    have dq1 := q7a.cell 1
    have HI3 : Hid (_ ∧ _ ∧ _) := ⟨n7a, m7, hB7a⟩
    clear k6 q6 n6 hB6 ho7 hb7 k7 q7 n7 hB7 q7a k7a m7 n7a hB7a
    go_wp2_with fail
    obtain ⟨n7, m7, hB7⟩ := HI3.out
    clear cq0 cq1 fq0 fq1 dp0 dp1 dq0 dq1
    generalize (w7.setCell ⟨gq, 0, none⟩ (.slice a3 M.length c3)).setCell ⟨gq, 1, none⟩ (.bool d2) = w7a at *
    refine (lsame_yes n7 m7 (by omega) d2).mono ?_
    rintro e w8 ⟨rfl, hb8⟩
    have hB8 := hB7.trans (hb8.mono hB7.size)
    clear n7 m7 hB7 hb8 HI3
    go_wp2_with fail
    go_ret
    exact ⟨rfl, hB8⟩
end Go.Proofs.Ythoohhokoeihiaa
