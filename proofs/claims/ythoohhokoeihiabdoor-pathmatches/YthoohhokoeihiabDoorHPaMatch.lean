/- Match: a path against a pattern, name by name. -/
import Derived.Test.YthoohhokoeihiabDoorHPaParts2

namespace Go.Proofs.YthoohhokoeihiabDoor
open Go Go.RowKit Go.Shelf Go.Nam
set_option linter.unusedVariables false
set_option linter.unusedSimpArgs false
attribute [local go_sem] Oper.semAt_some
/-- each part is taken for the name in its place -/
def AllM : List (Nat × ByteArray) → List ByteArray → Prop
  | [], [] => True
  | x :: xs, n :: ns => Mat x.2.data.toList n.data.toList ∧ AllM xs ns
  | [], _ :: _ => False
  | _ :: _, [] => False
theorem allM_nil (N : List ByteArray) : AllM [] N ↔ N = [] := by cases N <;> simp [AllM]
theorem parseD_at (s : ByteArray) {N : List ByteArray} {d : Bool} {i : Nat} {z : Int} (hp : prs s.data.toList = (N, d, i, z)) (w : World) : Calls Tryd.prog 10 #[.string s] w fun e w' => ∃ (a : Option Addr) (c : Nat), e = .returned (.tuple #[.agg #[.slice a N.length c, .bool d], .int .i64 (i : Int), .int .i64 z]) ∧ w'.ownsRow w.heap.size 9 1 (.slice a N.length c) N.length (N.map Value.string) ∧ Below w.heap.size w w' := by
  refine (parse_any s w).mono ?_
  rintro e w' ⟨v, he, ho, hb⟩
  rw [hp] at he ho
  obtain ⟨a, c, rfl⟩ := kown_slice ho
  exact ⟨a, c, he, ho, hb⟩
theorem own_capD {w : World} {B n m c : Nat} {a : Option Addr} {t : TypeId} {xs : List Value} (h : w.ownsRow B t 1 (.slice a m c) n xs) : n ≤ c := by
  rcases h.2 with ⟨hv, hn⟩ | ⟨g, cap, cur, hv, _, _, hc, _⟩
  · omega
  · cases hv; exact hc
/-- between two parts of the pattern -/
def MJ (w : World) (gl : Nat) (N : List ByteArray) (pre : List PtS) (V : World) : Prop :=
  ∃ (a : Option Addr) (c : Nat) (R : List ByteArray), Blk V gl 29 #[.slice a R.length c] ∧ IsN V a R ∧ (∀ k o, a = some ⟨k, o, none⟩ → k < gl ∧ w.heap.size < k) ∧ R.length ≤ c ∧ (∀ x ∈ R, x.size ≤ 56) ∧ (∀ more, AllM (pre.map Subtype.val ++ more) N ↔ AllM more R) ∧ Blk V w.heap.size 4 #[.bool false] ∧ Below w.heap.size w V ∧ w.heap.size ≤ V.heap.size ∧ gl + 1 < V.heap.size
def MX (w : World) (N : List ByteArray) (c : Code) (pre : List PtS) (V : World) : Prop :=
  c = .ret ∧ (∀ more, ¬ AllM (pre.map Subtype.val ++ more) N) ∧ Blk V w.heap.size 4 #[.bool false] ∧ Below w.heap.size w V ∧ w.heap.size ≤ V.heap.size
theorem isN_grownD {w w' : World} {a : Option Addr} {N : List ByteArray} {row : Option Nat} {B : Nat} (h : IsN w a N) (hg : w.grownBy w' row) (hr : ∀ r, row = some r → B ≤ r ∧ ∃ o : Obj, w.heap[r]? = some o ∧ o.isCells = false) : IsN w' a N := by
  rcases h with h | ⟨g, o, rfl, hk, hc⟩
  · exact .inl h
  · by_cases hN : N = []
    · exact .inl hN
    · refine .inr ⟨g, o, rfl, Nat.lt_of_lt_of_le hk hg.size, fun j x hx => hg.cell (a := ⟨g, o + j, none⟩) (hc j x hx) (fun e => ?_)⟩
      obtain ⟨_, ob, ho, hcl⟩ := hr g e.symm
      have hc2 := hc j x hx
      simp only [World.cell?, ho] at hc2
      cases ob <;> simp_all [Obj.isCells]
theorem isN_cellD {w : World} {a : Option Addr} {N : List ByteArray} (h : IsN w a N) {g j : Nat} (u : Value) (hg : ∀ k o, a = some ⟨k, o, none⟩ → k ≠ g) : IsN (w.setCell ⟨g, j, none⟩ u) a N := by
  rcases h with h | ⟨k, o, rfl, hk, hc⟩
  · exact .inl h
  · refine .inr ⟨k, o, rfl, by rw [World.size_setCell]; exact hk, fun i x hx => ?_⟩
    exact (World.cell?_of_block (Below.heap_setCell _ _ _ k (hg k o rfl))).trans (hc i x hx)
theorem isN_tail {w : World} {g o : Nat} {n : ByteArray} {R : List ByteArray} (h : IsN w (some ⟨g, o, none⟩) (n :: R)) : IsN w (some ⟨g, o + 1, none⟩) R := by
  rcases h with h | ⟨k, o', e, hk, hc⟩
  · cases h
  · cases e
    exact .inr ⟨g, o + 1, rfl, hk, fun j x hx => by
      have := hc (j + 1) x (by simpa using hx)
      rwa [show o + (j + 1) = o + 1 + j by omega] at this⟩
theorem mj_own (w : World) (gl : Nat) (N : List ByteArray) (B : Nat) (hb : w.heap.size ≤ B) : OwnFrom B (MJ w gl N) := by
  rintro pre V V' row ⟨a, c, R, h1, h2, h3, h4, h5, h6, h7, h8, h9, h10⟩ hg hr
  exact ⟨a, c, R, blk_grown h1 hg hr, isN_grownD h2 hg hr, h3, h4, h5, h6, blk_grown h7 hg hr, below_grown h8 hb h9 hg hr, Nat.le_trans h9 hg.size, Nat.lt_of_lt_of_le h10 hg.size⟩
theorem mx_own (w : World) (N : List ByteArray) (B : Nat) (hb : w.heap.size ≤ B) (c : Code) : OwnFrom B (MX w N c) := by
  rintro pre V V' row ⟨h1, h2, h7, h8, h9⟩ hg hr
  exact ⟨h1, h2, blk_grown h7 hg hr, below_grown h8 hb h9 hg hr, Nat.le_trans h9 hg.size⟩
set_option maxRecDepth 100000 in
set_option maxHeartbeats 4000000 in
theorem pmatch_main (P s : ByteArray) (hP : P.size ≤ 3000) {N : List ByteArray} {d : Bool} {i : Nat} (hp : prs s.data.toList = (N, d, i, 0)) (hN32 : N.length ≤ 32) (hNs : ∀ x ∈ N, x.size ≤ 56) (h47 : P.data.toList[0]? = some 47) (mb : Bool) (hmb : mb = true ↔ AllM (pts P.data.toList 0) N) (w : World) :
    Calls Tryd.prog 6 #[.string P, .string s] w fun e w' => e = .returned (.bool mb) ∧ Below w.heap.size w w' := by
  have HP := parseD_at s hp
  have HX : Hid (∀ w : World, Calls Tryd.prog 16 #[.string P, .string ⟨#[47]⟩] w fun e w' => e = .returned (.bool true) ∧ w' = w) := fun w => by
    have := prefix_any P w
    rwa [h47, decide_eq_true rfl] at this
  have HMB : Hid (mb = true ↔ AllM (pts P.data.toList 0) N) := hmb
  have HNs : Hid (∀ x ∈ N, x.size ≤ 56) := hNs
  clear hp h47 hmb hNs
  refine (callsIn_wide (n := 4)).1 ?_
  refine callsIn_of_wp_marks Tryd.func6 rfl trivial ?_ rfl
  simp only [Tryd.ntmps6, List.size_toArray, List.length_cons, List.length_nil, Nat.reduceAdd, Nat.reduceSub, Array.replicate_succ, Array.replicate_zero, List.push_toArray, List.append_toArray, List.nil_append, List.cons_append]
  have kr0 := Blk.new w 4 #[.bool false]
  have B0 : Below w.heap.size w (w.alloc (.cells #[.bool false] 4)) := (Below.refl _ w).alloc (Nat.le_refl _) _
  gi_wp2
  refine ⟨trivial, ?_⟩
  refine (callsIn_wide.2 (HP _)).mono ?_
  rintro e w1 ⟨a, c, rfl, ho1, hb1⟩
  have al1 := hb1.alloc hb1.size (.cells #[.slice a N.length c, .bool d] 31)
  have kr1 := kr0.below al1 kr0.lt
  have kp1 := Blk.new w1 31 #[.slice a N.length c, .bool d]
  have n1 := (own_isN ho1).below ((Below.refl _ w1).alloc (Nat.le_refl _) (.cells #[.slice a N.length c, .bool d] 31))
  have B1 := B0.trans (al1.mono B0.size)
  have hcap := own_capD ho1
  have hfar : ∀ k o, a = some ⟨k, o, none⟩ → k < w1.heap.size ∧ w.heap.size < k := fun k o e => by
    subst e
    have := ho1.lt k rfl
    simp at this
    omega
  have cp0 := kp1.cell 0
  have HI : Hid (_ ∧ _ ∧ _) := ⟨kr1, n1, B1⟩
  clear kr0 B0 al1 kr1 kp1 n1 B1 ho1
  gi_wp2
  refine ⟨trivial, ?_⟩
  refine (callsIn_wide.2 (HX.out _)).mono ?_
  rintro e w9 ⟨rfl, hw9⟩
  subst w9
  gi_wp2
  clear cp0
  obtain ⟨kr1, n1, B1⟩ := HI.out
  generalize hwa : w1.alloc (.cells #[.slice a N.length c, .bool d] 31) = w1a at *
  have hs1 : w1a.heap.size = w1.heap.size + 1 := by rw [← hwa]; simp
  clear hwa HI
  refine ⟨trivial, ?_⟩
  refine (parts_in P _).mono ?_
  rintro e w9 ⟨rfl, hw9⟩
  subst w9
  gi_wp2
  obtain ⟨gl, hgl⟩ : ∃ gl, w1.heap.size + 1 = gl := ⟨_, rfl⟩
  rw [hgl] at hs1 ⊢
  obtain ⟨W0, hW0⟩ : ∃ W0, (w1a.alloc (.cells #[.slice a N.length c] 29)).alloc (.cells #[.string P] 9) = W0 := ⟨_, rfl⟩
  have al0 : Below w1a.heap.size w1a W0 := by rw [← hW0]; exact ((Below.refl _ w1a).alloc (Nat.le_refl _) _).alloc (by simp) _
  have z0 : W0.heap.size = gl + 1 + 1 := by rw [← hW0]; simp; omega
  have kl0 : Blk W0 gl 29 #[.slice a N.length c] := by
    rw [← hW0, ← hs1]
    exact (Blk.new w1a _ _).alloc _
  have kb0 : Boxed W0 (gl + 1) 9 (.string P) := by
    rw [← hW0]
    have := Boxed.new (w1a.alloc (.cells #[.slice a N.length c] 29)) 9 (.string P)
    rw [World.size_alloc, hs1] at this
    exact this
  have kr0 := kr1.below al0 kr1.lt
  have n0 := n1.below al0
  have B0 := B1.trans (al0.mono B1.size)
  have hgw : w.heap.size < gl := by have := kr1.lt; omega
  rw [hW0]
  clear hW0 kr1 n1 B1 al0
  refine wpIn_rangeFunc_ownF rfl (by decide) (gf := 32) (lb := #[.pointer (some ⟨gl + 1, 0, none⟩)]) rfl trivial (enters_of Tryd.func32 (by kernel_rfl) rfl)
    (parts2_stops (gl + 1) P (by omega) W0 kb0) (fun h k => k.trans h)
    (fun W l o o' hl ho h1 h2 => by
      show (W.putObj l o').heap[_]? = _
      exact World.putObj_heap_other (by omega)) (Below.refl _ _) (fun _ => rfl)
    (MJ w gl N) (MX w N) (mj_own w gl N _ B0.size) (mx_own w N _ B0.size)
    ⟨a, c, N, kl0, n0, fun k o e => by have := hfar k o e; omega, hcap, HNs.out, fun more => by simp, kr0, B0, B0.size, by omega⟩
    (fun x => { tmps := #[.string P, .string s, undef, undef, .pointer (some ⟨w.heap.size, 0, none⟩), .pointer (some ⟨w1.heap.size, 0, none⟩), .int .i64 (i : Int), .int .i64 0, .pointer (some ⟨gl, 0, none⟩), undef, .string x.1.2, .tuple #[.agg #[.slice a N.length c, .bool d], .int .i64 (i : Int), .int .i64 0], .string s, .tuple #[.agg #[.slice a N.length c, .bool d], .int .i64 (i : Int), .int .i64 0], .agg #[.slice a N.length c, .bool d], .int .i64 (i : Int), .int .i64 0, .int .i64 0, .bool false, .bool false, .string P, .bool true, .bool false, .bool false, .pointer (some ⟨w1.heap.size, 0, none⟩), .slice a N.length c, .string P, .func (.func 32) #[] #[.pointer (some ⟨gl + 1, 0, none⟩)], .int .i64 (x.1.1 : Int), .string x.1.2, undef, undef, undef, undef, undef, undef, undef, undef, undef, undef, undef, undef, undef, undef, undef, undef], defers := [] }) ?assign ?body ?done ?stop
  case assign =>
    intro l x V K hK
    dsimp only [encP]
    gi_wp2
    exact hK
  case body =>
    rintro l pre x V ⟨a2, c2, R, g1, g2, g3, g4, g5, g6, g7, g8, g9, g10⟩ _
    have HI : Hid (_ ∧ _ ∧ _ ∧ _ ∧ _ ∧ _) := ⟨g1, g2, g3, g6, g7, g8⟩
    have c0 := g1.cell 0
    have f0 := g1.frozen 0
    have c7 := g7.cell 0
    have f7 := g7.frozen 0
    clear kr0 n0 B0 kl0 kb0 g1 g3 g6 g8
    cases R with
    | nil =>
      have HF : Hid (∀ more, ¬ AllM ((pre ++ [x]).map Subtype.val ++ more) N) := fun more h => by
        rw [List.map_append, List.append_assoc, HI.out.2.2.2.1] at h
        simp [AllM] at h
      clear g2 g4 g5
      gi_wp2
      refine ⟨trivial, ?_⟩
      gi_wp2
      obtain ⟨g1, g2, g3, g6, g7, g8⟩ := HI.out
      exact ⟨KeepsOthers.setCell _ _ _, rfl, HF.out, g7.put 0 _, g8.setCell (p := ⟨w.heap.size, 0, none⟩) (Nat.le_refl _) _, by rw [World.size_setCell]; exact g9⟩
    | cons n R =>
      obtain ⟨g, o, rfl, hg, hc⟩ := g2.at (j := 0) (by simp)
      rw [Nat.add_zero] at hc
      have hc : V.cell? ⟨g, o, none⟩ = some (.string n) := hc
      have hns : n.size ≤ 56 := g5 n (by simp)
      have hxs := x.2
      obtain ⟨m2, hm2⟩ : ∃ m2 : Bool, m2 = true ↔ Mat x.1.2.data.toList n.data.toList := by
        by_cases h : Mat x.1.2.data.toList n.data.toList
        · exact ⟨true, by simp [h]⟩
        · exact ⟨false, by simp [h]⟩
      have HMt : Hid (∀ w : World, Calls Tryd.prog 18 #[.string x.1.2, .string n] w fun e w' => e = .returned (.bool m2) ∧ Below w.heap.size w w') := fun w => match_is x.1.2 n m2 hm2 (by omega) (by omega) w
      have hl1 : ((R.length : Int) + 1 == 0) = false := by rw [beq_eq_false_iff_ne]; omega
      have hl2 : ¬ ((R.length : Int) + 1 = 0) := by omega
      have hl3 : (0 : Int) < (R.length : Int) + 1 := by omega
      have hl4 : (1 : Int) ≤ (R.length : Int) + 1 := by omega
      have hR56 : ∀ x ∈ R, x.size ≤ 56 := fun y hy => g5 y (by simp [hy])
      have hRc : R.length + 1 ≤ c2 := g4
      clear g2 g4 g5
      cases m2
      · have HF : Hid (∀ more, ¬ AllM ((pre ++ [x]).map Subtype.val ++ more) N) := fun more h => by
          rw [List.map_append, List.append_assoc, HI.out.2.2.2.1] at h
          have := h.1
          exact absurd (hm2.2 this) (by simp)
        clear hm2
        gi_wp2
        refine ⟨trivial, ?_⟩
        refine (CallsIn.inRound l (callsIn_wide.2 (HMt.out _))).mono ?_
        rintro e W9 ⟨rfl, hW9⟩
        obtain ⟨g1, g2, g3, g6, g7, g8⟩ := HI.out
        have q7 := g7.below hW9 g7.lt
        have d7 := q7.cell 0
        have e7 := q7.frozen 0
        have q8 := g8.trans (hW9.mono g9)
        clear g1 g2 g3 g6 g7 g8
        gi_wp2
        exact ⟨(keeps_below hW9).trans (KeepsOthers.setCell _ _ _), rfl, HF.out, q7.put 0 _, q8.setCell (p := ⟨w.heap.size, 0, none⟩) (Nat.le_refl _) _, by rw [World.size_setCell]; exact Nat.le_trans g9 hW9.size⟩
      · have HF : Hid (∀ more, AllM ((pre ++ [x]).map Subtype.val ++ more) N ↔ AllM more R) := fun more => by
          rw [List.map_append, List.append_assoc, HI.out.2.2.2.1]
          show AllM (x.1 :: more) (n :: R) ↔ _
          simp [AllM, hm2.1 rfl]
        clear hm2
        gi_wp2
        refine ⟨trivial, ?_⟩
        refine (CallsIn.inRound l (callsIn_wide.2 (HMt.out _))).mono ?_
        rintro e W9 ⟨rfl, hW9⟩
        obtain ⟨g1, g2, g3, g6, g7, g8⟩ := HI.out
        have q7 := g7.below hW9 g7.lt
        have q1 := g1.below hW9 g1.lt
        have d1 := q1.cell 0
        have e1 := q1.frozen 0
        have q2 := g2.below hW9
        have q8 := g8.trans (hW9.mono g9)
        have hKp : KpB (gl + 1) V W9 := hW9.block _ (by omega)
        have HQ : Hid (_ ∧ _ ∧ _ ∧ _ ∧ _ ∧ _) := ⟨q7, q1, q2, q8, g3, hKp⟩
        clear g1 g2 g3 g6 g7 g8 q7 q1 q2 q8 hKp
        gi_wp2
        · obtain ⟨q7, q1, q2, q8, g3, hKp⟩ := HQ.out
          obtain rfl : R = [] := List.length_eq_zero_iff.1 (by omega)
          exact ⟨(keeps_below hW9).trans (KeepsOthers.setCell _ _ _), (kpb_cell (by omega) _).trans hKp, _, _, [], q1.put 0 _, .inl rfl, fun k o' e => by cases e; exact g3 g o rfl, by simp, by simp, HF.out, q7.put_other _ _ (by omega), q8.setCell (p := ⟨gl, 0, none⟩) (by show w.heap.size ≤ gl; omega) _, by rw [World.size_setCell]; exact Nat.le_trans g9 hW9.size, by rw [World.size_setCell]; exact Nat.lt_of_lt_of_le g10 hW9.size⟩
        · obtain ⟨q7, q1, q2, q8, g3, hKp⟩ := HQ.out
          exact ⟨(keeps_below hW9).trans (KeepsOthers.setCell _ _ _), (kpb_cell (by omega) _).trans hKp, _, _, R, q1.put 0 _, isN_cellD (isN_tail q2) _ (fun k o' e => by cases e; have := (g3 g o rfl).1; omega), fun k o' e => by cases e; exact g3 g o rfl, by omega, hR56, HF.out, q7.put_other _ _ (by omega), q8.setCell (p := ⟨gl, 0, none⟩) (by show w.heap.size ≤ gl; omega) _, by rw [World.size_setCell]; exact Nat.le_trans g9 hW9.size, by rw [World.size_setCell]; exact Nat.lt_of_lt_of_le g10 hW9.size⟩
  case done =>
    rintro D ys V hD hys ⟨a2, c2, R, g1, g2, g3, g4, g5, g6, g7, g8, g9, g10⟩ hK
    have h0 := g6 []
    rw [List.append_nil, hys, allM_nil] at h0
    have HR : Hid (((R.length : Int) == 0) = mb) := by
      show (_ == _) = mb
      rw [Bool.eq_iff_iff, HMB.out, h0]
      cases R <;> simp
      omega
    have c0 := g1.cell 0
    have c7 := g7.cell 0
    have f7 := g7.frozen 0
    have hmm : ((R.length : Int) == 0) = mb := HR.out
    have kf := g7.put 0 (.bool mb)
    have Bf := g8.setCell (p := ⟨w.heap.size, 0, none⟩) (Nat.le_refl _) (.bool mb)
    have hK' := (KeepsOthers.setCell V ⟨w.heap.size, 0, none⟩ (.bool mb)).same D _ hK rfl
    have r0 := (blk_grown (B := W0.heap.size) kf (grownBy_putObj' _ D (.deferred none)) (dead_grown hK' rfl hD)).cell 0
    have Be := below_grown (B := W0.heap.size) Bf (by omega) Bf.size (grownBy_putObj' _ D (.deferred none)) (dead_grown hK' rfl hD)
    clear kr0 n0 B0 kl0 kb0 g1 g2 g3 g6 g7 g8 kf Bf hys h0
    gi_wp2
    refine ⟨by simp, .inl ⟨_, _, rfl, run_takeDeferred hK', ?_⟩⟩
    generalize (V.setCell ⟨w.heap.size, 0, none⟩ (.bool mb)).putObj D (.deferred none) = Wf at *
    refine ⟨.bool mb, ?_, rfl, Be⟩
    simp [results, Tryd.f6, go_sem, r0]
  case stop =>
    rintro D c' pre V hD ⟨t, hpre⟩ ⟨rfl, g1, g7, g8, g9⟩ hK
    have h0 := g1 t
    rw [hpre] at h0
    obtain rfl : mb = false := by
      cases mb
      · rfl
      · exact absurd (HMB.out.1 rfl) h0
    have r0 := (blk_grown (B := W0.heap.size) g7 (grownBy_putObj' _ D (.deferred none)) (dead_grown hK rfl hD)).cell 0
    have Be := below_grown (B := W0.heap.size) g8 (by omega) g9 (grownBy_putObj' _ D (.deferred none)) (dead_grown hK rfl hD)
    clear kr0 n0 B0 kl0 kb0 g1 g7 g8 h0
    gi_wp2
    refine ⟨by simp, .inl ⟨_, _, rfl, run_takeDeferred hK, ?_⟩⟩
    generalize V.putObj D (.deferred none) = Wf at *
    refine ⟨.bool false, ?_, rfl, Be⟩
    simp [results, Tryd.f6, go_sem, r0]
end Go.Proofs.YthoohhokoeihiabDoor
