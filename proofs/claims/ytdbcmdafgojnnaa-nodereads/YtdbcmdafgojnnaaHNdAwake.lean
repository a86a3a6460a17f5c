/- What is laid is read: a node's block is its own; the statements' awake. -/
import Derived.Test.YtdbcmdafgojnnaaHBlkTxt
import Derived.Test.YtdbcmdafgojnnaaHLogKeep
import Derived.Handy
import Derived.Test.YtdbcmdafgojnnaaHSegsS
import Derived.OwnWalk
import Derived.Maps.AppendAt
import Derived.Test.YtdbcmdafgojnnaaHNdBlock

namespace Go.Proofs.Ytdbcmdafgojnnaa
open Go Go.RowKit
set_option linter.unusedSimpArgs false
set_option linter.unusedVariables false

def intL (l : List Nat) : List Value := l.map fun (x : Nat) => Value.int .i64 (x : Int)
theorem intL_length (l : List Nat) : (intL l).length = l.length := by simp [intL]
/-- the slice v of slices ss holds the groups G, all from block B on, no two in one block -/
structure GrpAt (w : World) (B : Nat) (v : Value) (G : List (List Nat)) (ss : List Value) : Prop where
  row : w.ownsRow B 113 1 v G.length ss
  each : ∀ j, j < G.length → w.ownsRow B 3 1 (ss.getD j undef) (G.getD j []).length (intL (G.getD j []))
  apart : ∀ i j, i ≠ j → i < G.length → j < G.length → ∀ b, (ss.getD i undef).ownBlock = some b → (ss.getD j undef).ownBlock ≠ some b
theorem GrpAt.len {w : World} {B : Nat} {v : Value} {G : List (List Nat)} {ss : List Value} (h : GrpAt w B v G ss) : ss.length = G.length := by
  have := h.row.1
  omega
theorem GrpAt.below {w w' : World} {B : Nat} {v : Value} {G : List (List Nat)} {ss : List Value} (h : GrpAt w B v G ss) (hb : Below w.heap.size w w') : GrpAt w' B v G ss :=
  ⟨kown_below h.row hb, fun j hj => kown_below (h.each j hj) hb, h.apart⟩
theorem GrpAt.nil (w : World) (B : Nat) : GrpAt w B (.slice none 0 0) [] [] := ⟨World.ownsRow_nil _ _ _ _, fun j hj => absurd hj (by simp), fun i j _ hi => absurd hi (by simp)⟩
/-- one more group, with nothing in it -/
theorem GrpAt.more {w w' : World} {B : Nat} {v v' : Value} {G : List (List Nat)} {ss : List Value} (h : GrpAt w B v G ss) (hrow : w'.ownsRow B 113 1 v' (G.length + 1) (ss ++ [.slice none 0 0])) (hg : w.grownBy w' v.ownBlock) : GrpAt w' B v' (G ++ [[]]) (ss ++ [.slice none 0 0]) := by
  have hl := h.len
  have e1 : ∀ j, j < G.length → (ss ++ [Value.slice none 0 0]).getD j undef = ss.getD j undef := fun j hj => by
    simp [List.getD, List.getElem?_append_left (show j < ss.length by omega)]
  have e2 : (ss ++ [Value.slice none 0 0]).getD G.length undef = .slice none 0 0 := by
    rw [← hl]
    simp [List.getD]
  refine ⟨by simpa using hrow, fun j hj => ?_, fun i j hij hi hj b hb => ?_⟩
  · by_cases hjl : j < G.length
    · rw [e1 j hjl, show (G ++ [([] : List Nat)]).getD j [] = G.getD j [] by simp [List.getD, List.getElem?_append_left hjl]]
      refine (h.each j hjl).kept hg ?_
      cases hq : (ss.getD j undef).ownBlock with
      | none => exact .inl rfl
      | some k => exact .inr fun q => own_own (h.each j hjl) h.row (by decide) hq q.symm
    · obtain rfl : j = G.length := by simp at hj; omega
      rw [e2, show (G ++ [([] : List Nat)]).getD G.length [] = [] by simp [List.getD]]
      exact World.ownsRow_nil _ _ _ _
  · have hil : i < G.length := by
      rcases Nat.lt_or_ge i G.length with q | q
      · exact q
      · obtain rfl : i = G.length := by simp at hi; omega
        rw [e2] at hb
        cases hb
    rw [e1 i hil] at hb
    by_cases hjl : j < G.length
    · rw [e1 j hjl]
      exact h.apart i j hij hil hjl b hb
    · obtain rfl : j = G.length := by simp at hj; omega
      rw [e2]
      exact fun q => by cases q
theorem own_setCell {w : World} {B e n g cap : Nat} {xs : List Value} (h : w.ownsRow B e 1 (.slice (some ⟨g, 0, none⟩) n cap) n xs) (j : Nat) (hj : j < n) (x : Value) : (w.setCell ⟨g, j, none⟩ x).ownsRow B e 1 (.slice (some ⟨g, 0, none⟩) n cap) n (xs.set j x) := by
  rcases h.2 with ⟨hn, _⟩ | ⟨g', cap', cur, hv, hb, hg, h1, h2, h3, h4⟩
  · cases hn
  · injection hv with hv1 hv2 hv3
    injection hv1 with hv1
    injection hv1 with hv1
    subst hv1 hv3
    have hB : Blk w g e cur := hg
    refine ⟨by simpa using h.1, .inr ⟨g, cap, cur.setIfInBounds j x, rfl, hb, hB.put j x, h1, h2, by simpa using h3, ?_⟩⟩
    rw [← h4]
    simp [List.take_set]
theorem own_setCell_other {w : World} {B e n g : Nat} {v : Value} {xs : List Value} (h : w.ownsRow B e 1 v n xs) (hne : v.ownBlock ≠ some g) (j : Nat) (x : Value) : (w.setCell ⟨g, j, none⟩ x).ownsRow B e 1 v n xs :=
  kown_kept h fun k _ hv => Below.heap_setCell w ⟨g, j, none⟩ x k fun q => hne (by rw [hv, q])
/-- one more number in a group -/
theorem GrpAt.push {w w' : World} {B g cap : Nat} {G : List (List Nat)} {ss : List Value} {j x : Nat} {s' : Value} (h : GrpAt w B (.slice (some ⟨g, 0, none⟩) G.length cap) G ss) (hj : j < G.length)
    (hrow : w'.ownsRow B 3 1 s' ((G.getD j []).length + 1) (intL (G.getD j []) ++ [.int .i64 (x : Int)])) (hg : w.grownBy w' (ss.getD j undef).ownBlock) (hs : s'.ownBlock = (ss.getD j undef).ownBlock ∨ ∃ k, s'.ownBlock = some k ∧ w.heap.size ≤ k) :
    GrpAt (w'.setCell ⟨g, j, none⟩ s') B (.slice (some ⟨g, 0, none⟩) G.length cap) (G.set j (G.getD j [] ++ [x])) (ss.set j s') := by
  have hl := h.len
  have hgs : (ss.getD j undef).ownBlock ≠ some g := fun q => own_own (h.each j hj) h.row (by decide) q rfl
  have hrow' : w'.ownsRow B 113 1 (.slice (some ⟨g, 0, none⟩) G.length cap) G.length ss := h.row.kept hg (.inr fun q => hgs q.symm)
  have ej : (ss.set j s').getD j undef = s' := by simp [List.getD, hl, hj]
  have en : ∀ i, i ≠ j → (ss.set j s').getD i undef = ss.getD i undef := fun i hi => by simp [List.getD, List.getElem?_set_ne (Ne.symm hi)]
  have Gj : (G.set j (G.getD j [] ++ [x])).getD j [] = G.getD j [] ++ [x] := by simp [List.getD, hj]
  have Gn : ∀ i, i ≠ j → (G.set j (G.getD j [] ++ [x])).getD i [] = G.getD i [] := fun i hi => by simp [List.getD, List.getElem?_set_ne (Ne.symm hi)]
  have hsg : s'.ownBlock ≠ some g := fun q => own_own hrow hrow' (by decide) q rfl
  refine ⟨by simpa using own_setCell hrow' j hj s', fun i hi => ?_, fun i k hik hi hk b hb => ?_⟩
  · rw [List.length_set] at hi
    by_cases hij : i = j
    · subst hij
      rw [ej, Gj]
      refine own_setCell_other ?_ hsg _ _
      simpa [intL] using hrow
    · rw [en i hij, Gn i hij]
      have hne : (ss.getD i undef).ownBlock ≠ some g := fun q => own_own (h.each i hi) h.row (by decide) q rfl
      refine own_setCell_other ((h.each i hi).kept hg ?_) hne _ _
      cases hq : (ss.getD i undef).ownBlock with
      | none => exact .inl rfl
      | some b => exact .inr fun q => h.apart i j hij hi hj b hq q.symm
  · rw [List.length_set] at hi hk
    by_cases hij : i = j
    · subst hij
      rw [ej] at hb
      rw [en k (Ne.symm hik)]
      intro q
      rcases hs with hs | ⟨z, hz, hzl⟩
      · exact h.apart i k hik hi hk b (by rw [← hs]; exact hb) q
      · rw [hz] at hb
        injection hb with hb
        have := ((h.each k hk).lt b q).2
        omega
    · rw [en i hij] at hb
      by_cases hkj : k = j
      · subst hkj
        rw [ej]
        intro q
        rcases hs with hs | ⟨z, hz, hzl⟩
        · exact h.apart i k hik hi hk b hb (by rw [← hs]; exact q)
        · rw [hz] at q
          injection q with q
          have := ((h.each i hi).lt b hb).2
          omega
      · rw [en k hkj]
        exact h.apart i k hik hi hk b hb
end Go.Proofs.Ytdbcmdafgojnnaa

namespace Go.Proofs.Ytdbcmdafgojnnaa
open Go.RowKit
set_option linter.unusedSimpArgs false
set_option linter.unusedVariables false

theorem wpList_append_own_at {P : Program} {ops : Array Oper} {rest : List Oper} {o : Oper} {a : Act} {w : World} {Q : Exit → Act → World → Prop} (hgd : o.guard = none) (s x : Operand) (t : TypeId)
    (ho : o.op = .call { callee := .builtin .append, args := #[s, x], argTypes := #[t, t] })
    (base : Nat) (e : TypeId) (i : TypeInfo) (z : Value) (size bytes : Nat) (ht : P.underlying t = some (.slice e)) (hi : P.info? e = some i) (hz : i.zero = some z)
    (hsize : i.size = size) (hby : i.bytes = bytes) (hzs : z.cells.size = size) (hsz : 0 < size)
    (v : Value) (n : Nat) (xs : List Value) (hs : a.eval s = v) (hown : w.ownsRow base e size v n xs)
    (ad : Addr) (m c : Nat) (news : List Value) (hx : a.eval x = .slice (some ad) m c) (hl : news.length = m * size) (hnews : ∀ j u, news[j]? = some u → w.cell? (ad.add j) = some u) (h1 : ∀ u ∈ news, u.oneCell' = true)
    (h63 : n + m ≤ maxLen) (hbytes : (n + m) * bytes ≤ 140737488355328) (hbase : base ≤ w.heap.size)
    (h : ∀ v' w', w'.ownsRow base e size v' (n + m) (xs ++ news) → w.grownBy w' v.ownBlock → (v'.ownBlock = v.ownBlock ∨ v'.ownBlock = some w.heap.size) → wpList P ops Q rest (a.put o.dst v') w') :
    wpList P ops Q (o :: rest) a w := by
  obtain ⟨v', w', hr, g1, g2, g3, g4⟩ := run_append_own_at (P := P) w base t o.type e i z size bytes ht hi hz hsize hby hzs hsz v n xs hown ad m c news hl hnews h1 h63 hbytes hbase
  refine wpList_plain hgd fun K hK => ?_
  unfold Oper.wp
  simp [execOp, ho, resolve, invoke, builtin, hs, hx, hr, Result.andThen]
  exact hK _ _ (h v' w' g1 g2 g4)
theorem infoInt : (Try.prog.info? 3).map (fun i => (i.zero, i.size, i.bytes)) = some (some (.int .i64 0), 1, 8) := by kernel_rfl
theorem infoInts : (Try.prog.info? 113).map (fun i => (i.zero, i.size, i.bytes)) = some (some (.slice none 0 0), 1, 24) := by kernel_rfl
theorem grps_len {α : Type} [DecidableEq α] (D : Nat → α) (k j : Nat) : ((grpsOf D k).getD j []).length ≤ k := by
  unfold grpsOf
  rw [List.getD_eq_getElem?_getD, List.getElem?_map]
  cases hq : (firstsOf D k)[j]? with
  | none => simp
  | some i =>
    simp only [Option.map_some, Option.getD_some, grpOf]
    exact Nat.le_trans (List.length_filter_le _ _) (by simp)
/-- what the map holds -/
def mapOf {α : Type} (D : Nat → α) (R : List Nat) : List (α × Nat) := R.zipIdx.map fun x => (D x.1, x.2)
theorem mapOf_snoc {α : Type} (D : Nat → α) (R : List Nat) (k : Nat) : mapOf D (R ++ [k]) = mapOf D R ++ [(D k, R.length)] := by
  unfold mapOf
  rw [List.zipIdx_append, List.map_append]
  simp
theorem find_zip {α : Type} [DecidableEq α] (D : Nat → α) (d : α) : ∀ (R : List Nat) (o : Nat), (∀ j, findIn d ((R.zipIdx o).map fun x => (D x.1, x.2)) = some j → o ≤ j ∧ j - o < R.length ∧ D (R.getD (j - o) 0) = d) ∧ (findIn d ((R.zipIdx o).map fun x => (D x.1, x.2)) = none → ∀ i ∈ R, D i ≠ d)
  | [], o => ⟨(fun j h => by cases h), (fun _ i h => by cases h)⟩
  | r :: R, o => by
    have ih := find_zip D d R (o + 1)
    rw [List.zipIdx_cons, List.map_cons]
    constructor
    · intro j h
      simp only [findIn] at h
      split at h
      · rename_i q
        cases h
        exact ⟨Nat.le_refl _, by simp, by simpa using q.symm⟩
      · obtain ⟨h1, h2, h3⟩ := ih.1 j h
        refine ⟨by omega, by simp; omega, ?_⟩
        rw [show j - o = (j - (o + 1)) + 1 by omega]
        simpa using h3
    · intro h i hi
      simp only [findIn] at h
      split at h
      · cases h
      · rename_i q
        rcases List.mem_cons.1 hi with rfl | hi
        · exact fun e => q e.symm
        · exact ih.2 h i hi

end Go.Proofs.Ytdbcmdafgojnnaa

namespace Go.Proofs.Ytdbcmdafgojnnaa
open Go Go.RowKit
set_option linter.unusedSimpArgs false
set_option linter.unusedVariables false

set_option maxRecDepth 100000 in
set_option maxHeartbeats 4000000 in
theorem rnone_any (r : Rf) (w : World) : Calls Try.prog 29 #[.agg (rfC r)] w fun e w' => e = .returned (.bool (decide (r = rf0))) ∧ Below w.heap.size w w' := by
  have r0 : Blk (w.alloc (.cells (rfC r) 70)) w.heap.size 70 (rfC r) := Blk.new _ _ _
  have hb : Below w.heap.size w (w.alloc (.cells (rfC r) 70)) := below_new1 _ _
  have hz := zero_rref
  have hq : ∀ W, (Op.equalIn 10000 70 (.agg (rfC r)) (.agg (rfC rf0))).run Try.prog W = .ok (decide (r = rf0)) W := eq_rref 9997 r rf0
  obtain ⟨b, hbd⟩ : ∃ b, b = decide (r = rf0) := ⟨_, rfl⟩
  rw [← hbd] at hq ⊢
  clear hbd
  go_enter Try.func29, Try.ntmps29
  go_wp2_with (first
    | (refine wpList_load_rowg (by rfl) 70 _ (by rfl) (w.heap.size) (by rfl) 70 (rfC r) (0, 0) _ (by exact r0) Try.underlying70 (by rfl) (sizeRref.trans (by rw [rfC_size])) ?_; simp only [Act.put, List.setIfInBounds_toArray, List.set_cons_zero, List.set_cons_succ])
    | fail)
  go_ret
  exact ⟨rfl, hb⟩
set_option maxRecDepth 100000 in
set_option maxHeartbeats 4000000 in
theorem rright_any (r : Rf) (w : World) : Calls Try.prog 33 #[.agg (rfC r)] w fun e w' => e = .returned (.bool (rOk r)) ∧ Below w.heap.size w w' := by
  have r0 : Blk (w.alloc (.cells (rfC r) 70)) w.heap.size 70 (rfC r) := Blk.new _ _ _
  have hb : Below w.heap.size w (w.alloc (.cells (rfC r) 70)) := below_new1 _ _
  have hsz : (w.alloc (.cells (rfC r) 70)).heap.size = w.heap.size + 1 := by simp
  have hn : Hid (∀ w, Calls Try.prog 29 #[.agg (rfC r)] w fun e w' => e = .returned (.bool (decide (r = rf0))) ∧ Below w.heap.size w w') := rnone_any r
  have hx : (w.alloc (.cells (rfC r) 70)).cell? ⟨w.heap.size, 0, none⟩ = some (.int .u32 (r.1 : Int)) := by
    rw [r0.cell]
    exact va_at (rfF r.1 r.2) (by decide)
  have HO : Hid (rOk r = (decide (r = rf0) || decide (r.1 ≠ 0))) := rfl
  obtain ⟨b, hbd⟩ : ∃ b, b = decide (r = rf0) := ⟨_, rfl⟩
  obtain ⟨n, hnd⟩ : ∃ n, n = r.1 := ⟨_, rfl⟩
  rw [← hbd] at hn HO
  rw [← hnd] at hx HO
  clear hbd hnd
  go_enter Try.func33, Try.ntmps33
  go_wp2_with (first
    | (refine wpList_load_rowg (by rfl) 70 _ (by rfl) (w.heap.size) (by rfl) 70 (rfC r) (0, 0) _ (by exact r0) Try.underlying70 (by rfl) (sizeRref.trans (by rw [rfC_size])) ?_; simp only [Act.put, List.setIfInBounds_toArray, List.set_cons_zero, List.set_cons_succ])
    | fail)
  generalize (w.alloc (.cells (rfC r) 70)) = w1 at *
  refine (hn.out w1).mono ?_
  rintro e w2 ⟨rfl, hb2⟩
  have r2 : Blk w2 w.heap.size 70 (rfC r) := r0.below hb2 (by omega)
  have hx2 : w2.cell? ⟨w.heap.size, 0, none⟩ = some (.int .u32 (n : Int)) := by
    rw [← hx, r2.cell, r0.cell]
  have hb3 : Below w.heap.size w w2 := hb.trans (hb2.mono (by omega))
  clear hn hx r0 hb hb2 r2
  cases b
  · go_wp2_with fail
    go_ret
    refine ⟨?_, hb3⟩
    rw [HO.out]
    by_cases h0 : n = 0
    · subst h0
      rfl
    · have : ¬ (n : Int) = 0 := by omega
      simp [h0, this]
  · go_wp2_with fail
    go_ret
    refine ⟨?_, hb3⟩
    rw [HO.out]
    rfl
theorem nd_build2 {P : Program} {ops : Array Oper} {rest : List Oper} {o : Oper} {a : Act} {w : World} {Q : Exit → Act → World → Prop} (hg : o.guard = none) (t : TypeId) (x y : Operand) (ho : o.op = .build t #[(0, x), (1, y)]) (vx vy : Value) (hx : a.eval x = vx) (hy : a.eval y = vy)
    (cells : Array Value) (hf : P.built t [(0, vx), (1, vy)] = some cells) (h : wpList P ops Q rest (a.put o.dst (.agg cells)) w) : wpList P ops Q (o :: rest) a w := by
  refine wpList_buildTo hg t _ ho o.dst rfl cells ?_ h
  have e : (Array.map (fun (x : Nat × Operand) => match x with | (i, x) => (i, a.eval x)) #[(0, x), (1, y)]).toList = [(0, vx), (1, vy)] := by simp [hx, hy]
  rw [e]
  exact hf
theorem built_refC (a : Nat) (d : Vector Nat 32) : Try.prog.built 48 [(0, .int .u32 (a : Int)), (1, .agg (va 32 (iv .u8 (dF d))))] = some (rfC (a, d)) := built_refD a d
set_option maxRecDepth 100000 in
set_option maxHeartbeats 4000000 in
theorem refRef_any (r : Rf) (w : World) : Calls Try.prog 30 #[.agg (rfC r)] w fun e w' => e = .returned (.agg (rfC r)) ∧ Below w.heap.size w w' := by
  have hz := zero_rref
  have r0 : Blk ((w.alloc (.cells (rfC r) 48)).alloc (.cells (rfC rf0) 70)) w.heap.size 48 (va 33 (rfF r.1 r.2)) := (Blk.new _ _ _).alloc _
  have r1 : Blk ((w.alloc (.cells (rfC r) 48)).alloc (.cells (rfC rf0) 70)) (w.heap.size + 1) 70 (rfC rf0) := Blk.new1 _ _ _ _
  have hb : Below w.heap.size w ((w.alloc (.cells (rfC r) 48)).alloc (.cells (rfC rf0) 70)) := below_new2 _ _ _
  have x1 : ((w.alloc (.cells (rfC r) 48)).alloc (.cells (rfC rf0) 70)).cell? ⟨w.heap.size, 0, none⟩ = some (.int .u32 (r.1 : Int)) := by
    rw [r0.cell]
    exact va_at (rfF r.1 r.2) (by decide)
  have HR : Hid (((w.alloc (.cells (rfC r) 48)).alloc (.cells (rfC rf0) 70)).rangeAt w.heap.size 1 ((List.range 32).map (iv .u8 (dF r.2)))) := fun j v hv => by
    have := r0.range 1 32 (by omega) j v
    refine this ?_
    rw [← hv]
    congr 1
  have HBT : Hid (Try.prog.built 70 [(0, .int .u32 (r.1 : Int)), (1, .agg (va 32 (iv .u8 (dF r.2))))] = some (rfC r)) := built_rref r.1 r.2
  go_enter Try.func30, Try.ntmps30
  go_wp2_with (first
    | (refine wpList_load_blk (by rfl) 44 _ (by rfl) (w.heap.size) (1) 32 (iv .u8 (dF r.2)) (by rfl) _ (by exact HR.out) Try.underlying44 rfl sizeSm ?_; simp only [Act.put, List.setIfInBounds_toArray, List.set_cons_zero, List.set_cons_succ])
    | (refine nd_build2 (by rfl) 70 _ _ (by rfl) (.int .u32 (r.1 : Int)) (.agg (va 32 (iv .u8 (dF r.2)))) (by rfl) (by rfl) (rfC r) (by exact HBT.out) ?_; simp only [Act.put, List.setIfInBounds_toArray, List.set_cons_zero, List.set_cons_succ])
    | (refine wpList_store_row (by rfl) 70 _ _ (by rfl) (w.heap.size + 1) (rfC r) (by rfl) (by rfl) 70 _ (by exact r1) (sizeRref.trans (by rw [rfC_size])) (by simp only [rfC_size]) (rfC_all _) ?_; simp only [Act.put, List.setIfInBounds_toArray, List.set_cons_zero, List.set_cons_succ])
    | fail)
  try simp only [Exit.inBlock, Exit.then]
  refine bodyPost_ret (results_cell_row Try.results30 _ _ (w.heap.size + 1) 70 (rfC r) (0, 0) _ rfl (r1.set _) Try.underlying70 rfl (sizeRref.trans (by rw [rfC_size]))) rfl ?_
  exact ⟨rfl, below_setRow hb (by omega) _⟩
set_option maxRecDepth 100000 in
set_option maxHeartbeats 4000000 in
theorem refPlain_any (r : Rf) (w : World) : Calls Try.prog 32 #[.agg (rfC r)] w fun e w' => e = .returned (.agg (rfC r)) ∧ Below w.heap.size w w' := by
  have hz := zero_ref
  have r0 : Blk ((w.alloc (.cells (rfC r) 70)).alloc (.cells (rfC rf0) 48)) w.heap.size 70 (va 33 (rfF r.1 r.2)) := (Blk.new _ _ _).alloc _
  have r1 : Blk ((w.alloc (.cells (rfC r) 70)).alloc (.cells (rfC rf0) 48)) (w.heap.size + 1) 48 (rfC rf0) := Blk.new1 _ _ _ _
  have hb : Below w.heap.size w ((w.alloc (.cells (rfC r) 70)).alloc (.cells (rfC rf0) 48)) := below_new2 _ _ _
  have x1 : ((w.alloc (.cells (rfC r) 70)).alloc (.cells (rfC rf0) 48)).cell? ⟨w.heap.size, 0, none⟩ = some (.int .u32 (r.1 : Int)) := by
    rw [r0.cell]
    exact va_at (rfF r.1 r.2) (by decide)
  have HR : Hid (((w.alloc (.cells (rfC r) 70)).alloc (.cells (rfC rf0) 48)).rangeAt w.heap.size 1 ((List.range 32).map (iv .u8 (dF r.2)))) := fun j v hv => by
    have := r0.range 1 32 (by omega) j v
    refine this ?_
    rw [← hv]
    congr 1
  have HBT : Hid (Try.prog.built 48 [(0, .int .u32 (r.1 : Int)), (1, .agg (va 32 (iv .u8 (dF r.2))))] = some (rfC r)) := built_refC r.1 r.2
  go_enter Try.func32, Try.ntmps32
  go_wp2_with (first
    | (refine wpList_load_blk (by rfl) 33 _ (by rfl) (w.heap.size) (1) 32 (iv .u8 (dF r.2)) (by rfl) _ (by exact HR.out) Try.underlying33 rfl ndSize32 ?_; simp only [Act.put, List.setIfInBounds_toArray, List.set_cons_zero, List.set_cons_succ])
    | (refine nd_build2 (by rfl) 48 _ _ (by rfl) (.int .u32 (r.1 : Int)) (.agg (va 32 (iv .u8 (dF r.2)))) (by rfl) (by rfl) (rfC r) (by exact HBT.out) ?_; simp only [Act.put, List.setIfInBounds_toArray, List.set_cons_zero, List.set_cons_succ])
    | (refine wpList_store_row (by rfl) 48 _ _ (by rfl) (w.heap.size + 1) (rfC r) (by rfl) (by rfl) 48 _ (by exact r1) (slSizeRef.trans (by rw [rfC_size])) (by simp only [rfC_size]) (rfC_all _) ?_; simp only [Act.put, List.setIfInBounds_toArray, List.set_cons_zero, List.set_cons_succ])
    | fail)
  try simp only [Exit.inBlock, Exit.then]
  refine bodyPost_ret (results_cell_row Try.results32 _ _ (w.heap.size + 1) 48 (rfC r) (0, 0) _ rfl (r1.set _) Try.underlying48 rfl (slSizeRef.trans (by rw [rfC_size]))) rfl ?_
  exact ⟨rfl, below_setRow hb (by omega) _⟩
theorem digs_byL (n : Nat) : (digs n 4).map (Value.int .u8) = byL (dig n) 4 := by
  unfold digs byL dig
  rw [List.map_map]
  rfl
theorem encR_cells (r : Rf) : byL (encR r) 36 = byL (dig r.1) 4 ++ byL (dF r.2) 32 := by
  rw [show (36 : Nat) = 4 + 32 from rfl, byL_add]
  have h1 : byL (encR r) 4 = byL (dig r.1) 4 := byL_congr fun j hj => by unfold encR; rw [if_pos hj]
  have h2 : byL (fun j => encR r (4 + j)) 32 = byL (dF r.2) 32 := byL_congr fun j hj => by unfold encR; rw [if_neg (by omega), show 4 + j - 4 = j by omega]
  rw [h1, h2]
theorem rf_mid (r : Rf) {w : World} {b t : Nat} (h : Blk w b t (va 33 (rfF r.1 r.2))) : ∀ j u, (byL (dF r.2) 32)[j]? = some u → w.cell? ((⟨b, 1, none⟩ : Addr).add j) = some u := fun j u hu => by
  have hj : j < 32 := by
    rcases Nat.lt_or_ge j 32 with h1 | h1
    · exact h1
    · rw [List.getElem?_eq_none (by rw [byL_length]; exact h1)] at hu
      cases hu
  rw [byL_at _ _ _ hj] at hu
  injection hu with hu
  subst hu
  rw [Addr.add_mid, h.cell, va_at (rfF r.1 r.2) (by omega)]
  unfold rfF
  rw [if_neg (by omega), show 1 + j - 1 = j by omega]
set_option maxRecDepth 100000 in
set_option maxHeartbeats 4000000 in
theorem refEncR_any (r : Rf) (hn : r.1 < 4294967296) (w : World) : Calls Try.prog 31 #[.agg (rfC r)] w fun e w' => ∃ g c, e = .returned (.slice (some ⟨g, 0, none⟩) 36 c) ∧ w'.ownsRow (w.heap.size + 1) 5 1 (.slice (some ⟨g, 0, none⟩) 36 c) 36 (byL (encR r) 36) ∧ Below w.heap.size w w' := by
  obtain ⟨i0, hi, hz0, hz1, hz2⟩ := info_parts infoU8k
  have r0 : Blk (w.alloc (.cells (rfC r) 70)) w.heap.size 70 (va 33 (rfF r.1 r.2)) := Blk.new _ _ _
  have hb : Below w.heap.size w (w.alloc (.cells (rfC r) 70)) := below_new1 _ _
  have hsz : (w.alloc (.cells (rfC r) 70)).heap.size = w.heap.size + 1 := by simp
  have HBY : Hid (∀ w, Calls Try.prog 61 #[.int .u64 (r.1 : Int), .int .i64 4] w fun e w' => ∃ v, e = .returned v ∧ w'.ownsRow w.heap.size 5 1 v 4 (byL (dig r.1) 4) ∧ Below w.heap.size w w') := fun w => by
    have := refBytes_own r.1 4 (by decide) (by omega) w
    rw [digs_byL] at this
    exact this
  have e1 : IntKind.u64.wrap (r.1 : Int) = (r.1 : Int) := by
    show (r.1 : Int) % 18446744073709551616 = _
    omega
  go_enter Try.func31, Try.ntmps31
  go_wp2_with fail
  generalize (w.alloc (.cells (rfC r) 70)) = w1 at *
  have r2 : Blk w1.drew w.heap.size 70 (va 33 (rfF r.1 r.2)) := r0.drew
  have hb2 : Below w.heap.size w w1.drew := hb.drew
  have hs2 : w1.drew.heap.size = w.heap.size + 1 := hsz
  have x0 : w1.drew.cell? ⟨w.heap.size, 0, none⟩ = some (.int .u32 (r.1 : Int)) := by
    rw [r2.cell]
    exact va_at (rfF r.1 r.2) (by decide)
  clear r0 hb
  refine wp_region_partsS (fun W => W.cell? ⟨w.heap.size, 0, none⟩ = some (.int .u32 (r.1 : Int))) [([], 0, true), ([], 1, true), ([], 2, true), ([], 4, true), ([], 5, true), ([], 3, false)] [] [6, 7] (by kernel_rfl) (by kernel_rfl) x0 (partsI_yield ?_)
  simp only [List.cons_append, List.nil_append, List.append_nil, List.filterMap_cons, List.filterMap_nil, List.getElem?_toArray, List.getElem?_cons_zero, List.getElem?_cons_succ]
  go_wp2_with fail
  refine ⟨rfl, _, .pointer (some ⟨w.heap.size, 0, none⟩), rfl, Or.inl ⟨by rfl, fun W hW => by go_simp⟩, partsI_yield ?_⟩
  simp only [Act.put, List.setIfInBounds_toArray, List.set_cons_zero, List.set_cons_succ]
  simp only [List.cons_append, List.nil_append, List.append_nil, List.filterMap_cons, List.filterMap_nil, List.getElem?_toArray, List.getElem?_cons_zero, List.getElem?_cons_succ]
  go_wp2_with fail
  refine ⟨rfl, _, .int .u32 (r.1 : Int), rfl, Or.inl ⟨by rfl, fun W hW => by have hW1 : W.cell? ⟨w.heap.size, 0, none⟩ = some (.int .u32 (r.1 : Int)) := hW; go_simp⟩, partsI_yield ?_⟩
  simp only [Act.put, List.setIfInBounds_toArray, List.set_cons_zero, List.set_cons_succ]
  simp only [List.cons_append, List.nil_append, List.append_nil, List.filterMap_cons, List.filterMap_nil, List.getElem?_toArray, List.getElem?_cons_zero, List.getElem?_cons_succ]
  go_wp2_with fail
  refine ⟨rfl, _, .int .u64 (r.1 : Int), rfl, Or.inl ⟨by rfl, fun W hW => by go_simp⟩, partsI_yield ?_⟩
  simp only [Act.put, List.setIfInBounds_toArray, List.set_cons_zero, List.set_cons_succ]
  simp only [List.cons_append, List.nil_append, List.append_nil, List.filterMap_cons, List.filterMap_nil, List.getElem?_toArray, List.getElem?_cons_zero, List.getElem?_cons_succ]
  go_wp2_with fail
  refine ⟨rfl, _, .pointer (some ⟨w.heap.size, 1, none⟩), rfl, Or.inl ⟨by rfl, fun W hW => by go_simp⟩, partsI_yield ?_⟩
  simp only [Act.put, List.setIfInBounds_toArray, List.set_cons_zero, List.set_cons_succ]
  simp only [List.cons_append, List.nil_append, List.append_nil, List.filterMap_cons, List.filterMap_nil, List.getElem?_toArray, List.getElem?_cons_zero, List.getElem?_cons_succ]
  go_wp2_with fail
  refine ⟨rfl, _, .slice (some ⟨w.heap.size, 1, none⟩) 32 32, rfl, Or.inl ⟨by rfl, fun W hW => by go_simp⟩, partsI_force ?_⟩
  simp only [Act.put, List.setIfInBounds_toArray, List.set_cons_zero, List.set_cons_succ]
  simp only [List.cons_append, List.nil_append, List.append_nil, List.filterMap_cons, List.filterMap_nil, List.getElem?_toArray, List.getElem?_cons_zero, List.getElem?_cons_succ]
  go_wp2_with fail
  refine (HBY.out _).mono ?_
  rintro e w3 ⟨v3, rfl, ho3, hb3⟩
  have r3 : Blk w3 w.heap.size 70 (va 33 (rfF r.1 r.2)) := r2.below hb3 (by omega)
  have x3 : w3.cell? ⟨w.heap.size, 0, none⟩ = some (.int .u32 (r.1 : Int)) := by
    rw [r3.cell]
    exact va_at (rfF r.1 r.2) (by decide)
  have HO3 : Hid (w3.ownsRow (w.heap.size + 1) 5 1 v3 4 (byL (dig r.1) 4)) := kown_mono ho3 (by omega)
  have hs3 := hb3.size
  have hb4 : Below w.heap.size w w3 := hb2.trans (hb3.mono (by omega))
  clear ho3 hb3 r2 hb2 HBY x0
  go_wp2_with fail
  refine ⟨rfl, x3, partsI_last ?_⟩
  simp only [List.cons_append, List.nil_append, List.append_nil, List.filterMap_cons, List.filterMap_nil, List.getElem?_toArray, List.getElem?_cons_zero, List.getElem?_cons_succ]
  have HC : Hid (∀ j u, (byL (dF r.2) 32)[j]? = some u → w3.cell? ((⟨w.heap.size, 1, none⟩ : Addr).add j) = some u) := rf_mid r r3
  have HL : Hid (∀ k, v3.ownBlock = some k → (w.heap.size + 1) ≤ k) := fun k hk => (HO3.out.lt k hk).1
  clear r3 x3
  refine wpList_append_own_at rfl _ _ 77 rfl (w.heap.size + 1) 5 i0 (.int .u8 0) 1 1 Try.underlying77 hi hz0 hz1 hz2 rfl (by decide) _ _ _ rfl HO3.out ⟨w.heap.size, 1, none⟩ 32 32 (byL (dF r.2) 32) rfl (by rw [byL_length]) HC.out (mem_iv_one _ _ _) (by unfold maxLen; omega) (by omega) (by omega) ?_
  intro v5 w5 ho5 hg5 _
  have hb5 : Below w.heap.size w w5 := hb4.grown hg5 (by omega) (fun k hk => by have := HL.out k hk; omega)
  rw [← encR_cells r] at ho5
  obtain ⟨g5, cap5, hv5, _, _⟩ := kown_form ho5 (by omega)
  subst hv5
  have HO5 : Hid (w5.ownsRow (w.heap.size + 1) 5 1 (.slice (some ⟨g5, 0, none⟩) 36 cap5) 36 (byL (encR r) 36)) := ho5
  clear ho5 hg5 HO3
  simp only [Act.put, List.setIfInBounds_toArray, List.set_cons_zero, List.set_cons_succ]
  go_wp2_with fail
  refine ⟨rfl, ?_⟩
  go_wp2_with fail
  go_ret
  exact ⟨_, _, rfl, HO5.out, hb5⟩
end Go.Proofs.Ytdbcmdafgojnnaa

namespace Go.Proofs.Ytdbcmdafgojnnaa
open Go Go.RowKit
set_option linter.unusedSimpArgs false
set_option linter.unusedVariables false

theorem nd_build1 {P : Program} {ops : Array Oper} {rest : List Oper} {o : Oper} {a : Act} {w : World} {Q : Exit → Act → World → Prop} (hg : o.guard = none) (t : TypeId) (x : Operand) (ho : o.op = .build t #[(0, x)]) (vx : Value) (hx : a.eval x = vx)
    (cells : Array Value) (hf : P.built t [(0, vx)] = some cells) (h : wpList P ops Q rest (a.put o.dst (.agg cells)) w) : wpList P ops Q (o :: rest) a w := by
  refine wpList_buildTo hg t _ ho o.dst rfl cells ?_ h
  have e : (Array.map (fun (x : Nat × Operand) => match x with | (i, x) => (i, a.eval x)) #[(0, x)]).toList = [(0, vx)] := by simp [hx]
  rw [e]
  exact hf
theorem le4_dig (n : Nat) (h : n < 4294967296) : le4 (dig n 0) (dig n 1) (dig n 2) (dig n 3) = n := by
  unfold le4 dig
  simp
  omega
theorem sumD_dF (d : Vector Nat 32) : sumD (dF d) = d := dF_inj fun i hi => dF_sumD (dF d) i hi
/-- what Encode lays, Decode takes -/
theorem decR_of (s : ByteArray) (a : Nat) (r : Rf) (hr : r.1 < 4294967296) (h : ∀ j, j < 36 → tbyte s (a + j) = encR r j) : decR s a = r := by
  obtain ⟨n, d⟩ := r
  unfold decR at4
  have e : ∀ j, j < 4 → tbyte s (a + j) = dig n j := fun j hj => by
    rw [h j (by omega)]
    unfold encR
    rw [if_pos hj]
  have e0 : tbyte s a = dig n 0 := e 0 (by decide)
  rw [e0, e 1 (by decide), e 2 (by decide), e 3 (by decide), le4_dig n hr]
  have e2 : (sumD fun i => tbyte s (a + 4 + i)) = d := dF_inj fun i hi => by
    rw [dF_sumD _ i hi]
    have := h (4 + i) (by omega)
    rw [show a + (4 + i) = a + 4 + i by omega] at this
    rw [this]
    unfold encR
    rw [if_neg (by omega), show 4 + i - 4 = i by omega]
  rw [e2]
theorem rawK_of (l : Nat) (hl : l < 256) (K : Nat → Rf) (hK : ∀ i, i < 4 → okD (K i).2) (hn : ∀ i, i < 4 → (K i).1 < 4294967296) (f : Nat → Nat) (hf : bkSame f (nodeB l K)) (i : Nat) (hi : i < 4) : rawK f i = K i := by
  unfold rawK
  refine decR_of _ _ _ (hn i hi) fun j hj => ?_
  have hb := hf (8 + 36 * i + j) (by omega)
  rw [strN_at f 256 _ (by omega) (by rw [hb]; exact nodeB_lt l hl K hK _), hb, nodeB_kid l K i j hi hj]
theorem nodeB_congr {l : Nat} {K K' : Nat → Rf} (h : ∀ i, i < 4 → K i = K' i) : nodeB l K = nodeB l K' := by
  funext j
  unfold nodeB
  by_cases h1 : j < 8
  · rw [if_pos h1, if_pos h1]
  · rw [if_neg h1, if_neg h1]
    by_cases h2 : j < 152
    · rw [if_pos h2, if_pos h2, h _ (by omega)]
    · rw [if_neg h2, if_neg h2]
theorem ndOk_right {l : Int} {K : Nat → Rf} (h : ndOk l K = true) (i : Nat) (hi : i < 4) : rOk (K i) = true := by
  unfold ndOk at h
  rw [Bool.and_eq_true, List.all_eq_true] at h
  exact h.2 i (by simpa using hi)
theorem ndOk_level {l : Int} {K : Nat → Rf} (h : ndOk l K = true) : 1 ≤ l ∧ l ≤ 6 := by
  unfold ndOk at h
  rw [Bool.and_eq_true, Bool.and_eq_true, decide_eq_true_eq, decide_eq_true_eq] at h
  exact h.1
theorem ndOk_congr {l : Int} {K K' : Nat → Rf} (h : ∀ i, i < 4 → K i = K' i) : ndOk l K = ndOk l K' := by
  unfold ndOk
  congr 1
  rw [Bool.eq_iff_iff, List.all_eq_true, List.all_eq_true]
  constructor
  · intro q i hi
    rw [← h i (by simpa using hi)]
    exact q i hi
  · intro q i hi
    rw [h i (by simpa using hi)]
    exact q i hi
theorem decK_of (l : Nat) (K : Nat → Rf) (hl : ndOk l K = true) (hK : ∀ i, i < 4 → okD (K i).2) (hn : ∀ i, i < 4 → (K i).1 < 4294967296) (f : Nat → Nat) (hf : bkSame f (nodeB l K)) (i : Nat) (hi : i < 4) : decK f i = K i := by
  have h6 := ndOk_level hl
  unfold decK
  rw [rawK_of l (by omega) K hK hn f hf i hi, ndOk_right hl i hi, if_pos rfl]
theorem rdOk_of (l : Nat) (K : Nat → Rf) (hl : ndOk l K = true) (hK : ∀ i, i < 4 → okD (K i).2) (hn : ∀ i, i < 4 → (K i).1 < 4294967296) (f : Nat → Nat) (hf : bkSame f (nodeB l K)) : rdOk f = true := by
  have hd := decK_of l K hl hK hn f hf
  have h4 : f 4 = l := by
    rw [hf 4 (by decide)]
    rfl
  unfold rdOk
  rw [h4, ndOk_congr hd, hl, Bool.true_and, decide_eq_true_eq, nodeB_congr hd]
  exact fun i hi => (hf i hi).symm
/-- the node of awake -/
def K5 : Nat → Rf := fun i => if i = 0 then (5, Vector.replicate 32 0) else rf0
theorem built_r5 : Try.prog.built 48 [(0, .int .u32 5)] = some (rfC (5, Vector.replicate 32 0)) := by kernel_rfl
theorem built_r1 : Try.prog.built 48 [(0, .int .u32 1)] = some (rfC (1, Vector.replicate 32 0)) := by kernel_rfl
theorem built_k5 : Try.prog.built 81 [(0, .agg (rfC (5, Vector.replicate 32 0)))] = some (kdC K5) := by kernel_rfl
theorem built_n5 : Try.prog.built 83 [(0, .int .i64 2), (1, .agg (kdC K5))] = some (ndC 2 K5) := by kernel_rfl
theorem K5_ok (i : Nat) (hi : i < 4) : okD (K5 i).2 := by
  unfold K5
  split
  · exact okD_zero
  · exact okD_zero
theorem K5_lt (i : Nat) (hi : i < 4) : (K5 i).1 < 4294967296 := by
  unfold K5
  split
  · decide
  · decide
theorem ndOk5 : ndOk 2 K5 = true := by decide
set_option maxRecDepth 100000 in
set_option maxHeartbeats 4000000 in
theorem awake7_any (w : World) : Calls Try.prog 27 #[] w fun e w' => e = .returned (.bool true) ∧ Below w.heap.size w w' := by
  have hz := zero_node
  have hzb := zero_bk
  have hzr := zero_ref
  have HB : Hid (∀ w, Calls Try.prog 34 #[.agg (ndC 2 K5)] w fun e w' => e = .returned (.tuple #[.agg (va 256 (iv .u8 (nodeB 2 K5))), .int .i64 0]) ∧ Below w.heap.size w w') := fun w => by
    have := block_any 2 K5 K5_ok w
    unfold blkF at this
    rw [ndOk5] at this
    exact this
  have HR : Hid (∀ w, Calls Try.prog 40 #[.agg (va 256 (iv .u8 (nodeB 2 K5)))] w fun e w' => e = .returned (.tuple #[.agg (ndC 2 K5), .int .i64 0]) ∧ Below w.heap.size w w') := fun w => by
    have := read_any (nodeB 2 K5) (nodeB_lt 2 (by decide) K5 K5_ok) w
    have hf : bkSame (nodeB 2 K5) (nodeB 2 K5) := fun i _ => rfl
    rw [rdOk_of 2 K5 ndOk5 K5_ok K5_lt _ hf] at this
    have e : ndC ((nodeB 2 K5 4 : Nat) : Int) (decK (nodeB 2 K5)) = ndC 2 K5 := nd_congr (decK_of 2 K5 ndOk5 K5_ok K5_lt _ hf)
    rw [e] at this
    exact this
  have HQ : ∀ W, (Op.equalIn 10000 83 (.agg (ndC 2 K5)) (.agg (ndC 2 K5))).run Try.prog W = .ok true W := fun W => by
    rw [eq_node 2 2 K5 K5 W, decide_eq_true ⟨rfl, fun _ _ => rfl⟩]
  have HN0 : Hid (∀ w, Calls Try.prog 28 #[.agg (rfC rf0)] w fun e w' => e = .returned (.bool true) ∧ Below w.heap.size w w') := fun w => by
    have := none_any rf0 w
    rwa [decide_eq_true rfl] at this
  have HN1 : Hid (∀ w, Calls Try.prog 28 #[.agg ((rfC rf0).setIfInBounds 0 (.int .u32 1))] w fun e w' => e = .returned (.bool false) ∧ Below w.heap.size w w') := fun w => by
    have := none_any (1, Vector.replicate 32 0) w
    have e1 : (rfC rf0).setIfInBounds 0 (.int .u32 1) = rfC (1, Vector.replicate 32 0) := by kernel_rfl
    rw [e1]
    rwa [decide_eq_false (fun h => by injection h with h1 h2; cases h1)] at this
  have hns : (ndC 2 K5).size = 133 := ndC_size _ _
  have HNA : Hid ((ndC 2 K5).all (·.oneCell') = true) := ndC_all _ _
  have HB5 : Hid (Try.prog.built 48 [(0, .int .u32 5)] = some (rfC (5, Vector.replicate 32 0))) := built_r5
  have HBK : Hid (Try.prog.built 81 [(0, .agg (rfC (5, Vector.replicate 32 0)))] = some (kdC K5)) := built_k5
  have HBN : Hid (Try.prog.built 83 [(0, .int .i64 2), (1, .agg (kdC K5))] = some (ndC 2 K5)) := built_n5
  generalize ndC 2 K5 = nc at *
  generalize kdC K5 = kc at *
  generalize nodeB 2 K5 = bf at *
  generalize rfC (5, Vector.replicate 32 0) = r5 at *
  have a0 : Blk (w.alloc (.cells (ndC 0 fun _ => rf0) 83)) w.heap.size 83 (ndC 0 fun _ => rf0) := Blk.new _ _ _
  have hb : Below w.heap.size w (w.alloc (.cells (ndC 0 fun _ => rf0) 83)) := below_new1 _ _
  go_enter Try.func27, Try.ntmps27
  go_wp2_with (first
    | (refine nd_build1 (by rfl) 48 _ (by rfl) (.int .u32 5) (by rfl) (r5) (by exact HB5.out) ?_; simp only [Act.put, List.setIfInBounds_toArray, List.set_cons_zero, List.set_cons_succ])
    | (refine nd_build1 (by rfl) 81 _ (by rfl) (.agg r5) (by rfl) (kc) (by exact HBK.out) ?_; simp only [Act.put, List.setIfInBounds_toArray, List.set_cons_zero, List.set_cons_succ])
    | (refine nd_build2 (by rfl) 83 _ _ (by rfl) (.int .i64 2) (.agg kc) (by rfl) (by rfl) (nc) (by exact HBN.out) ?_; simp only [Act.put, List.setIfInBounds_toArray, List.set_cons_zero, List.set_cons_succ])
    | (refine wpList_store_row (by rfl) 83 _ _ (by rfl) (w.heap.size) (nc) (by rfl) (by rfl) 83 _ (by exact a0) (sizeNode.trans (by rw [hns])) (by rw [hns, ndC_size]) (HNA.out) ?_; simp only [Act.put, List.setIfInBounds_toArray, List.set_cons_zero, List.set_cons_succ])
    | (refine wpList_load_rowg (by rfl) 83 _ (by rfl) (w.heap.size) (by rfl) 83 (nc) (0, 0) _ (by exact a0.set _) Try.underlying83 (by rfl) (sizeNode.trans (by rw [hns])) ?_; simp only [Act.put, List.setIfInBounds_toArray, List.set_cons_zero, List.set_cons_succ])
    | fail)
  have a1 : Blk ((w.alloc (.cells (ndC 0 fun _ => rf0) 83)).setRow w.heap.size nc) w.heap.size 83 nc := a0.set _
  have hb1 : Below w.heap.size w ((w.alloc (.cells (ndC 0 fun _ => rf0) 83)).setRow w.heap.size nc) := below_setRow hb (Nat.le_refl _) _
  have hs1 : ((w.alloc (.cells (ndC 0 fun _ => rf0) 83)).setRow w.heap.size nc).heap.size = w.heap.size + 1 := by simp
  clear a0 hb HB5 HBK HBN
  generalize ((w.alloc (.cells (ndC 0 fun _ => rf0) 83)).setRow w.heap.size nc) = w1 at *
  refine (HB.out w1).mono ?_
  rintro e w2 ⟨rfl, hb2⟩
  have hs2 := hb2.size
  have b0 : Blk (w2.alloc (.cells (va 256 (iv .u8 fun _ => 0)) 60)) w2.heap.size 60 (va 256 (iv .u8 fun _ => 0)) := Blk.new _ _ _
  have a2 : Blk ((w2.alloc (.cells (va 256 (iv .u8 fun _ => 0)) 60)).setRow w2.heap.size (va 256 (iv .u8 bf))) w.heap.size 83 nc := ((a1.below hb2 (by omega)).alloc _).other _ (by omega)
  have b1 : Blk ((w2.alloc (.cells (va 256 (iv .u8 fun _ => 0)) 60)).setRow w2.heap.size (va 256 (iv .u8 bf))) w2.heap.size 60 (va 256 (iv .u8 bf)) := b0.set _
  have hb3 : Below w.heap.size w ((w2.alloc (.cells (va 256 (iv .u8 fun _ => 0)) 60)).setRow w2.heap.size (va 256 (iv .u8 bf))) := below_setRow ((hb1.trans (hb2.mono (by omega))).alloc (by omega) _) (by omega) _
  have hs3 : ((w2.alloc (.cells (va 256 (iv .u8 fun _ => 0)) 60)).setRow w2.heap.size (va 256 (iv .u8 bf))).heap.size = w2.heap.size + 1 := by simp
  clear a1 hb1 hb2 HB
  go_wp2_with (first
    | (refine wpList_store_row (by rfl) 60 _ _ (by rfl) (w2.heap.size) (va 256 (iv .u8 (bf))) (by rfl) (by rfl) 60 (_) (by exact b0) (sizeBk.trans (by rw [va_size])) (by simp only [va_size]) (iv_one _ _ _) ?_; simp only [Act.put, List.setIfInBounds_toArray, List.set_cons_zero, List.set_cons_succ])
    | (refine wpList_load_rowg (by rfl) 60 _ (by rfl) (w2.heap.size) (by rfl) 60 (va 256 (iv .u8 (bf))) (0, 0) _ (by exact b1) Try.underlying60 (by rfl) (sizeBk.trans (by rw [va_size])) ?_; simp only [Act.put, List.setIfInBounds_toArray, List.set_cons_zero, List.set_cons_succ])
    | fail)
  clear b0
  generalize ((w2.alloc (.cells (va 256 (iv .u8 fun _ => 0)) 60)).setRow w2.heap.size (va 256 (iv .u8 bf))) = w3 at *
  refine (HR.out w3).mono ?_
  rintro e w4 ⟨rfl, hb4⟩
  have hs4 := hb4.size
  have d0 : Blk (w4.alloc (.cells (ndC 0 fun _ => rf0) 83)) w4.heap.size 83 (ndC 0 fun _ => rf0) := Blk.new _ _ _
  have a3 : Blk ((w4.alloc (.cells (ndC 0 fun _ => rf0) 83)).setRow w4.heap.size nc) w.heap.size 83 nc := ((a2.below hb4 (by omega)).alloc _).other _ (by omega)
  have d1 : Blk ((w4.alloc (.cells (ndC 0 fun _ => rf0) 83)).setRow w4.heap.size nc) w4.heap.size 83 nc := d0.set _
  have hb5 : Below w.heap.size w ((w4.alloc (.cells (ndC 0 fun _ => rf0) 83)).setRow w4.heap.size nc) := below_setRow ((hb3.trans (hb4.mono (by omega))).alloc (by omega) _) (by omega) _
  have hs5 : ((w4.alloc (.cells (ndC 0 fun _ => rf0) 83)).setRow w4.heap.size nc).heap.size = w4.heap.size + 1 := by simp
  clear a2 b1 hb3 hb4 HR
  go_wp2_with (first
    | (refine wpList_store_row (by rfl) 83 _ _ (by rfl) (w4.heap.size) (nc) (by rfl) (by rfl) 83 _ (by exact d0) (sizeNode.trans (by rw [hns])) (by rw [hns, ndC_size]) (HNA.out) ?_; simp only [Act.put, List.setIfInBounds_toArray, List.set_cons_zero, List.set_cons_succ])
    | (refine wpList_load_rowg (by rfl) 83 _ (by rfl) (w4.heap.size) (by rfl) 83 (nc) (0, 0) _ (by exact d1) Try.underlying83 (by rfl) (sizeNode.trans (by rw [hns])) ?_; simp only [Act.put, List.setIfInBounds_toArray, List.set_cons_zero, List.set_cons_succ])
    | (refine wpList_load_rowg (by rfl) 83 _ (by rfl) (w.heap.size) (by rfl) 83 (nc) (0, 0) _ (by exact a3) Try.underlying83 (by rfl) (sizeNode.trans (by rw [hns])) ?_; simp only [Act.put, List.setIfInBounds_toArray, List.set_cons_zero, List.set_cons_succ])
    | fail)
  generalize ((w4.alloc (.cells (ndC 0 fun _ => rf0) 83)).setRow w4.heap.size nc) = w5 at *
  refine (HN0.out w5).mono ?_
  rintro e w6 ⟨rfl, hb6⟩
  have hs6 := hb6.size
  have hb7 : Below w.heap.size w w6 := hb5.trans (hb6.mono (by omega))
  clear hb5 hb6 a3 d1
  go_wp2_with fail
  refine (HN1.out w6).mono ?_
  rintro e w7 ⟨rfl, hb8⟩
  have hb9 : Below w.heap.size w w7 := hb7.trans (hb8.mono (by omega))
  clear hb7 hb8
  go_wp2_with fail
  go_ret
  exact ⟨rfl, hb9⟩
end Go.Proofs.Ytdbcmdafgojnnaa
