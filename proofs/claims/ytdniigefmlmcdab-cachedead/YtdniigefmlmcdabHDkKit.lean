/- A disk in the memory, told by its blocks' bytes and its counts: what belongs to it, and what leaves it alone. No condition beyond those that each fact states. -/
import Derived.Test.YtdniigefmlmcdabHNdKit
import Derived.Test.YtdniigefmlmcdabHLogAdd
import Derived.Test.YtdniigefmlmcdabHLogKeep
import Derived.Handy
import Derived.OwnWalk
import Derived.Maps.AppendAt
import Derived.BigQuiet
import Derived.Deep.QuietTactic
import Derived.Deep.MidRow

namespace Go.Proofs.Ytdniigefmlmcdab
open Go Go.RowKit
set_option linter.unusedSimpArgs false
set_option linter.unusedVariables false

def intL (l : List Nat) : List Value := l.map fun (x : Nat) => Value.int .i64 (x : Int)
theorem intL_length (l : List Nat) : (intL l).length = l.length := by simp [intL]
/-- the slice v of slices ss holds the groups G, all from block B on, no two in one block -/
structure GrpAt (w : World) (B : Nat) (v : Value) (G : List (List Nat)) (ss : List Value) : Prop where
  row : w.ownsRow B 59 1 v G.length ss
  each : ∀ j, j < G.length → w.ownsRow B 3 1 (ss.getD j undef) (G.getD j []).length (intL (G.getD j []))
  apart : ∀ i j, i ≠ j → i < G.length → j < G.length → ∀ b, (ss.getD i undef).ownBlock = some b → (ss.getD j undef).ownBlock ≠ some b
theorem GrpAt.len {w : World} {B : Nat} {v : Value} {G : List (List Nat)} {ss : List Value} (h : GrpAt w B v G ss) : ss.length = G.length := by
  have := h.row.1
  omega
theorem GrpAt.below {w w' : World} {B : Nat} {v : Value} {G : List (List Nat)} {ss : List Value} (h : GrpAt w B v G ss) (hb : Below w.heap.size w w') : GrpAt w' B v G ss :=
  ⟨kown_below h.row hb, fun j hj => kown_below (h.each j hj) hb, h.apart⟩
theorem GrpAt.nil (w : World) (B : Nat) : GrpAt w B (.slice none 0 0) [] [] := ⟨World.ownsRow_nil _ _ _ _, fun j hj => absurd hj (by simp), fun i j _ hi => absurd hi (by simp)⟩
/-- one more group, with nothing in it -/
theorem GrpAt.more {w w' : World} {B : Nat} {v v' : Value} {G : List (List Nat)} {ss : List Value} (h : GrpAt w B v G ss) (hrow : w'.ownsRow B 59 1 v' (G.length + 1) (ss ++ [.slice none 0 0])) (hg : w.grownBy w' v.ownBlock) : GrpAt w' B v' (G ++ [[]]) (ss ++ [.slice none 0 0]) := by
  have hl := h.len
  have e1 : ∀ j, j < G.length → (ss ++ [Value.slice none 0 0]).getD j undef = ss.getD j undef := fun j hj => by
    simp [List.getD, List.getElem?_append_left (show j < ss.length by omega)]
  have e2 : (ss ++ [Value.slice none 0 0]).getD G.length undef = .slice none 0 0 := by
    rw [← hl]
    simp [List.getD]
  refine ⟨by simpa using hrow, fun j hj => ?_, fun i j hij hi hj b hb => ?_⟩
  · by_cases hjl : j < G.length
    · rw [e1 j hjl, show (G ++ [([] : List Nat)]).getD j [] = G.getD j [] by simp [List.getD, List.getElem?_append_left hjl]]
      refine (h.each j hjl).kept hg ?_
      cases hq : (ss.getD j undef).ownBlock with
      | none => exact .inl rfl
      | some k => exact .inr fun q => own_own (h.each j hjl) h.row (by decide) hq q.symm
    · obtain rfl : j = G.length := by simp at hj; omega
      rw [e2, show (G ++ [([] : List Nat)]).getD G.length [] = [] by simp [List.getD]]
      exact World.ownsRow_nil _ _ _ _
  · have hil : i < G.length := by
      rcases Nat.lt_or_ge i G.length with q | q
      · exact q
      · obtain rfl : i = G.length := by simp at hi; omega
        rw [e2] at hb
        cases hb
    rw [e1 i hil] at hb
    by_cases hjl : j < G.length
    · rw [e1 j hjl]
      exact h.apart i j hij hil hjl b hb
    · obtain rfl : j = G.length := by simp at hj; omega
      rw [e2]
      exact fun q => by cases q
theorem own_setCell {w : World} {B e n g cap : Nat} {xs : List Value} (h : w.ownsRow B e 1 (.slice (some ⟨g, 0, none⟩) n cap) n xs) (j : Nat) (hj : j < n) (x : Value) : (w.setCell ⟨g, j, none⟩ x).ownsRow B e 1 (.slice (some ⟨g, 0, none⟩) n cap) n (xs.set j x) := by
  rcases h.2 with ⟨hn, _⟩ | ⟨g', cap', cur, hv, hb, hg, h1, h2, h3, h4⟩
  · cases hn
  · injection hv with hv1 hv2 hv3
    injection hv1 with hv1
    injection hv1 with hv1
    subst hv1 hv3
    have hB : Blk w g e cur := hg
    refine ⟨by simpa using h.1, .inr ⟨g, cap, cur.setIfInBounds j x, rfl, hb, hB.put j x, h1, h2, by simpa using h3, ?_⟩⟩
    rw [← h4]
    simp [List.take_set]
theorem own_setCell_other {w : World} {B e n g : Nat} {v : Value} {xs : List Value} (h : w.ownsRow B e 1 v n xs) (hne : v.ownBlock ≠ some g) (j : Nat) (x : Value) : (w.setCell ⟨g, j, none⟩ x).ownsRow B e 1 v n xs :=
  kown_kept h fun k _ hv => Below.heap_setCell w ⟨g, j, none⟩ x k fun q => hne (by rw [hv, q])
/-- one more number in a group -/
theorem GrpAt.push {w w' : World} {B g cap : Nat} {G : List (List Nat)} {ss : List Value} {j x : Nat} {s' : Value} (h : GrpAt w B (.slice (some ⟨g, 0, none⟩) G.length cap) G ss) (hj : j < G.length)
    (hrow : w'.ownsRow B 3 1 s' ((G.getD j []).length + 1) (intL (G.getD j []) ++ [.int .i64 (x : Int)])) (hg : w.grownBy w' (ss.getD j undef).ownBlock) (hs : s'.ownBlock = (ss.getD j undef).ownBlock ∨ ∃ k, s'.ownBlock = some k ∧ w.heap.size ≤ k) :
    GrpAt (w'.setCell ⟨g, j, none⟩ s') B (.slice (some ⟨g, 0, none⟩) G.length cap) (G.set j (G.getD j [] ++ [x])) (ss.set j s') := by
  have hl := h.len
  have hgs : (ss.getD j undef).ownBlock ≠ some g := fun q => own_own (h.each j hj) h.row (by decide) q rfl
  have hrow' : w'.ownsRow B 59 1 (.slice (some ⟨g, 0, none⟩) G.length cap) G.length ss := h.row.kept hg (.inr fun q => hgs q.symm)
  have ej : (ss.set j s').getD j undef = s' := by simp [List.getD, hl, hj]
  have en : ∀ i, i ≠ j → (ss.set j s').getD i undef = ss.getD i undef := fun i hi => by simp [List.getD, List.getElem?_set_ne (Ne.symm hi)]
  have Gj : (G.set j (G.getD j [] ++ [x])).getD j [] = G.getD j [] ++ [x] := by simp [List.getD, hj]
  have Gn : ∀ i, i ≠ j → (G.set j (G.getD j [] ++ [x])).getD i [] = G.getD i [] := fun i hi => by simp [List.getD, List.getElem?_set_ne (Ne.symm hi)]
  have hsg : s'.ownBlock ≠ some g := fun q => own_own hrow hrow' (by decide) q rfl
  refine ⟨by simpa using own_setCell hrow' j hj s', fun i hi => ?_, fun i k hik hi hk b hb => ?_⟩
  · rw [List.length_set] at hi
    by_cases hij : i = j
    · subst hij
      rw [ej, Gj]
      refine own_setCell_other ?_ hsg _ _
      simpa [intL] using hrow
    · rw [en i hij, Gn i hij]
      have hne : (ss.getD i undef).ownBlock ≠ some g := fun q => own_own (h.each i hi) h.row (by decide) q rfl
      refine own_setCell_other ((h.each i hi).kept hg ?_) hne _ _
      cases hq : (ss.getD i undef).ownBlock with
      | none => exact .inl rfl
      | some b => exact .inr fun q => h.apart i j hij hi hj b hq q.symm
  · rw [List.length_set] at hi hk
    by_cases hij : i = j
    · subst hij
      rw [ej] at hb
      rw [en k (Ne.symm hik)]
      intro q
      rcases hs with hs | ⟨z, hz, hzl⟩
      · exact h.apart i k hik hi hk b (by rw [← hs]; exact hb) q
      · rw [hz] at hb
        injection hb with hb
        have := ((h.each k hk).lt b q).2
        omega
    · rw [en i hij] at hb
      by_cases hkj : k = j
      · subst hkj
        rw [ej]
        intro q
        rcases hs with hs | ⟨z, hz, hzl⟩
        · exact h.apart i k hik hi hk b hb (by rw [← hs]; exact q)
        · rw [hz] at q
          injection q with q
          have := ((h.each i hi).lt b hb).2
          omega
      · rw [en k hkj]
        exact h.apart i k hik hi hk b hb
end Go.Proofs.Ytdniigefmlmcdab

namespace Go.Proofs.Ytdniigefmlmcdab
open Go.RowKit
set_option linter.unusedSimpArgs false
set_option linter.unusedVariables false

theorem wpList_append_own_at {P : Program} {ops : Array Oper} {rest : List Oper} {o : Oper} {a : Act} {w : World} {Q : Exit → Act → World → Prop} (hgd : o.guard = none) (s x : Operand) (t : TypeId)
    (ho : o.op = .call { callee := .builtin .append, args := #[s, x], argTypes := #[t, t] })
    (base : Nat) (e : TypeId) (i : TypeInfo) (z : Value) (size bytes : Nat) (ht : P.underlying t = some (.slice e)) (hi : P.info? e = some i) (hz : i.zero = some z)
    (hsize : i.size = size) (hby : i.bytes = bytes) (hzs : z.cells.size = size) (hsz : 0 < size)
    (v : Value) (n : Nat) (xs : List Value) (hs : a.eval s = v) (hown : w.ownsRow base e size v n xs)
    (ad : Addr) (m c : Nat) (news : List Value) (hx : a.eval x = .slice (some ad) m c) (hl : news.length = m * size) (hnews : ∀ j u, news[j]? = some u → w.cell? (ad.add j) = some u) (h1 : ∀ u ∈ news, u.oneCell' = true)
    (h63 : n + m ≤ maxLen) (hbytes : (n + m) * bytes ≤ 140737488355328) (hbase : base ≤ w.heap.size)
    (h : ∀ v' w', w'.ownsRow base e size v' (n + m) (xs ++ news) → w.grownBy w' v.ownBlock → (v'.ownBlock = v.ownBlock ∨ v'.ownBlock = some w.heap.size) → wpList P ops Q rest (a.put o.dst v') w') :
    wpList P ops Q (o :: rest) a w := by
  obtain ⟨v', w', hr, g1, g2, g3, g4⟩ := run_append_own_at (P := P) w base t o.type e i z size bytes ht hi hz hsize hby hzs hsz v n xs hown ad m c news hl hnews h1 h63 hbytes hbase
  refine wpList_plain hgd fun K hK => ?_
  unfold Oper.wp
  simp [execOp, ho, resolve, invoke, builtin, hs, hx, hr, Result.andThen]
  exact hK _ _ (h v' w' g1 g2 g4)
theorem infoInt : (Try.prog.info? 3).map (fun i => (i.zero, i.size, i.bytes)) = some (some (.int .i64 0), 1, 8) := by kernel_rfl
theorem infoInts : (Try.prog.info? 59).map (fun i => (i.zero, i.size, i.bytes)) = some (some (.slice none 0 0), 1, 24) := by kernel_rfl
theorem grps_len {α : Type} [DecidableEq α] (D : Nat → α) (k j : Nat) : ((grpsOf D k).getD j []).length ≤ k := by
  unfold grpsOf
  rw [List.getD_eq_getElem?_getD, List.getElem?_map]
  cases hq : (firstsOf D k)[j]? with
  | none => simp
  | some i =>
    simp only [Option.map_some, Option.getD_some, grpOf]
    exact Nat.le_trans (List.length_filter_le _ _) (by simp)
/-- what the map holds -/
def mapOf {α : Type} (D : Nat → α) (R : List Nat) : List (α × Nat) := R.zipIdx.map fun x => (D x.1, x.2)
theorem mapOf_snoc {α : Type} (D : Nat → α) (R : List Nat) (k : Nat) : mapOf D (R ++ [k]) = mapOf D R ++ [(D k, R.length)] := by
  unfold mapOf
  rw [List.zipIdx_append, List.map_append]
  simp
theorem find_zip {α : Type} [DecidableEq α] (D : Nat → α) (d : α) : ∀ (R : List Nat) (o : Nat), (∀ j, findIn d ((R.zipIdx o).map fun x => (D x.1, x.2)) = some j → o ≤ j ∧ j - o < R.length ∧ D (R.getD (j - o) 0) = d) ∧ (findIn d ((R.zipIdx o).map fun x => (D x.1, x.2)) = none → ∀ i ∈ R, D i ≠ d)
  | [], o => ⟨(fun j h => by cases h), (fun _ i h => by cases h)⟩
  | r :: R, o => by
    have ih := find_zip D d R (o + 1)
    rw [List.zipIdx_cons, List.map_cons]
    constructor
    · intro j h
      simp only [findIn] at h
      split at h
      · rename_i q
        cases h
        exact ⟨Nat.le_refl _, by simp, by simpa using q.symm⟩
      · obtain ⟨h1, h2, h3⟩ := ih.1 j h
        refine ⟨by omega, by simp; omega, ?_⟩
        rw [show j - o = (j - (o + 1)) + 1 by omega]
        simpa using h3
    · intro h i hi
      simp only [findIn] at h
      split at h
      · cases h
      · rename_i q
        rcases List.mem_cons.1 hi with rfl | hi
        · exact fun e => q e.symm
        · exact ih.2 h i hi

end Go.Proofs.Ytdniigefmlmcdab

namespace Go.Proofs.Ytdniigefmlmcdab
open Go Go.RowKit
set_option linter.unusedSimpArgs false
set_option linter.unusedVariables false

theorem dkbelow_drewN {B : Nat} {w w' : World} (h : Below B w w') (n : Nat) : Below B w (w'.drewN n) := h.trans (below_drewN (Below.refl _ _) n)
set_option maxHeartbeats 1000000 in
theorem dead_nil (w : World) : Calls Try.prog 24 #[.pointer none] w fun e w' => e = .returned (.bool true) ∧ w = w' := by
  go_enter Try.func24, Try.ntmps24
  go_wp2_with fail
  go_ret
  exact ⟨rfl, rfl⟩
set_option maxHeartbeats 1000000 in
theorem events_nil (w : World) : Calls Try.prog 9 #[.pointer none] w fun e w' => e = .returned (.int .i64 0) ∧ w = w' := by
  go_enter Try.func9, Try.ntmps9
  go_wp2_with fail
  go_ret
  exact ⟨rfl, rfl⟩
set_option maxHeartbeats 1000000 in
theorem blocks_nil (w : World) : Calls Try.prog 30 #[.pointer none] w fun e w' => e = .returned (.int .i64 0) ∧ w = w' := by
  go_enter Try.func30, Try.ntmps30
  go_wp2_with fail
  go_ret
  exact ⟨rfl, rfl⟩
set_option maxHeartbeats 1000000 in
theorem cut_nil (e0 : Int) (f0 : Bool) (w : World) : Calls Try.prog 8 #[.pointer none, .agg #[.int .i64 e0, .bool f0]] w fun e w' => e = .returned (.tuple #[]) ∧ Below w.heap.size w w' := by
  go_enter Try.func8, Try.ntmps8
  go_wp2_with fail
  go_quiet (fail)
  go_wp2_with fail
  try simp only [Exit.inBlock, Exit.then]
  refine bodyPost_ret (results_none Try.results8 _ _ _) rfl ?_
  exact ⟨rfl, dkbelow_drewN (below_new1 _ _) _⟩
set_option maxHeartbeats 1000000 in
theorem event_nil (w : World) : Calls Try.prog 10 #[.pointer none] w fun e w' => e = .returned (.tuple #[.bool false, .int .i64 4]) ∧ w = w' := by
  have hD : Hid (∀ w : World, Calls Try.prog 24 #[.pointer none] w fun e w' => e = .returned (.bool true) ∧ w = w') := dead_nil
  go_enter Try.func10, Try.ntmps10
  go_wp2_with fail
  refine (hD.out _).mono ?_
  rintro e _ ⟨rfl, rfl⟩
  go_wp2_with fail
  try simp only [Exit.inBlock, Exit.then]
  refine bodyPost_ret (results_tmp2 Try.results10 _ _ _) rfl ?_
  exact ⟨rfl, rfl⟩
set_option maxHeartbeats 1000000 in
theorem begin_nil (at0 : Int) (w : World) : Calls Try.prog 32 #[.pointer none, .int .i64 at0] w fun e w' => e = .returned (.int .i64 4) ∧ w = w' := by
  have hD : Hid (∀ w : World, Calls Try.prog 24 #[.pointer none] w fun e w' => e = .returned (.bool true) ∧ w = w') := dead_nil
  go_enter Try.func32, Try.ntmps32
  go_wp2_with fail
  refine (hD.out _).mono ?_
  rintro e _ ⟨rfl, rfl⟩
  go_wp2_with fail
  go_ret
  exact ⟨rfl, rfl⟩
set_option maxRecDepth 100000 in
set_option maxHeartbeats 2000000 in
theorem read_nil (at0 : Int) (w : World) : Calls Try.prog 45 #[.pointer none, .int .i64 at0] w fun e w' => e = .returned (.tuple #[.agg (va 256 (iv .u8 fun _ => 0)), .int .i64 4]) ∧ Below w.heap.size w w' := by
  have hB : Hid (∀ w : World, Calls Try.prog 32 #[.pointer none, .int .i64 at0] w fun e w' => e = .returned (.int .i64 4) ∧ w = w') := begin_nil at0
  have hz := zero_bk
  have r0 : Blk (w.alloc (.cells (va 256 (iv .u8 fun _ => 0)) 23)) w.heap.size 23 (va 256 (iv .u8 fun _ => 0)) := Blk.new _ _ _
  go_enter Try.func45, Try.ntmps45
  go_wp2_with fail
  refine (hB.out _).mono ?_
  rintro e _ ⟨rfl, rfl⟩
  go_wp2_with (first
    | (refine wpList_store_row (by rfl) 23 _ _ (by rfl) (w.heap.size) (va 256 (iv .u8 (fun _ => 0))) (by rfl) (by rfl) 23 _ r0 (sizeBk.trans (by rw [va_size])) (by simp only [va_size]) (iv_one _ _ _) ?_; simp only [Act.put, List.setIfInBounds_toArray, List.set_cons_zero, List.set_cons_succ])
    | fail)
  try simp only [Exit.inBlock, Exit.then]
  refine bodyPost_ret (results_row2 Try.results45 _ _ (w.heap.size) 23 (va 256 (iv .u8 (fun _ => 0))) (0, 0) _ rfl ((r0.set _)) Try.underlying23 rfl (sizeBk.trans (by rw [va_size]))) rfl ?_
  exact ⟨rfl, below_setRow (below_new1 _ _) (Nat.le_refl _) _⟩
set_option maxRecDepth 100000 in
set_option maxHeartbeats 2000000 in
theorem diskWrite_nil (at0 : Int) (f : Nat → Nat) (w : World) : Calls Try.prog 21 #[.pointer none, .int .i64 at0, .agg (va 256 (iv .u8 f))] w fun e w' => e = .returned (.int .i64 4) ∧ Below w.heap.size w w' := by
  have hB : Hid (∀ w : World, Calls Try.prog 32 #[.pointer none, .int .i64 at0] w fun e w' => e = .returned (.int .i64 4) ∧ w = w') := begin_nil at0
  have hz := zero_bk
  go_enter Try.func21, Try.ntmps21
  go_wp2_with fail
  refine (hB.out _).mono ?_
  rintro e _ ⟨rfl, rfl⟩
  go_wp2_with fail
  go_ret
  exact ⟨rfl, below_new1 _ _⟩
end Go.Proofs.Ytdniigefmlmcdab

namespace Go.Proofs.Ytdniigefmlmcdab
open Go Go.RowKit
set_option linter.unusedSimpArgs false
set_option linter.unusedVariables false

set_option maxRecDepth 100000 in
set_option maxHeartbeats 4000000 in
theorem caNew_nil (room : Int) (w : World) : Calls Try.prog 5 #[.pointer none, .pointer none, .int .i64 room] w fun e w' => e = .returned (.tuple #[.pointer none, .int .i64 1]) ∧ w = w' := by
  go_enter Try.func5, Try.ntmps5
  go_wp2_with fail
  try simp only [Exit.inBlock, Exit.then]
  refine bodyPost_ret (results_tmp2 Try.results5 _ _ _) rfl ?_
  exact ⟨rfl, rfl⟩
set_option maxRecDepth 100000 in
set_option maxHeartbeats 4000000 in
theorem caEntries_nil (w : World) : Calls Try.prog 26 #[.pointer none] w fun e w' => e = .returned (.slice none 0 0) ∧ w = w' := by
  go_enter Try.func26, Try.ntmps26
  go_wp2_with fail
  go_ret
  exact ⟨rfl, rfl⟩
set_option maxRecDepth 100000 in
set_option maxHeartbeats 4000000 in
theorem caRoom_nil (w : World) : Calls Try.prog 15 #[.pointer none] w fun e w' => e = .returned (.int .i64 0) ∧ w = w' := by
  go_enter Try.func15, Try.ntmps15
  go_wp2_with fail
  go_ret
  exact ⟨rfl, rfl⟩
set_option maxRecDepth 100000 in
set_option maxHeartbeats 4000000 in
theorem caShrink_nil (room : Int) (w : World) : Calls Try.prog 14 #[.pointer none, .int .i64 room] w fun e w' => e = .returned (.int .i64 1) ∧ w = w' := by
  go_enter Try.func14, Try.ntmps14
  go_wp2_with fail
  go_ret
  exact ⟨rfl, rfl⟩
set_option maxRecDepth 100000 in
set_option maxHeartbeats 4000000 in
theorem caHas_nil (r : Rf) (w : World) : Calls Try.prog 13 #[.pointer none, .agg (rfC r)] w fun e w' => e = .returned (.bool false) ∧ Below w.heap.size w w' := by
  go_enter Try.func13, Try.ntmps13
  go_wp2_with fail
  go_ret
  exact ⟨rfl, below_new1 _ _⟩
set_option maxRecDepth 100000 in
set_option maxHeartbeats 4000000 in
theorem caCheck_nil (r : Rf) (w : World) : Calls Try.prog 27 #[.pointer none, .agg (rfC r)] w fun e w' => e = .returned (.int .i64 (if r = rf0 then 0 else 4)) ∧ Below w.heap.size w w' := by
  have hN : Hid (∀ w, Calls Try.prog 35 #[.agg (rfC r)] w fun e w' => e = .returned (.bool (decide (r = rf0))) ∧ Below w.heap.size w w') := none_any r
  have r0 : Blk (w.alloc (.cells (rfC r) 35)) w.heap.size 35 (rfC r) := Blk.new _ _ _
  have hb : Below w.heap.size w (w.alloc (.cells (rfC r) 35)) := below_new1 _ _
  by_cases hr : r = rf0
  · rw [decide_eq_true hr] at hN
    rw [if_pos hr]
    clear hr
    go_enter Try.func27, Try.ntmps27
    go_wp2_with (first
      | (refine wpList_load_rowg (by rfl) 35 _ (by rfl) (w.heap.size) (by rfl) 35 (rfC r) (0, 0) _ (by exact r0) Try.underlying35 (by rfl) (slSizeRef.trans (by rw [rfC_size])) ?_; simp only [Act.put, List.setIfInBounds_toArray, List.set_cons_zero, List.set_cons_succ])
      | fail)
    generalize (w.alloc (.cells (rfC r) 35)) = w1 at *
    refine (hN.out _).mono ?_
    rintro e w2 ⟨rfl, h2⟩
    go_wp2_with fail
    go_ret
    exact ⟨rfl, hb.trans (h2.mono hb.size)⟩
  · rw [decide_eq_false hr] at hN
    rw [if_neg hr]
    clear hr
    go_enter Try.func27, Try.ntmps27
    go_wp2_with (first
      | (refine wpList_load_rowg (by rfl) 35 _ (by rfl) (w.heap.size) (by rfl) 35 (rfC r) (0, 0) _ (by exact r0) Try.underlying35 (by rfl) (slSizeRef.trans (by rw [rfC_size])) ?_; simp only [Act.put, List.setIfInBounds_toArray, List.set_cons_zero, List.set_cons_succ])
      | fail)
    generalize (w.alloc (.cells (rfC r) 35)) = w1 at *
    refine (hN.out _).mono ?_
    rintro e w2 ⟨rfl, h2⟩
    go_wp2_with fail
    go_ret
    exact ⟨rfl, hb.trans (h2.mono hb.size)⟩
set_option maxRecDepth 100000 in
set_option maxHeartbeats 4000000 in
theorem caGet_nil (r : Rf) (w : World) : Calls Try.prog 23 #[.pointer none, .agg (rfC r)] w fun e w' => e = .returned (.tuple #[.agg (va 256 (iv .u8 fun _ => 0)), .int .i64 (if r = rf0 then 0 else 4)]) ∧ Below w.heap.size w w' := by
  have hN : Hid (∀ w, Calls Try.prog 35 #[.agg (rfC r)] w fun e w' => e = .returned (.bool (decide (r = rf0))) ∧ Below w.heap.size w w') := none_any r
  have hz := zero_bk
  have r0 : Blk ((w.alloc (.cells (rfC r) 35)).alloc (.cells (va 256 (iv .u8 fun _ => 0)) 23)) w.heap.size 35 (rfC r) := (Blk.new _ _ _).alloc _
  have k1 : Blk ((w.alloc (.cells (rfC r) 35)).alloc (.cells (va 256 (iv .u8 fun _ => 0)) 23)) (w.heap.size + 1) 23 (va 256 (iv .u8 fun _ => 0)) := Blk.new1 _ _ _ _
  have hb : Below w.heap.size w ((w.alloc (.cells (rfC r) 35)).alloc (.cells (va 256 (iv .u8 fun _ => 0)) 23)) := below_new2 _ _ _
  by_cases hr : r = rf0
  · rw [decide_eq_true hr] at hN
    rw [if_pos hr]
    clear hr
    go_enter Try.func23, Try.ntmps23
    go_wp2_with (first
      | (refine wpList_load_rowg (by rfl) 35 _ (by rfl) (w.heap.size) (by rfl) 35 (rfC r) (0, 0) _ (by exact r0) Try.underlying35 (by rfl) (slSizeRef.trans (by rw [rfC_size])) ?_; simp only [Act.put, List.setIfInBounds_toArray, List.set_cons_zero, List.set_cons_succ])
      | fail)
    generalize ((w.alloc (.cells (rfC r) 35)).alloc (.cells (va 256 (iv .u8 fun _ => 0)) 23)) = w1 at *
    refine (hN.out _).mono ?_
    rintro e w2 ⟨rfl, h2⟩
    have k2 := k1.below h2 k1.lt
    have hb2 : Below w.heap.size w w2 := hb.trans (h2.mono hb.size)
    clear h2 hN r0 k1 hb
    go_wp2_with (first
      | (refine wpList_store_row (by rfl) 23 _ _ (by rfl) (w.heap.size + 1) (va 256 (iv .u8 (fun _ => 0))) (by rfl) (by rfl) 23 _ k2 (sizeBk.trans (by rw [va_size])) (by simp only [va_size]) (iv_one _ _ _) ?_; simp only [Act.put, List.setIfInBounds_toArray, List.set_cons_zero, List.set_cons_succ])
      | fail)
    try simp only [Exit.inBlock, Exit.then]
    refine bodyPost_ret (results_row2 Try.results23 _ _ (w.heap.size + 1) 23 (va 256 (iv .u8 (fun _ => 0))) (0, 0) _ rfl ((k2.set _)) Try.underlying23 rfl (sizeBk.trans (by rw [va_size]))) rfl ?_
    exact ⟨rfl, below_setRow hb2 (by omega) _⟩
  · rw [decide_eq_false hr] at hN
    rw [if_neg hr]
    clear hr
    go_enter Try.func23, Try.ntmps23
    go_wp2_with (first
      | (refine wpList_load_rowg (by rfl) 35 _ (by rfl) (w.heap.size) (by rfl) 35 (rfC r) (0, 0) _ (by exact r0) Try.underlying35 (by rfl) (slSizeRef.trans (by rw [rfC_size])) ?_; simp only [Act.put, List.setIfInBounds_toArray, List.set_cons_zero, List.set_cons_succ])
      | fail)
    generalize ((w.alloc (.cells (rfC r) 35)).alloc (.cells (va 256 (iv .u8 fun _ => 0)) 23)) = w1 at *
    refine (hN.out _).mono ?_
    rintro e w2 ⟨rfl, h2⟩
    have k2 := k1.below h2 k1.lt
    have hb2 : Below w.heap.size w w2 := hb.trans (h2.mono hb.size)
    clear h2 hN r0 k1 hb
    go_wp2_with (first
      | (refine wpList_store_row (by rfl) 23 _ _ (by rfl) (w.heap.size + 1) (va 256 (iv .u8 (fun _ => 0))) (by rfl) (by rfl) 23 _ k2 (sizeBk.trans (by rw [va_size])) (by simp only [va_size]) (iv_one _ _ _) ?_; simp only [Act.put, List.setIfInBounds_toArray, List.set_cons_zero, List.set_cons_succ])
      | fail)
    try simp only [Exit.inBlock, Exit.then]
    refine bodyPost_ret (results_row2 Try.results23 _ _ (w.heap.size + 1) 23 (va 256 (iv .u8 (fun _ => 0))) (0, 0) _ rfl ((k2.set _)) Try.underlying23 rfl (sizeBk.trans (by rw [va_size]))) rfl ?_
    exact ⟨rfl, below_setRow hb2 (by omega) _⟩
set_option maxRecDepth 100000 in
set_option maxHeartbeats 4000000 in
theorem caPut_nil (a : Int) (f : Nat → Nat) (w : World) : Calls Try.prog 6 #[.pointer none, .int .u32 a, .agg (va 256 (iv .u8 f))] w fun e w' => e = .returned (.tuple #[.agg (rfC rf0), .int .i64 4]) ∧ Below w.heap.size w w' := by
  have hz := zero_ref
  have k1 : Blk ((w.alloc (.cells (va 256 (iv .u8 f)) 23)).alloc (.cells (rfC rf0) 35)) (w.heap.size + 1) 35 (rfC rf0) := Blk.new1 _ _ _ _
  have hb : Below w.heap.size w ((w.alloc (.cells (va 256 (iv .u8 f)) 23)).alloc (.cells (rfC rf0) 35)) := below_new2 _ _ _
  go_enter Try.func6, Try.ntmps6
  go_wp2_with (first
    | (refine wpList_store_row (by rfl) 35 _ _ (by rfl) (w.heap.size + 1) (rfC rf0) (by rfl) (by rfl) 35 (_) (by exact k1) (slSizeRef.trans (by rw [rfC_size])) (by simp only [rfC_size]) (rfC_all _) ?_; simp only [Act.put, List.setIfInBounds_toArray, List.set_cons_zero, List.set_cons_succ])
    | fail)
  try simp only [Exit.inBlock, Exit.then]
  refine bodyPost_ret (results_row2 Try.results6 _ _ (w.heap.size + 1) 35 (rfC rf0) (0, 0) _ rfl (k1.set _) Try.underlying35 rfl (slSizeRef.trans (by rw [rfC_size]))) rfl ?_
  exact ⟨rfl, below_setRow hb (by omega) _⟩
def cdC (a b c d : Int) : Array Value := #[.int .i64 a, .int .i64 b, .int .i64 c, .int .i64 d]
theorem sizeCd : (Try.prog.info? 73).map (·.size) = some 4 := by kernel_rfl
end Go.Proofs.Ytdniigefmlmcdab

namespace Go.Proofs.Ytdniigefmlmcdab
open Go Go.RowKit
set_option linter.unusedSimpArgs false
set_option linter.unusedVariables false

/-- a raw step and a block, as a key -/
def momK (a : Int × Int) : Value := .agg #[.int .i64 a.1, .int .i64 a.2]
theorem eq_mom (d : Nat) (a b : Int × Int) (w : World) : (Op.equalIn (d + 1 + 1) 110 (momK a) (momK b)).run Try.prog w = .ok (decide (a = b)) w := by
  unfold momK
  have h1 : ∀ x y : Int, (Op.equalIn (d + 1) 3 (.int .i64 x) (.int .i64 y)).run Try.prog w = .ok (x == y) w := fun x y => by simp [Op.equalIn, run_underlying Try.underlying3]
  have p1 : ∀ x y : Int, (part 3 #[.int .i64 x, .int .i64 y] 0).run Try.prog w = .ok (.int .i64 x) w := fun x y => by simp [part, isAgg, run_underlying Try.underlying3]
  have p2 : ∀ x y : Int, (part 3 #[.int .i64 x, .int .i64 y] 1).run Try.prog w = .ok (.int .i64 y) w := fun x y => by simp [part, isAgg, run_underlying Try.underlying3]
  rw [Op.equalIn]
  simp only [Sem.run_bind, run_underlying Try.underlying110, Result.andThen_ok]
  simp [Op.eqFields, p1, p2, h1]
  obtain ⟨a1, a2⟩ := a
  obtain ⟨b1, b2⟩ := b
  by_cases ha : a1 = b1
  · subst ha
    by_cases hb : a2 = b2
    · subst hb
      simp
    · simp [hb]
  · simp [ha]
theorem chk_mom (d : Nat) (e : Bool) (a : Int × Int) (w : World) : (Instr.checkKey e (d + 1 + 1) 110 (momK a)).run Try.prog w = .ok () w := by
  unfold momK
  have h1 : ∀ x : Int, (Instr.checkKey e (d + 1) 3 (.int .i64 x)).run Try.prog w = .ok () w := fun x => by simp [Instr.checkKey, run_underlying Try.underlying3]
  have p1 : ∀ x y : Int, (part 3 #[.int .i64 x, .int .i64 y] 0).run Try.prog w = .ok (.int .i64 x) w := fun x y => by simp [part, isAgg, run_underlying Try.underlying3]
  have p2 : ∀ x y : Int, (part 3 #[.int .i64 x, .int .i64 y] 1).run Try.prog w = .ok (.int .i64 y) w := fun x y => by simp [part, isAgg, run_underlying Try.underlying3]
  rw [Instr.checkKey]
  simp only [Sem.run_bind, run_underlying Try.underlying110, Result.andThen_ok]
  simp [p1, p2, h1]
theorem mom_key : KeyOf Try.prog 110 momK where
  desc := ⟨_, Try.underlying110, (fun k h => by cases h), (fun h => by cases h), (fun h => by cases h)⟩
  eq a b w := eq_mom 9998 a b w
  chk e a w := chk_mom 9998 e a w

/-- what a disk has in the memory -/
structure QD where
  gn : Nat
  r : Nat
  sv : Value
  pl : Value
  cu : Value
  dd : Bool
  ev : Int
  lv : Value
  wv : Value
  l : List ((Int × Int) × Vector Nat 256)
  G : List (List Nat)
  ss : List Value
  xs : List Value
  ys : List Value
def dcells (q : QD) (N k : Nat) : Array Value := #[.slice (some ⟨q.gn, 0, none⟩) N N, .map (some q.r), q.sv, q.pl, q.cu, .bool q.dd, .int .i64 (k : Int), .int .i64 q.ev, q.lv, q.wv]
/-- a disk of N blocks in block g: the bytes F, k raw steps, lg entries of the log -/
structure DiskQ (w : World) (B g N : Nat) (F : Nat → Nat) (k lg : Nat) (q : QD) : Prop where
  gB : B ≤ g
  cells : Blk w g 64 (dcells q N k)
  nB : B ≤ q.gn
  now : Blk w q.gn 23 (va (N * 256) (iv .u8 F))
  rB : B ≤ q.r
  map : MapIs momK bK w q.r q.l
  keys : ∀ p ∈ q.l, p.1.1 ≤ (k : Int)
  steps : GrpAt w B q.sv q.G q.ss
  many : q.G.length = N
  short : ∀ j, (q.G.getD j []).length ≤ k
  log : w.ownsRow B 83 258 q.lv lg q.xs
  wear : w.ownsRow B 3 1 q.wv N q.ys
  ints : ∀ j, j < N → ∃ x : Int, q.ys[j]? = some (.int .i64 x)
  apart : ∀ j, j < N → ∀ b, (q.ss.getD j undef).ownBlock = some b → q.wv.ownBlock ≠ some b
/-- its blocks in the memory -/
def foot (g N : Nat) (q : QD) (b : Nat) : Prop := b = g ∨ b = q.gn ∨ b = q.r ∨ q.sv.ownBlock = some b ∨ q.lv.ownBlock = some b ∨ q.wv.ownBlock = some b ∨ ∃ j, j < N ∧ (q.ss.getD j undef).ownBlock = some b
/-- only blocks of S turn -/
structure Turns (S : Nat → Prop) (w w' : World) : Prop where
  os : w'.os = w.os
  tape : w'.tape = w.tape
  output : w'.output = w.output
  size : w.heap.size ≤ w'.heap.size
  block : ∀ b, b < w.heap.size → ¬ S b → w'.heap[b]? = w.heap[b]?
theorem Turns.of_below {S : Nat → Prop} {w w' : World} (h : Below w.heap.size w w') : Turns S w w' := ⟨h.os, h.tape, h.output, h.size, fun b hb _ => h.block b hb⟩
theorem Turns.below {S : Nat → Prop} {w w' : World} {B : Nat} (h : Turns S w w') (hB : B ≤ w.heap.size) (hS : ∀ b, S b → B ≤ b) : Below B w w' := ⟨h.os, h.tape, h.output, h.size, fun b hb => h.block b (by omega) fun q => by have := hS b q; omega⟩
theorem Turns.trans {S T : Nat → Prop} {w v u : World} (h : Turns S w v) (k : Turns T v u) (hT : ∀ b, T b → S b ∨ w.heap.size ≤ b) : Turns S w u :=
  ⟨k.os.trans h.os, k.tape.trans h.tape, k.output.trans h.output, Nat.le_trans h.size k.size, fun b hb hS => (k.block b (Nat.lt_of_lt_of_le hb h.size) fun q => by rcases hT b q with z | z; exact hS z; omega).trans (h.block b hb hS)⟩
theorem Turns.mono {S T : Nat → Prop} {w v : World} (h : Turns S w v) (hT : ∀ b, S b → T b) : Turns T w v := ⟨h.os, h.tape, h.output, h.size, fun b hb hS => h.block b hb fun q => hS (hT b q)⟩
theorem Turns.drew {S : Nat → Prop} {w v : World} (h : Turns S w v) : Turns S w v.drew := ⟨h.os, h.tape, h.output, h.size, h.block⟩
/-- a disk goes from q to q' -/
def Moved (g N : Nat) (q q' : QD) (w w' : World) : Prop := Turns (foot g N q) w w' ∧ ∀ b, foot g N q' b → foot g N q b ∨ w.heap.size ≤ b
theorem Moved.of_below {g N : Nat} {q : QD} {w w' : World} (h : Below w.heap.size w w') : Moved g N q q w w' := ⟨.of_below h, fun _ => .inl⟩
theorem Moved.trans {g N : Nat} {p q r : QD} {w v u : World} (h : Moved g N p q w v) (k : Moved g N q r v u) : Moved g N p r w u :=
  ⟨h.1.trans k.1 h.2, fun b hb => by
    rcases k.2 b hb with z | z
    · exact h.2 b z
    · exact .inr (Nat.le_trans h.1.size z)⟩
section
variable {w w' : World} {B g N k lg : Nat} {F : Nat → Nat} {q : QD}
theorem DiskQ.foots (h : DiskQ w B g N F k lg q) : ∀ b, foot g N q b → B ≤ b ∧ b < w.heap.size := by
  intro b hb
  have hm := h.many
  rcases hb with rfl | rfl | rfl | z | z | z | ⟨j, hj, z⟩
  · exact ⟨h.gB, h.cells.lt⟩
  · exact ⟨h.nB, h.now.lt⟩
  · obtain ⟨es, cl, hg, _⟩ := h.map
    exact ⟨h.rB, (Array.getElem?_eq_some_iff.1 hg).1⟩
  · exact h.steps.row.lt b z
  · exact h.log.lt b z
  · exact h.wear.lt b z
  · exact (h.steps.each j (by omega)).lt b z
theorem DiskQ.kept (h : DiskQ w B g N F k lg q) (hk : ∀ b, foot g N q b → w'.heap[b]? = w.heap[b]?) : DiskQ w' B g N F k lg q := by
  have hm := h.many
  refine ⟨h.gB, (hk g (.inl rfl)).trans h.cells, h.nB, (hk _ (.inr (.inl rfl))).trans h.now, h.rB, ?_, h.keys, ⟨own_block h.steps.row fun b hb => hk b (.inr (.inr (.inr (.inl hb)))), fun j hj => own_block (h.steps.each j hj) fun b hb => hk b (.inr (.inr (.inr (.inr (.inr (.inr ⟨j, by omega, hb⟩)))))), h.steps.apart⟩, h.many, h.short, own_block h.log fun b hb => hk b (.inr (.inr (.inr (.inr (.inl hb))))), own_block h.wear fun b hb => hk b (.inr (.inr (.inr (.inr (.inr (.inl hb)))))), h.ints, h.apart⟩
  obtain ⟨es, cl, hg, he⟩ := h.map
  exact ⟨es, cl, (hk _ (.inr (.inr (.inl rfl)))).trans hg, he⟩
theorem DiskQ.below (h : DiskQ w B g N F k lg q) (hb : Below w.heap.size w w') : DiskQ w' B g N F k lg q := h.kept fun b hf => hb.block b (h.foots b hf).2
theorem blk_ne {a b s t : Nat} {cs ds : Array Value} (h : Blk w a s cs) (k : Blk w b t ds) (hne : s ≠ t) : a ≠ b := fun e => by
  subst e
  unfold Blk at h k
  rw [h] at k
  simp at k
  exact hne k.2
/-- what is in block g turns: counts -/
theorem DiskQ.put (h : DiskQ w B g N F k lg q) {k' : Nat} (hk : k ≤ k') (ev : Int) (hB : Blk w' g 64 (dcells { q with ev := ev } N k')) (hs : ∀ b, b ≠ g → w'.heap[b]? = w.heap[b]?) : DiskQ w' B g N F k' lg { q with ev := ev } := by
  have hm := h.many
  refine ⟨h.gB, hB, h.nB, (hs _ (blk_ne h.now h.cells (by decide))).trans h.now, h.rB, ?_, fun p hp => by have := h.keys p hp; omega, ⟨own_block h.steps.row fun b hb => hs b fun e => own_ne h.steps.row h.cells (by decide) (e ▸ hb), fun j hj => own_block (h.steps.each j hj) fun b hb => hs b fun e => own_ne (h.steps.each j hj) h.cells (by decide) (e ▸ hb), h.steps.apart⟩, h.many, fun j => Nat.le_trans (h.short j) hk, own_block h.log fun b hb => hs b fun e => own_ne h.log h.cells (by decide) (e ▸ hb), own_block h.wear fun b hb => hs b fun e => own_ne h.wear h.cells (by decide) (e ▸ hb), h.ints, h.apart⟩
  obtain ⟨es, cl, hg, he⟩ := h.map
  exact ⟨es, cl, (hs _ (map_blk hg h.cells)).trans hg, he⟩
/-- the log turns -/
theorem DiskQ.relog (h : DiskQ w B g N F k lg q) {lg' : Nat} (lv' : Value) (xs' : List Value) (hB : Blk w' g 64 (dcells { q with lv := lv', xs := xs' } N k)) (hl : w'.ownsRow B 83 258 lv' lg' xs') (hs : ∀ b, foot g N q b → b ≠ g → q.lv.ownBlock ≠ some b → w'.heap[b]? = w.heap[b]?) : DiskQ w' B g N F k lg' { q with lv := lv', xs := xs' } := by
  have hm := h.many
  obtain ⟨es, cl, hg, he⟩ := h.map
  refine ⟨h.gB, hB, h.nB, (hs _ (.inr (.inl rfl)) (blk_ne h.now h.cells (by decide)) (own_ne h.log h.now (by decide))).trans h.now, h.rB, ⟨es, cl, (hs _ (.inr (.inr (.inl rfl))) (map_blk hg h.cells) (own_map h.log hg)).trans hg, he⟩, h.keys, ⟨own_block h.steps.row fun b hb => hs b (.inr (.inr (.inr (.inl hb)))) (fun e => own_ne h.steps.row h.cells (by decide) (e ▸ hb)) (own_own h.steps.row h.log (by decide) hb), fun j hj => own_block (h.steps.each j hj) fun b hb => hs b (.inr (.inr (.inr (.inr (.inr (.inr ⟨j, (by have : j < q.G.length := hj; omega), hb⟩)))))) (fun e => own_ne (h.steps.each j hj) h.cells (by decide) (e ▸ hb)) (own_own (h.steps.each j hj) h.log (by decide) hb), h.steps.apart⟩, h.many, h.short, hl, own_block h.wear fun b hb => hs b (.inr (.inr (.inr (.inr (.inr (.inl hb)))))) (fun e => own_ne h.wear h.cells (by decide) (e ▸ hb)) (own_own h.wear h.log (by decide) hb), h.ints, h.apart⟩
/-- the blocks' bytes turn -/
theorem DiskQ.renow (h : DiskQ w B g N F k lg q) {F' : Nat → Nat} (hn : Blk w' q.gn 23 (va (N * 256) (iv .u8 F'))) (hs : ∀ b, b ≠ q.gn → w'.heap[b]? = w.heap[b]?) : DiskQ w' B g N F' k lg q := by
  have hm := h.many
  obtain ⟨es, cl, hg, he⟩ := h.map
  refine ⟨h.gB, (hs _ (blk_ne h.cells h.now (by decide))).trans h.cells, h.nB, hn, h.rB, ⟨es, cl, (hs _ (map_blk hg h.now)).trans hg, he⟩, h.keys, ⟨own_block h.steps.row fun b hb => hs b fun e => own_ne h.steps.row h.now (by decide) (e ▸ hb), fun j hj => own_block (h.steps.each j hj) fun b hb => hs b fun e => own_ne (h.steps.each j hj) h.now (by decide) (e ▸ hb), h.steps.apart⟩, h.many, h.short, own_block h.log fun b hb => hs b fun e => own_ne h.log h.now (by decide) (e ▸ hb), own_block h.wear fun b hb => hs b fun e => own_ne h.wear h.now (by decide) (e ▸ hb), h.ints, h.apart⟩
/-- the wear turns -/
theorem DiskQ.rewear (h : DiskQ w B g N F k lg q) {ys' : List Value} (hw : w'.ownsRow B 3 1 q.wv N ys') (hi : ∀ j, j < N → ∃ x : Int, ys'[j]? = some (.int .i64 x)) (hs : ∀ b, q.wv.ownBlock ≠ some b → w'.heap[b]? = w.heap[b]?) : DiskQ w' B g N F k lg { q with ys := ys' } := by
  have hm := h.many
  obtain ⟨es, cl, hg, he⟩ := h.map
  refine ⟨h.gB, (hs _ (own_ne h.wear h.cells (by decide))).trans h.cells, h.nB, (hs _ (own_ne h.wear h.now (by decide))).trans h.now, h.rB, ⟨es, cl, (hs _ (own_map h.wear hg)).trans hg, he⟩, h.keys, ⟨own_block h.steps.row fun b hb => hs b (own_own h.steps.row h.wear (by decide) hb), fun j hj => own_block (h.steps.each j hj) fun b hb => hs b (h.apart j (by have : j < q.G.length := hj; omega) b hb), h.steps.apart⟩, h.many, h.short, own_block h.log fun b hb => hs b (own_own h.log h.wear (by decide) hb), hw, hi, h.apart⟩
/-- the past turns -/
theorem DiskQ.repast (h : DiskQ w B g N F k lg q) {l' : List ((Int × Int) × Vector Nat 256)} {G' : List (List Nat)} {ss' : List Value} (hmap : MapIs momK bK w' q.r l') (hkeys : ∀ p ∈ l', p.1.1 ≤ (k : Int)) (hG : GrpAt w' B q.sv G' ss') (hlen : G'.length = N) (hsh : ∀ j, (G'.getD j []).length ≤ k)
    (hap : ∀ j, j < N → ∀ b, (ss'.getD j undef).ownBlock = some b → (∃ i, i < N ∧ (q.ss.getD i undef).ownBlock = some b) ∨ w.heap.size ≤ b)
    (hs : ∀ b, b < w.heap.size → b ≠ q.r → q.sv.ownBlock ≠ some b → (∀ j, j < N → (q.ss.getD j undef).ownBlock ≠ some b) → w'.heap[b]? = w.heap[b]?) : DiskQ w' B g N F k lg { q with l := l', G := G', ss := ss' } := by
  have hm := h.many
  obtain ⟨es, cl, hg, he⟩ := h.map
  have each : ∀ j, j < N → w.ownsRow B 3 1 (q.ss.getD j undef) (q.G.getD j []).length (intL (q.G.getD j [])) := fun j hj => h.steps.each j (by omega)
  refine ⟨h.gB, (hs _ h.cells.lt (map_blk hg h.cells).symm (own_ne h.steps.row h.cells (by decide)) fun j hj => own_ne (each j hj) h.cells (by decide)).trans h.cells, h.nB, (hs _ h.now.lt (map_blk hg h.now).symm (own_ne h.steps.row h.now (by decide)) fun j hj => own_ne (each j hj) h.now (by decide)).trans h.now, h.rB, hmap, hkeys, hG, hlen, hsh, own_block h.log fun b hb => hs b (h.log.lt b hb).2 (fun e => own_map h.log hg (e ▸ hb)) (own_own h.log h.steps.row (by decide) hb) fun j hj => own_own h.log (each j hj) (by decide) hb, own_block h.wear fun b hb => hs b (h.wear.lt b hb).2 (fun e => own_map h.wear hg (e ▸ hb)) (own_own h.wear h.steps.row (by decide) hb) fun j hj e => h.apart j hj b e hb, h.ints, fun j hj b hb e => ?_⟩
  rcases hap j hj b hb with ⟨i, hi, z⟩ | z
  · exact h.apart i hi b z e
  · have := (h.wear.lt b e).2
    omega
end
end Go.Proofs.Ytdniigefmlmcdab
