/- The places of blocks in groups: the program's contract of Groups. -/
import Derived.Test.YtaoglljkghkbpaaCollKit
import Derived.Test.YtaoglljkghkbpaaBlkKit
import Derived.Test.YtaoglljkghkbpaaBlkOwn
import Derived.Test.YtaoglljkghkbpaaLogAdd
import Derived.Test.YtaoglljkghkbpaaLogKeep
import Derived.Handy
import Derived.Test.YtaoglljkghkbpaaBlkCut
import Derived.OwnWalk
import Derived.Maps.AppendAt

namespace Go.Proofs.Ytaoglljkghkbpaa
open Go Go.RowKit
set_option linter.unusedSimpArgs false
set_option linter.unusedVariables false

/-- a block, as a plain thing -/
def blkD (f : Nat → Nat) : Vector Nat 256 := Vector.ofFn fun i : Fin 256 => f i.1
def vF (d : Vector Nat 256) : Nat → Nat := fun i => (d[i]?).getD 0
def bK (d : Vector Nat 256) : Value := .agg (va 256 (iv .u8 (vF d)))
theorem vF_blkD (f : Nat → Nat) : va 256 (iv .u8 (vF (blkD f))) = va 256 (iv .u8 f) := va_congr fun i hi => by
  unfold iv vF blkD
  congr 2
  simp [hi]
theorem bK_blkD (f : Nat → Nat) : bK (blkD f) = .agg (va 256 (iv .u8 f)) := by
  unfold bK
  rw [vF_blkD]
theorem vF_inj {a b : Vector Nat 256} (h : bkSame (vF a) (vF b)) : a = b := by
  apply Vector.ext
  intro i hi
  have := h i hi
  unfold vF at this
  simpa [hi] using this
theorem blkD_same (f g : Nat → Nat) : blkD f = blkD g ↔ bkSame f g := by
  constructor
  · intro h i hi
    have := congrArg (fun d : Vector Nat 256 => vF d i) h
    simp only [vF, blkD] at this
    simpa [hi] using this
  · intro h
    refine vF_inj fun i hi => ?_
    simp only [vF, blkD]
    simpa [hi] using h i hi
theorem chk_blk (d : Nat) (e : Bool) (f : Nat → Nat) (w : World) : (Instr.checkKey e (d + 1 + 1) 23 (.agg (va 256 (iv .u8 f)))).run Try.prog w = .ok () w := by
  have hc := size_u8 w
  have h1 : ∀ x : Int, (Instr.checkKey e (d + 1) 5 (.int .u8 x)).run Try.prog w = .ok () w := fun x => by simp [Instr.checkKey, run_underlying Try.underlying5]
  have p1 : ∀ i, i < 256 → (part 5 (va 256 (iv .u8 f)) (i * 1)).run Try.prog w = .ok (.int .u8 ((f i : Nat) : Int)) w := fun i hi => by
    have := va_at (iv .u8 f) hi
    simp [part, isAgg, run_underlying Try.underlying5, this]
    rfl
  generalize va 256 (iv .u8 f) = cs at *
  rw [Instr.checkKey]
  simp only [Sem.run_bind, run_underlying Try.underlying23, Result.andThen_ok]
  have key : ∀ l : List Nat, (∀ i ∈ l, i < 256) → Sem.run Try.prog (forIn l PUnit.unit fun i __s => do
      let __do_lift ← sizeOf 5
      let __do_lift ← part 5 cs (i * __do_lift)
      Instr.checkKey e (d + 1) 5 __do_lift
      pure (ForInStep.yield PUnit.unit)) w = .ok PUnit.unit w := by
    intro l
    induction l with
    | nil => intro _; simp
    | cons i l ih =>
      intro h
      simp only [List.forIn_cons, Sem.run_bind, hc, Result.andThen_ok, p1 i (h i (by simp)), h1, Sem.run_pure]
      exact ih fun j hj => h j (by simp [hj])
  simp only [Std.Legacy.Range.forIn_eq_forIn_range']
  rw [key _ (fun i hi => by simpa using hi)]
  rfl
set_option maxRecDepth 100000 in
theorem blk_key : KeyOf Try.prog 23 bK where
  desc := ⟨_, Try.underlying23, (fun k h => by cases h), (fun h => by cases h), (fun h => by cases h)⟩
  eq a b w := by
    have := eq_bk 23 Try.underlying23 (vF a) (vF b) w
    refine Eq.trans this ?_
    congr 1
    by_cases h : a = b
    · subst h
      rw [decide_eq_true (fun _ _ => rfl), decide_eq_true rfl]
    · rw [decide_eq_false h, decide_eq_false fun q => h (vF_inj q)]
  chk e a w := chk_blk 9998 e (vF a) w
end Go.Proofs.Ytaoglljkghkbpaa

namespace Go.Proofs.Ytaoglljkghkbpaa
open Go Go.RowKit
set_option linter.unusedVariables false
set_option linter.unusedSimpArgs false

section
variable {α : Type} [DecidableEq α]
/-- no like one stands ahead of place i -/
def isNew (D : Nat → α) (i : Nat) : Bool := (List.range i).all fun x => decide (D x ≠ D i)
theorem isNew_iff (D : Nat → α) (i : Nat) : isNew D i = true ↔ ∀ x, x < i → D x ≠ D i := by
  unfold isNew
  simp [List.all_eq_true]
/-- the first places, in their order -/
def firstsOf (D : Nat → α) (k : Nat) : List Nat := (List.range k).filter (isNew D)
/-- the places below k that are like place i -/
def grpOf (D : Nat → α) (k i : Nat) : List Nat := (List.range k).filter fun x => decide (D x = D i)
theorem firstsOf_succ (D : Nat → α) (k : Nat) : firstsOf D (k + 1) = if isNew D k then firstsOf D k ++ [k] else firstsOf D k := by
  unfold firstsOf
  rw [List.range_succ, List.filter_append]
  by_cases h : isNew D k = true
  · simp [h]
  · simp [h]
theorem grpOf_succ (D : Nat → α) (k i : Nat) : grpOf D (k + 1) i = if D k = D i then grpOf D k i ++ [k] else grpOf D k i := by
  unfold grpOf
  rw [List.range_succ, List.filter_append]
  by_cases h : D k = D i
  · simp [h]
  · simp [h]
theorem firstsOf_mem (D : Nat → α) (k i : Nat) : i ∈ firstsOf D k ↔ i < k ∧ ∀ x, x < i → D x ≠ D i := by
  unfold firstsOf
  rw [List.mem_filter, List.mem_range, isNew_iff]
theorem firstsOf_inj (D : Nat → α) (k : Nat) {i j : Nat} (hi : i ∈ firstsOf D k) (hj : j ∈ firstsOf D k) (h : D i = D j) : i = j := by
  rw [firstsOf_mem] at hi hj
  rcases Nat.lt_trichotomy i j with q | q | q
  · exact absurd h (hj.2 i q)
  · exact q
  · exact absurd h.symm (hi.2 j q)
theorem firstsOf_nodup (D : Nat → α) (k : Nat) : (firstsOf D k).Nodup := List.Pairwise.filter _ List.nodup_range
/-- each place has its first one -/
theorem firstsOf_has (D : Nat → α) (k x : Nat) (hx : x < k) : ∃ i ∈ firstsOf D k, D i = D x := by
  induction x using Nat.strongRecOn with
  | ind x ih =>
    by_cases h : ∀ y, y < x → D y ≠ D x
    · exact ⟨x, (firstsOf_mem D k x).2 ⟨hx, h⟩, rfl⟩
    · simp only [Classical.not_forall, not_imp, ne_eq, Classical.not_not] at h
      obtain ⟨y, hy, he⟩ := h
      obtain ⟨i, hi, hd⟩ := ih y hy (by omega)
      exact ⟨i, hi, hd.trans he⟩
theorem grpOf_new (D : Nat → α) (k : Nat) (h : isNew D k = true) : grpOf D k k = [] := by
  unfold grpOf
  rw [List.filter_eq_nil_iff]
  intro x hx
  rw [List.mem_range] at hx
  simpa using (isNew_iff D k).1 h x hx
/-- all groups -/
def grpsOf (D : Nat → α) (k : Nat) : List (List Nat) := (firstsOf D k).map (grpOf D k)
theorem grpsOf_new (D : Nat → α) (k : Nat) (h : isNew D k = true) : grpsOf D (k + 1) = grpsOf D k ++ [[k]] := by
  unfold grpsOf
  rw [firstsOf_succ, if_pos h, List.map_append]
  congr 1
  · refine List.map_congr_left fun i hi => ?_
    rw [grpOf_succ, if_neg]
    intro q
    have := (firstsOf_mem D k i).1 hi
    exact (isNew_iff D k).1 h i this.1 q.symm
  · simp [grpOf_succ, grpOf_new D k h]
theorem grpsOf_old (D : Nat → α) (k j : Nat) (h : isNew D k = false) (hj : j < (firstsOf D k).length) (hd : D ((firstsOf D k).getD j 0) = D k) : grpsOf D (k + 1) = (grpsOf D k).set j ((grpsOf D k).getD j [] ++ [k]) := by
  unfold grpsOf
  rw [firstsOf_succ, if_neg (by simp [h])]
  apply List.ext_getElem?
  intro n
  have hgj : (firstsOf D k).getD j 0 = (firstsOf D k)[j] := by simp [List.getD, hj]
  rw [hgj] at hd
  rw [List.getElem?_map]
  by_cases hn : n < (firstsOf D k).length
  · rw [List.getElem?_eq_getElem hn]
    simp only [Option.map_some]
    rw [grpOf_succ]
    by_cases e : n = j
    · subst e
      rw [if_pos hd.symm]
      simp [List.getElem?_set, hn, List.getD]
    · rw [if_neg]
      · rw [List.getElem?_set_ne (by omega), List.getElem?_map, List.getElem?_eq_getElem hn]
        rfl
      · intro q
        have := firstsOf_inj D k (List.getElem_mem hn) (List.getElem_mem hj) (q.symm.trans hd.symm)
        exact e ((List.getElem_inj (firstsOf_nodup D k)).1 this)
  · rw [List.getElem?_eq_none (by omega), List.getElem?_eq_none (by simp; omega)]
    rfl
end
end Go.Proofs.Ytaoglljkghkbpaa

namespace Go.Proofs.Ytaoglljkghkbpaa
open Go Go.RowKit
set_option linter.unusedSimpArgs false
set_option linter.unusedVariables false

def intL (l : List Nat) : List Value := l.map fun (x : Nat) => Value.int .i64 (x : Int)
theorem intL_length (l : List Nat) : (intL l).length = l.length := by simp [intL]
/-- the slice v of slices ss holds the groups G, all from block B on, no two in one block -/
structure GrpAt (w : World) (B : Nat) (v : Value) (G : List (List Nat)) (ss : List Value) : Prop where
  row : w.ownsRow B 64 1 v G.length ss
  each : ∀ j, j < G.length → w.ownsRow B 3 1 (ss.getD j undef) (G.getD j []).length (intL (G.getD j []))
  apart : ∀ i j, i ≠ j → i < G.length → j < G.length → ∀ b, (ss.getD i undef).ownBlock = some b → (ss.getD j undef).ownBlock ≠ some b
theorem GrpAt.len {w : World} {B : Nat} {v : Value} {G : List (List Nat)} {ss : List Value} (h : GrpAt w B v G ss) : ss.length = G.length := by
  have := h.row.1
  omega
theorem GrpAt.below {w w' : World} {B : Nat} {v : Value} {G : List (List Nat)} {ss : List Value} (h : GrpAt w B v G ss) (hb : Below w.heap.size w w') : GrpAt w' B v G ss :=
  ⟨kown_below h.row hb, fun j hj => kown_below (h.each j hj) hb, h.apart⟩
theorem GrpAt.nil (w : World) (B : Nat) : GrpAt w B (.slice none 0 0) [] [] := ⟨World.ownsRow_nil _ _ _ _, fun j hj => absurd hj (by simp), fun i j _ hi => absurd hi (by simp)⟩
/-- one more group, with nothing in it -/
theorem GrpAt.more {w w' : World} {B : Nat} {v v' : Value} {G : List (List Nat)} {ss : List Value} (h : GrpAt w B v G ss) (hrow : w'.ownsRow B 64 1 v' (G.length + 1) (ss ++ [.slice none 0 0])) (hg : w.grownBy w' v.ownBlock) : GrpAt w' B v' (G ++ [[]]) (ss ++ [.slice none 0 0]) := by
  have hl := h.len
  have e1 : ∀ j, j < G.length → (ss ++ [Value.slice none 0 0]).getD j undef = ss.getD j undef := fun j hj => by
    simp [List.getD, List.getElem?_append_left (show j < ss.length by omega)]
  have e2 : (ss ++ [Value.slice none 0 0]).getD G.length undef = .slice none 0 0 := by
    rw [← hl]
    simp [List.getD]
  refine ⟨by simpa using hrow, fun j hj => ?_, fun i j hij hi hj b hb => ?_⟩
  · by_cases hjl : j < G.length
    · rw [e1 j hjl, show (G ++ [([] : List Nat)]).getD j [] = G.getD j [] by simp [List.getD, List.getElem?_append_left hjl]]
      refine (h.each j hjl).kept hg ?_
      cases hq : (ss.getD j undef).ownBlock with
      | none => exact .inl rfl
      | some k => exact .inr fun q => own_own (h.each j hjl) h.row (by decide) hq q.symm
    · obtain rfl : j = G.length := by simp at hj; omega
      rw [e2, show (G ++ [([] : List Nat)]).getD G.length [] = [] by simp [List.getD]]
      exact World.ownsRow_nil _ _ _ _
  · have hil : i < G.length := by
      rcases Nat.lt_or_ge i G.length with q | q
      · exact q
      · obtain rfl : i = G.length := by simp at hi; omega
        rw [e2] at hb
        cases hb
    rw [e1 i hil] at hb
    by_cases hjl : j < G.length
    · rw [e1 j hjl]
      exact h.apart i j hij hil hjl b hb
    · obtain rfl : j = G.length := by simp at hj; omega
      rw [e2]
      exact fun q => by cases q
theorem own_setCell {w : World} {B e n g cap : Nat} {xs : List Value} (h : w.ownsRow B e 1 (.slice (some ⟨g, 0, none⟩) n cap) n xs) (j : Nat) (hj : j < n) (x : Value) : (w.setCell ⟨g, j, none⟩ x).ownsRow B e 1 (.slice (some ⟨g, 0, none⟩) n cap) n (xs.set j x) := by
  rcases h.2 with ⟨hn, _⟩ | ⟨g', cap', cur, hv, hb, hg, h1, h2, h3, h4⟩
  · cases hn
  · injection hv with hv1 hv2 hv3
    injection hv1 with hv1
    injection hv1 with hv1
    subst hv1 hv3
    have hB : Blk w g e cur := hg
    refine ⟨by simpa using h.1, .inr ⟨g, cap, cur.setIfInBounds j x, rfl, hb, hB.put j x, h1, h2, by simpa using h3, ?_⟩⟩
    rw [← h4]
    simp [List.take_set]
theorem own_setCell_other {w : World} {B e n g : Nat} {v : Value} {xs : List Value} (h : w.ownsRow B e 1 v n xs) (hne : v.ownBlock ≠ some g) (j : Nat) (x : Value) : (w.setCell ⟨g, j, none⟩ x).ownsRow B e 1 v n xs :=
  kown_kept h fun k _ hv => Below.heap_setCell w ⟨g, j, none⟩ x k fun q => hne (by rw [hv, q])
/-- one more number in a group -/
theorem GrpAt.push {w w' : World} {B g cap : Nat} {G : List (List Nat)} {ss : List Value} {j x : Nat} {s' : Value} (h : GrpAt w B (.slice (some ⟨g, 0, none⟩) G.length cap) G ss) (hj : j < G.length)
    (hrow : w'.ownsRow B 3 1 s' ((G.getD j []).length + 1) (intL (G.getD j []) ++ [.int .i64 (x : Int)])) (hg : w.grownBy w' (ss.getD j undef).ownBlock) (hs : s'.ownBlock = (ss.getD j undef).ownBlock ∨ ∃ k, s'.ownBlock = some k ∧ w.heap.size ≤ k) :
    GrpAt (w'.setCell ⟨g, j, none⟩ s') B (.slice (some ⟨g, 0, none⟩) G.length cap) (G.set j (G.getD j [] ++ [x])) (ss.set j s') := by
  have hl := h.len
  have hgs : (ss.getD j undef).ownBlock ≠ some g := fun q => own_own (h.each j hj) h.row (by decide) q rfl
  have hrow' : w'.ownsRow B 64 1 (.slice (some ⟨g, 0, none⟩) G.length cap) G.length ss := h.row.kept hg (.inr fun q => hgs q.symm)
  have ej : (ss.set j s').getD j undef = s' := by simp [List.getD, hl, hj]
  have en : ∀ i, i ≠ j → (ss.set j s').getD i undef = ss.getD i undef := fun i hi => by simp [List.getD, List.getElem?_set_ne (Ne.symm hi)]
  have Gj : (G.set j (G.getD j [] ++ [x])).getD j [] = G.getD j [] ++ [x] := by simp [List.getD, hj]
  have Gn : ∀ i, i ≠ j → (G.set j (G.getD j [] ++ [x])).getD i [] = G.getD i [] := fun i hi => by simp [List.getD, List.getElem?_set_ne (Ne.symm hi)]
  have hsg : s'.ownBlock ≠ some g := fun q => own_own hrow hrow' (by decide) q rfl
  refine ⟨by simpa using own_setCell hrow' j hj s', fun i hi => ?_, fun i k hik hi hk b hb => ?_⟩
  · rw [List.length_set] at hi
    by_cases hij : i = j
    · subst hij
      rw [ej, Gj]
      refine own_setCell_other ?_ hsg _ _
      simpa [intL] using hrow
    · rw [en i hij, Gn i hij]
      have hne : (ss.getD i undef).ownBlock ≠ some g := fun q => own_own (h.each i hi) h.row (by decide) q rfl
      refine own_setCell_other ((h.each i hi).kept hg ?_) hne _ _
      cases hq : (ss.getD i undef).ownBlock with
      | none => exact .inl rfl
      | some b => exact .inr fun q => h.apart i j hij hi hj b hq q.symm
  · rw [List.length_set] at hi hk
    by_cases hij : i = j
    · subst hij
      rw [ej] at hb
      rw [en k (Ne.symm hik)]
      intro q
      rcases hs with hs | ⟨z, hz, hzl⟩
      · exact h.apart i k hik hi hk b (by rw [← hs]; exact hb) q
      · rw [hz] at hb
        injection hb with hb
        have := ((h.each k hk).lt b q).2
        omega
    · rw [en i hij] at hb
      by_cases hkj : k = j
      · subst hkj
        rw [ej]
        intro q
        rcases hs with hs | ⟨z, hz, hzl⟩
        · exact h.apart i k hik hi hk b hb (by rw [← hs]; exact q)
        · rw [hz] at q
          injection q with q
          have := ((h.each i hi).lt b hb).2
          omega
      · rw [en k hkj]
        exact h.apart i k hik hi hk b hb
end Go.Proofs.Ytaoglljkghkbpaa

namespace Go.Proofs.Ytaoglljkghkbpaa
open Go.RowKit
set_option linter.unusedSimpArgs false
set_option linter.unusedVariables false

theorem wpList_append_own_at {P : Program} {ops : Array Oper} {rest : List Oper} {o : Oper} {a : Act} {w : World} {Q : Exit → Act → World → Prop} (hgd : o.guard = none) (s x : Operand) (t : TypeId)
    (ho : o.op = .call { callee := .builtin .append, args := #[s, x], argTypes := #[t, t] })
    (base : Nat) (e : TypeId) (i : TypeInfo) (z : Value) (size bytes : Nat) (ht : P.underlying t = some (.slice e)) (hi : P.info? e = some i) (hz : i.zero = some z)
    (hsize : i.size = size) (hby : i.bytes = bytes) (hzs : z.cells.size = size) (hsz : 0 < size)
    (v : Value) (n : Nat) (xs : List Value) (hs : a.eval s = v) (hown : w.ownsRow base e size v n xs)
    (ad : Addr) (m c : Nat) (news : List Value) (hx : a.eval x = .slice (some ad) m c) (hl : news.length = m * size) (hnews : ∀ j u, news[j]? = some u → w.cell? (ad.add j) = some u) (h1 : ∀ u ∈ news, u.oneCell' = true)
    (h63 : n + m ≤ maxLen) (hbytes : (n + m) * bytes ≤ 140737488355328) (hbase : base ≤ w.heap.size)
    (h : ∀ v' w', w'.ownsRow base e size v' (n + m) (xs ++ news) → w.grownBy w' v.ownBlock → (v'.ownBlock = v.ownBlock ∨ v'.ownBlock = some w.heap.size) → wpList P ops Q rest (a.put o.dst v') w') :
    wpList P ops Q (o :: rest) a w := by
  obtain ⟨v', w', hr, g1, g2, g3, g4⟩ := run_append_own_at (P := P) w base t o.type e i z size bytes ht hi hz hsize hby hzs hsz v n xs hown ad m c news hl hnews h1 h63 hbytes hbase
  refine wpList_plain hgd fun K hK => ?_
  unfold Oper.wp
  simp [execOp, ho, resolve, invoke, builtin, hs, hx, hr, Result.andThen]
  exact hK _ _ (h v' w' g1 g2 g4)
theorem infoInt : (Try.prog.info? 3).map (fun i => (i.zero, i.size, i.bytes)) = some (some (.int .i64 0), 1, 8) := by kernel_rfl
theorem infoInts : (Try.prog.info? 64).map (fun i => (i.zero, i.size, i.bytes)) = some (some (.slice none 0 0), 1, 24) := by kernel_rfl
theorem grps_len {α : Type} [DecidableEq α] (D : Nat → α) (k j : Nat) : ((grpsOf D k).getD j []).length ≤ k := by
  unfold grpsOf
  rw [List.getD_eq_getElem?_getD, List.getElem?_map]
  cases hq : (firstsOf D k)[j]? with
  | none => simp
  | some i =>
    simp only [Option.map_some, Option.getD_some, grpOf]
    exact Nat.le_trans (List.length_filter_le _ _) (by simp)
/-- what the map holds -/
def mapOf {α : Type} (D : Nat → α) (R : List Nat) : List (α × Nat) := R.zipIdx.map fun x => (D x.1, x.2)
theorem mapOf_snoc {α : Type} (D : Nat → α) (R : List Nat) (k : Nat) : mapOf D (R ++ [k]) = mapOf D R ++ [(D k, R.length)] := by
  unfold mapOf
  rw [List.zipIdx_append, List.map_append]
  simp
theorem find_zip {α : Type} [DecidableEq α] (D : Nat → α) (d : α) : ∀ (R : List Nat) (o : Nat), (∀ j, findIn d ((R.zipIdx o).map fun x => (D x.1, x.2)) = some j → o ≤ j ∧ j - o < R.length ∧ D (R.getD (j - o) 0) = d) ∧ (findIn d ((R.zipIdx o).map fun x => (D x.1, x.2)) = none → ∀ i ∈ R, D i ≠ d)
  | [], o => ⟨(fun j h => by cases h), (fun _ i h => by cases h)⟩
  | r :: R, o => by
    have ih := find_zip D d R (o + 1)
    rw [List.zipIdx_cons, List.map_cons]
    constructor
    · intro j h
      simp only [findIn] at h
      split at h
      · rename_i q
        cases h
        exact ⟨Nat.le_refl _, by simp, by simpa using q.symm⟩
      · obtain ⟨h1, h2, h3⟩ := ih.1 j h
        refine ⟨by omega, by simp; omega, ?_⟩
        rw [show j - o = (j - (o + 1)) + 1 by omega]
        simpa using h3
    · intro h i hi
      simp only [findIn] at h
      split at h
      · cases h
      · rename_i q
        rcases List.mem_cons.1 hi with rfl | hi
        · exact fun e => q e.symm
        · exact ih.2 h i hi

set_option maxRecDepth 100000 in
set_option maxHeartbeats 8000000 in
theorem groups_any (a0 : Option Addr) (n cap : Nat) (hn : n * 256 ≤ 140737488351232) (L : Nat → Nat → Nat) (w : World) (h : IsBlks w a0 n L) :
    Calls Try.prog 29 #[.slice a0 n cap] w fun x w' => ∃ v, x = .returned v ∧ ∃ ss, GrpAt w' w.heap.size v (grpsOf (fun i => blkD (L i)) n) ss ∧ Below w.heap.size w w' := by
  have hmm := @run_makeMap Try.prog
  have hI : Hid (IsBlks w a0 n L) := h
  obtain ⟨i0, hi, hz0, hz1, hz2⟩ := info_parts infoInt
  obtain ⟨i1, gi, gz0, gz1, gz2⟩ := info_parts infoInts
  have hz := zero_bk
  clear h
  obtain ⟨D, hD⟩ : ∃ D : Nat → Vector Nat 256, D = fun i => blkD (L i) := ⟨_, rfl⟩
  rw [← hD]
  have HD : Hid (∀ k, bK (D k) = .agg (va 256 (iv .u8 (L k)))) := fun k => by
    rw [hD]
    exact bK_blkD (L k)
  clear hD
  go_enter Try.func29, Try.ntmps29
  go_wp2_with fail
  go_loopw [3, 12] (fun v i wr => ∃ (k : Nat) (q : Option Addr) (c : Nat) (ss : List Value), k ≤ n ∧ i = .int .i64 k ∧ v = .slice q (grpsOf D k).length c ∧ GrpAt wr (w.heap.size + 1) v (grpsOf D k) ss ∧ MapIs bK intV wr w.heap.size (mapOf D (firstsOf D k)) ∧ Below w.heap.size w wr) (fun _ i _ => n - (intOf i).toNat)
  case atStart =>
    exact ⟨0, none, 0, [], Nat.zero_le _, rfl, rfl, GrpAt.nil _ _, ⟨#[], 0, heap_alloc_new w _, rfl⟩, (Below.refl _ _).alloc (Nat.le_refl _) _⟩
  case round =>
    obtain ⟨k, q, c, ss, hk, rfl, rfl, hG, hM, hb⟩ := hrel
    have hml : w.heap.size < wr.heap.size := by obtain ⟨es, cl, hg, _⟩ := hM; exact (Array.getElem?_eq_some_iff.1 hg).1
    by_cases hlt : k < n
    · obtain ⟨b, o, rfl, hbl, hr⟩ := hI.out k hlt
      have HR : Hid (wr.rangeAt b (o + k * 256) ((List.range 256).map (iv .u8 (L k)))) := range_below hr hb hbl
      have k0 : (0 : Int) ≤ (k : Int) := by omega
      have k1 : (k : Int) < (n : Int) := by omega
      have c1 := Blk.new wr 23 (va 256 (iv .u8 fun _ => 0))
      have c2 := c1.set (va 256 (iv .u8 (L k)))
      have hbB : Below wr.heap.size wr ((wr.alloc (Obj.cells (va 256 (iv IntKind.u8 fun _ => 0)) 23)).setRow wr.heap.size (va 256 (iv .u8 (L k)))) := below_setRow (below_new1 wr _) (Nat.le_refl _) _
      have hG1 := hG.below hbB
      have hM1 := hM.below hbB hml
      have hb1 : Below w.heap.size w ((wr.alloc (Obj.cells (va 256 (iv IntKind.u8 fun _ => 0)) 23)).setRow wr.heap.size (va 256 (iv .u8 (L k)))) := hb.trans (hbB.mono hb.size)
      have hlk := run_lookup_is Try.underlying86 blk_key zero_int hM1 (D k) true
      have hz9 : wr.heap.size ≤ ((wr.alloc (Obj.cells (va 256 (iv IntKind.u8 fun _ => 0)) 23)).setRow wr.heap.size (va 256 (iv .u8 (L k)))).heap.size := hbB.size
      clear hr hbl hG hM hb
      generalize hw1 : (wr.alloc (Obj.cells (va 256 (iv IntKind.u8 fun _ => 0)) 23)).setRow wr.heap.size (va 256 (iv .u8 (L k))) = w1 at *
      have HW1 : Hid ((wr.alloc (Obj.cells (va 256 (iv IntKind.u8 fun _ => 0)) 23)).setRow wr.heap.size (va 256 (iv .u8 (L k))) = w1) := hw1
      clear hw1 hbB
      cases hf : findIn (D k) (mapOf D (firstsOf D k)) with
      | some j =>
        obtain ⟨_, hjl, hjd⟩ := (find_zip D (D k) (firstsOf D k) 0).1 j hf
        rw [Nat.sub_zero] at hjl hjd
        have hnew : isNew D k = false := by
          cases hq : isNew D k with
          | false => rfl
          | true =>
            have hm : (firstsOf D k).getD j 0 ∈ firstsOf D k := by
              rw [List.getD_eq_getElem?_getD, List.getElem?_eq_getElem hjl]
              exact List.getElem_mem _
            exact absurd hjd ((isNew_iff D k).1 hq _ ((firstsOf_mem D k _).1 hm).1)
        have HGO : Hid (grpsOf D (k + 1) = (grpsOf D k).set j ((grpsOf D k).getD j [] ++ [k])) := grpsOf_old D k j hnew hjl hjd
        have HFO : Hid (firstsOf D (k + 1) = firstsOf D k) := by
          show _ = _
          rw [firstsOf_succ, if_neg (by simp [hnew])]
        have hgl : j < (grpsOf D k).length := by simpa [grpsOf] using hjl
        have hlk3 : Sem.run Try.prog (Instr.lookup 86 (.map (some w.heap.size)) (.agg (va 256 (iv .u8 (L k)))) true) w1 = .ok (.tuple #[.int .i64 ((j : Nat) : Int), .bool true]) w1 := by
          rw [hf, HD.out k] at hlk
          exact hlk
        have hgle : (grpsOf D k).length ≤ k := by
          unfold grpsOf firstsOf
          rw [List.length_map]
          exact Nat.le_trans (List.length_filter_le _ _) (by simp)
        clear hlk hf hjl hjd hnew
        have hgj : ((grpsOf D k).getD j []).length ≤ k := grps_len D k j
        have hsz1 : w.heap.size + 1 ≤ w1.heap.size := by omega
        generalize grpsOf D k = G at *
        obtain ⟨gv, cv, hv, hgv, hgvl⟩ := kown_form hG1.row (show 0 < G.length by omega)
        injection hv with hv1 _ hv2
        subst hv1 hv2
        obtain ⟨S, hS⟩ : ∃ S, S = ss.getD j undef := ⟨_, rfl⟩
        obtain ⟨Gj, hGj⟩ : ∃ Gj, Gj = G.getD j [] := ⟨_, rfl⟩
        have hsl := hG1.len
        have hcell2 : w1.cell? ⟨gv, j, none⟩ = some S := by
          rw [hG1.row.cellAt (g := gv) j (by omega), hS]
          simp [List.getD, hsl, hgl]
        have hE := hG1.each j hgl
        rw [← hS, ← hGj] at hE
        have HS : Hid (S = ss.getD j undef) := hS
        have HGJ : Hid (Gj = G.getD j []) := hGj
        have HEACH : Hid (w1.ownsRow (w.heap.size + 1) 3 1 S Gj.length (intL Gj)) := hE
        have hlen : Gj.length ≤ k := by
          rw [hGj]
          exact hgj
        have HOWN : Hid ((w1.alloc (.cells #[.int .i64 (k : Int)] 3)).ownsRow (w.heap.size + 1) 3 1 S Gj.length (intL Gj)) := hE.alloc _
        have j0 : (0 : Int) ≤ (j : Int) := by omega
        have j1 : (j : Int) < (G.length : Int) := by omega
        clear hS hGj hE
        go_wp2_with (first
          | (refine wpList_load_blk (by rfl) 23 _ (by rfl) b (o + k * 256) 256 (iv .u8 (L k)) (by rfl) _ HR.out Try.underlying23 rfl sizeBk ?_; simp only [Act.put, List.setIfInBounds_toArray, List.set_cons_zero, List.set_cons_succ])
          | ((refine wpList_store_row (by rfl) 23 _ _ (by rfl) (wr.heap.size) (va 256 (iv .u8 (L k))) (by rfl) (by rfl) 23 _ c1 (sizeBk.trans (by rw [va_size])) (by simp only [va_size]) (iv_one _ _ _) ?_; simp only [Act.put, List.setIfInBounds_toArray, List.set_cons_zero, List.set_cons_succ]); rw [HW1.out])
          | (refine wpList_load_row (by rfl) 23 _ (by rfl) (wr.heap.size) (by rfl) 23 (va 256 (iv .u8 (L k))) (0, 0) _ c2 Try.underlying23 (by rfl) (sizeBk.trans (by rw [va_size])) ?_; simp only [Act.put, List.setIfInBounds_toArray, List.set_cons_zero, List.set_cons_succ])
          | (at_builtin; refine wpList_append_own_at rfl _ _ 64 rfl (w.heap.size + 1) 3 i0 (.int .i64 0) 1 8 Try.underlying64 hi hz0 hz1 hz2 rfl (by decide) _ _ _ rfl HOWN.out ⟨w1.heap.size, 0, none⟩ 1 1 [.int .i64 (k : Int)] rfl rfl (cell_one_new _ _ _) (fun x hx => by simp at hx; subst hx; rfl) (by unfold maxLen; omega) (by omega) (by simp; omega) ?_)
          | go_in)
        intro s' w3 hrow hgr hsb
        obtain ⟨sa, sc, rfl⟩ := kown_slice hrow
        have hGa := hG1.below (below_new1 w1 (Obj.cells #[Value.int IntKind.i64 (k : Int)] 3))
        have hSne : S.ownBlock ≠ some gv := fun qq => own_own HEACH.out hG1.row (by decide) qq rfl
        have hrow3 := hGa.row.kept hgr (.inr fun qq => hSne qq.symm)
        have cell3 : w3.cell? ⟨gv, j, none⟩ = some S := by
          have := hrow3.cellAt (g := gv) j (by omega)
          rw [this, HS.out]
          simp [List.getD, hsl, hgl]
        have f3 : w3.frozen? ⟨gv, j, none⟩ = false := by
          rcases hrow3.2 with ⟨hn, _⟩ | ⟨g', cap', cur, hv, _, hg, _⟩
          · cases hn
          · injection hv with hv1
            injection hv1 with hv1
            injection hv1 with hv1
            subst hv1
            exact Blk.frozen (show Blk w3 gv 64 cur from hg) j
        have hbw : Below (w.heap.size + 1) w1 w3 := ((Below.refl _ w1).alloc hsz1 _).grown hgr (by simp; omega) (fun x hx => (HEACH.out.lt x hx).1)
        have HGP : Hid (GrpAt (w3.setCell ⟨gv, j, none⟩ (Value.slice sa (Gj.length + 1) sc)) (w.heap.size + 1) (.slice (some ⟨gv, 0, none⟩) G.length c) (G.set j (G.getD j [] ++ [k])) (ss.set j (Value.slice sa (Gj.length + 1) sc))) := by
          refine hGa.push hgl ?_ ?_ ?_
          · rw [← HGJ.out]
            exact hrow
          · rw [← HS.out]
            exact hgr
          · rw [← HS.out]
            rcases hsb with h1 | h1
            · exact .inl h1
            · exact .inr ⟨_, h1, by simp⟩
        have HMP : Hid (MapIs bK intV (w3.setCell ⟨gv, j, none⟩ (Value.slice sa (Gj.length + 1) sc)) w.heap.size (mapOf D (firstsOf D k))) := hM1.below (hbw.setCell (p := ⟨gv, j, none⟩) hgv (Value.slice sa (Gj.length + 1) sc)) (Nat.lt_succ_self _)
        have HBP : Hid (Below w.heap.size w (w3.setCell ⟨gv, j, none⟩ (Value.slice sa (Gj.length + 1) sc))) := hb1.trans ((hbw.setCell (p := ⟨gv, j, none⟩) hgv (Value.slice sa (Gj.length + 1) sc)).mono (Nat.le_succ _))
        clear hGa hrow hgr hsb hrow3 hbw hG1 hM1 hb1 HOWN
        go_wp2_with fail
        refine ⟨⟨k + 1, some ⟨gv, 0, none⟩, c, ss.set j (Value.slice sa (Gj.length + 1) sc), by omega, by simp, ?_, ?_, ?_, HBP.out⟩, ?_⟩
        · rw [HGO.out, List.length_set]
        · rw [HGO.out]
          exact HGP.out
        · rw [HFO.out]
          exact HMP.out
        · simp [intOf]
          omega
      | none =>
        have hall := (find_zip D (D k) (firstsOf D k) 0).2 hf
        have hnew : isNew D k = true := (isNew_iff D k).2 fun x hx e => by
          obtain ⟨i, him, hid⟩ := firstsOf_has D k x hx
          exact hall i him (hid.trans e)
        have HGO : Hid (grpsOf D (k + 1) = grpsOf D k ++ [[k]]) := grpsOf_new D k hnew
        have HFO : Hid (mapOf D (firstsOf D (k + 1)) = mapOf D (firstsOf D k) ++ [(D k, (grpsOf D k).length)]) := by
          show _ = _
          rw [firstsOf_succ, if_pos hnew, mapOf_snoc]
          simp [grpsOf]
        have hlk3 : Sem.run Try.prog (Instr.lookup 86 (.map (some w.heap.size)) (.agg (va 256 (iv .u8 (L k)))) true) w1 = .ok (.tuple #[.int .i64 0, .bool false]) w1 := by
          rw [hf, HD.out k] at hlk
          exact hlk
        have hgle : (grpsOf D k).length ≤ k := by
          unfold grpsOf firstsOf
          rw [List.length_map]
          exact Nat.le_trans (List.length_filter_le _ _) (by simp)
        generalize grpsOf D k = G at *
        obtain ⟨w2, hup, hM2, hk2⟩ := run_update_is Try.underlying86 blk_key hM1 (D k) G.length hf
        have hup2 : Sem.run Try.prog (Instr.mapUpdate 86 (.map (some w.heap.size)) (.agg (va 256 (iv .u8 (L k)))) (.int .i64 (G.length : Int))) w1 = .ok () w2 := by
          rw [HD.out k] at hup
          exact hup
        have hG2 : GrpAt w2 (w.heap.size + 1) (.slice q G.length c) G ss := by
          have key : ∀ {v : Value} {e m : Nat} {xs : List Value}, w1.ownsRow (w.heap.size + 1) e 1 v m xs → w2.ownsRow (w.heap.size + 1) e 1 v m xs := fun hh => kown_kept hh fun z hz hzv => hk2.2 z (by omega) ((hh.lt z hzv).2)
          exact ⟨key hG1.row, fun j hj => key (hG1.each j hj), hG1.apart⟩
        have hb2 : Below w.heap.size w w2 := hb1.trans hk2.1
        have hsz2 : w.heap.size + 1 ≤ w2.heap.size := by have := hk2.1.size; omega
        have HOW2 : Hid ((w2.alloc (.cells #[Value.slice none 0 0] 64)).ownsRow (w.heap.size + 1) 64 1 (.slice q G.length c) G.length ss) := hG2.row.alloc _
        have hv2 := hG2.row.lt
        clear hlk hf hall hnew hup
        go_wp2_with (first
          | (refine wpList_load_blk (by rfl) 23 _ (by rfl) b (o + k * 256) 256 (iv .u8 (L k)) (by rfl) _ HR.out Try.underlying23 rfl sizeBk ?_; simp only [Act.put, List.setIfInBounds_toArray, List.set_cons_zero, List.set_cons_succ])
          | ((refine wpList_store_row (by rfl) 23 _ _ (by rfl) (wr.heap.size) (va 256 (iv .u8 (L k))) (by rfl) (by rfl) 23 _ c1 (sizeBk.trans (by rw [va_size])) (by simp only [va_size]) (iv_one _ _ _) ?_; simp only [Act.put, List.setIfInBounds_toArray, List.set_cons_zero, List.set_cons_succ]); rw [HW1.out])
          | (refine wpList_load_row (by rfl) 23 _ (by rfl) (wr.heap.size) (by rfl) 23 (va 256 (iv .u8 (L k))) (0, 0) _ c2 Try.underlying23 (by rfl) (sizeBk.trans (by rw [va_size])) ?_; simp only [Act.put, List.setIfInBounds_toArray, List.set_cons_zero, List.set_cons_succ])
          | (at_builtin; refine wpList_append_own_at rfl _ _ 62 rfl (w.heap.size + 1) 64 i1 (.slice none 0 0) 1 24 Try.underlying62 gi gz0 gz1 gz2 rfl (by decide) _ _ _ rfl HOW2.out ⟨w2.heap.size, 0, none⟩ 1 1 [.slice none 0 0] rfl rfl (cell_one_new _ _ _) (fun x hx => by simp at hx; subst hx; rfl) (by unfold maxLen; omega) (by omega) (by simp; omega) ?_)
          | go_in)
        intro v4 w4 hrow4 hgr4 _
        have hbel4 : Below (w.heap.size + 1) w2 w4 := ((Below.refl _ w2).alloc hsz2 _).grown hgr4 (by simp; omega) (fun x hx => (hv2 x hx).1)
        have hG4 := (hG2.below (below_new1 w2 (Obj.cells #[Value.slice none 0 0] 64))).more hrow4 hgr4
        have hM4 := hM2.below hbel4 (Nat.lt_succ_self _)
        have hb4 : Below w.heap.size w w4 := hb2.trans (hbel4.mono (Nat.le_succ _))
        have hsz4 : w.heap.size + 1 ≤ w4.heap.size := Nat.le_trans hsz2 hbel4.size
        have hgl : G.length < (G ++ [([] : List Nat)]).length := by simp
        obtain ⟨q4, c4, rfl⟩ := kown_slice hrow4
        have hll : (G ++ [([] : List Nat)]).length = G.length + 1 := by simp
        rw [← hll] at hG4
        clear hrow4 hgr4 hG2 hM2 hb2 hbel4 HOW2 hv2 hG1 hM1 hb1 hk2
        obtain ⟨gv, cv, hv, hgv, hgvl⟩ := kown_form hG4.row (show 0 < (G ++ [[]]).length by omega)
        injection hv with hv1 _ hv2
        subst hv1 hv2
        obtain ⟨S, hS⟩ : ∃ S, S = (ss ++ [Value.slice none 0 0]).getD G.length undef := ⟨_, rfl⟩
        obtain ⟨Gj, hGj⟩ : ∃ Gj, Gj = (G ++ [[]]).getD G.length [] := ⟨_, rfl⟩
        have hsl := hG4.len
        have hcell2 : w4.cell? ⟨gv, G.length, none⟩ = some S := by
          rw [hG4.row.cellAt (g := gv) G.length (by omega), hS]
          simp [List.getD, hsl, hgl]
        have hE := hG4.each G.length hgl
        rw [← hS, ← hGj] at hE
        have HS : Hid (S = (ss ++ [Value.slice none 0 0]).getD G.length undef) := hS
        have HGJ : Hid (Gj = (G ++ [[]]).getD G.length []) := hGj
        have HEACH : Hid (w4.ownsRow (w.heap.size + 1) 3 1 S Gj.length (intL Gj)) := hE
        have hlen : Gj.length ≤ k := by
          rw [hGj]
          exact (by simp)
        have HOWN : Hid ((w4.alloc (.cells #[.int .i64 (k : Int)] 3)).ownsRow (w.heap.size + 1) 3 1 S Gj.length (intL Gj)) := hE.alloc _
        have j0 : (0 : Int) ≤ (G.length : Int) := by omega
        have j1 : (G.length : Int) < ((G ++ [[]]).length : Int) := by omega
        clear hS hGj hE
        go_wp2_with (first
          | (at_builtin; refine wpList_append_own_at rfl _ _ 64 rfl (w.heap.size + 1) 3 i0 (.int .i64 0) 1 8 Try.underlying64 hi hz0 hz1 hz2 rfl (by decide) _ _ _ rfl HOWN.out ⟨w4.heap.size, 0, none⟩ 1 1 [.int .i64 (k : Int)] rfl rfl (cell_one_new _ _ _) (fun x hx => by simp at hx; subst hx; rfl) (by unfold maxLen; omega) (by omega) (by simp; omega) ?_)
          | go_in)
        intro s' w3 hrow hgr hsb
        obtain ⟨sa, sc, rfl⟩ := kown_slice hrow
        have hGa := hG4.below (below_new1 w4 (Obj.cells #[Value.int IntKind.i64 (k : Int)] 3))
        have hSne : S.ownBlock ≠ some gv := fun qq => own_own HEACH.out hG4.row (by decide) qq rfl
        have hrow3 := hGa.row.kept hgr (.inr fun qq => hSne qq.symm)
        have cell3 : w3.cell? ⟨gv, G.length, none⟩ = some S := by
          have := hrow3.cellAt (g := gv) G.length (by omega)
          rw [this, HS.out]
          simp [List.getD, hsl, hgl]
        have f3 : w3.frozen? ⟨gv, G.length, none⟩ = false := by
          rcases hrow3.2 with ⟨hn, _⟩ | ⟨g', cap', cur, hv, _, hg, _⟩
          · cases hn
          · injection hv with hv1
            injection hv1 with hv1
            injection hv1 with hv1
            subst hv1
            exact Blk.frozen (show Blk w3 gv 64 cur from hg) G.length
        have hbw : Below (w.heap.size + 1) w4 w3 := ((Below.refl _ w4).alloc hsz4 _).grown hgr (by simp; omega) (fun x hx => (HEACH.out.lt x hx).1)
        have HGP : Hid (GrpAt (w3.setCell ⟨gv, G.length, none⟩ (Value.slice sa (Gj.length + 1) sc)) (w.heap.size + 1) (.slice (some ⟨gv, 0, none⟩) (G ++ [[]]).length c4) ((G ++ [[]]).set G.length ((G ++ [[]]).getD G.length [] ++ [k])) ((ss ++ [Value.slice none 0 0]).set G.length (Value.slice sa (Gj.length + 1) sc))) := by
          refine hGa.push hgl ?_ ?_ ?_
          · rw [← HGJ.out]
            exact hrow
          · rw [← HS.out]
            exact hgr
          · rw [← HS.out]
            rcases hsb with h1 | h1
            · exact .inl h1
            · exact .inr ⟨_, h1, by simp⟩
        have HMP : Hid (MapIs bK intV (w3.setCell ⟨gv, G.length, none⟩ (Value.slice sa (Gj.length + 1) sc)) w.heap.size (mapOf D (firstsOf D k) ++ [(D k, G.length)])) := hM4.below (hbw.setCell (p := ⟨gv, G.length, none⟩) hgv (Value.slice sa (Gj.length + 1) sc)) (Nat.lt_succ_self _)
        have HBP : Hid (Below w.heap.size w (w3.setCell ⟨gv, G.length, none⟩ (Value.slice sa (Gj.length + 1) sc))) := hb4.trans ((hbw.setCell (p := ⟨gv, G.length, none⟩) hgv (Value.slice sa (Gj.length + 1) sc)).mono (Nat.le_succ _))
        clear hGa hrow hgr hsb hrow3 hbw hG4 hM4 hb4 HOWN
        go_wp2_with fail
        have HSET : (G ++ [([] : List Nat)]).set G.length ((G ++ [([] : List Nat)]).getD G.length [] ++ [k]) = G ++ [[k]] := by simp [List.getD]
        have HGP2 := HGP.out
        rw [HSET] at HGP2
        refine ⟨⟨k + 1, some ⟨gv, 0, none⟩, c4, (ss ++ [Value.slice none 0 0]).set G.length (Value.slice sa (Gj.length + 1) sc), by omega, by simp, ?_, ?_, ?_, HBP.out⟩, ?_⟩
        · rw [HGO.out]
          simp
        · rw [HGO.out]
          simpa using HGP2
        · rw [HFO.out]
          exact HMP.out
        · simp [intOf]
          omega
    · obtain rfl : k = n := by omega
      have HG : Hid (GrpAt wr (w.heap.size + 1) (.slice q (grpsOf D k).length c) (grpsOf D k) ss) := hG
      clear hG
      go_wp2_with fail
      go_ret
      exact ⟨_, rfl, ss, ⟨kown_mono HG.out.row (Nat.le_succ _), fun j hj => kown_mono (HG.out.each j hj) (Nat.le_succ _), HG.out.apart⟩, hb⟩
end Go.Proofs.Ytaoglljkghkbpaa
