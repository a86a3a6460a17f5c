/- A nil disk: the program's contracts. -/
import Derived.Test.YtdhbjcnbdfidcaaHRefPut
import Derived.Handy
import Derived.Test.YtdhbjcnbdfidcaaHBlkOwn
import Derived.Great.BuildSlice
import Derived.OwnWalk
import Derived.Maps.AppendAt
import Derived.Deep.MidRow
import Derived.BigQuiet
import Derived.Deep.QuietTactic

namespace Go.Proofs.Ytdhbjcnbdfidcaa
open Go.RowKit
set_option linter.unusedSimpArgs false
set_option linter.unusedVariables false

theorem infoDig : (Try.prog.info? 33).map (fun i => (i.zero, i.size, i.bytes)) = some (some (.agg (va 32 (iv .u8 fun _ => 0))), 32, 32) := by kernel_rfl
theorem sizeDig : (Try.prog.info? 33).map (·.size) = some 32 := by kernel_rfl
/-- the cells of a digest, and of a row of them -/
def digL (d : Vector Nat 32) : List Value := (List.range 32).map (iv .u8 (dF d))
def sumCells (D : Nat → Vector Nat 32) (k : Nat) : List Value := (List.range k).flatMap fun j => digL (D j)
theorem digL_length (d : Vector Nat 32) : (digL d).length = 32 := by simp [digL]
theorem digL_one (d : Vector Nat 32) : ∀ u ∈ digL d, u.oneCell' = true := fun u hu => by
  unfold digL at hu
  obtain ⟨i, _, rfl⟩ := List.mem_map.1 hu
  rfl
theorem sumCells_succ (D : Nat → Vector Nat 32) (k : Nat) : sumCells D (k + 1) = sumCells D k ++ digL (D k) := by
  unfold sumCells
  rw [List.range_succ, List.flatMap_append]
  simp
theorem sumCells_length (D : Nat → Vector Nat 32) (k : Nat) : (sumCells D k).length = k * 32 := by
  induction k with
  | zero => simp [sumCells]
  | succ k ih => rw [sumCells_succ, List.length_append, ih, digL_length]; omega
theorem sumCells_at (D : Nat → Vector Nat 32) : ∀ (k i j : Nat), i < k → j < 32 → (sumCells D k)[i * 32 + j]? = some (iv .u8 (dF (D i)) j)
  | 0, i, j, hi, hj => by omega
  | k + 1, i, j, hi, hj => by
    rw [sumCells_succ]
    by_cases h : i < k
    · rw [List.getElem?_append_left (by rw [sumCells_length]; omega)]
      exact sumCells_at D k i j h hj
    · obtain rfl : i = k := by omega
      rw [List.getElem?_append_right (by rw [sumCells_length]; omega), sumCells_length, show i * 32 + j - i * 32 = j from by omega]
      simp [digL, hj]
theorem own_range {w : World} {B b k cap : Nat} {D : Nat → Vector Nat 32} (h : w.ownsRow B 33 32 (.slice (some ⟨b, 0, none⟩) k cap) k (sumCells D k)) (i : Nat) (hi : i < k) : w.rangeAt b (i * 32) ((List.range 32).map (iv .u8 (dF (D i)))) := fun j v hv => by
  have hj : j < 32 := by
    have := (List.getElem?_eq_some_iff.1 hv).1
    simpa using this
  rw [h.cellAt (i * 32 + j) (by omega), sumCells_at D k i j hi hj, ← hv]
  simp [hj]
theorem own_slice {w : World} {B e size k : Nat} {v : Value} {xs : List Value} (h : w.ownsRow B e size v k xs) (h0 : 0 < k) : ∃ b cap, v = .slice (some ⟨b, 0, none⟩) k cap ∧ B ≤ b ∧ b < w.heap.size := by
  rcases h.2 with ⟨_, h2⟩ | ⟨b, cap, cur, h1, h2, h3, _⟩
  · omega
  · exact ⟨b, cap, h1, h2, (Array.getElem?_eq_some_iff.1 h3).1⟩

theorem build_dig (f : Nat → Nat) : Array.foldl (fun (cs : Array Value) (x : Value × Nat) => cs.setIfInBounds x.snd x.fst) #[Value.int .u8 0, Value.int .u8 0, Value.int .u8 0, Value.int .u8 0, Value.int .u8 0, Value.int .u8 0, Value.int .u8 0, Value.int .u8 0, Value.int .u8 0, Value.int .u8 0, Value.int .u8 0, Value.int .u8 0, Value.int .u8 0, Value.int .u8 0, Value.int .u8 0, Value.int .u8 0, Value.int .u8 0, Value.int .u8 0, Value.int .u8 0, Value.int .u8 0, Value.int .u8 0, Value.int .u8 0, Value.int .u8 0, Value.int .u8 0, Value.int .u8 0, Value.int .u8 0, Value.int .u8 0, Value.int .u8 0, Value.int .u8 0, Value.int .u8 0, Value.int .u8 0, Value.int .u8 0] (va 32 (iv .u8 f)).zipIdx 0 (va 32 (iv .u8 f)).size = va 32 (iv .u8 f) := by kernel_rfl

end Go.Proofs.Ytdhbjcnbdfidcaa

namespace Go.Proofs.Ytdhbjcnbdfidcaa
open Go.RowKit
set_option linter.unusedSimpArgs false
set_option linter.unusedVariables false

theorem own_own {w : World} {B B' e e' size size' n n' k : Nat} {v v' : Value} {xs xs' : List Value} (h : w.ownsRow B e size v n xs) (h' : w.ownsRow B' e' size' v' n' xs') (hne : e ≠ e') (hk : v.ownBlock = some k) : v'.ownBlock ≠ some k := fun hk' => by
  rcases h.2 with ⟨rfl, _⟩ | ⟨b, cap, cur, rfl, _, hg, _⟩
  · simp [Value.ownBlock] at hk
  · rcases h'.2 with ⟨rfl, _⟩ | ⟨b', cap', cur', rfl, _, hg', _⟩
    · simp [Value.ownBlock] at hk'
    · simp [Value.ownBlock] at hk hk'
      subst hk
      subst hk'
      rw [hg] at hg'
      simp at hg'
      exact hne hg'.2
/-- two logs that share no memory -/
def Apart2 (g r : Nat) (v : Value) (g' r' : Nat) (v' : Value) : Prop := g' ≠ g ∧ r' ≠ r ∧ ∀ k, v'.ownBlock = some k → v.ownBlock ≠ some k
/-- all of a log lies from B on -/
def LogFrom (B g r : Nat) (v : Value) : Prop := B ≤ g ∧ B ≤ r ∧ ∀ k, v.ownBlock = some k → B ≤ k
theorem map_blk {w : World} {r g t : Nat} {cs : Array Value} {es : Array MapEntry} {cl : Nat} (hg : w.heap[r]? = some (.map es cl)) (hB : Blk w g t cs) : r ≠ g := fun q => by
  subst q
  unfold Blk at hB
  rw [hB] at hg
  cases hg
section
variable {w w' : World} {g r : Nat} {v : Value} {E : List (Nat × ByteArray)}
theorem LogKeeps.below {B : Nat} (hk : LogKeeps g r v w w') (hf : LogFrom B g r v) (hB : B ≤ w.heap.size) : Below B w w' :=
  ⟨hk.1, hk.2.1, hk.2.2.1, hk.2.2.2.1, fun k hkB => hk.2.2.2.2 k (by omega) (by have := hf.1; omega) (by have := hf.2.1; omega) (fun q => by have := hf.2.2 k q; omega)⟩
theorem LogKeeps.of_below (hb : Below w.heap.size w w') : LogKeeps g r v w w' := ⟨hb.os, hb.tape, hb.output, hb.size, fun k h1 _ _ _ => hb.block k h1⟩
end
theorem Apart2.symm {g r : Nat} {v : Value} {g' r' : Nat} {v' : Value} (h : Apart2 g r v g' r' v') : Apart2 g' r' v' g r v := ⟨h.1.symm, h.2.1.symm, fun k h1 h2 => h.2.2 k h2 h1⟩
theorem LogFrom.grow {w : World} {B g r : Nat} {v u : Value} (h : LogFrom B g r v) (hB : B ≤ w.heap.size) (hu : u.ownBlock = v.ownBlock ∨ ∃ k, u.ownBlock = some k ∧ w.heap.size ≤ k) : LogFrom B g r u :=
  ⟨h.1, h.2.1, fun k h1 => by
    rcases hu with q | ⟨k', q, hk'⟩
    · rw [q] at h1
      exact h.2.2 k h1
    · rw [q] at h1
      injection h1 with h1
      omega⟩
/-- entries as they may be -/
def OkE (E : List (Nat × ByteArray)) : Prop := ∀ i, i < E.length → (E.getD i (0, ByteArray.empty)).1 < 256 ∧ (E.getD i (0, ByteArray.empty)).2.size ≤ 140737488351232
theorem okE_nil : OkE [] := fun i hi => absurd hi (by simp)
theorem okE_put {E : List (Nat × ByteArray)} {e : Nat × ByteArray} (h : OkE E) (h1 : e.1 < 256) (h2 : e.2.size ≤ 140737488351232) : OkE (putE E e) := by
  unfold putE
  split
  · exact h
  · intro i hi
    by_cases hl : i < E.length
    · have := h i hl
      simpa [List.getD, List.getElem?_append_left hl] using this
    · have : i = E.length := by simp at hi; omega
      subst this
      simpa [List.getD] using ⟨h1, h2⟩
theorem len_put (E : List (Nat × ByteArray)) (e : Nat × ByteArray) : (putE E e).length ≤ E.length + 1 := by
  unfold putE
  split <;> simp
end Go.Proofs.Ytdhbjcnbdfidcaa

namespace Go.Proofs.Ytdhbjcnbdfidcaa
open Go Go.RowKit
set_option linter.unusedSimpArgs false
set_option linter.unusedVariables false

def intL (l : List Nat) : List Value := l.map fun (x : Nat) => Value.int .i64 (x : Int)
theorem intL_length (l : List Nat) : (intL l).length = l.length := by simp [intL]
/-- the slice v of slices ss holds the groups G, all from block B on, no two in one block -/
structure GrpAt (w : World) (B : Nat) (v : Value) (G : List (List Nat)) (ss : List Value) : Prop where
  row : w.ownsRow B 69 1 v G.length ss
  each : ∀ j, j < G.length → w.ownsRow B 3 1 (ss.getD j undef) (G.getD j []).length (intL (G.getD j []))
  apart : ∀ i j, i ≠ j → i < G.length → j < G.length → ∀ b, (ss.getD i undef).ownBlock = some b → (ss.getD j undef).ownBlock ≠ some b
theorem GrpAt.len {w : World} {B : Nat} {v : Value} {G : List (List Nat)} {ss : List Value} (h : GrpAt w B v G ss) : ss.length = G.length := by
  have := h.row.1
  omega
theorem GrpAt.below {w w' : World} {B : Nat} {v : Value} {G : List (List Nat)} {ss : List Value} (h : GrpAt w B v G ss) (hb : Below w.heap.size w w') : GrpAt w' B v G ss :=
  ⟨kown_below h.row hb, fun j hj => kown_below (h.each j hj) hb, h.apart⟩
theorem GrpAt.nil (w : World) (B : Nat) : GrpAt w B (.slice none 0 0) [] [] := ⟨World.ownsRow_nil _ _ _ _, fun j hj => absurd hj (by simp), fun i j _ hi => absurd hi (by simp)⟩
/-- one more group, with nothing in it -/
theorem GrpAt.more {w w' : World} {B : Nat} {v v' : Value} {G : List (List Nat)} {ss : List Value} (h : GrpAt w B v G ss) (hrow : w'.ownsRow B 69 1 v' (G.length + 1) (ss ++ [.slice none 0 0])) (hg : w.grownBy w' v.ownBlock) : GrpAt w' B v' (G ++ [[]]) (ss ++ [.slice none 0 0]) := by
  have hl := h.len
  have e1 : ∀ j, j < G.length → (ss ++ [Value.slice none 0 0]).getD j undef = ss.getD j undef := fun j hj => by
    simp [List.getD, List.getElem?_append_left (show j < ss.length by omega)]
  have e2 : (ss ++ [Value.slice none 0 0]).getD G.length undef = .slice none 0 0 := by
    rw [← hl]
    simp [List.getD]
  refine ⟨by simpa using hrow, fun j hj => ?_, fun i j hij hi hj b hb => ?_⟩
  · by_cases hjl : j < G.length
    · rw [e1 j hjl, show (G ++ [([] : List Nat)]).getD j [] = G.getD j [] by simp [List.getD, List.getElem?_append_left hjl]]
      refine (h.each j hjl).kept hg ?_
      cases hq : (ss.getD j undef).ownBlock with
      | none => exact .inl rfl
      | some k => exact .inr fun q => own_own (h.each j hjl) h.row (by decide) hq q.symm
    · obtain rfl : j = G.length := by simp at hj; omega
      rw [e2, show (G ++ [([] : List Nat)]).getD G.length [] = [] by simp [List.getD]]
      exact World.ownsRow_nil _ _ _ _
  · have hil : i < G.length := by
      rcases Nat.lt_or_ge i G.length with q | q
      · exact q
      · obtain rfl : i = G.length := by simp at hi; omega
        rw [e2] at hb
        cases hb
    rw [e1 i hil] at hb
    by_cases hjl : j < G.length
    · rw [e1 j hjl]
      exact h.apart i j hij hil hjl b hb
    · obtain rfl : j = G.length := by simp at hj; omega
      rw [e2]
      exact fun q => by cases q
theorem own_setCell {w : World} {B e n g cap : Nat} {xs : List Value} (h : w.ownsRow B e 1 (.slice (some ⟨g, 0, none⟩) n cap) n xs) (j : Nat) (hj : j < n) (x : Value) : (w.setCell ⟨g, j, none⟩ x).ownsRow B e 1 (.slice (some ⟨g, 0, none⟩) n cap) n (xs.set j x) := by
  rcases h.2 with ⟨hn, _⟩ | ⟨g', cap', cur, hv, hb, hg, h1, h2, h3, h4⟩
  · cases hn
  · injection hv with hv1 hv2 hv3
    injection hv1 with hv1
    injection hv1 with hv1
    subst hv1 hv3
    have hB : Blk w g e cur := hg
    refine ⟨by simpa using h.1, .inr ⟨g, cap, cur.setIfInBounds j x, rfl, hb, hB.put j x, h1, h2, by simpa using h3, ?_⟩⟩
    rw [← h4]
    simp [List.take_set]
theorem own_setCell_other {w : World} {B e n g : Nat} {v : Value} {xs : List Value} (h : w.ownsRow B e 1 v n xs) (hne : v.ownBlock ≠ some g) (j : Nat) (x : Value) : (w.setCell ⟨g, j, none⟩ x).ownsRow B e 1 v n xs :=
  kown_kept h fun k _ hv => Below.heap_setCell w ⟨g, j, none⟩ x k fun q => hne (by rw [hv, q])
/-- one more number in a group -/
theorem GrpAt.push {w w' : World} {B g cap : Nat} {G : List (List Nat)} {ss : List Value} {j x : Nat} {s' : Value} (h : GrpAt w B (.slice (some ⟨g, 0, none⟩) G.length cap) G ss) (hj : j < G.length)
    (hrow : w'.ownsRow B 3 1 s' ((G.getD j []).length + 1) (intL (G.getD j []) ++ [.int .i64 (x : Int)])) (hg : w.grownBy w' (ss.getD j undef).ownBlock) (hs : s'.ownBlock = (ss.getD j undef).ownBlock ∨ ∃ k, s'.ownBlock = some k ∧ w.heap.size ≤ k) :
    GrpAt (w'.setCell ⟨g, j, none⟩ s') B (.slice (some ⟨g, 0, none⟩) G.length cap) (G.set j (G.getD j [] ++ [x])) (ss.set j s') := by
  have hl := h.len
  have hgs : (ss.getD j undef).ownBlock ≠ some g := fun q => own_own (h.each j hj) h.row (by decide) q rfl
  have hrow' : w'.ownsRow B 69 1 (.slice (some ⟨g, 0, none⟩) G.length cap) G.length ss := h.row.kept hg (.inr fun q => hgs q.symm)
  have ej : (ss.set j s').getD j undef = s' := by simp [List.getD, hl, hj]
  have en : ∀ i, i ≠ j → (ss.set j s').getD i undef = ss.getD i undef := fun i hi => by simp [List.getD, List.getElem?_set_ne (Ne.symm hi)]
  have Gj : (G.set j (G.getD j [] ++ [x])).getD j [] = G.getD j [] ++ [x] := by simp [List.getD, hj]
  have Gn : ∀ i, i ≠ j → (G.set j (G.getD j [] ++ [x])).getD i [] = G.getD i [] := fun i hi => by simp [List.getD, List.getElem?_set_ne (Ne.symm hi)]
  have hsg : s'.ownBlock ≠ some g := fun q => own_own hrow hrow' (by decide) q rfl
  refine ⟨by simpa using own_setCell hrow' j hj s', fun i hi => ?_, fun i k hik hi hk b hb => ?_⟩
  · rw [List.length_set] at hi
    by_cases hij : i = j
    · subst hij
      rw [ej, Gj]
      refine own_setCell_other ?_ hsg _ _
      simpa [intL] using hrow
    · rw [en i hij, Gn i hij]
      have hne : (ss.getD i undef).ownBlock ≠ some g := fun q => own_own (h.each i hi) h.row (by decide) q rfl
      refine own_setCell_other ((h.each i hi).kept hg ?_) hne _ _
      cases hq : (ss.getD i undef).ownBlock with
      | none => exact .inl rfl
      | some b => exact .inr fun q => h.apart i j hij hi hj b hq q.symm
  · rw [List.length_set] at hi hk
    by_cases hij : i = j
    · subst hij
      rw [ej] at hb
      rw [en k (Ne.symm hik)]
      intro q
      rcases hs with hs | ⟨z, hz, hzl⟩
      · exact h.apart i k hik hi hk b (by rw [← hs]; exact hb) q
      · rw [hz] at hb
        injection hb with hb
        have := ((h.each k hk).lt b q).2
        omega
    · rw [en i hij] at hb
      by_cases hkj : k = j
      · subst hkj
        rw [ej]
        intro q
        rcases hs with hs | ⟨z, hz, hzl⟩
        · exact h.apart i k hik hi hk b hb (by rw [← hs]; exact q)
        · rw [hz] at q
          injection q with q
          have := ((h.each i hi).lt b hb).2
          omega
      · rw [en k hkj]
        exact h.apart i k hik hi hk b hb
end Go.Proofs.Ytdhbjcnbdfidcaa

namespace Go.Proofs.Ytdhbjcnbdfidcaa
open Go Go.RowKit
set_option linter.unusedVariables false

/-- the slice at a of n blocks, told by L -/
def IsBlks (w : World) (a : Option Addr) (n : Nat) (L : Nat → Nat → Nat) : Prop :=
  ∀ i, i < n → ∃ b o, a = some ⟨b, o, none⟩ ∧ b < w.heap.size ∧ w.rangeAt b (o + i * 256) ((List.range 256).map (iv .u8 (L i)))
theorem range_below {w w' : World} {B b o : Nat} {cs : List Value} (h : w.rangeAt b o cs) (hb : Below B w w') (hB : b < B) : w'.rangeAt b o cs := fun j v hv => by
  rw [← h j v hv]
  simp [World.cell?, hb.block b hB]
theorem IsBlks.below {w w' : World} {a : Option Addr} {n : Nat} {L : Nat → Nat → Nat} (h : IsBlks w a n L) (hb : Below w.heap.size w w') : IsBlks w' a n L := fun i hi => by
  obtain ⟨b, o, e, h1, h2⟩ := h i hi
  exact ⟨b, o, e, Nat.lt_of_lt_of_le h1 hb.size, range_below h2 hb h1⟩
end Go.Proofs.Ytdhbjcnbdfidcaa

namespace Go.Proofs.Ytdhbjcnbdfidcaa
open Go.RowKit
set_option linter.unusedSimpArgs false
set_option linter.unusedVariables false

theorem fold_set : ∀ (l : List Value) (k : Nat) (A : Array Value), k + l.length ≤ A.size →
    ((l.zipIdx k).foldl (fun cs (x : Value × Nat) => cs.setIfInBounds (0 + x.2) x.1) A).size = A.size ∧
    ∀ i, ((l.zipIdx k).foldl (fun cs (x : Value × Nat) => cs.setIfInBounds (0 + x.2) x.1) A)[i]? = if k ≤ i ∧ i < k + l.length then l[i - k]? else A[i]?
  | [], k, A, h => ⟨rfl, fun i => by simp; omega⟩
  | v :: l, k, A, h => by
    rw [List.zipIdx_cons, List.foldl_cons]
    obtain ⟨h1, h2⟩ := fold_set l (k + 1) (A.setIfInBounds (0 + k) v) (by simp at h ⊢; omega)
    refine ⟨by rw [h1]; simp, fun i => ?_⟩
    rw [h2 i]
    simp at h
    by_cases hi : i = k
    · subst hi
      rw [if_neg (by omega), if_pos (by simp), Nat.zero_add, Array.getElem?_setIfInBounds, if_pos rfl, if_pos (by omega), Nat.sub_self]
      rfl
    · by_cases hj : k + 1 ≤ i ∧ i < k + 1 + l.length
      · rw [if_pos hj, if_pos (by simp; omega)]
        obtain ⟨d, hd⟩ : ∃ d, i - k = d + 1 := ⟨i - k - 1, by omega⟩
        rw [hd, List.getElem?_cons_succ, show i - (k + 1) = d by omega]
      · rw [if_neg hj, if_neg (by simp; omega), Array.getElem?_setIfInBounds, if_neg (by omega)]
theorem fill_one (n : Nat) (cells cs : Array Value) (h1 : cells.size = n) (h2 : cs.size = n) : Instr.fill (fun i => some (i * n, n)) cells [(0, .agg cs)] = some cs := by
  have hc : (Value.agg cs).cells = cs := rfl
  unfold Instr.fill
  simp only [hc, h2, h1, ne_eq, not_true_eq_false, decide_false, Bool.false_or, Nat.zero_mul, Nat.zero_add, Nat.lt_irrefl, decide_false, gt_iff_lt, if_false, Bool.false_eq_true]
  unfold Instr.fill
  congr 1
  obtain ⟨e1, e2⟩ := fold_set cs.toList 0 cells (by simp [h1, h2])
  apply Array.ext_getElem?
  intro i
  have := e2 i
  simp only [Nat.zero_add] at this e1
  have e3 : cs.zipIdx.foldl (fun cs (x : Value × Nat) => match x with | (c, j) => cs.setIfInBounds j c) cells = (cs.toList.zipIdx 0).foldl (fun cs (x : Value × Nat) => cs.setIfInBounds x.2 x.1) cells := by
    rw [← Array.foldl_toList]
    simp
  rw [e3, this]
  by_cases hi : i < cs.size
  · rw [if_pos (by simpa using hi)]
    simp
  · rw [if_neg (by simpa using hi), Array.getElem?_eq_none (by omega), Array.getElem?_eq_none (by omega)]
/-- a slice of one array -/
theorem wpList_build1 {P : Program} {ops : Array Oper} {rest : List Oper} {o : Oper} {a : Act} {w : World} {Q : Exit → Act → World → Prop} (hg : o.guard = none) (t e : TypeId) (x : Operand) (ho : o.op = .buildSlice t 1 #[(0, x)])
    (cs : Array Value) (hx : a.eval x = .agg cs) (ie : TypeInfo) (z : Value) (n : Nat)
    (hu : P.underlying t = some (.slice e)) (hie : P.info? e = some ie) (hz : ie.zero = some z) (hn : ie.size = n) (hcs : cs.size = n) (h0 : 0 < n) (h24 : n ≤ 16777216)
    (h : wpList P ops Q rest (a.put o.dst (.slice (some ⟨w.heap.size, 0, none⟩) 1 1)) (w.alloc (.cells cs e))) : wpList P ops Q (o :: rest) a w := by
  refine wpList_buildSlice hg t e 1 _ ho cs ie z hu hie hz (by rw [hn]; omega) (by rw [hn]; omega) ?_ h
  rw [hn]
  have e1 : (Array.map (fun (x : Nat × Operand) => match x with | (i, x) => (i, a.eval x)) #[(0, x)]).toList = [(0, Value.agg cs)] := by
    simp [hx]
  rw [e1]
  exact fill_one n _ _ (by simp) hcs
theorem infoBk : (Try.prog.info? 60).map (fun i => (i.zero, i.size, i.bytes)) = some (some (.agg (va 256 (iv .u8 fun _ => 0))), 256, 256) := by kernel_rfl

/-- a block of a slice, loaded -/
theorem wpList_load_blk {P : Program} {ops : Array Oper} {rest : List Oper} {op : Oper} {a : Act} {w : World} {Q : Exit → Act → World → Prop} (hgd : op.guard = none) (ty : TypeId) (x : Operand) (ho : op.op = .load ty x)
    (b o n : Nat) (f : Nat → Value) (hx : a.eval x = .pointer (some ⟨b, o, none⟩)) (d : TypeDesc) (hc : w.rangeAt b o ((List.range n).map f))
    (hu : P.underlying ty = some d) (hd : d.isRow = true) (hi : (P.info? ty).map (·.size) = some n)
    (h : wpList P ops Q rest (a.put op.dst (.agg (va n f))) w) : wpList P ops Q (op :: rest) a w :=
  wpList_load_mid hgd ty x ho b o hx _ d hc hu hd (hi.trans (by simp)) h
/-- into how many leaves a text is cut -/
def leavesN (n : Nat) : Nat := (n + 255) / 256
theorem leaf_cells (s sv : ByteArray) (k : Nat) (hsv : ∀ j, tbyte sv j = tbyte s (256 * k + j)) : byL (tbyte s) ((k + 1) * 256) = byL (tbyte s) (k * 256) ++ (va 256 (iv .u8 (tbyte sv))).toList := by
  rw [show (k + 1) * 256 = k * 256 + 256 by omega, byL_add, va_toList]
  congr 1
  unfold byL
  refine List.map_congr_left fun j _ => ?_
  unfold iv
  rw [hsv j, show 256 * k + j = k * 256 + j by omega]
theorem cells_new (w : World) (cs : Array Value) (t : TypeId) : ∀ j u, cs.toList[j]? = some u → (w.alloc (.cells cs t)).cell? ((⟨w.heap.size, 0, none⟩ : Addr).add j) = some u := fun j u hu => by
  have hb : Blk (w.alloc (.cells cs t)) w.heap.size t cs := Blk.new w t cs
  rw [Addr.add_mid, Nat.zero_add, hb.cell]
  simpa using hu
theorem kva_mem_one (n : Nat) (f : Nat → Nat) : ∀ v ∈ (va n (iv .u8 f)).toList, v.oneCell' = true := fun v hv => by
  rw [va_toList] at hv
  obtain ⟨i, _, rfl⟩ := List.mem_map.1 hv
  rfl
theorem drop_byte (s sv : ByteArray) (k n : Nat) (hsv : ∀ j, tbyte sv j = tbyte s (256 * k + j)) (hn : n ≤ sv.size) (hn2 : n = 256 ∨ n = sv.size) (hn3 : n ≤ 256) (hs : 256 * k + sv.size = s.size) : ∀ j, tbyte (sv.extract n sv.size) j = tbyte s (256 * (k + 1) + j) := fun j => by
  have hsz := extract_size sv n sv.size (Nat.le_refl _)
  by_cases hj : n + j < sv.size
  · rw [tbyte_extract sv n sv.size j (Nat.le_refl _) hj, hsv]
    congr 1
    omega
  · rw [tbyte_out _ _ (by omega)]
    rw [tbyte_out s _ (by omega)]

/-- a slice of blocks that the program made, told as one that is handed on -/
theorem own_blks {w : World} {B : Nat} {e : TypeId} {v : Value} {c : Nat} {F : Nat → Nat} (h : w.ownsRow B e 256 v c (byL F (c * 256))) : ∃ a cap, v = .slice a c cap ∧ IsBlks w a c fun i j => F (256 * i + j) := by
  rcases h.2 with ⟨rfl, rfl⟩ | ⟨g, cap, cur, rfl, hb, hg, hcap, _, hsz, htake⟩
  · exact ⟨none, 0, rfl, fun i hi => absurd hi (by omega)⟩
  · refine ⟨_, cap, rfl, fun i hi => ⟨g, 0, rfl, (Array.getElem?_eq_some_iff.1 hg).1, fun j u hu => ?_⟩⟩
    have hj : j < 256 := by
      have := (List.getElem?_eq_some_iff.1 hu).1
      simpa using this
    rw [show 0 + i * 256 + j = i * 256 + j by omega, h.cellAt (i * 256 + j) (by omega), byL_at _ _ _ (by omega), ← hu]
    simp [hj, iv, show 256 * i + j = i * 256 + j by omega]
end Go.Proofs.Ytdhbjcnbdfidcaa

namespace Go.Proofs.Ytdhbjcnbdfidcaa
open Go.RowKit
set_option linter.unusedSimpArgs false
set_option linter.unusedVariables false

theorem wpList_append_own_at {P : Program} {ops : Array Oper} {rest : List Oper} {o : Oper} {a : Act} {w : World} {Q : Exit → Act → World → Prop} (hgd : o.guard = none) (s x : Operand) (t : TypeId)
    (ho : o.op = .call { callee := .builtin .append, args := #[s, x], argTypes := #[t, t] })
    (base : Nat) (e : TypeId) (i : TypeInfo) (z : Value) (size bytes : Nat) (ht : P.underlying t = some (.slice e)) (hi : P.info? e = some i) (hz : i.zero = some z)
    (hsize : i.size = size) (hby : i.bytes = bytes) (hzs : z.cells.size = size) (hsz : 0 < size)
    (v : Value) (n : Nat) (xs : List Value) (hs : a.eval s = v) (hown : w.ownsRow base e size v n xs)
    (ad : Addr) (m c : Nat) (news : List Value) (hx : a.eval x = .slice (some ad) m c) (hl : news.length = m * size) (hnews : ∀ j u, news[j]? = some u → w.cell? (ad.add j) = some u) (h1 : ∀ u ∈ news, u.oneCell' = true)
    (h63 : n + m ≤ maxLen) (hbytes : (n + m) * bytes ≤ 140737488355328) (hbase : base ≤ w.heap.size)
    (h : ∀ v' w', w'.ownsRow base e size v' (n + m) (xs ++ news) → w.grownBy w' v.ownBlock → (v'.ownBlock = v.ownBlock ∨ v'.ownBlock = some w.heap.size) → wpList P ops Q rest (a.put o.dst v') w') :
    wpList P ops Q (o :: rest) a w := by
  obtain ⟨v', w', hr, g1, g2, g3, g4⟩ := run_append_own_at (P := P) w base t o.type e i z size bytes ht hi hz hsize hby hzs hsz v n xs hown ad m c news hl hnews h1 h63 hbytes hbase
  refine wpList_plain hgd fun K hK => ?_
  unfold Oper.wp
  simp [execOp, ho, resolve, invoke, builtin, hs, hx, hr, Result.andThen]
  exact hK _ _ (h v' w' g1 g2 g4)
theorem infoInt : (Try.prog.info? 3).map (fun i => (i.zero, i.size, i.bytes)) = some (some (.int .i64 0), 1, 8) := by kernel_rfl
theorem infoInts : (Try.prog.info? 69).map (fun i => (i.zero, i.size, i.bytes)) = some (some (.slice none 0 0), 1, 24) := by kernel_rfl
theorem grps_len {α : Type} [DecidableEq α] (D : Nat → α) (k j : Nat) : ((grpsOf D k).getD j []).length ≤ k := by
  unfold grpsOf
  rw [List.getD_eq_getElem?_getD, List.getElem?_map]
  cases hq : (firstsOf D k)[j]? with
  | none => simp
  | some i =>
    simp only [Option.map_some, Option.getD_some, grpOf]
    exact Nat.le_trans (List.length_filter_le _ _) (by simp)
/-- what the map holds -/
def mapOf {α : Type} (D : Nat → α) (R : List Nat) : List (α × Nat) := R.zipIdx.map fun x => (D x.1, x.2)
theorem mapOf_snoc {α : Type} (D : Nat → α) (R : List Nat) (k : Nat) : mapOf D (R ++ [k]) = mapOf D R ++ [(D k, R.length)] := by
  unfold mapOf
  rw [List.zipIdx_append, List.map_append]
  simp
theorem find_zip {α : Type} [DecidableEq α] (D : Nat → α) (d : α) : ∀ (R : List Nat) (o : Nat), (∀ j, findIn d ((R.zipIdx o).map fun x => (D x.1, x.2)) = some j → o ≤ j ∧ j - o < R.length ∧ D (R.getD (j - o) 0) = d) ∧ (findIn d ((R.zipIdx o).map fun x => (D x.1, x.2)) = none → ∀ i ∈ R, D i ≠ d)
  | [], o => ⟨(fun j h => by cases h), (fun _ i h => by cases h)⟩
  | r :: R, o => by
    have ih := find_zip D d R (o + 1)
    rw [List.zipIdx_cons, List.map_cons]
    constructor
    · intro j h
      simp only [findIn] at h
      split at h
      · rename_i q
        cases h
        exact ⟨Nat.le_refl _, by simp, by simpa using q.symm⟩
      · obtain ⟨h1, h2, h3⟩ := ih.1 j h
        refine ⟨by omega, by simp; omega, ?_⟩
        rw [show j - o = (j - (o + 1)) + 1 by omega]
        simpa using h3
    · intro h i hi
      simp only [findIn] at h
      split at h
      · cases h
      · rename_i q
        rcases List.mem_cons.1 hi with rfl | hi
        · exact fun e => q e.symm
        · exact ih.2 h i hi

end Go.Proofs.Ytdhbjcnbdfidcaa

namespace Go.Proofs.Ytdhbjcnbdfidcaa
open Go Go.RowKit
set_option linter.unusedSimpArgs false
set_option linter.unusedVariables false

/-- a raw step and a block, as a key -/
def momK (a : Int × Int) : Value := .agg #[.int .i64 a.1, .int .i64 a.2]
theorem eq_mom (d : Nat) (a b : Int × Int) (w : World) : (Op.equalIn (d + 1 + 1) 113 (momK a) (momK b)).run Try.prog w = .ok (decide (a = b)) w := by
  unfold momK
  have h1 : ∀ x y : Int, (Op.equalIn (d + 1) 3 (.int .i64 x) (.int .i64 y)).run Try.prog w = .ok (x == y) w := fun x y => by simp [Op.equalIn, run_underlying Try.underlying3]
  have p1 : ∀ x y : Int, (part 3 #[.int .i64 x, .int .i64 y] 0).run Try.prog w = .ok (.int .i64 x) w := fun x y => by simp [part, isAgg, run_underlying Try.underlying3]
  have p2 : ∀ x y : Int, (part 3 #[.int .i64 x, .int .i64 y] 1).run Try.prog w = .ok (.int .i64 y) w := fun x y => by simp [part, isAgg, run_underlying Try.underlying3]
  rw [Op.equalIn]
  simp only [Sem.run_bind, run_underlying Try.underlying113, Result.andThen_ok]
  simp [Op.eqFields, p1, p2, h1]
  obtain ⟨a1, a2⟩ := a
  obtain ⟨b1, b2⟩ := b
  by_cases ha : a1 = b1
  · subst ha
    by_cases hb : a2 = b2
    · subst hb
      simp
    · simp [hb]
  · simp [ha]
theorem chk_mom (d : Nat) (e : Bool) (a : Int × Int) (w : World) : (Instr.checkKey e (d + 1 + 1) 113 (momK a)).run Try.prog w = .ok () w := by
  unfold momK
  have h1 : ∀ x : Int, (Instr.checkKey e (d + 1) 3 (.int .i64 x)).run Try.prog w = .ok () w := fun x => by simp [Instr.checkKey, run_underlying Try.underlying3]
  have p1 : ∀ x y : Int, (part 3 #[.int .i64 x, .int .i64 y] 0).run Try.prog w = .ok (.int .i64 x) w := fun x y => by simp [part, isAgg, run_underlying Try.underlying3]
  have p2 : ∀ x y : Int, (part 3 #[.int .i64 x, .int .i64 y] 1).run Try.prog w = .ok (.int .i64 y) w := fun x y => by simp [part, isAgg, run_underlying Try.underlying3]
  rw [Instr.checkKey]
  simp only [Sem.run_bind, run_underlying Try.underlying113, Result.andThen_ok]
  simp [p1, p2, h1]
theorem mom_key : KeyOf Try.prog 113 momK where
  desc := ⟨_, Try.underlying113, (fun k h => by cases h), (fun h => by cases h), (fun h => by cases h)⟩
  eq a b w := eq_mom 9998 a b w
  chk e a w := chk_mom 9998 e a w

/-- what a disk has in the memory -/
structure QD where
  gn : Nat
  r : Nat
  sv : Value
  pl : Value
  cu : Value
  dd : Bool
  ev : Int
  lv : Value
  wv : Value
  l : List ((Int × Int) × Vector Nat 256)
  G : List (List Nat)
  ss : List Value
  xs : List Value
  ys : List Value
def dcells (q : QD) (N k : Nat) : Array Value := #[.slice (some ⟨q.gn, 0, none⟩) N N, .map (some q.r), q.sv, q.pl, q.cu, .bool q.dd, .int .i64 (k : Int), .int .i64 q.ev, q.lv, q.wv]
/-- a disk of N blocks in block g: the bytes F, k raw steps, lg entries of the log -/
structure DiskQ (w : World) (B g N : Nat) (F : Nat → Nat) (k lg : Nat) (q : QD) : Prop where
  gB : B ≤ g
  cells : Blk w g 84 (dcells q N k)
  nB : B ≤ q.gn
  now : Blk w q.gn 60 (va (N * 256) (iv .u8 F))
  rB : B ≤ q.r
  map : MapIs momK bK w q.r q.l
  keys : ∀ p ∈ q.l, p.1.1 ≤ (k : Int)
  steps : GrpAt w B q.sv q.G q.ss
  many : q.G.length = N
  short : ∀ j, (q.G.getD j []).length ≤ k
  log : w.ownsRow B 98 258 q.lv lg q.xs
  wear : w.ownsRow B 3 1 q.wv N q.ys
  ints : ∀ j, j < N → ∃ x : Int, q.ys[j]? = some (.int .i64 x)
  apart : ∀ j, j < N → ∀ b, (q.ss.getD j undef).ownBlock = some b → q.wv.ownBlock ≠ some b
/-- its blocks in the memory -/
def foot (g N : Nat) (q : QD) (b : Nat) : Prop := b = g ∨ b = q.gn ∨ b = q.r ∨ q.sv.ownBlock = some b ∨ q.lv.ownBlock = some b ∨ q.wv.ownBlock = some b ∨ ∃ j, j < N ∧ (q.ss.getD j undef).ownBlock = some b
/-- only blocks of S turn -/
structure Turns (S : Nat → Prop) (w w' : World) : Prop where
  os : w'.os = w.os
  tape : w'.tape = w.tape
  output : w'.output = w.output
  size : w.heap.size ≤ w'.heap.size
  block : ∀ b, b < w.heap.size → ¬ S b → w'.heap[b]? = w.heap[b]?
theorem Turns.of_below {S : Nat → Prop} {w w' : World} (h : Below w.heap.size w w') : Turns S w w' := ⟨h.os, h.tape, h.output, h.size, fun b hb _ => h.block b hb⟩
theorem Turns.below {S : Nat → Prop} {w w' : World} {B : Nat} (h : Turns S w w') (hB : B ≤ w.heap.size) (hS : ∀ b, S b → B ≤ b) : Below B w w' := ⟨h.os, h.tape, h.output, h.size, fun b hb => h.block b (by omega) fun q => by have := hS b q; omega⟩
theorem Turns.trans {S T : Nat → Prop} {w v u : World} (h : Turns S w v) (k : Turns T v u) (hT : ∀ b, T b → S b ∨ w.heap.size ≤ b) : Turns S w u :=
  ⟨k.os.trans h.os, k.tape.trans h.tape, k.output.trans h.output, Nat.le_trans h.size k.size, fun b hb hS => (k.block b (Nat.lt_of_lt_of_le hb h.size) fun q => by rcases hT b q with z | z; exact hS z; omega).trans (h.block b hb hS)⟩
theorem Turns.mono {S T : Nat → Prop} {w v : World} (h : Turns S w v) (hT : ∀ b, S b → T b) : Turns T w v := ⟨h.os, h.tape, h.output, h.size, fun b hb hS => h.block b hb fun q => hS (hT b q)⟩
theorem Turns.drew {S : Nat → Prop} {w v : World} (h : Turns S w v) : Turns S w v.drew := ⟨h.os, h.tape, h.output, h.size, h.block⟩
/-- a disk goes from q to q' -/
def Moved (g N : Nat) (q q' : QD) (w w' : World) : Prop := Turns (foot g N q) w w' ∧ ∀ b, foot g N q' b → foot g N q b ∨ w.heap.size ≤ b
theorem Moved.of_below {g N : Nat} {q : QD} {w w' : World} (h : Below w.heap.size w w') : Moved g N q q w w' := ⟨.of_below h, fun _ => .inl⟩
theorem Moved.trans {g N : Nat} {p q r : QD} {w v u : World} (h : Moved g N p q w v) (k : Moved g N q r v u) : Moved g N p r w u :=
  ⟨h.1.trans k.1 h.2, fun b hb => by
    rcases k.2 b hb with z | z
    · exact h.2 b z
    · exact .inr (Nat.le_trans h.1.size z)⟩
section
variable {w w' : World} {B g N k lg : Nat} {F : Nat → Nat} {q : QD}
theorem DiskQ.foots (h : DiskQ w B g N F k lg q) : ∀ b, foot g N q b → B ≤ b ∧ b < w.heap.size := by
  intro b hb
  have hm := h.many
  rcases hb with rfl | rfl | rfl | z | z | z | ⟨j, hj, z⟩
  · exact ⟨h.gB, h.cells.lt⟩
  · exact ⟨h.nB, h.now.lt⟩
  · obtain ⟨es, cl, hg, _⟩ := h.map
    exact ⟨h.rB, (Array.getElem?_eq_some_iff.1 hg).1⟩
  · exact h.steps.row.lt b z
  · exact h.log.lt b z
  · exact h.wear.lt b z
  · exact (h.steps.each j (by omega)).lt b z
theorem DiskQ.kept (h : DiskQ w B g N F k lg q) (hk : ∀ b, foot g N q b → w'.heap[b]? = w.heap[b]?) : DiskQ w' B g N F k lg q := by
  have hm := h.many
  refine ⟨h.gB, (hk g (.inl rfl)).trans h.cells, h.nB, (hk _ (.inr (.inl rfl))).trans h.now, h.rB, ?_, h.keys, ⟨own_block h.steps.row fun b hb => hk b (.inr (.inr (.inr (.inl hb)))), fun j hj => own_block (h.steps.each j hj) fun b hb => hk b (.inr (.inr (.inr (.inr (.inr (.inr ⟨j, by omega, hb⟩)))))), h.steps.apart⟩, h.many, h.short, own_block h.log fun b hb => hk b (.inr (.inr (.inr (.inr (.inl hb))))), own_block h.wear fun b hb => hk b (.inr (.inr (.inr (.inr (.inr (.inl hb)))))), h.ints, h.apart⟩
  obtain ⟨es, cl, hg, he⟩ := h.map
  exact ⟨es, cl, (hk _ (.inr (.inr (.inl rfl)))).trans hg, he⟩
theorem DiskQ.below (h : DiskQ w B g N F k lg q) (hb : Below w.heap.size w w') : DiskQ w' B g N F k lg q := h.kept fun b hf => hb.block b (h.foots b hf).2
theorem blk_ne {a b s t : Nat} {cs ds : Array Value} (h : Blk w a s cs) (k : Blk w b t ds) (hne : s ≠ t) : a ≠ b := fun e => by
  subst e
  unfold Blk at h k
  rw [h] at k
  simp at k
  exact hne k.2
/-- what is in block g turns: counts -/
theorem DiskQ.put (h : DiskQ w B g N F k lg q) {k' : Nat} (hk : k ≤ k') (ev : Int) (hB : Blk w' g 84 (dcells { q with ev := ev } N k')) (hs : ∀ b, b ≠ g → w'.heap[b]? = w.heap[b]?) : DiskQ w' B g N F k' lg { q with ev := ev } := by
  have hm := h.many
  refine ⟨h.gB, hB, h.nB, (hs _ (blk_ne h.now h.cells (by decide))).trans h.now, h.rB, ?_, fun p hp => by have := h.keys p hp; omega, ⟨own_block h.steps.row fun b hb => hs b fun e => own_ne h.steps.row h.cells (by decide) (e ▸ hb), fun j hj => own_block (h.steps.each j hj) fun b hb => hs b fun e => own_ne (h.steps.each j hj) h.cells (by decide) (e ▸ hb), h.steps.apart⟩, h.many, fun j => Nat.le_trans (h.short j) hk, own_block h.log fun b hb => hs b fun e => own_ne h.log h.cells (by decide) (e ▸ hb), own_block h.wear fun b hb => hs b fun e => own_ne h.wear h.cells (by decide) (e ▸ hb), h.ints, h.apart⟩
  obtain ⟨es, cl, hg, he⟩ := h.map
  exact ⟨es, cl, (hs _ (map_blk hg h.cells)).trans hg, he⟩
/-- the log turns -/
theorem DiskQ.relog (h : DiskQ w B g N F k lg q) {lg' : Nat} (lv' : Value) (xs' : List Value) (hB : Blk w' g 84 (dcells { q with lv := lv', xs := xs' } N k)) (hl : w'.ownsRow B 98 258 lv' lg' xs') (hs : ∀ b, foot g N q b → b ≠ g → q.lv.ownBlock ≠ some b → w'.heap[b]? = w.heap[b]?) : DiskQ w' B g N F k lg' { q with lv := lv', xs := xs' } := by
  have hm := h.many
  obtain ⟨es, cl, hg, he⟩ := h.map
  refine ⟨h.gB, hB, h.nB, (hs _ (.inr (.inl rfl)) (blk_ne h.now h.cells (by decide)) (own_ne h.log h.now (by decide))).trans h.now, h.rB, ⟨es, cl, (hs _ (.inr (.inr (.inl rfl))) (map_blk hg h.cells) (own_map h.log hg)).trans hg, he⟩, h.keys, ⟨own_block h.steps.row fun b hb => hs b (.inr (.inr (.inr (.inl hb)))) (fun e => own_ne h.steps.row h.cells (by decide) (e ▸ hb)) (own_own h.steps.row h.log (by decide) hb), fun j hj => own_block (h.steps.each j hj) fun b hb => hs b (.inr (.inr (.inr (.inr (.inr (.inr ⟨j, (by have : j < q.G.length := hj; omega), hb⟩)))))) (fun e => own_ne (h.steps.each j hj) h.cells (by decide) (e ▸ hb)) (own_own (h.steps.each j hj) h.log (by decide) hb), h.steps.apart⟩, h.many, h.short, hl, own_block h.wear fun b hb => hs b (.inr (.inr (.inr (.inr (.inr (.inl hb)))))) (fun e => own_ne h.wear h.cells (by decide) (e ▸ hb)) (own_own h.wear h.log (by decide) hb), h.ints, h.apart⟩
/-- the blocks' bytes turn -/
theorem DiskQ.renow (h : DiskQ w B g N F k lg q) {F' : Nat → Nat} (hn : Blk w' q.gn 60 (va (N * 256) (iv .u8 F'))) (hs : ∀ b, b ≠ q.gn → w'.heap[b]? = w.heap[b]?) : DiskQ w' B g N F' k lg q := by
  have hm := h.many
  obtain ⟨es, cl, hg, he⟩ := h.map
  refine ⟨h.gB, (hs _ (blk_ne h.cells h.now (by decide))).trans h.cells, h.nB, hn, h.rB, ⟨es, cl, (hs _ (map_blk hg h.now)).trans hg, he⟩, h.keys, ⟨own_block h.steps.row fun b hb => hs b fun e => own_ne h.steps.row h.now (by decide) (e ▸ hb), fun j hj => own_block (h.steps.each j hj) fun b hb => hs b fun e => own_ne (h.steps.each j hj) h.now (by decide) (e ▸ hb), h.steps.apart⟩, h.many, h.short, own_block h.log fun b hb => hs b fun e => own_ne h.log h.now (by decide) (e ▸ hb), own_block h.wear fun b hb => hs b fun e => own_ne h.wear h.now (by decide) (e ▸ hb), h.ints, h.apart⟩
/-- the wear turns -/
theorem DiskQ.rewear (h : DiskQ w B g N F k lg q) {ys' : List Value} (hw : w'.ownsRow B 3 1 q.wv N ys') (hi : ∀ j, j < N → ∃ x : Int, ys'[j]? = some (.int .i64 x)) (hs : ∀ b, q.wv.ownBlock ≠ some b → w'.heap[b]? = w.heap[b]?) : DiskQ w' B g N F k lg { q with ys := ys' } := by
  have hm := h.many
  obtain ⟨es, cl, hg, he⟩ := h.map
  refine ⟨h.gB, (hs _ (own_ne h.wear h.cells (by decide))).trans h.cells, h.nB, (hs _ (own_ne h.wear h.now (by decide))).trans h.now, h.rB, ⟨es, cl, (hs _ (own_map h.wear hg)).trans hg, he⟩, h.keys, ⟨own_block h.steps.row fun b hb => hs b (own_own h.steps.row h.wear (by decide) hb), fun j hj => own_block (h.steps.each j hj) fun b hb => hs b (h.apart j (by have : j < q.G.length := hj; omega) b hb), h.steps.apart⟩, h.many, h.short, own_block h.log fun b hb => hs b (own_own h.log h.wear (by decide) hb), hw, hi, h.apart⟩
/-- the past turns -/
theorem DiskQ.repast (h : DiskQ w B g N F k lg q) {l' : List ((Int × Int) × Vector Nat 256)} {G' : List (List Nat)} {ss' : List Value} (hmap : MapIs momK bK w' q.r l') (hkeys : ∀ p ∈ l', p.1.1 ≤ (k : Int)) (hG : GrpAt w' B q.sv G' ss') (hlen : G'.length = N) (hsh : ∀ j, (G'.getD j []).length ≤ k)
    (hap : ∀ j, j < N → ∀ b, (ss'.getD j undef).ownBlock = some b → (∃ i, i < N ∧ (q.ss.getD i undef).ownBlock = some b) ∨ w.heap.size ≤ b)
    (hs : ∀ b, b < w.heap.size → b ≠ q.r → q.sv.ownBlock ≠ some b → (∀ j, j < N → (q.ss.getD j undef).ownBlock ≠ some b) → w'.heap[b]? = w.heap[b]?) : DiskQ w' B g N F k lg { q with l := l', G := G', ss := ss' } := by
  have hm := h.many
  obtain ⟨es, cl, hg, he⟩ := h.map
  have each : ∀ j, j < N → w.ownsRow B 3 1 (q.ss.getD j undef) (q.G.getD j []).length (intL (q.G.getD j [])) := fun j hj => h.steps.each j (by omega)
  refine ⟨h.gB, (hs _ h.cells.lt (map_blk hg h.cells).symm (own_ne h.steps.row h.cells (by decide)) fun j hj => own_ne (each j hj) h.cells (by decide)).trans h.cells, h.nB, (hs _ h.now.lt (map_blk hg h.now).symm (own_ne h.steps.row h.now (by decide)) fun j hj => own_ne (each j hj) h.now (by decide)).trans h.now, h.rB, hmap, hkeys, hG, hlen, hsh, own_block h.log fun b hb => hs b (h.log.lt b hb).2 (fun e => own_map h.log hg (e ▸ hb)) (own_own h.log h.steps.row (by decide) hb) fun j hj => own_own h.log (each j hj) (by decide) hb, own_block h.wear fun b hb => hs b (h.wear.lt b hb).2 (fun e => own_map h.wear hg (e ▸ hb)) (own_own h.wear h.steps.row (by decide) hb) fun j hj e => h.apart j hj b e hb, h.ints, fun j hj b hb e => ?_⟩
  rcases hap j hj b hb with ⟨i, hi, z⟩ | z
  · exact h.apart i hi b z e
  · have := (h.wear.lt b e).2
    omega
end
end Go.Proofs.Ytdhbjcnbdfidcaa

namespace Go.Proofs.Ytdhbjcnbdfidcaa
open Go Go.RowKit
set_option linter.unusedSimpArgs false
set_option linter.unusedVariables false

theorem dkbelow_drewN {B : Nat} {w w' : World} (h : Below B w w') (n : Nat) : Below B w (w'.drewN n) := h.trans (below_drewN (Below.refl _ _) n)
set_option maxHeartbeats 1000000 in
theorem dead_nil (w : World) : Calls Try.prog 20 #[.pointer none] w fun e w' => e = .returned (.bool true) ∧ w = w' := by
  go_enter Try.func20, Try.ntmps20
  go_wp2_with fail
  go_ret
  exact ⟨rfl, rfl⟩
set_option maxHeartbeats 1000000 in
theorem events_nil (w : World) : Calls Try.prog 19 #[.pointer none] w fun e w' => e = .returned (.int .i64 0) ∧ w = w' := by
  go_enter Try.func19, Try.ntmps19
  go_wp2_with fail
  go_ret
  exact ⟨rfl, rfl⟩
set_option maxHeartbeats 1000000 in
theorem cut_nil (e0 : Int) (f0 : Bool) (w : World) : Calls Try.prog 8 #[.pointer none, .agg #[.int .i64 e0, .bool f0]] w fun e w' => e = .returned (.tuple #[]) ∧ Below w.heap.size w w' := by
  go_enter Try.func8, Try.ntmps8
  go_wp2_with fail
  go_quiet (fail)
  go_wp2_with fail
  try simp only [Exit.inBlock, Exit.then]
  refine bodyPost_ret (results_none Try.results8 _ _ _) rfl ?_
  exact ⟨rfl, dkbelow_drewN (below_new1 _ _) _⟩
set_option maxHeartbeats 1000000 in
theorem revive_nil (w : World) : Calls Try.prog 15 #[.pointer none] w fun e w' => e = .returned (.tuple #[]) ∧ Below w.heap.size w w' := by
  go_enter Try.func15, Try.ntmps15
  go_wp2_with fail
  try simp only [Exit.inBlock, Exit.then]
  refine bodyPost_end (results_none Try.results15 _ _ _) rfl ?_
  exact ⟨rfl, Below.refl _ _⟩
set_option maxHeartbeats 1000000 in
theorem event_nil (w : World) : Calls Try.prog 33 #[.pointer none] w fun e w' => e = .returned (.tuple #[.bool false, .int .i64 4]) ∧ w = w' := by
  have hD : Hid (∀ w : World, Calls Try.prog 20 #[.pointer none] w fun e w' => e = .returned (.bool true) ∧ w = w') := dead_nil
  go_enter Try.func33, Try.ntmps33
  go_wp2_with fail
  refine (hD.out _).mono ?_
  rintro e _ ⟨rfl, rfl⟩
  go_wp2_with fail
  try simp only [Exit.inBlock, Exit.then]
  refine bodyPost_ret (results_tmp2 Try.results33 _ _ _) rfl ?_
  exact ⟨rfl, rfl⟩
set_option maxHeartbeats 1000000 in
theorem begin_nil (at0 : Int) (w : World) : Calls Try.prog 34 #[.pointer none, .int .i64 at0] w fun e w' => e = .returned (.int .i64 4) ∧ w = w' := by
  have hD : Hid (∀ w : World, Calls Try.prog 20 #[.pointer none] w fun e w' => e = .returned (.bool true) ∧ w = w') := dead_nil
  go_enter Try.func34, Try.ntmps34
  go_wp2_with fail
  refine (hD.out _).mono ?_
  rintro e _ ⟨rfl, rfl⟩
  go_wp2_with fail
  go_ret
  exact ⟨rfl, rfl⟩
set_option maxRecDepth 100000 in
set_option maxHeartbeats 2000000 in
theorem read_nil (at0 : Int) (w : World) : Calls Try.prog 17 #[.pointer none, .int .i64 at0] w fun e w' => e = .returned (.tuple #[.agg (va 256 (iv .u8 fun _ => 0)), .int .i64 4]) ∧ Below w.heap.size w w' := by
  have hB : Hid (∀ w : World, Calls Try.prog 34 #[.pointer none, .int .i64 at0] w fun e w' => e = .returned (.int .i64 4) ∧ w = w') := begin_nil at0
  have hz := zero_bk
  have r0 : Blk (w.alloc (.cells (va 256 (iv .u8 fun _ => 0)) 60)) w.heap.size 60 (va 256 (iv .u8 fun _ => 0)) := Blk.new _ _ _
  go_enter Try.func17, Try.ntmps17
  go_wp2_with fail
  refine (hB.out _).mono ?_
  rintro e _ ⟨rfl, rfl⟩
  go_wp2_with (first
    | (refine wpList_store_row (by rfl) 60 _ _ (by rfl) (w.heap.size) (va 256 (iv .u8 (fun _ => 0))) (by rfl) (by rfl) 60 _ r0 (sizeBk.trans (by rw [va_size])) (by simp only [va_size]) (iv_one _ _ _) ?_; simp only [Act.put, List.setIfInBounds_toArray, List.set_cons_zero, List.set_cons_succ])
    | fail)
  try simp only [Exit.inBlock, Exit.then]
  refine bodyPost_ret (results_row2 Try.results17 _ _ (w.heap.size) 60 (va 256 (iv .u8 (fun _ => 0))) (0, 0) _ rfl ((r0.set _)) Try.underlying60 rfl (sizeBk.trans (by rw [va_size]))) rfl ?_
  exact ⟨rfl, below_setRow (below_new1 _ _) (Nat.le_refl _) _⟩
set_option maxRecDepth 100000 in
set_option maxHeartbeats 2000000 in
theorem diskWrite_nil (at0 : Int) (f : Nat → Nat) (w : World) : Calls Try.prog 14 #[.pointer none, .int .i64 at0, .agg (va 256 (iv .u8 f))] w fun e w' => e = .returned (.int .i64 4) ∧ Below w.heap.size w w' := by
  have hB : Hid (∀ w : World, Calls Try.prog 34 #[.pointer none, .int .i64 at0] w fun e w' => e = .returned (.int .i64 4) ∧ w = w') := begin_nil at0
  have hz := zero_bk
  go_enter Try.func14, Try.ntmps14
  go_wp2_with fail
  refine (hB.out _).mono ?_
  rintro e _ ⟨rfl, rfl⟩
  go_wp2_with fail
  go_ret
  exact ⟨rfl, below_new1 _ _⟩
end Go.Proofs.Ytdhbjcnbdfidcaa
