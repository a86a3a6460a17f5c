/- What a log holds; contracts of NewLog, Len, Has and Of. -/
import Derived.Test.YtaoglljkghkbpaaDigWrite
import Derived.MapKept
import Derived.Test.YtaoglljkghkbpaaDigOf
import Derived.Carry
import Derived.Handy

namespace Go.Proofs.Ytaoglljkghkbpaa
open Go Go.RowKit
set_option linter.unusedVariables false
set_option linter.unusedSimpArgs false

section
variable {α β : Type} [DecidableEq α] {P : Program}
/-- how keys are told: encoded, compared, and that each may be a key -/
structure KeyOf (P : Program) (kt : TypeId) (K : α → Value) : Prop where
  desc : ∃ d, P.underlying kt = some d ∧ (∀ k, d ≠ .int k) ∧ d ≠ .string ∧ d ≠ .bool
  eq : ∀ a b w, (Op.equal kt (K a) (K b)).run P w = .ok (decide (a = b)) w
  chk : ∀ e a w, (Instr.checkKey e 10000 kt (K a)).run P w = .ok () w
/-- the map in block r holds these keys and elements, in this order -/
def MapIs (K : α → Value) (V : β → Value) (w : World) (r : Nat) (l : List (α × β)) : Prop :=
  ∃ es clock, w.heap[r]? = some (.map es clock) ∧ es.toList.map (fun e => (e.key, e.val)) = l.map fun p => (K p.1, V p.2)
def findIn (a : α) : List (α × β) → Option β
  | [] => none
  | p :: l => if a = p.1 then some p.2 else findIn a l
theorem findNow_none {d : TypeDesc} (h1 : ∀ k, d ≠ .int k) (h2 : d ≠ .string) (h3 : d ≠ .bool) (k : Value) (e : MapEntry) (es : List MapEntry) (i : Nat) : Instr.findNow d k (e :: es) i = none := by
  have : Instr.sameNow d k e.key = none := by
    unfold Instr.sameNow
    split
    · exact absurd rfl (h1 _)
    · exact absurd rfl h2
    · exact absurd rfl h3
    · rfl
  simp [Instr.findNow, this]
theorem run_findAsking {kt : TypeId} {K : α → Value} {V : β → Value} (hk : KeyOf P kt K) (a : α) (w : World) : ∀ (l : List (α × β)) (es : List MapEntry) (i : Nat), es.map (fun e => (e.key, e.val)) = l.map (fun p => (K p.1, V p.2)) →
    ∃ r, (Instr.findAsking kt (K a) es i).run P w = .ok r w ∧ (∀ b, findIn a l = some b → ∃ j, r = some (j, V b)) ∧ (findIn a l = none → r = none)
  | [], es, i, h => by
    have : es = [] := by cases es with
      | nil => rfl
      | cons e es => simp at h
    subst this
    exact ⟨none, by simp [Instr.findAsking], (fun b hb => by cases hb), fun _ => rfl⟩
  | p :: l, [], i, h => by simp at h
  | p :: l, e :: es, i, h => by
    simp only [List.map_cons, List.cons.injEq, Prod.mk.injEq] at h
    obtain ⟨⟨h1, h2⟩, h3⟩ := h
    have he := hk.eq a p.1 w
    rw [← h1] at he
    by_cases hq : a = p.1
    · refine ⟨some (i, e.val), ?_, fun b hb => ?_, fun hn => ?_⟩
      · simp only [Instr.findAsking, Sem.run_bind, he, Result.andThen_ok, decide_eq_true hq, if_true, Sem.run_pure]
      · unfold findIn at hb
        rw [if_pos hq] at hb
        cases hb
        exact ⟨i, by rw [h2]⟩
      · unfold findIn at hn
        rw [if_pos hq] at hn
        cases hn
    · obtain ⟨r, h4, h5, h6⟩ := run_findAsking hk a w l es (i + 1) h3
      refine ⟨r, ?_, fun b hb => ?_, fun hn => ?_⟩
      · simp only [Instr.findAsking, Sem.run_bind, he, Result.andThen_ok, decide_eq_false hq, Bool.false_eq_true, if_false, h4]
      · unfold findIn at hb
        rw [if_neg hq] at hb
        exact h5 b hb
      · unfold findIn at hn
        rw [if_neg hq] at hn
        exact h6 hn
theorem run_findKey {kt : TypeId} {K : α → Value} {V : β → Value} (hk : KeyOf P kt K) (a : α) (w : World) (l : List (α × β)) (es : List MapEntry) (h : es.map (fun e => (e.key, e.val)) = l.map (fun p => (K p.1, V p.2))) :
    ∃ r, (Instr.findKey kt (K a) es).run P w = .ok r w ∧ (∀ b, findIn a l = some b → ∃ j, r = some (j, V b)) ∧ (findIn a l = none → r = none) := by
  obtain ⟨d, hd, n1, n2, n3⟩ := hk.desc
  cases es with
  | nil =>
    have : l = [] := by cases l with
      | nil => rfl
      | cons p l => simp at h
    subst this
    exact ⟨none, by simp [Instr.findKey, run_underlying hd, Instr.findNow], (fun b hb => by cases hb), fun _ => rfl⟩
  | cons e es =>
    obtain ⟨r, h4, h5, h6⟩ := run_findAsking hk a w l (e :: es) 0 h
    exact ⟨r, by simp [Instr.findKey, run_underlying hd, findNow_none n1 n2 n3, h4], h5, h6⟩
/-- a look-up -/
theorem run_lookup_is {mt kt et : TypeId} {K : α → Value} {V : β → Value} {z : Value} (hm : P.underlying mt = some (.map kt et)) (hk : KeyOf P kt K) (hz : ∀ w, (zeroValue et).run P w = .ok z w) {w : World} {r : Nat} {l : List (α × β)} (h : MapIs K V w r l) (a : α) (ok : Bool) :
    (Instr.lookup mt (.map (some r)) (K a) ok).run P w = .ok (if ok then .tuple #[((findIn a l).map V).getD z, .bool (findIn a l).isSome] else ((findIn a l).map V).getD z) w := by
  obtain ⟨es, clock, hg, he⟩ := h
  obtain ⟨x, h4, h5, h6⟩ := run_findKey hk a w l es.toList he
  have hc := hk.chk es.isEmpty a w
  have hgo : (getObj r).run P w = .ok (.map es clock) w := by simp [getObj, Sem.run, hg]
  cases hf : findIn a l with
  | none =>
    obtain rfl := h6 hf
    cases ok <;> simp [Instr.lookup, run_underlying hm, hgo, hc, h4, hz]
  | some b =>
    obtain ⟨j, rfl⟩ := h5 b hf
    cases ok <;> simp [Instr.lookup, run_underlying hm, hgo, hc, h4]
/-- a new key stored -/
theorem run_update_is {mt kt et : TypeId} {K : α → Value} {V : β → Value} (hm : P.underlying mt = some (.map kt et)) (hk : KeyOf P kt K) {w : World} {r : Nat} {l : List (α × β)} (h : MapIs K V w r l) (a : α) (b : β) (hn : findIn a l = none) :
    ∃ w', (Instr.mapUpdate mt (.map (some r)) (K a) (V b)).run P w = .ok () w' ∧ MapIs K V w' r (l ++ [(a, b)]) ∧ Keeps r w w' := by
  obtain ⟨es, clock, hg, he⟩ := h
  obtain ⟨x, h4, h5, h6⟩ := run_findKey hk a w l es.toList he
  obtain rfl := h6 hn
  have hc := hk.chk false a w
  have hgo : (getObj r).run P w = .ok (.map es clock) w := by simp [getObj, Sem.run, hg]
  have hso : ∀ o, (setObj r o).run P w = .ok () { w with heap := w.heap.setIfInBounds r o } := fun o => by simp [setObj, Sem.run, hg]
  have hr : r < w.heap.size := (Array.getElem?_eq_some_iff.1 hg).1
  refine ⟨{ w with heap := w.heap.setIfInBounds r (.map (es.push { key := K a, val := V b, born := clock }) (clock + 1)) }, ?_, ⟨es.push { key := K a, val := V b, born := clock }, clock + 1, ?_, ?_⟩, ⟨⟨rfl, rfl, rfl, by simp, fun k hk => ?_⟩, fun k hk _ => ?_⟩⟩
  · simp [Instr.mapUpdate, run_underlying hm, hgo, hc, h4, hso]
  · simp [hr]
  · simp [he]
  · simp [Array.getElem?_setIfInBounds, show r ≠ k by omega]
  · simp [Array.getElem?_setIfInBounds, Ne.symm hk]
theorem findIn_append (a : α) (l m : List (α × β)) : findIn a (l ++ m) = (findIn a l).or (findIn a m) := by
  induction l with
  | nil => rfl
  | cons p l ih =>
    simp only [List.cons_append, findIn]
    by_cases h : a = p.1
    · simp [h]
    · simp [h, ih]
end
theorem MapIs.keep {α β : Type} {K : α → Value} {V : β → Value} {w w' : World} {r g : Nat} {l : List (α × β)} (h : MapIs K V w r l) (hk : Keeps g w w') (hne : r ≠ g) : MapIs K V w' r l := by
  obtain ⟨es, clock, hg, he⟩ := h
  exact ⟨es, clock, (hk.2 r hne (Array.getElem?_eq_some_iff.1 hg).1).trans hg, he⟩
theorem MapIs.below {α β : Type} {K : α → Value} {V : β → Value} {w w' : World} {r B : Nat} {l : List (α × β)} (h : MapIs K V w r l) (hb : Below B w w') (hB : r < B) : MapIs K V w' r l := by
  obtain ⟨es, clock, hg, he⟩ := h
  exact ⟨es, clock, (hb.block r hB).trans hg, he⟩
end Go.Proofs.Ytaoglljkghkbpaa

namespace Go.Proofs.Ytaoglljkghkbpaa
open Go.RowKit
set_option linter.unusedSimpArgs false
set_option linter.unusedVariables false

/-- an entry as a value -/
def entV (e : Nat × ByteArray) : Value := .agg #[.int .u8 ((e.1 : Nat) : Int), .string e.2]
def sumV (y : Nat → Nat) : Value := .agg (va 32 (iv .u8 y))
/-- an entry's digest -/
def sumOf (e : Nat × ByteArray) : Nat → Nat := ofC (firstN e.1) (byteAt e.2) e.2.size

theorem beqB (a b : ByteArray) : (a == b) = decide (a = b) := by
  obtain ⟨x⟩ := a
  obtain ⟨y⟩ := b
  have e : ((⟨x⟩ : ByteArray) == ⟨y⟩) = (x == y) := rfl
  rw [e]
  by_cases h : x = y
  · subst h
    simp
  · have h2 : ¬ ((⟨x⟩ : ByteArray) = ⟨y⟩) := fun q => h (by injection q)
    rw [decide_eq_false h2]
    simpa using h
theorem eq_entry (d : Nat) (a b : Nat × ByteArray) (w : World) : (Op.equalIn (d + 1 + 1) 98 (entV a) (entV b)).run Try.prog w = .ok (decide (a = b)) w := by
  unfold entV
  have h1 : ∀ x y : Int, (Op.equalIn (d + 1) 5 (.int .u8 x) (.int .u8 y)).run Try.prog w = .ok (x == y) w := fun x y => by simp [Op.equalIn, run_underlying Try.underlying5]
  have h2 : ∀ x y : ByteArray, (Op.equalIn (d + 1) 9 (.string x) (.string y)).run Try.prog w = .ok (x == y) w := fun x y => by simp [Op.equalIn, run_underlying Try.underlying9]
  have p1 : ∀ (x : Int) (y : ByteArray), (part 5 #[.int .u8 x, .string y] 0).run Try.prog w = .ok (.int .u8 x) w := fun x y => by simp [part, isAgg, run_underlying Try.underlying5]
  have p2 : ∀ (x : Int) (y : ByteArray), (part 9 #[.int .u8 x, .string y] 1).run Try.prog w = .ok (.string y) w := fun x y => by simp [part, isAgg, run_underlying Try.underlying9]
  rw [Op.equalIn]
  simp only [Sem.run_bind, run_underlying Try.underlying98, Result.andThen_ok]
  simp [Op.eqFields, p1, p2, h1, h2]
  obtain ⟨a1, a2⟩ := a
  obtain ⟨b1, b2⟩ := b
  by_cases ha : a1 = b1
  · subst ha
    by_cases hb : a2 = b2
    · subst hb
      simp [beqB]
    · simp [beqB, hb]
  · have hc : ¬ ((a1 : Int) = (b1 : Int)) := by omega
    simp [ha, hc]
theorem chk_entry (d : Nat) (e : Bool) (a : Nat × ByteArray) (w : World) : (Instr.checkKey e (d + 1 + 1) 98 (entV a)).run Try.prog w = .ok () w := by
  unfold entV
  have h1 : ∀ x : Int, (Instr.checkKey e (d + 1) 5 (.int .u8 x)).run Try.prog w = .ok () w := fun x => by simp [Instr.checkKey, run_underlying Try.underlying5]
  have h2 : ∀ x : ByteArray, (Instr.checkKey e (d + 1) 9 (.string x)).run Try.prog w = .ok () w := fun x => by simp [Instr.checkKey, run_underlying Try.underlying9]
  have p1 : ∀ (x : Int) (y : ByteArray), (part 5 #[.int .u8 x, .string y] 0).run Try.prog w = .ok (.int .u8 x) w := fun x y => by simp [part, isAgg, run_underlying Try.underlying5]
  have p2 : ∀ (x : Int) (y : ByteArray), (part 9 #[.int .u8 x, .string y] 1).run Try.prog w = .ok (.string y) w := fun x y => by simp [part, isAgg, run_underlying Try.underlying9]
  rw [Instr.checkKey]
  simp only [Sem.run_bind, run_underlying Try.underlying98, Result.andThen_ok]
  simp [p1, p2, h1, h2]
theorem entry_key : KeyOf Try.prog 98 entV where
  desc := ⟨_, Try.underlying98, (fun k h => by cases h), (fun h => by cases h), (fun h => by cases h)⟩
  eq a b w := eq_entry 9998 a b w
  chk e a w := chk_entry 9998 e a w
theorem zero_sum (w : World) : (zeroValue 69).run Try.prog w = .ok (sumV fun _ => 0) w := by
  obtain ⟨i, hi⟩ : ∃ i, Try.prog.info? 69 = some i := Option.isSome_iff_exists.1 (by kernel_rfl)
  have hz : i.zero = some (sumV fun _ => 0) := by
    have : (Try.prog.info? 69).bind (·.zero) = some (sumV fun _ => 0) := by kernel_rfl
    rw [hi] at this
    exact this
  simp [zeroValue, typeInfo, hi, hz]
end Go.Proofs.Ytaoglljkghkbpaa

namespace Go.Proofs.Ytaoglljkghkbpaa
open Go.RowKit
set_option linter.unusedSimpArgs false
set_option linter.unusedVariables false

/-- the cells of a list of entries -/
def entCells (E : List (Nat × ByteArray)) : List Value := E.flatMap fun e => [.int .u8 ((e.1 : Nat) : Int), .string e.2]
/-- the log in block g, its map in block r, its entries in the slice v -/
def LogAt (w : World) (g r : Nat) (v : Value) (E : List (Nat × ByteArray)) : Prop :=
  Blk w g 91 #[v, .map (some r)] ∧ w.ownsRow 0 98 2 v E.length (entCells E) ∧ MapIs entV sumV w r (E.map fun e => (e, sumOf e))

set_option maxHeartbeats 1000000 in
theorem newLog_any (w : World) :
    Calls Try.prog 30 #[] w fun e w' => ∃ g r, e = .returned (.pointer (some ⟨g, 0, none⟩)) ∧ w.heap.size ≤ g ∧ w.heap.size ≤ r ∧ LogAt w' g r (.slice none 0 0) [] ∧ Below w.heap.size w w' := by
  have hmm := @run_makeMap Try.prog
  go_enter Try.func30, Try.ntmps30
  go_wp2_with fail
  go_returns
  have e : (w.alloc (Obj.map #[] 0)).heap.size = w.heap.size + 1 := by simp
  have b1 : Below w.heap.size w (w.alloc (Obj.map #[] 0)) := (Below.refl _ _).alloc (Nat.le_refl _) _
  refine ⟨w.heap.size + 1, w.heap.size, rfl, by omega, Nat.le_refl _, ⟨?_, ?_, ?_⟩, b1.alloc (by omega) _⟩
  · rw [← e]
    exact Blk.new _ _ _
  · exact World.ownsRow_nil _ _ _ _
  · refine ⟨#[], 0, ?_, rfl⟩
    rw [heap_alloc_old _ _ (by omega)]
    exact heap_alloc_new w _

/-- whether an entry is there, and the digest that is found -/
def isIn (e : Nat × ByteArray) (E : List (Nat × ByteArray)) : Bool := (findIn e (E.map fun e => (e, sumOf e))).isSome
def lookS (e : Nat × ByteArray) (E : List (Nat × ByteArray)) : Nat → Nat := (findIn e (E.map fun e => (e, sumOf e))).getD fun _ => 0
theorem LogAt.look {w : World} {g r : Nat} {v : Value} {E : List (Nat × ByteArray)} (h : LogAt w g r v E) (e : Nat × ByteArray) (ok : Bool) {w' : World} (hb : Below w.heap.size w w') :
    Sem.run Try.prog (Instr.lookup 88 (.map (some r)) (.agg #[.int .u8 ((e.1 : Nat) : Int), .string e.2]) ok) w' =
      .ok (if ok then .tuple #[.agg (va 32 (iv .u8 (lookS e E))), .bool (isIn e E)] else .agg (va 32 (iv .u8 (lookS e E)))) w' := by
  obtain ⟨es, clock, hg, he⟩ := h.2.2
  have := run_lookup_is Try.underlying88 entry_key zero_sum (MapIs.below h.2.2 hb (Array.getElem?_eq_some_iff.1 hg).1) e ok
  have e1 : ((findIn e (E.map fun e => (e, sumOf e))).map sumV).getD (sumV fun _ => 0) = .agg (va 32 (iv .u8 (lookS e E))) := by
    unfold lookS
    cases findIn e (E.map fun e => (e, sumOf e)) <;> rfl
  rw [e1] at this
  exact this
set_option maxRecDepth 100000 in
set_option maxHeartbeats 1000000 in
theorem logHas_any (tag : Nat) (s : ByteArray) (g r : Nat) (v : Value) (E : List (Nat × ByteArray)) (w : World) (h : LogAt w g r v E) :
    Calls Try.prog 35 #[.pointer (some ⟨g, 0, none⟩), .int .u8 (tag : Int), .string s] w fun e w' => e = .returned (.bool (isIn (tag, s) E)) ∧ Below w.heap.size w w' := by
  have hl := h.look (tag, s) true (Below.refl _ _)
  simp only [if_true] at hl
  obtain ⟨hB, hown, hM⟩ := h
  have c1 : w.cell? ⟨g, 1, none⟩ = some (.map (some r)) := by rw [hB.cell]; rfl
  have hgl := hB.lt
  clear hB hown hM
  generalize isIn (tag, s) E = b at *
  generalize lookS (tag, s) E = y at *
  have n0 : Blk (w.alloc (.cells #[.int .u8 0, .int .u8 0, .int .u8 0, .int .u8 0, .int .u8 0, .int .u8 0, .int .u8 0, .int .u8 0, .int .u8 0, .int .u8 0, .int .u8 0, .int .u8 0, .int .u8 0, .int .u8 0, .int .u8 0, .int .u8 0, .int .u8 0, .int .u8 0, .int .u8 0, .int .u8 0, .int .u8 0, .int .u8 0, .int .u8 0, .int .u8 0, .int .u8 0, .int .u8 0, .int .u8 0, .int .u8 0, .int .u8 0, .int .u8 0, .int .u8 0, .int .u8 0] 69)) w.heap.size 69 (va 32 (iv .u8 fun _ => 0)) := Blk.new _ _ _
  go_enter Try.func35, Try.ntmps35
  go_wp2_with (first
    | (refine wpList_store_row (by rfl) 69 _ _ (by rfl) w.heap.size (va 32 (iv .u8 y)) (by rfl) (by rfl) 69 _ n0 (sizeSum.trans (by rw [va_size])) (by rw [va_size, va_size]) (iv_one _ _ _) ?_; simp only [Act.put, List.setIfInBounds_toArray, List.set_cons_zero, List.set_cons_succ])
    | fail)
  go_ret
  exact ⟨rfl, below_setRow ((Below.refl _ _).alloc (Nat.le_refl _) _) (Nat.le_refl _) _⟩
set_option maxHeartbeats 1000000 in
theorem logLen_any (g r : Nat) (v : Value) (E : List (Nat × ByteArray)) (w : World) (h : LogAt w g r v E) :
    Calls Try.prog 34 #[.pointer (some ⟨g, 0, none⟩)] w fun e w' => e = .returned (.int .i64 (E.length : Int)) ∧ w' = w := by
  obtain ⟨hB, hown, hM⟩ := h
  have c0 : w.cell? ⟨g, 0, none⟩ = some v := by rw [hB.cell]; rfl
  have hv : ∃ a cap, v = .slice a E.length cap := by
    rcases hown.2 with ⟨h1, h2⟩ | ⟨b, cap, cur, h1, _⟩
    · exact ⟨none, 0, by rw [h1, h2]⟩
    · exact ⟨_, cap, h1⟩
  obtain ⟨a, cap, rfl⟩ := hv
  clear hB hown hM
  generalize E.length = n at *
  go_enter Try.func34, Try.ntmps34
  go_wp2_with fail
  go_ret
  exact ⟨rfl, rfl⟩
end Go.Proofs.Ytaoglljkghkbpaa
