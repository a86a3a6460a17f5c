/- Two like ones in a row of digests: which places are named, and that it is one answer; digests as keys of a map. -/
import Derived.Test.YtaoglljkghkbpaaLogFns
import Derived.Test.YtaoglljkghkbpaaSumsLaw
namespace Go.Proofs.Ytaoglljkghkbpaa
open Go Go.RowKit
set_option linter.unusedSimpArgs false
set_option linter.unusedVariables false

/-- of the first n digests: k the least place with a like one ahead of it, i the first such; or none -/
def CollIs {α : Type} (D : Nat → α) (n i k : Nat) (b : Bool) : Prop :=
  (b = true ∧ i < k ∧ k < n ∧ D i = D k ∧ (∀ x, x < i → D x ≠ D k) ∧ ∀ y, y < k → ∀ x, x < y → D x ≠ D y) ∨
  (b = false ∧ i = 0 ∧ k = 0 ∧ ∀ y, y < n → ∀ x, x < y → D x ≠ D y)
theorem CollIs.same {α : Type} {D : Nat → α} {n i k i' k' : Nat} {b b' : Bool} (h : CollIs D n i k b) (h' : CollIs D n i' k' b') : i' = i ∧ k' = k ∧ b' = b := by
  rcases h with ⟨rfl, h1, h2, h3, h4, h5⟩ | ⟨rfl, rfl, rfl, h5⟩
  · rcases h' with ⟨rfl, g1, g2, g3, g4, g5⟩ | ⟨rfl, rfl, rfl, g5⟩
    · have hk : k' = k := by
        rcases Nat.lt_trichotomy k' k with q | q | q
        · exact absurd g3 (h5 k' q i' g1)
        · exact q
        · exact absurd h3 (g5 k q i h1)
      subst hk
      refine ⟨?_, rfl, rfl⟩
      rcases Nat.lt_trichotomy i' i with q | q | q
      · exact absurd g3 (h4 i' q)
      · exact q
      · exact absurd h3 (g4 i q)
    · exact absurd h3 (g5 k h2 i h1)
  · rcases h' with ⟨rfl, g1, g2, g3, g4, g5⟩ | ⟨rfl, rfl, rfl, g5⟩
    · exact absurd g3 (h5 k' g2 i' g1)
    · exact ⟨rfl, rfl, rfl⟩

/-- an entry's digest, as a plain thing -/
def dg (e : Nat × ByteArray) : Vector Nat 32 := Vector.ofFn fun i : Fin 32 => sumOf e i.1
def dF (d : Vector Nat 32) : Nat → Nat := fun i => (d[i]?).getD 0
def dK (d : Vector Nat 32) : Value := .agg (va 32 (iv .u8 (dF d)))
theorem dF_dg (e : Nat × ByteArray) : va 32 (iv .u8 (dF (dg e))) = va 32 (iv .u8 (sumOf e)) := va_congr fun i hi => by
  unfold iv dF dg
  congr 2
  simp [hi]
theorem dK_dg (e : Nat × ByteArray) : dK (dg e) = sumV (sumOf e) := by
  unfold dK sumV
  rw [dF_dg]
theorem dF_inj {a b : Vector Nat 32} (h : ∀ i, i < 32 → dF a i = dF b i) : a = b := by
  apply Vector.ext
  intro i hi
  have := h i hi
  unfold dF at this
  simpa [hi] using this

set_option maxRecDepth 100000 in
/-- two digests compared -/
theorem eq_dig (t : TypeId) (ht : Try.prog.underlying t = some (.array 32 5)) (a b : Vector Nat 32) (w : World) : (Op.equalIn 10000 t (dK a) (dK b)).run Try.prog w = .ok (decide (a = b)) w := by
  obtain ⟨i, hi⟩ : ∃ i, Try.prog.info? 5 = some i := Option.isSome_iff_exists.1 (by kernel_rfl)
  have hc : Try.prog.cellsOf 5 = 1 := by kernel_rfl
  unfold dK
  rw [show (10000 : Nat) = 9998 + 1 + 1 from rfl, run_equalIn_array w (9998 + 1) (va 32 (iv .u8 (dF a))) (va 32 (iv .u8 (dF b))) ht hi, hc,
    run_items 9998 Try.underlying5 (fun i => ((dF a i : Nat) : Int)) (fun i => ((dF b i : Nat) : Int)) (va 32 (iv .u8 (dF a))) (va 32 (iv .u8 (dF b))) _ (fun i hi => ⟨va_at (iv .u8 (dF a)) (by simpa using hi), va_at (iv .u8 (dF b)) (by simpa using hi)⟩)]
  congr 1
  rw [Bool.eq_iff_iff, List.all_eq_true, decide_eq_true_eq]
  constructor
  · intro h
    refine dF_inj fun i hi => ?_
    have := h i (by simpa using hi)
    simp only [beq_iff_eq] at this
    omega
  · rintro rfl i _
    simp
theorem size_u8 (w : World) : (sizeOf 5).run Try.prog w = .ok 1 w := by
  obtain ⟨i, hi⟩ : ∃ i, Try.prog.info? 5 = some i := Option.isSome_iff_exists.1 (by kernel_rfl)
  have hs : i.size = 1 := by
    have : (Try.prog.info? 5).map (·.size) = some 1 := by kernel_rfl
    rw [hi] at this
    simpa using this
  simp [sizeOf, typeInfo, hi, hs]
theorem chk_dig (d : Nat) (e : Bool) (f : Nat → Nat) (w : World) : (Instr.checkKey e (d + 1 + 1) 69 (.agg (va 32 (iv .u8 f)))).run Try.prog w = .ok () w := by
  have hc := size_u8 w
  have h1 : ∀ x : Int, (Instr.checkKey e (d + 1) 5 (.int .u8 x)).run Try.prog w = .ok () w := fun x => by simp [Instr.checkKey, run_underlying Try.underlying5]
  have p1 : ∀ i, i < 32 → (part 5 (va 32 (iv .u8 f)) (i * 1)).run Try.prog w = .ok (.int .u8 ((f i : Nat) : Int)) w := fun i hi => by
    have := va_at (iv .u8 f) hi
    simp [part, isAgg, run_underlying Try.underlying5, this]
    rfl
  generalize va 32 (iv .u8 f) = cs at *
  rw [Instr.checkKey]
  simp only [Sem.run_bind, run_underlying Try.underlying69, Result.andThen_ok]
  have key : ∀ l : List Nat, (∀ i ∈ l, i < 32) → Sem.run Try.prog (forIn l PUnit.unit fun i __s => do
      let __do_lift ← sizeOf 5
      let __do_lift ← part 5 cs (i * __do_lift)
      Instr.checkKey e (d + 1) 5 __do_lift
      pure (ForInStep.yield PUnit.unit)) w = .ok PUnit.unit w := by
    intro l
    induction l with
    | nil => intro _; simp
    | cons i l ih =>
      intro h
      simp only [List.forIn_cons, Sem.run_bind, hc, Result.andThen_ok, p1 i (h i (by simp)), h1, Sem.run_pure]
      exact ih fun j hj => h j (by simp [hj])
  simp only [Std.Legacy.Range.forIn_eq_forIn_range']
  rw [key _ (fun i hi => by simpa using hi)]
  rfl
theorem dig_key : KeyOf Try.prog 69 dK where
  desc := ⟨_, Try.underlying69, (fun k h => by cases h), (fun h => by cases h), (fun h => by cases h)⟩
  eq a b w := eq_dig 69 Try.underlying69 a b w
  chk e a w := chk_dig 9998 e (dF a) w
theorem zero_int (w : World) : (zeroValue 3).run Try.prog w = .ok (.int .i64 0) w := by
  obtain ⟨i, hi⟩ : ∃ i, Try.prog.info? 3 = some i := Option.isSome_iff_exists.1 (by kernel_rfl)
  have hz : i.zero = some (.int .i64 0) := by
    have : (Try.prog.info? 3).bind (·.zero) = some (.int .i64 0) := by kernel_rfl
    rw [hi] at this
    exact this
  simp [zeroValue, typeInfo, hi, hz]
/-- the map of the first places -/
def firstsL (D : Nat → Vector Nat 32) (n : Nat) : List (Vector Nat 32 × Nat) := (List.range n).map fun i => (D i, i)
def intV (i : Nat) : Value := .int .i64 (i : Int)
theorem find_firsts (D : Nat → Vector Nat 32) (d : Vector Nat 32) : ∀ (l : List Nat), (∀ i, findIn d (l.map fun i => (D i, i)) = some i → i ∈ l ∧ d = D i) ∧ (findIn d (l.map fun i => (D i, i)) = none → ∀ i ∈ l, d ≠ D i) := by
  intro l
  induction l with
  | nil => exact ⟨(fun i h => by cases h), (fun _ i h => by cases h)⟩
  | cons j l ih =>
    constructor
    · intro i h
      simp only [List.map_cons, findIn] at h
      split at h
      · rename_i q
        cases h
        exact ⟨by simp, q⟩
      · obtain ⟨h1, h2⟩ := ih.1 i h
        exact ⟨by simp [h1], h2⟩
    · intro h i hi
      simp only [List.map_cons, findIn] at h
      split at h
      · cases h
      · rename_i q
        rcases List.mem_cons.1 hi with rfl | hi
        · exact q
        · exact ih.2 h i hi
/-- what is found among the first n places, all of unlike digests -/
theorem firsts_some {D : Nat → Vector Nat 32} {n i : Nat} (h : findIn (D n) (firstsL D n) = some i) (hu : ∀ y, y < n → ∀ x, x < y → D x ≠ D y) (m : Nat) (hm : n < m) : CollIs D m i n true := by
  obtain ⟨h1, h2⟩ := (find_firsts D (D n) (List.range n)).1 i h
  rw [List.mem_range] at h1
  refine .inl ⟨rfl, h1, hm, h2.symm, fun x hx q => ?_, hu⟩
  exact hu i h1 x hx (q.trans h2)
theorem firsts_none {D : Nat → Vector Nat 32} {n : Nat} (h : findIn (D n) (firstsL D n) = none) (hu : ∀ y, y < n → ∀ x, x < y → D x ≠ D y) : ∀ y, y < n + 1 → ∀ x, x < y → D x ≠ D y := fun y hy x hx q => by
  by_cases hyn : y = n
  · subst hyn
    exact (find_firsts D (D y) (List.range y)).2 h x (List.mem_range.2 hx) q.symm
  · exact hu y (by omega) x hx q
theorem firsts_succ (D : Nat → Vector Nat 32) (n : Nat) : firstsL D (n + 1) = firstsL D n ++ [(D n, n)] := by
  unfold firstsL
  rw [List.range_succ, List.map_append]
  rfl
end Go.Proofs.Ytaoglljkghkbpaa
