/- The first collision of a log: the program's contract. -/
import Derived.Test.YtaoglljkghkbpaaLogOf
import Derived.Handy
import Derived.Test.YtaoglljkghkbpaaLogFns
import Derived.Test.YtaoglljkghkbpaaSumsLaw

namespace Go.Proofs.Ytaoglljkghkbpaa
open Go.RowKit
set_option linter.unusedSimpArgs false
set_option linter.unusedVariables false

theorem entCells_at (E : List (Nat × ByteArray)) : ∀ i, i < E.length → (entCells E)[2 * i]? = some (.int .u8 (((E.getD i (0, ByteArray.empty)).1 : Nat) : Int)) ∧ (entCells E)[2 * i + 1]? = some (.string (E.getD i (0, ByteArray.empty)).2) := by
  induction E with
  | nil => intro i hi; simp at hi
  | cons e E ih =>
    intro i hi
    cases i with
    | zero => simp [entCells]
    | succ i =>
      have := ih i (by simp at hi; omega)
      unfold entCells at this ⊢
      simp only [List.flatMap_cons, List.getD_cons_succ]
      rw [show 2 * (i + 1) = 2 * i + 2 from by omega]
      simpa using this

end Go.Proofs.Ytaoglljkghkbpaa

namespace Go.Proofs.Ytaoglljkghkbpaa
open Go Go.RowKit
set_option linter.unusedSimpArgs false
set_option linter.unusedVariables false

/-- of the first n digests: k the least place with a like one ahead of it, i the first such; or none -/
def CollIs {α : Type} (D : Nat → α) (n i k : Nat) (b : Bool) : Prop :=
  (b = true ∧ i < k ∧ k < n ∧ D i = D k ∧ (∀ x, x < i → D x ≠ D k) ∧ ∀ y, y < k → ∀ x, x < y → D x ≠ D y) ∨
  (b = false ∧ i = 0 ∧ k = 0 ∧ ∀ y, y < n → ∀ x, x < y → D x ≠ D y)
theorem CollIs.same {α : Type} {D : Nat → α} {n i k i' k' : Nat} {b b' : Bool} (h : CollIs D n i k b) (h' : CollIs D n i' k' b') : i' = i ∧ k' = k ∧ b' = b := by
  rcases h with ⟨rfl, h1, h2, h3, h4, h5⟩ | ⟨rfl, rfl, rfl, h5⟩
  · rcases h' with ⟨rfl, g1, g2, g3, g4, g5⟩ | ⟨rfl, rfl, rfl, g5⟩
    · have hk : k' = k := by
        rcases Nat.lt_trichotomy k' k with q | q | q
        · exact absurd g3 (h5 k' q i' g1)
        · exact q
        · exact absurd h3 (g5 k q i h1)
      subst hk
      refine ⟨?_, rfl, rfl⟩
      rcases Nat.lt_trichotomy i' i with q | q | q
      · exact absurd g3 (h4 i' q)
      · exact q
      · exact absurd h3 (g4 i q)
    · exact absurd h3 (g5 k h2 i h1)
  · rcases h' with ⟨rfl, g1, g2, g3, g4, g5⟩ | ⟨rfl, rfl, rfl, g5⟩
    · exact absurd g3 (h5 k' g2 i' g1)
    · exact ⟨rfl, rfl, rfl⟩

/-- an entry's digest, as a plain thing -/
def dg (e : Nat × ByteArray) : Vector Nat 32 := Vector.ofFn fun i : Fin 32 => sumOf e i.1
def dF (d : Vector Nat 32) : Nat → Nat := fun i => (d[i]?).getD 0
def dK (d : Vector Nat 32) : Value := .agg (va 32 (iv .u8 (dF d)))
theorem dF_dg (e : Nat × ByteArray) : va 32 (iv .u8 (dF (dg e))) = va 32 (iv .u8 (sumOf e)) := va_congr fun i hi => by
  unfold iv dF dg
  congr 2
  simp [hi]
theorem dK_dg (e : Nat × ByteArray) : dK (dg e) = sumV (sumOf e) := by
  unfold dK sumV
  rw [dF_dg]
theorem dF_inj {a b : Vector Nat 32} (h : ∀ i, i < 32 → dF a i = dF b i) : a = b := by
  apply Vector.ext
  intro i hi
  have := h i hi
  unfold dF at this
  simpa [hi] using this

set_option maxRecDepth 100000 in
/-- two digests compared -/
theorem eq_dig (t : TypeId) (ht : Try.prog.underlying t = some (.array 32 5)) (a b : Vector Nat 32) (w : World) : (Op.equalIn 10000 t (dK a) (dK b)).run Try.prog w = .ok (decide (a = b)) w := by
  obtain ⟨i, hi⟩ : ∃ i, Try.prog.info? 5 = some i := Option.isSome_iff_exists.1 (by kernel_rfl)
  have hc : Try.prog.cellsOf 5 = 1 := by kernel_rfl
  unfold dK
  rw [show (10000 : Nat) = 9998 + 1 + 1 from rfl, run_equalIn_array w (9998 + 1) (va 32 (iv .u8 (dF a))) (va 32 (iv .u8 (dF b))) ht hi, hc,
    run_items 9998 Try.underlying5 (fun i => ((dF a i : Nat) : Int)) (fun i => ((dF b i : Nat) : Int)) (va 32 (iv .u8 (dF a))) (va 32 (iv .u8 (dF b))) _ (fun i hi => ⟨va_at (iv .u8 (dF a)) (by simpa using hi), va_at (iv .u8 (dF b)) (by simpa using hi)⟩)]
  congr 1
  rw [Bool.eq_iff_iff, List.all_eq_true, decide_eq_true_eq]
  constructor
  · intro h
    refine dF_inj fun i hi => ?_
    have := h i (by simpa using hi)
    simp only [beq_iff_eq] at this
    omega
  · rintro rfl i _
    simp
theorem size_u8 (w : World) : (sizeOf 5).run Try.prog w = .ok 1 w := by
  obtain ⟨i, hi⟩ : ∃ i, Try.prog.info? 5 = some i := Option.isSome_iff_exists.1 (by kernel_rfl)
  have hs : i.size = 1 := by
    have : (Try.prog.info? 5).map (·.size) = some 1 := by kernel_rfl
    rw [hi] at this
    simpa using this
  simp [sizeOf, typeInfo, hi, hs]
theorem chk_dig (d : Nat) (e : Bool) (f : Nat → Nat) (w : World) : (Instr.checkKey e (d + 1 + 1) 69 (.agg (va 32 (iv .u8 f)))).run Try.prog w = .ok () w := by
  have hc := size_u8 w
  have h1 : ∀ x : Int, (Instr.checkKey e (d + 1) 5 (.int .u8 x)).run Try.prog w = .ok () w := fun x => by simp [Instr.checkKey, run_underlying Try.underlying5]
  have p1 : ∀ i, i < 32 → (part 5 (va 32 (iv .u8 f)) (i * 1)).run Try.prog w = .ok (.int .u8 ((f i : Nat) : Int)) w := fun i hi => by
    have := va_at (iv .u8 f) hi
    simp [part, isAgg, run_underlying Try.underlying5, this]
    rfl
  generalize va 32 (iv .u8 f) = cs at *
  rw [Instr.checkKey]
  simp only [Sem.run_bind, run_underlying Try.underlying69, Result.andThen_ok]
  have key : ∀ l : List Nat, (∀ i ∈ l, i < 32) → Sem.run Try.prog (forIn l PUnit.unit fun i __s => do
      let __do_lift ← sizeOf 5
      let __do_lift ← part 5 cs (i * __do_lift)
      Instr.checkKey e (d + 1) 5 __do_lift
      pure (ForInStep.yield PUnit.unit)) w = .ok PUnit.unit w := by
    intro l
    induction l with
    | nil => intro _; simp
    | cons i l ih =>
      intro h
      simp only [List.forIn_cons, Sem.run_bind, hc, Result.andThen_ok, p1 i (h i (by simp)), h1, Sem.run_pure]
      exact ih fun j hj => h j (by simp [hj])
  simp only [Std.Legacy.Range.forIn_eq_forIn_range']
  rw [key _ (fun i hi => by simpa using hi)]
  rfl
theorem dig_key : KeyOf Try.prog 69 dK where
  desc := ⟨_, Try.underlying69, (fun k h => by cases h), (fun h => by cases h), (fun h => by cases h)⟩
  eq a b w := eq_dig 69 Try.underlying69 a b w
  chk e a w := chk_dig 9998 e (dF a) w
theorem zero_int (w : World) : (zeroValue 3).run Try.prog w = .ok (.int .i64 0) w := by
  obtain ⟨i, hi⟩ : ∃ i, Try.prog.info? 3 = some i := Option.isSome_iff_exists.1 (by kernel_rfl)
  have hz : i.zero = some (.int .i64 0) := by
    have : (Try.prog.info? 3).bind (·.zero) = some (.int .i64 0) := by kernel_rfl
    rw [hi] at this
    exact this
  simp [zeroValue, typeInfo, hi, hz]
/-- the map of the first places -/
def firstsL (D : Nat → Vector Nat 32) (n : Nat) : List (Vector Nat 32 × Nat) := (List.range n).map fun i => (D i, i)
def intV (i : Nat) : Value := .int .i64 (i : Int)
theorem find_firsts (D : Nat → Vector Nat 32) (d : Vector Nat 32) : ∀ (l : List Nat), (∀ i, findIn d (l.map fun i => (D i, i)) = some i → i ∈ l ∧ d = D i) ∧ (findIn d (l.map fun i => (D i, i)) = none → ∀ i ∈ l, d ≠ D i) := by
  intro l
  induction l with
  | nil => exact ⟨(fun i h => by cases h), (fun _ i h => by cases h)⟩
  | cons j l ih =>
    constructor
    · intro i h
      simp only [List.map_cons, findIn] at h
      split at h
      · rename_i q
        cases h
        exact ⟨by simp, q⟩
      · obtain ⟨h1, h2⟩ := ih.1 i h
        exact ⟨by simp [h1], h2⟩
    · intro h i hi
      simp only [List.map_cons, findIn] at h
      split at h
      · cases h
      · rename_i q
        rcases List.mem_cons.1 hi with rfl | hi
        · exact q
        · exact ih.2 h i hi
/-- what is found among the first n places, all of unlike digests -/
theorem firsts_some {D : Nat → Vector Nat 32} {n i : Nat} (h : findIn (D n) (firstsL D n) = some i) (hu : ∀ y, y < n → ∀ x, x < y → D x ≠ D y) (m : Nat) (hm : n < m) : CollIs D m i n true := by
  obtain ⟨h1, h2⟩ := (find_firsts D (D n) (List.range n)).1 i h
  rw [List.mem_range] at h1
  refine .inl ⟨rfl, h1, hm, h2.symm, fun x hx q => ?_, hu⟩
  exact hu i h1 x hx (q.trans h2)
theorem firsts_none {D : Nat → Vector Nat 32} {n : Nat} (h : findIn (D n) (firstsL D n) = none) (hu : ∀ y, y < n → ∀ x, x < y → D x ≠ D y) : ∀ y, y < n + 1 → ∀ x, x < y → D x ≠ D y := fun y hy x hx q => by
  by_cases hyn : y = n
  · subst hyn
    exact (find_firsts D (D y) (List.range y)).2 h x (List.mem_range.2 hx) q.symm
  · exact hu y (by omega) x hx q
theorem firsts_succ (D : Nat → Vector Nat 32) (n : Nat) : firstsL D (n + 1) = firstsL D n ++ [(D n, n)] := by
  unfold firstsL
  rw [List.range_succ, List.map_append]
  rfl
end Go.Proofs.Ytaoglljkghkbpaa

namespace Go.Proofs.Ytaoglljkghkbpaa
open Go.RowKit
set_option linter.unusedSimpArgs false
set_option linter.unusedVariables false

/-- the digests of a list of entries -/
def digAt (E : List (Nat × ByteArray)) (i : Nat) : Vector Nat 32 := dg (E.getD i (0, ByteArray.empty))
theorem isIn_mem (e : Nat × ByteArray) : ∀ E : List (Nat × ByteArray), isIn e E = true ↔ e ∈ E := by
  intro E
  induction E with
  | nil => simp [isIn, findIn]
  | cons x E ih =>
    unfold isIn at ih ⊢
    simp only [List.map_cons, findIn]
    by_cases h : e = x
    · subst h
      simp
    · simp [h, ih]
theorem isIn_at (E : List (Nat × ByteArray)) (i : Nat) (h : i < E.length) : isIn (E.getD i (0, ByteArray.empty)) E = true := by
  rw [isIn_mem]
  simp [List.getD, h]

set_option maxRecDepth 100000 in
set_option maxHeartbeats 4000000 in
theorem logColl_any (g r : Nat) (v : Value) (E : List (Nat × ByteArray)) (hE : E.length ≤ 4000000000000) (w : World) (h : LogAt w g r v E) :
    Calls Try.prog 36 #[.pointer (some ⟨g, 0, none⟩)] w fun e w' => ∃ i k b, e = .returned (.tuple #[.int .i64 ((i : Nat) : Int), .int .i64 ((k : Nat) : Int), .bool b]) ∧ CollIs (digAt E) E.length i k b ∧ Below w.heap.size w w' := by
  have hmm := @run_makeMap Try.prog
  have HH : Hid (LogAt w g r v E) := h
  obtain ⟨hB, hown, hM⟩ := h
  have hgl := hB.lt
  have hrl : r < w.heap.size := by obtain ⟨es, cl, hg, _⟩ := hM; exact (Array.getElem?_eq_some_iff.1 hg).1
  have HLK : Hid (∀ (i : Nat), i < E.length → ∀ w', Below w.heap.size w w' → Sem.run Try.prog (Instr.lookup 88 (.map (some r)) (.agg #[.int .u8 (((E.getD i (0, ByteArray.empty)).1 : Nat) : Int), .string (E.getD i (0, ByteArray.empty)).2]) false) w' = .ok (.agg (va 32 (iv .u8 (dF (digAt E i))))) w') := fun i hi w' hb => by
    have := HH.out.look (E.getD i (0, ByteArray.empty)) false hb
    rw [find_sum _ _ (isIn_at E i hi)] at this
    unfold digAt
    rw [dF_dg]
    simpa using this
  have hv : ∃ a cap, v = .slice a E.length cap := by
    rcases hown.2 with ⟨h1, h2⟩ | ⟨b, cap, cur, h1, _⟩
    · exact ⟨none, 0, by rw [h1, h2]⟩
    · exact ⟨_, cap, h1⟩
  obtain ⟨av, cap, hv⟩ := hv
  have HC : Hid (∀ i, i < E.length → ∃ b, av = some ⟨b, 0, none⟩ ∧ b < w.heap.size ∧ w.cell? ⟨b, i * 2, none⟩ = some (.int .u8 (((E.getD i (0, ByteArray.empty)).1 : Nat) : Int)) ∧ w.cell? ⟨b, i * 2 + 1, none⟩ = some (.string (E.getD i (0, ByteArray.empty)).2)) := fun i hi => by
    obtain ⟨q1, q2⟩ := entCells_at E i hi
    rcases hown.2 with ⟨h1, h2⟩ | ⟨b, cap', cur, h1, h2, h3, h4, _⟩
    · omega
    · rw [h1] at hv
      injection hv with e1 e2 e3
      have hown' := hown
      rw [h1] at hown'
      refine ⟨b, e1.symm, (Array.getElem?_eq_some_iff.1 h3).1, ?_, ?_⟩
      · rw [Nat.mul_comm, hown'.cellAt (2 * i) (by omega), q1]
      · rw [Nat.mul_comm, hown'.cellAt (2 * i + 1) (by omega), q2]
  subst hv
  have c0 : ∀ w', Below w.heap.size w w' → w'.cell? ⟨g, 0, none⟩ = some (.slice av E.length cap) := fun w' hb => by rw [(hB.below hb hgl).cell]; rfl
  have c0w := c0 (w.alloc (.map #[] 0)) ((Below.refl _ _).alloc (Nat.le_refl _) _)
  generalize digAt E = D at *
  generalize HN : E.length = N at *
  clear hown hM HH
  go_enter Try.func36, Try.ntmps36
  go_wp2_with fail
  go_loopw [19] (fun c wr => ∃ n : Nat, n ≤ N ∧ c = .int .i64 (n : Int) ∧ Below w.heap.size w wr ∧ MapIs dK intV wr w.heap.size (firstsL D n) ∧ ∀ y, y < n → ∀ x, x < y → D x ≠ D y) (fun c _ => N + 1 - (intOf c).toNat)
  case atStart =>
    refine ⟨0, Nat.zero_le _, rfl, (Below.refl _ _).alloc (Nat.le_refl _) _, ⟨#[], 0, heap_alloc_new w _, rfl⟩, fun y hy => absurd hy (by omega)⟩
  case round =>
    obtain ⟨n, hn, rfl, hbel, hmap, huniq⟩ := hrel
    have hgb := hB.below hbel hgl
    by_cases hi : n < N
    · obtain ⟨b, rfl, hbl, d0, d1⟩ := HC.out n hi
      have t0 : (n : Int) < (N : Int) := by omega
      have i0 : (0 : Int) ≤ (n : Int) := by omega
      have hlk := HLK.out n hi
      generalize E.getD n (0, ByteArray.empty) = x at *
      have d0' : wr.cell? ⟨b, n * 2, none⟩ = some (.int .u8 ((x.1 : Nat) : Int)) := by rw [hbel.cell hbl]; exact d0
      have d1' : wr.cell? ⟨b, n * 2 + 1, none⟩ = some (.string x.2) := by rw [hbel.cell hbl]; exact d1
      have e1 : Blk (wr.alloc (.cells #[.int .u8 ((x.1 : Nat) : Int), .string x.2] 98)) wr.heap.size 98 #[.int .u8 ((x.1 : Nat) : Int), .string x.2] := Blk.new _ _ _
      have hs1 : (wr.alloc (.cells #[.int .u8 ((x.1 : Nat) : Int), .string x.2] 98)).heap.size = wr.heap.size + 1 := by simp
      have hb1 : Below w.heap.size w (wr.alloc (.cells #[.int .u8 ((x.1 : Nat) : Int), .string x.2] 98)) := hbel.alloc hbel.size _
      have hmapl : w.heap.size < wr.heap.size := by obtain ⟨es, cl, hg, _⟩ := hmap; exact (Array.getElem?_eq_some_iff.1 hg).1
      have hmap1 := hmap.below (B := wr.heap.size) ((Below.refl _ wr).alloc (Nat.le_refl _) (.cells #[.int .u8 ((x.1 : Nat) : Int), .string x.2] 98)) hmapl
      have HL : Hid (∀ w', Below w.heap.size w w' → Sem.run Try.prog (Instr.lookup 88 (.map (some r)) (.agg #[.int .u8 ((x.1 : Nat) : Int), .string x.2]) false) w' = .ok (.agg (va 32 (iv .u8 (dF (D n))))) w') := hlk
      clear hlk
      go_wp2_with fail
      generalize (wr.alloc (.cells #[.int .u8 ((x.1 : Nat) : Int), .string x.2] 98)) = w1 at *
      have hB1 := hB.below hb1 hgl
      refine wp_region_partsI [7] [([4, 0], 1, true), ([], 2, true), ([], 3, true), ([], 5, true), ([], 6, false)] [] [7] w1.heap.size (by kernel_rfl) (by kernel_rfl) (lows_one ⟨⟨wr.heap.size, 0, none⟩, _, _, _, rfl, e1.lt, e1⟩) (partsI_yield ?_)
      simp only [List.cons_append, List.nil_append, List.append_nil, List.filterMap_cons, List.filterMap_nil, List.getElem?_toArray, List.getElem?_cons_zero, List.getElem?_cons_succ]
      refine wpList_load_row (by rfl) 98 _ (by rfl) wr.heap.size (by rfl) 98 #[.int .u8 ((x.1 : Nat) : Int), .string x.2] (0, 0) _ e1.drew Try.underlying98 (by rfl) sizeEnt ?_
      simp only [Act.put, List.setIfInBounds_toArray, List.set_cons_zero, List.set_cons_succ]
      go_wp2_with fail
      refine ⟨rfl, _, .pointer (some ⟨g, 0, none⟩), rfl, Or.inl ⟨by rfl, fun W hW => by go_simp⟩, partsI_yield ?_⟩
      simp only [Act.put, List.setIfInBounds_toArray, List.set_cons_zero, List.set_cons_succ]
      simp only [List.cons_append, List.nil_append, List.append_nil, List.filterMap_cons, List.filterMap_nil, List.getElem?_toArray, List.getElem?_cons_zero, List.getElem?_cons_succ]
      go_wp2_with fail
      refine ⟨rfl, _, .pointer (some ⟨g, 1, none⟩), rfl, Or.inl ⟨by rfl, fun W hW => by go_simp⟩, partsI_yield ?_⟩
      simp only [Act.put, List.setIfInBounds_toArray, List.set_cons_zero, List.set_cons_succ]
      simp only [List.cons_append, List.nil_append, List.append_nil, List.filterMap_cons, List.filterMap_nil, List.getElem?_toArray, List.getElem?_cons_zero, List.getElem?_cons_succ]
      go_wp2_with fail
      refine ⟨rfl, _, .map (some r), rfl, Or.inl ⟨by rfl, fun W hW => by have cw : W.cell? ⟨g, 1, none⟩ = some (.map (some r)) := (by rw [(hB1.below hW hB1.lt).cell]; rfl); go_simp⟩, partsI_yield ?_⟩
      simp only [Act.put, List.setIfInBounds_toArray, List.set_cons_zero, List.set_cons_succ]
      simp only [List.cons_append, List.nil_append, List.append_nil, List.filterMap_cons, List.filterMap_nil, List.getElem?_toArray, List.getElem?_cons_zero, List.getElem?_cons_succ]
      go_wp2_with fail
      refine ⟨rfl, _, .agg (va 32 (iv .u8 (dF (D n)))), rfl, Or.inl ⟨by rfl, fun W hW => by have lw := HL.out W (hb1.trans (hW.mono hb1.size)); go_simp⟩, partsI_force ?_⟩
      simp only [Act.put, List.setIfInBounds_toArray, List.set_cons_zero, List.set_cons_succ]
      simp only [List.cons_append, List.nil_append, List.append_nil, List.filterMap_cons, List.filterMap_nil, List.getElem?_toArray, List.getElem?_cons_zero, List.getElem?_cons_succ]
      go_wp2_with fail
      have hbn : Below w1.heap.size w1 (w1.alloc (.cells #[.int .u8 0, .int .u8 0, .int .u8 0, .int .u8 0, .int .u8 0, .int .u8 0, .int .u8 0, .int .u8 0, .int .u8 0, .int .u8 0, .int .u8 0, .int .u8 0, .int .u8 0, .int .u8 0, .int .u8 0, .int .u8 0, .int .u8 0, .int .u8 0, .int .u8 0, .int .u8 0, .int .u8 0, .int .u8 0, .int .u8 0, .int .u8 0, .int .u8 0, .int .u8 0, .int .u8 0, .int .u8 0, .int .u8 0, .int .u8 0, .int .u8 0, .int .u8 0] 69)).drew := ((Below.refl _ _).alloc (Nat.le_refl _) _).drew
      refine ⟨rfl, hbn, partsI_last ?_⟩
      simp only [List.cons_append, List.nil_append, List.append_nil, List.filterMap_cons, List.filterMap_nil, List.getElem?_toArray, List.getElem?_cons_zero, List.getElem?_cons_succ]
      have n0 : Blk (w1.alloc (.cells #[.int .u8 0, .int .u8 0, .int .u8 0, .int .u8 0, .int .u8 0, .int .u8 0, .int .u8 0, .int .u8 0, .int .u8 0, .int .u8 0, .int .u8 0, .int .u8 0, .int .u8 0, .int .u8 0, .int .u8 0, .int .u8 0, .int .u8 0, .int .u8 0, .int .u8 0, .int .u8 0, .int .u8 0, .int .u8 0, .int .u8 0, .int .u8 0, .int .u8 0, .int .u8 0, .int .u8 0, .int .u8 0, .int .u8 0, .int .u8 0, .int .u8 0, .int .u8 0] 69)).drew (wr.heap.size + 1) 69 (va 32 (iv .u8 fun _ => 0)) := by
        rw [← hs1]
        exact Blk.new _ _ _
      have hb2 : Below w1.heap.size w1 ((w1.alloc (.cells #[.int .u8 0, .int .u8 0, .int .u8 0, .int .u8 0, .int .u8 0, .int .u8 0, .int .u8 0, .int .u8 0, .int .u8 0, .int .u8 0, .int .u8 0, .int .u8 0, .int .u8 0, .int .u8 0, .int .u8 0, .int .u8 0, .int .u8 0, .int .u8 0, .int .u8 0, .int .u8 0, .int .u8 0, .int .u8 0, .int .u8 0, .int .u8 0, .int .u8 0, .int .u8 0, .int .u8 0, .int .u8 0, .int .u8 0, .int .u8 0, .int .u8 0, .int .u8 0] 69)).drew.setRow (wr.heap.size + 1) (va 32 (iv .u8 (dF (D n))))) := below_setRow hbn (by omega) _
      have n2 := n0.set (va 32 (iv .u8 (dF (D n))))
      refine wpList_store_row (by rfl) 69 _ _ (by rfl) (wr.heap.size + 1) (va 32 (iv .u8 (dF (D n)))) (by rfl) (by rfl) 69 _ n0 (sizeSum.trans (by rw [va_size])) (by rw [va_size, va_size]) (iv_one _ _ _) ?_
      simp only [Act.put, List.setIfInBounds_toArray, List.set_cons_zero, List.set_cons_succ]
      generalize ((w1.alloc (.cells #[.int .u8 0, .int .u8 0, .int .u8 0, .int .u8 0, .int .u8 0, .int .u8 0, .int .u8 0, .int .u8 0, .int .u8 0, .int .u8 0, .int .u8 0, .int .u8 0, .int .u8 0, .int .u8 0, .int .u8 0, .int .u8 0, .int .u8 0, .int .u8 0, .int .u8 0, .int .u8 0, .int .u8 0, .int .u8 0, .int .u8 0, .int .u8 0, .int .u8 0, .int .u8 0, .int .u8 0, .int .u8 0, .int .u8 0, .int .u8 0, .int .u8 0, .int .u8 0] 69)).drew.setRow (wr.heap.size + 1) (va 32 (iv .u8 (dF (D n))))) = w2 at *
      have hmap2 := hmap1.below hb2 (by omega)
      have hbel2 : Below w.heap.size w w2 := hb1.trans (hb2.mono hb1.size)
      clear HL hbn n0 hb2 hmap1 hmap hB1 e1 hb1 hgb
      refine ⟨rfl, ?_⟩
      have hlk2 := run_lookup_is Try.underlying99 dig_key zero_int hmap2 (D n) true
      cases hf : findIn (D n) (firstsL D n) with
      | some i =>
        have hlk3 : Sem.run Try.prog (Instr.lookup 99 (.map (some w.heap.size)) (.agg (va 32 (iv .u8 (dF (D n))))) true) w2 = .ok (.tuple #[.int .i64 ((i : Nat) : Int), .bool true]) w2 := by
          rw [hf] at hlk2
          exact hlk2
        clear hlk2
        have hc := firsts_some hf huniq N hi
        go_wp2_with (first
          | (refine wpList_load_row (by rfl) 69 _ (by rfl) (wr.heap.size + 1) (by rfl) 69 (va 32 (iv .u8 (dF (D n)))) (0, 0) _ n2 Try.underlying69 (by rfl) (sizeSum.trans (by rw [va_size])) ?_; simp only [Act.put, List.setIfInBounds_toArray, List.set_cons_zero, List.set_cons_succ])
          | fail)
        go_ret3
        exact ⟨i, n, true, rfl, hc, hbel2⟩
      | none =>
        have hlk3 : Sem.run Try.prog (Instr.lookup 99 (.map (some w.heap.size)) (.agg (va 32 (iv .u8 (dF (D n))))) true) w2 = .ok (.tuple #[.int .i64 0, .bool false]) w2 := by
          rw [hf] at hlk2
          exact hlk2
        clear hlk2
        have hu2 := firsts_none hf huniq
        obtain ⟨w3, hup, hmap3, hk3⟩ := run_update_is Try.underlying99 dig_key hmap2 (D n) n hf
        have hup2 : Sem.run Try.prog (Instr.mapUpdate 99 (.map (some w.heap.size)) (.agg (va 32 (iv .u8 (dF (D n))))) (.int .i64 (n : Int))) w2 = .ok () w3 := hup
        clear hup
        go_wp2_with (first
          | (refine wpList_load_row (by rfl) 69 _ (by rfl) (wr.heap.size + 1) (by rfl) 69 (va 32 (iv .u8 (dF (D n)))) (0, 0) _ n2 Try.underlying69 (by rfl) (sizeSum.trans (by rw [va_size])) ?_; simp only [Act.put, List.setIfInBounds_toArray, List.set_cons_zero, List.set_cons_succ])
          | fail)
        rw [← firsts_succ] at hmap3
        refine ⟨⟨n + 1, by omega, by simp, hbel2.trans (hk3.1.mono (Nat.le_refl _)), hmap3, hu2⟩, ?_⟩
        simp [intOf]
        omega
    · have t0 : ¬ (n : Int) < (N : Int) := by omega
      obtain rfl : n = N := by omega
      go_wp2_with fail
      go_ret3
      first | exact ⟨0, 0, false, rfl, .inr ⟨rfl, rfl, rfl, huniq⟩, hbel⟩ | exact ⟨0, 0, .inl ⟨rfl, .inr ⟨rfl, rfl, rfl, huniq⟩, hbel⟩⟩
end Go.Proofs.Ytaoglljkghkbpaa
