/- References and nodes: their cells, how two compare, their bytes. -/
import Derived.Test.YtdniigefmlmcdabRows
import Derived.Test.YtdniigefmlmcdabHBlkTake
import Derived.Laws.BytesArg
import Derived.Handy
import Derived.Test.YtdniigefmlmcdabHDigRef
import Derived.ArgAppend
import Derived.Test.YtdniigefmlmcdabHTurnsMix
import Derived.Great.BuildSlice
import Derived.OwnWalk
import Derived.Maps.AppendAt
import Derived.Test.YtdniigefmlmcdabHQuarters
import Derived.Lib.ConvBytes

namespace Go.Proofs.Ytdniigefmlmcdab
open Go.RowKit
set_option linter.unusedSimpArgs false
set_option linter.unusedVariables false

theorem sizeSumT : (Try.prog.info? 33).map (·.size) = some 32 := by kernel_rfl
theorem run_index_agg {P : Program} (w : World) (t e n : Nat) (cs : Array Value) (k : Nat) (κ : IntKind) (x : Int) (ht : P.underlying t = some (.array n e)) (he : P.underlying e = some (.int κ)) (hi : (P.info? e).map (·.size) = some 1) (hk : k < n) (hc : cs[k]? = some (.int κ x)) :
    (Instr.index t (.agg cs) (.int .i64 (k : Int))).run P w = .ok (.int κ x) w := by
  cases hq : P.info? e with
  | none => simp [hq] at hi
  | some i =>
    have h1 : i.size = 1 := by simpa [hq] using hi
    have h2 : (k : Int) < (n : Int) := by omega
    simp [Instr.index, asIntOf, run_underlying ht, part, isAgg, run_underlying he, sizeOf, typeInfo, hq, h1, h2, hc]
    intro h
    omega
theorem text_step (k : Nat) : va 64 (upd (upd (iv .u8 (fupN (2 * k) (fun _ => 48) fun _ => 0)) (2 * k) (.int .u8 48)) (2 * k + 1) (.int .u8 48)) = va 64 (iv .u8 (fupN (2 * (k + 1)) (fun _ => 48) fun _ => 0)) := by
  have e := fup_step .u8 64 (2 * k) (fun _ => 48) fun _ => 0
  have e1 : upd (iv .u8 (fupN (2 * k) (fun _ => 48) fun _ => 0)) (2 * k) (.int .u8 48) = iv .u8 (fupN (2 * k + 1) (fun _ => 48) fun _ => 0) := by
    rw [show (Value.int .u8 48) = Value.int .u8 ((48 : Nat) : Int) from rfl, upd_iv]
    congr 1
    funext j
    unfold updN fupN
    by_cases h : j = 2 * k
    · rw [if_pos h, if_pos (by omega)]
    · rw [if_neg h]
      by_cases h2 : j < 2 * k
      · rw [if_pos h2, if_pos (by omega)]
      · rw [if_neg h2, if_neg (by omega)]
  rw [e1]
  exact fup_step .u8 64 (2 * k + 1) (fun _ => 48) fun _ => 0

end Go.Proofs.Ytdniigefmlmcdab

namespace Go.Proofs.Ytdniigefmlmcdab
open Go.RowKit
set_option linter.unusedSimpArgs false
set_option linter.unusedVariables false

set_option maxRecDepth 100000 in
/-- a digest compared with itself -/
theorem eq_sum (f : Nat → Nat) (w : World) : (Op.equalIn 10000 33 (.agg (va 32 (iv .u8 f))) (.agg (va 32 (iv .u8 f)))).run Try.prog w = .ok true w := by
  obtain ⟨i, hi⟩ : ∃ i, Try.prog.info? 5 = some i := Option.isSome_iff_exists.1 (by kernel_rfl)
  have hc : Try.prog.cellsOf 5 = 1 := by kernel_rfl
  rw [show (10000 : Nat) = 9998 + 1 + 1 from rfl, run_equalIn_array w (9998 + 1) (va 32 (iv .u8 f)) (va 32 (iv .u8 f)) Try.underlying33 hi, hc,
    run_items 9998 Try.underlying5 (fun i => ((f i : Nat) : Int)) (fun i => ((f i : Nat) : Int)) (va 32 (iv .u8 f)) (va 32 (iv .u8 f)) _ (fun i hi => ⟨va_at (iv .u8 f) (by simpa using hi), va_at (iv .u8 f) (by simpa using hi)⟩)]
  congr 1
  simp

end Go.Proofs.Ytdniigefmlmcdab

namespace Go.Proofs.Ytdniigefmlmcdab
open Go Go.RowKit
set_option linter.unusedSimpArgs false
set_option linter.unusedVariables false

/-- of the first n digests: k the least place with a like one ahead of it, i the first such; or none -/
def CollIs {α : Type} (D : Nat → α) (n i k : Nat) (b : Bool) : Prop :=
  (b = true ∧ i < k ∧ k < n ∧ D i = D k ∧ (∀ x, x < i → D x ≠ D k) ∧ ∀ y, y < k → ∀ x, x < y → D x ≠ D y) ∨
  (b = false ∧ i = 0 ∧ k = 0 ∧ ∀ y, y < n → ∀ x, x < y → D x ≠ D y)
theorem CollIs.same {α : Type} {D : Nat → α} {n i k i' k' : Nat} {b b' : Bool} (h : CollIs D n i k b) (h' : CollIs D n i' k' b') : i' = i ∧ k' = k ∧ b' = b := by
  rcases h with ⟨rfl, h1, h2, h3, h4, h5⟩ | ⟨rfl, rfl, rfl, h5⟩
  · rcases h' with ⟨rfl, g1, g2, g3, g4, g5⟩ | ⟨rfl, rfl, rfl, g5⟩
    · have hk : k' = k := by
        rcases Nat.lt_trichotomy k' k with q | q | q
        · exact absurd g3 (h5 k' q i' g1)
        · exact q
        · exact absurd h3 (g5 k q i h1)
      subst hk
      refine ⟨?_, rfl, rfl⟩
      rcases Nat.lt_trichotomy i' i with q | q | q
      · exact absurd g3 (h4 i' q)
      · exact q
      · exact absurd h3 (g4 i q)
    · exact absurd h3 (g5 k h2 i h1)
  · rcases h' with ⟨rfl, g1, g2, g3, g4, g5⟩ | ⟨rfl, rfl, rfl, g5⟩
    · exact absurd g3 (h5 k' g2 i' g1)
    · exact ⟨rfl, rfl, rfl⟩

/-- an entry's digest, as a plain thing -/
def dg (e : Nat × ByteArray) : Vector Nat 32 := Vector.ofFn fun i : Fin 32 => sumOf e i.1
def dF (d : Vector Nat 32) : Nat → Nat := fun i => (d[i]?).getD 0
def dK (d : Vector Nat 32) : Value := .agg (va 32 (iv .u8 (dF d)))
theorem dF_dg (e : Nat × ByteArray) : va 32 (iv .u8 (dF (dg e))) = va 32 (iv .u8 (sumOf e)) := va_congr fun i hi => by
  unfold iv dF dg
  congr 2
  simp [hi]
theorem dK_dg (e : Nat × ByteArray) : dK (dg e) = sumV (sumOf e) := by
  unfold dK sumV
  rw [dF_dg]
theorem dF_inj {a b : Vector Nat 32} (h : ∀ i, i < 32 → dF a i = dF b i) : a = b := by
  apply Vector.ext
  intro i hi
  have := h i hi
  unfold dF at this
  simpa [hi] using this

set_option maxRecDepth 100000 in
/-- two digests compared -/
theorem eq_dig (t : TypeId) (ht : Try.prog.underlying t = some (.array 32 5)) (a b : Vector Nat 32) (w : World) : (Op.equalIn 10000 t (dK a) (dK b)).run Try.prog w = .ok (decide (a = b)) w := by
  obtain ⟨i, hi⟩ : ∃ i, Try.prog.info? 5 = some i := Option.isSome_iff_exists.1 (by kernel_rfl)
  have hc : Try.prog.cellsOf 5 = 1 := by kernel_rfl
  unfold dK
  rw [show (10000 : Nat) = 9998 + 1 + 1 from rfl, run_equalIn_array w (9998 + 1) (va 32 (iv .u8 (dF a))) (va 32 (iv .u8 (dF b))) ht hi, hc,
    run_items 9998 Try.underlying5 (fun i => ((dF a i : Nat) : Int)) (fun i => ((dF b i : Nat) : Int)) (va 32 (iv .u8 (dF a))) (va 32 (iv .u8 (dF b))) _ (fun i hi => ⟨va_at (iv .u8 (dF a)) (by simpa using hi), va_at (iv .u8 (dF b)) (by simpa using hi)⟩)]
  congr 1
  rw [Bool.eq_iff_iff, List.all_eq_true, decide_eq_true_eq]
  constructor
  · intro h
    refine dF_inj fun i hi => ?_
    have := h i (by simpa using hi)
    simp only [beq_iff_eq] at this
    omega
  · rintro rfl i _
    simp
theorem size_u8 (w : World) : (sizeOf 5).run Try.prog w = .ok 1 w := by
  obtain ⟨i, hi⟩ : ∃ i, Try.prog.info? 5 = some i := Option.isSome_iff_exists.1 (by kernel_rfl)
  have hs : i.size = 1 := by
    have : (Try.prog.info? 5).map (·.size) = some 1 := by kernel_rfl
    rw [hi] at this
    simpa using this
  simp [sizeOf, typeInfo, hi, hs]
theorem chk_dig (d : Nat) (e : Bool) (f : Nat → Nat) (w : World) : (Instr.checkKey e (d + 1 + 1) 33 (.agg (va 32 (iv .u8 f)))).run Try.prog w = .ok () w := by
  have hc := size_u8 w
  have h1 : ∀ x : Int, (Instr.checkKey e (d + 1) 5 (.int .u8 x)).run Try.prog w = .ok () w := fun x => by simp [Instr.checkKey, run_underlying Try.underlying5]
  have p1 : ∀ i, i < 32 → (part 5 (va 32 (iv .u8 f)) (i * 1)).run Try.prog w = .ok (.int .u8 ((f i : Nat) : Int)) w := fun i hi => by
    have := va_at (iv .u8 f) hi
    simp [part, isAgg, run_underlying Try.underlying5, this]
    rfl
  generalize va 32 (iv .u8 f) = cs at *
  rw [Instr.checkKey]
  simp only [Sem.run_bind, run_underlying Try.underlying33, Result.andThen_ok]
  have key : ∀ l : List Nat, (∀ i ∈ l, i < 32) → Sem.run Try.prog (forIn l PUnit.unit fun i __s => do
      let __do_lift ← sizeOf 5
      let __do_lift ← part 5 cs (i * __do_lift)
      Instr.checkKey e (d + 1) 5 __do_lift
      pure (ForInStep.yield PUnit.unit)) w = .ok PUnit.unit w := by
    intro l
    induction l with
    | nil => intro _; simp
    | cons i l ih =>
      intro h
      simp only [List.forIn_cons, Sem.run_bind, hc, Result.andThen_ok, p1 i (h i (by simp)), h1, Sem.run_pure]
      exact ih fun j hj => h j (by simp [hj])
  simp only [Std.Legacy.Range.forIn_eq_forIn_range']
  rw [key _ (fun i hi => by simpa using hi)]
  rfl
theorem dig_key : KeyOf Try.prog 33 dK where
  desc := ⟨_, Try.underlying33, (fun k h => by cases h), (fun h => by cases h), (fun h => by cases h)⟩
  eq a b w := eq_dig 33 Try.underlying33 a b w
  chk e a w := chk_dig 9998 e (dF a) w
theorem zero_int (w : World) : (zeroValue 3).run Try.prog w = .ok (.int .i64 0) w := by
  obtain ⟨i, hi⟩ : ∃ i, Try.prog.info? 3 = some i := Option.isSome_iff_exists.1 (by kernel_rfl)
  have hz : i.zero = some (.int .i64 0) := by
    have : (Try.prog.info? 3).bind (·.zero) = some (.int .i64 0) := by kernel_rfl
    rw [hi] at this
    exact this
  simp [zeroValue, typeInfo, hi, hz]
/-- the map of the first places -/
def firstsL (D : Nat → Vector Nat 32) (n : Nat) : List (Vector Nat 32 × Nat) := (List.range n).map fun i => (D i, i)
def intV (i : Nat) : Value := .int .i64 (i : Int)
theorem find_firsts (D : Nat → Vector Nat 32) (d : Vector Nat 32) : ∀ (l : List Nat), (∀ i, findIn d (l.map fun i => (D i, i)) = some i → i ∈ l ∧ d = D i) ∧ (findIn d (l.map fun i => (D i, i)) = none → ∀ i ∈ l, d ≠ D i) := by
  intro l
  induction l with
  | nil => exact ⟨(fun i h => by cases h), (fun _ i h => by cases h)⟩
  | cons j l ih =>
    constructor
    · intro i h
      simp only [List.map_cons, findIn] at h
      split at h
      · rename_i q
        cases h
        exact ⟨by simp, q⟩
      · obtain ⟨h1, h2⟩ := ih.1 i h
        exact ⟨by simp [h1], h2⟩
    · intro h i hi
      simp only [List.map_cons, findIn] at h
      split at h
      · cases h
      · rename_i q
        rcases List.mem_cons.1 hi with rfl | hi
        · exact q
        · exact ih.2 h i hi
/-- what is found among the first n places, all of unlike digests -/
theorem firsts_some {D : Nat → Vector Nat 32} {n i : Nat} (h : findIn (D n) (firstsL D n) = some i) (hu : ∀ y, y < n → ∀ x, x < y → D x ≠ D y) (m : Nat) (hm : n < m) : CollIs D m i n true := by
  obtain ⟨h1, h2⟩ := (find_firsts D (D n) (List.range n)).1 i h
  rw [List.mem_range] at h1
  refine .inl ⟨rfl, h1, hm, h2.symm, fun x hx q => ?_, hu⟩
  exact hu i h1 x hx (q.trans h2)
theorem firsts_none {D : Nat → Vector Nat 32} {n : Nat} (h : findIn (D n) (firstsL D n) = none) (hu : ∀ y, y < n → ∀ x, x < y → D x ≠ D y) : ∀ y, y < n + 1 → ∀ x, x < y → D x ≠ D y := fun y hy x hx q => by
  by_cases hyn : y = n
  · subst hyn
    exact (find_firsts D (D y) (List.range y)).2 h x (List.mem_range.2 hx) q.symm
  · exact hu y (by omega) x hx q
theorem firsts_succ (D : Nat → Vector Nat 32) (n : Nat) : firstsL D (n + 1) = firstsL D n ++ [(D n, n)] := by
  unfold firstsL
  rw [List.range_succ, List.map_append]
  rfl
end Go.Proofs.Ytdniigefmlmcdab

namespace Go.Proofs.Ytdniigefmlmcdab
open Go Go.RowKit
set_option linter.unusedVariables false

theorem kown_mono {w : World} {B B' e size n : Nat} {v : Value} {xs : List Value} (h : w.ownsRow B e size v n xs) (hB : B' ≤ B) : w.ownsRow B' e size v n xs :=
  ⟨h.1, h.2.imp id fun ⟨g, cap, cur, a, b, r⟩ => ⟨g, cap, cur, a, Nat.le_trans hB b, r⟩⟩
theorem kown_form {w : World} {B e size n : Nat} {v : Value} {xs : List Value} (h : w.ownsRow B e size v n xs) (hn : 0 < n) : ∃ g cap, v = .slice (some ⟨g, 0, none⟩) n cap ∧ B ≤ g ∧ g < w.heap.size := by
  rcases h.2 with ⟨_, h0⟩ | ⟨g, cap, cur, rfl, hb, hg, _⟩
  · omega
  · exact ⟨g, cap, rfl, hb, (Array.getElem?_eq_some_iff.1 hg).1⟩
theorem kown_slice {w : World} {B e size n : Nat} {v : Value} {xs : List Value} (h : w.ownsRow B e size v n xs) : ∃ a cap, v = .slice a n cap := by
  rcases h.2 with ⟨rfl, rfl⟩ | ⟨g, cap, cur, rfl, hb, hg, _⟩
  · exact ⟨none, 0, rfl⟩
  · exact ⟨_, cap, rfl⟩
theorem kown_below {w w' : World} {B e size n : Nat} {v : Value} {xs : List Value} (h : w.ownsRow B e size v n xs) (hb : Below w.heap.size w w') : w'.ownsRow B e size v n xs := by
  refine ⟨h.1, ?_⟩
  rcases h.2 with hn | ⟨g, cap, cur, rfl, hg, hgg, rest⟩
  · exact .inl hn
  · exact .inr ⟨g, cap, cur, rfl, hg, (hb.block g (Array.getElem?_eq_some_iff.1 hgg).1).trans hgg, rest⟩
theorem kown_kept {w w' : World} {B e size n : Nat} {v : Value} {xs : List Value} (h : w.ownsRow B e size v n xs) (hk : ∀ k, B ≤ k → v.ownBlock = some k → w'.heap[k]? = w.heap[k]?) : w'.ownsRow B e size v n xs := by
  refine ⟨h.1, ?_⟩
  rcases h.2 with hn | ⟨g, cap, cur, rfl, hg, hgg, rest⟩
  · exact .inl hn
  · exact .inr ⟨g, cap, cur, rfl, hg, (hk g hg rfl).trans hgg, rest⟩
theorem kown_setRow {w : World} {B e size n : Nat} {v : Value} {xs : List Value} (h : w.ownsRow B e size v n xs) {g : Nat} (hne : ∀ k, B ≤ k → v.ownBlock = some k → k ≠ g) (cs : Array Value) : (w.setRow g cs).ownsRow B e size v n xs :=
  kown_kept h fun k hk hv => setRow_other w g k cs (hne k hk hv)
theorem kown_empty {w : World} {B e size g : Nat} (h : Blk w g e #[]) (hB : B ≤ g) : w.ownsRow B e size (.slice (some ⟨g, 0, none⟩) 0 0) 0 [] :=
  ⟨by simp, .inr ⟨g, 0, #[], rfl, hB, h, Nat.le_refl _, by unfold maxLen; omega, by simp, by simp⟩⟩
theorem infoU8k : (Try.prog.info? 5).map (fun i => (i.zero, i.size, i.bytes)) = some (some (.int .u8 0), 1, 1) := by kernel_rfl
/-- bytes of an own slice, as a text -/
theorem run_own_text {P : Program} (w : World) (src e dst : TypeId) (hs : P.underlying src = some (.slice e)) (he : P.underlying e = some (.int .u8)) (hd : P.underlying dst = some .string) {B n g cap e' : Nat} {f : Nat → Nat} (h : w.ownsRow B e' 1 (.slice (some ⟨g, 0, none⟩) n cap) n (byL f n)) :
    (convert src dst (.slice (some ⟨g, 0, none⟩) n cap)).run P w = .ok (.string (strN f n)) w :=
  run_convert_bytes_arg w src e hs he g 0 n cap _ (by simp) (fun i hi => by
    rw [Nat.zero_add, h.cellAt i (by omega), byL_at _ _ _ hi]
    simp [List.getD_eq_getElem?_getD, hi]) dst hd
end Go.Proofs.Ytdniigefmlmcdab

namespace Go.Proofs.Ytdniigefmlmcdab
open Go Go.RowKit
set_option linter.unusedSimpArgs false
set_option linter.unusedVariables false

/-- a slot, as a plain thing: the counter, the root's number, its digest -/
abbrev Sl := Nat × Nat × Vector Nat 32
def slF (s : Sl) : Nat → Value := fun i => if i = 0 then .int .u64 ((s.1 : Nat) : Int) else if i = 1 then .int .u32 ((s.2.1 : Nat) : Int) else .int .u8 ((dF s.2.2 (i - 2) : Nat) : Int)
def slC (s : Sl) : Array Value := va 34 (slF s)
def slV (s : Sl) : Value := .agg (slC s)
def sumD (f : Nat → Nat) : Vector Nat 32 := Vector.ofFn fun i : Fin 32 => f i.1
theorem dF_sumD (f : Nat → Nat) (i : Nat) (hi : i < 32) : dF (sumD f) i = f i := by
  unfold dF sumD
  simp [hi]
theorem dK_sumD (f : Nat → Nat) : dK (sumD f) = .agg (va 32 (iv .u8 f)) := by
  unfold dK
  rw [va_congr (f := iv .u8 (dF (sumD f))) (g := iv .u8 f) fun i hi => by unfold iv; rw [dF_sumD f i hi]]
def sl0 : Sl := (0, 0, Vector.replicate 32 0)
theorem slC_size (s : Sl) : (slC s).size = 34 := va_size _ _
theorem slC_one (s : Sl) : ∀ u ∈ (slC s).toList, u.oneCell' = true := fun u hu => by
  unfold slC at hu
  rw [va_toList] at hu
  obtain ⟨i, _, rfl⟩ := List.mem_map.1 hu
  unfold slF
  split
  · rfl
  · split <;> rfl
theorem slC_all (s : Sl) : (slC s).all (·.oneCell') = true := va_one fun i _ => by
  unfold slF
  split
  · rfl
  · split <;> rfl
theorem va_extract (n o m : Nat) (f : Nat → Value) (h : o + m ≤ n) : (va n f).extract o (o + m) = va m fun i => f (o + i) := by
  refine va_ext (by rw [Array.size_extract, va_size]; omega) fun i hi => ?_
  rw [Array.getElem?_extract, va_size]
  rw [if_pos (by omega)]
  exact va_at f (by omega)
theorem slot_root (s : Sl) : (fun i => slF s (1 + i)) = fun i => if i = 0 then .int .u32 ((s.2.1 : Nat) : Int) else .int .u8 ((dF s.2.2 (i - 1) : Nat) : Int) := by
  funext i
  unfold slF
  rw [if_neg (by omega)]
  by_cases h : i = 0
  · subst h
    rfl
  · rw [if_neg (by omega), if_neg h, show 1 + i - 2 = i - 1 by omega]
def rfF (a : Nat) (d : Vector Nat 32) : Nat → Value := fun i => if i = 0 then .int .u32 ((a : Nat) : Int) else .int .u8 ((dF d (i - 1) : Nat) : Int)
theorem rf_sum (a : Nat) (d : Vector Nat 32) : (va 32 fun i => rfF a d (1 + i)) = va 32 (iv .u8 (dF d)) := va_congr fun i _ => by
  unfold rfF iv
  rw [if_neg (by omega), show 1 + i - 1 = i by omega]
theorem sl_sum (s : Sl) : (va 32 fun i => slF s (2 + i)) = va 32 (iv .u8 (dF s.2.2)) := va_congr fun i _ => by
  unfold slF iv
  rw [if_neg (by omega), if_neg (by omega), show 2 + i - 2 = i by omega]
theorem size_at (t n : Nat) (h : (Try.prog.info? t).map (·.size) = some n) (w : World) : (sizeOf t).run Try.prog w = .ok n w := by
  cases hq : Try.prog.info? t with
  | none => simp [hq] at h
  | some i =>
    have hi : i.size = n := by simpa [hq] using h
    simp [sizeOf, typeInfo, hq, hi]
theorem slSizeRef : (Try.prog.info? 35).map (·.size) = some 33 := by kernel_rfl
theorem sizeSm : (Try.prog.info? 33).map (·.size) = some 32 := by kernel_rfl
theorem part_root (s : Sl) (w : World) : (part 35 (slC s) 1).run Try.prog w = .ok (.agg (va 33 (rfF s.2.1 s.2.2))) w := by
  have e : (slC s).extract 1 (1 + 33) = va 33 (rfF s.2.1 s.2.2) := by
    unfold slC
    rw [va_extract 34 1 33 _ (by decide), slot_root]
    rfl
  simp [part, isAgg, run_underlying Try.underlying35, size_at _ _ slSizeRef]
  exact e
theorem part_sum (a : Nat) (d : Vector Nat 32) (w : World) : (part 33 (va 33 (rfF a d)) 1).run Try.prog w = .ok (dK d) w := by
  have e : (va 33 (rfF a d)).extract 1 (1 + 32) = va 32 (iv .u8 (dF d)) := by
    rw [va_extract 33 1 32 _ (by decide), rf_sum]
  simp [part, isAgg, run_underlying Try.underlying33, size_at _ _ sizeSm]
  unfold dK
  rw [← e]
theorem part_int (t : TypeId) (k : IntKind) (h : Try.prog.underlying t = some (.int k)) (cs : Array Value) (o : Nat) (v : Value) (hv : cs[o]? = some v) (w : World) : (part t cs o).run Try.prog w = .ok v w := by
  simp [part, isAgg, run_underlying h, hv]
set_option maxRecDepth 100000 in
theorem eq_digAt (d : Nat) (t : TypeId) (ht : Try.prog.underlying t = some (.array 32 5)) (a b : Vector Nat 32) (w : World) : (Op.equalIn (d + 1 + 1) t (dK a) (dK b)).run Try.prog w = .ok (decide (a = b)) w := by
  obtain ⟨i, hi⟩ : ∃ i, Try.prog.info? 5 = some i := Option.isSome_iff_exists.1 (by kernel_rfl)
  have hc : Try.prog.cellsOf 5 = 1 := by kernel_rfl
  unfold dK
  rw [run_equalIn_array w (d + 1) (va 32 (iv .u8 (dF a))) (va 32 (iv .u8 (dF b))) ht hi, hc,
    run_items d Try.underlying5 (fun i => ((dF a i : Nat) : Int)) (fun i => ((dF b i : Nat) : Int)) (va 32 (iv .u8 (dF a))) (va 32 (iv .u8 (dF b))) _ (fun i hi => ⟨va_at (iv .u8 (dF a)) (by simpa using hi), va_at (iv .u8 (dF b)) (by simpa using hi)⟩)]
  congr 1
  rw [Bool.eq_iff_iff, List.all_eq_true, decide_eq_true_eq]
  constructor
  · intro h
    refine dF_inj fun i hi => ?_
    have := h i (by simpa using hi)
    simp only [beq_iff_eq] at this
    omega
  · rintro rfl i _
    simp
/-- two structs of two fields compared -/
theorem run_eq_two {P : Program} {w : World} {d : Nat} {t t1 t2 o1 o2 : Nat} {cs ds : Array Value} {x1 y1 x2 y2 : Value} {b1 b2 : Bool} (hu : P.underlying t = some (.struct (P.fieldsOf t))) (hp : P.stoodInHeld t = false)
    (hf : (P.fieldsOf t).toList.map (fun f => (f.name == "_", f.type, f.offset)) = [(false, t1, o1), (false, t2, o2)])
    (p1 : (part t1 cs o1).run P w = .ok x1 w) (q1 : (part t1 ds o1).run P w = .ok y1 w) (p2 : (part t2 cs o2).run P w = .ok x2 w) (q2 : (part t2 ds o2).run P w = .ok y2 w)
    (h1 : (Op.equalIn d t1 x1 y1).run P w = .ok b1 w) (h2 : (Op.equalIn d t2 x2 y2).run P w = .ok b2 w) : (Op.equalIn (d + 1) t (.agg cs) (.agg ds)).run P w = .ok (b1 && b2) w := by
  rw [run_equalIn_struct w d t cs ds hu hp]
  obtain ⟨f, l1, e1, hf1, hl1⟩ := List.map_eq_cons_iff.1 hf
  obtain ⟨g, l2, e2, hg1, hl2⟩ := List.map_eq_cons_iff.1 hl1
  have e3 := List.map_eq_nil_iff.1 hl2
  subst e3 e2
  rw [e1]
  simp only [Prod.mk.injEq] at hf1 hg1
  obtain ⟨n1, rfl, rfl⟩ := hf1
  obtain ⟨n2, rfl, rfl⟩ := hg1
  have n1' : f.name ≠ "_" := by simpa using n1
  have n2' : g.name ≠ "_" := by simpa using n2
  unfold Op.eqFields
  rw [if_pos n1']
  unfold Op.eqFields
  rw [if_pos n2']
  simp only [Sem.run_bind, p1, q1, Result.andThen_ok, h1]
  cases b1
  · simp
  · simp only [Bool.not_true, Bool.false_eq_true, if_false, Sem.run_bind, p2, q2, Result.andThen_ok, h2]
    cases b2
    · simp
    · simp [Op.eqFields]
theorem eq_root (d : Nat) (a b : Nat) (x y : Vector Nat 32) (w : World) : (Op.equalIn (d + 1 + 1 + 1) 35 (.agg (va 33 (rfF a x))) (.agg (va 33 (rfF b y)))).run Try.prog w = .ok (decide ((a, x) = (b, y))) w := by
  have h1 : (Op.equalIn (d + 1 + 1) 31 (.int .u32 (a : Int)) (.int .u32 (b : Int))).run Try.prog w = .ok ((a : Int) == (b : Int)) w := by simp [Op.equalIn, run_underlying Try.underlying31]
  have h2 := eq_digAt d 33 Try.underlying33 x y w
  have hd : decide ((a, x) = (b, y)) = (((a : Int) == (b : Int)) && decide (x = y)) := by
    rw [Bool.eq_iff_iff]
    simp only [decide_eq_true_eq, Bool.and_eq_true, beq_iff_eq, Prod.mk.injEq]
    constructor
    · rintro ⟨h, k⟩
      exact ⟨by omega, k⟩
    · rintro ⟨h, k⟩
      exact ⟨by omega, k⟩
  rw [hd]
  have p1 : (part 31 (va 33 (rfF a x)) 0).run Try.prog w = .ok (.int .u32 ((a : Nat) : Int)) w := part_int _ _ Try.underlying31 _ _ _ (va_at (rfF a x) (by decide)) w
  have q1 : (part 31 (va 33 (rfF b y)) 0).run Try.prog w = .ok (.int .u32 ((b : Nat) : Int)) w := part_int _ _ Try.underlying31 _ _ _ (va_at (rfF b y) (by decide)) w
  have p2 := part_sum a x w
  have q2 := part_sum b y w
  generalize va 33 (rfF a x) = cs at *
  generalize va 33 (rfF b y) = ds at *
  have hu : Try.prog.underlying 35 = some (.struct (Try.prog.fieldsOf 35)) := by kernel_rfl
  have hp : Try.prog.stoodInHeld 35 = false := by kernel_rfl
  have hf : (Try.prog.fieldsOf 35).toList.map (fun f => (f.name == "_", f.type, f.offset)) = [(false, 31, 0), (false, 33, 1)] := by kernel_rfl
  exact run_eq_two hu hp hf p1 q1 p2 q2 h1 h2
theorem part_counter (s : Sl) (w : World) : (part 144 (slC s) 0).run Try.prog w = .ok (.int .u64 ((s.1 : Nat) : Int)) w := part_int _ _ Try.underlying144 _ _ _ (va_at (slF s) (by decide)) w
theorem built_refD (a : Nat) (d : Vector Nat 32) : Try.prog.built 35 [(0, .int .u32 (a : Int)), (1, .agg (va 32 (iv .u8 (dF d))))] = some (va 33 (rfF a d)) := by kernel_rfl
theorem built_ref (a : Nat) (f : Nat → Nat) : Try.prog.built 35 [(0, .int .u32 (a : Int)), (1, .agg (va 32 (iv .u8 f)))] = some (va 33 (rfF a (sumD f))) := by
  have e : va 32 (iv .u8 f) = va 32 (iv .u8 (dF (sumD f))) := va_congr fun i hi => by unfold iv; rw [dF_sumD f i hi]
  exact (congrArg (fun z => Try.prog.built 35 [(0, .int .u32 (a : Int)), (1, .agg z)]) e).trans (built_refD a (sumD f))
theorem built_ref1 (a : Nat) : Try.prog.built 35 [(0, .int .u32 (a : Int))] = some (va 33 (rfF a (Vector.replicate 32 0))) := by kernel_rfl
/-- all cells of a list of slots -/
def slL (L : List Sl) : List Value := L.flatMap fun s => (slC s).toList
theorem slL_length (L : List Sl) : (slL L).length = L.length * 34 := by
  induction L with
  | nil => rfl
  | cons s L ih =>
    have e : slL (s :: L) = (slC s).toList ++ slL L := rfl
    rw [e, List.length_append, ih, Array.length_toList, slC_size, List.length_cons]
    omega
theorem slL_at : ∀ (L : List Sl) (i j : Nat) (s : Sl), L[i]? = some s → j < 34 → (slL L)[i * 34 + j]? = some (slF s j)
  | [], i, j, s, h, hj => by simp at h
  | x :: L, 0, j, s, h, hj => by
    have e : slL (x :: L) = (slC x).toList ++ slL L := rfl
    simp at h
    subst h
    rw [e, List.getElem?_append_left (by rw [Array.length_toList, slC_size]; omega)]
    rw [Nat.zero_mul, Nat.zero_add]
    have := va_at (slF x) hj
    unfold slC
    simpa using this
  | x :: L, i + 1, j, s, h, hj => by
    have e : slL (x :: L) = (slC x).toList ++ slL L := rfl
    have := slL_at L i j s (by simpa using h) hj
    rw [e, List.getElem?_append_right (by rw [Array.length_toList, slC_size]; omega), Array.length_toList, slC_size, ← this]
    congr 1
    omega
theorem slL_snoc (L : List Sl) (s : Sl) : slL (L ++ [s]) = slL L ++ (slC s).toList := by simp [slL]
end Go.Proofs.Ytdniigefmlmcdab

namespace Go.Proofs.Ytdniigefmlmcdab
open Go.RowKit
set_option linter.unusedSimpArgs false
set_option linter.unusedVariables false

set_option maxRecDepth 100000 in
set_option maxHeartbeats 4000000 in
theorem textOf_any (f : Nat → Nat) (w : World) :
    Calls Try.prog 49 #[bkV f] w fun e w' => e = .returned (.string (strN f 256)) ∧ Below w.heap.size w w' := by
  unfold bkV
  have b0 := Blk.new w 23 (va 256 (iv .u8 f))
  have hb := below_new1 w (Obj.cells (va 256 (iv IntKind.u8 f)) 23)
  have hc := run_bytes_text (P := Try.prog) (w.alloc (Obj.cells (va 256 (iv IntKind.u8 f)) 23)) 119 5 9 Try.underlying119 Try.underlying5 Try.underlying9 b0 0 256 256 (by omega)
  have hx : strN (fun j => f (0 + j)) 256 = strN f 256 := strN_congr fun j _ => by rw [Nat.zero_add]
  rw [hx] at hc
  go_enter Try.func49, Try.ntmps49
  go_wp2_with fail
  go_ret
  exact ⟨rfl, hb⟩
end Go.Proofs.Ytdniigefmlmcdab

namespace Go.Proofs.Ytdniigefmlmcdab
open Go.RowKit
set_option linter.unusedSimpArgs false
set_option linter.unusedVariables false

theorem fold_set : ∀ (l : List Value) (k : Nat) (A : Array Value), k + l.length ≤ A.size →
    ((l.zipIdx k).foldl (fun cs (x : Value × Nat) => cs.setIfInBounds (0 + x.2) x.1) A).size = A.size ∧
    ∀ i, ((l.zipIdx k).foldl (fun cs (x : Value × Nat) => cs.setIfInBounds (0 + x.2) x.1) A)[i]? = if k ≤ i ∧ i < k + l.length then l[i - k]? else A[i]?
  | [], k, A, h => ⟨rfl, fun i => by simp; omega⟩
  | v :: l, k, A, h => by
    rw [List.zipIdx_cons, List.foldl_cons]
    obtain ⟨h1, h2⟩ := fold_set l (k + 1) (A.setIfInBounds (0 + k) v) (by simp at h ⊢; omega)
    refine ⟨by rw [h1]; simp, fun i => ?_⟩
    rw [h2 i]
    simp at h
    by_cases hi : i = k
    · subst hi
      rw [if_neg (by omega), if_pos (by simp), Nat.zero_add, Array.getElem?_setIfInBounds, if_pos rfl, if_pos (by omega), Nat.sub_self]
      rfl
    · by_cases hj : k + 1 ≤ i ∧ i < k + 1 + l.length
      · rw [if_pos hj, if_pos (by simp; omega)]
        obtain ⟨d, hd⟩ : ∃ d, i - k = d + 1 := ⟨i - k - 1, by omega⟩
        rw [hd, List.getElem?_cons_succ, show i - (k + 1) = d by omega]
      · rw [if_neg hj, if_neg (by simp; omega), Array.getElem?_setIfInBounds, if_neg (by omega)]
theorem fill_one (n : Nat) (cells cs : Array Value) (h1 : cells.size = n) (h2 : cs.size = n) : Instr.fill (fun i => some (i * n, n)) cells [(0, .agg cs)] = some cs := by
  have hc : (Value.agg cs).cells = cs := rfl
  unfold Instr.fill
  simp only [hc, h2, h1, ne_eq, not_true_eq_false, decide_false, Bool.false_or, Nat.zero_mul, Nat.zero_add, Nat.lt_irrefl, decide_false, gt_iff_lt, if_false, Bool.false_eq_true]
  unfold Instr.fill
  congr 1
  obtain ⟨e1, e2⟩ := fold_set cs.toList 0 cells (by simp [h1, h2])
  apply Array.ext_getElem?
  intro i
  have := e2 i
  simp only [Nat.zero_add] at this e1
  have e3 : cs.zipIdx.foldl (fun cs (x : Value × Nat) => match x with | (c, j) => cs.setIfInBounds j c) cells = (cs.toList.zipIdx 0).foldl (fun cs (x : Value × Nat) => cs.setIfInBounds x.2 x.1) cells := by
    rw [← Array.foldl_toList]
    simp
  rw [e3, this]
  by_cases hi : i < cs.size
  · rw [if_pos (by simpa using hi)]
    simp
  · rw [if_neg (by simpa using hi), Array.getElem?_eq_none (by omega), Array.getElem?_eq_none (by omega)]
/-- a slice of one array -/
theorem wpList_build1 {P : Program} {ops : Array Oper} {rest : List Oper} {o : Oper} {a : Act} {w : World} {Q : Exit → Act → World → Prop} (hg : o.guard = none) (t e : TypeId) (x : Operand) (ho : o.op = .buildSlice t 1 #[(0, x)])
    (cs : Array Value) (hx : a.eval x = .agg cs) (ie : TypeInfo) (z : Value) (n : Nat)
    (hu : P.underlying t = some (.slice e)) (hie : P.info? e = some ie) (hz : ie.zero = some z) (hn : ie.size = n) (hcs : cs.size = n) (h0 : 0 < n) (h24 : n ≤ 16777216)
    (h : wpList P ops Q rest (a.put o.dst (.slice (some ⟨w.heap.size, 0, none⟩) 1 1)) (w.alloc (.cells cs e))) : wpList P ops Q (o :: rest) a w := by
  refine wpList_buildSlice hg t e 1 _ ho cs ie z hu hie hz (by rw [hn]; omega) (by rw [hn]; omega) ?_ h
  rw [hn]
  have e1 : (Array.map (fun (x : Nat × Operand) => match x with | (i, x) => (i, a.eval x)) #[(0, x)]).toList = [(0, Value.agg cs)] := by
    simp [hx]
  rw [e1]
  exact fill_one n _ _ (by simp) hcs
theorem infoBk : (Try.prog.info? 23).map (fun i => (i.zero, i.size, i.bytes)) = some (some (.agg (va 256 (iv .u8 fun _ => 0))), 256, 256) := by kernel_rfl

/-- a block of a slice, loaded -/
theorem wpList_load_blk {P : Program} {ops : Array Oper} {rest : List Oper} {op : Oper} {a : Act} {w : World} {Q : Exit → Act → World → Prop} (hgd : op.guard = none) (ty : TypeId) (x : Operand) (ho : op.op = .load ty x)
    (b o n : Nat) (f : Nat → Value) (hx : a.eval x = .pointer (some ⟨b, o, none⟩)) (d : TypeDesc) (hc : w.rangeAt b o ((List.range n).map f))
    (hu : P.underlying ty = some d) (hd : d.isRow = true) (hi : (P.info? ty).map (·.size) = some n)
    (h : wpList P ops Q rest (a.put op.dst (.agg (va n f))) w) : wpList P ops Q (op :: rest) a w :=
  wpList_load_mid hgd ty x ho b o hx _ d hc hu hd (hi.trans (by simp)) h
/-- into how many leaves a text is cut -/
def leavesN (n : Nat) : Nat := (n + 255) / 256
theorem leaf_cells (s sv : ByteArray) (k : Nat) (hsv : ∀ j, tbyte sv j = tbyte s (256 * k + j)) : byL (tbyte s) ((k + 1) * 256) = byL (tbyte s) (k * 256) ++ (va 256 (iv .u8 (tbyte sv))).toList := by
  rw [show (k + 1) * 256 = k * 256 + 256 by omega, byL_add, va_toList]
  congr 1
  unfold byL
  refine List.map_congr_left fun j _ => ?_
  unfold iv
  rw [hsv j, show 256 * k + j = k * 256 + j by omega]
theorem cells_new (w : World) (cs : Array Value) (t : TypeId) : ∀ j u, cs.toList[j]? = some u → (w.alloc (.cells cs t)).cell? ((⟨w.heap.size, 0, none⟩ : Addr).add j) = some u := fun j u hu => by
  have hb : Blk (w.alloc (.cells cs t)) w.heap.size t cs := Blk.new w t cs
  rw [Addr.add_mid, Nat.zero_add, hb.cell]
  simpa using hu
theorem kva_mem_one (n : Nat) (f : Nat → Nat) : ∀ v ∈ (va n (iv .u8 f)).toList, v.oneCell' = true := fun v hv => by
  rw [va_toList] at hv
  obtain ⟨i, _, rfl⟩ := List.mem_map.1 hv
  rfl
theorem drop_byte (s sv : ByteArray) (k n : Nat) (hsv : ∀ j, tbyte sv j = tbyte s (256 * k + j)) (hn : n ≤ sv.size) (hn2 : n = 256 ∨ n = sv.size) (hn3 : n ≤ 256) (hs : 256 * k + sv.size = s.size) : ∀ j, tbyte (sv.extract n sv.size) j = tbyte s (256 * (k + 1) + j) := fun j => by
  have hsz := extract_size sv n sv.size (Nat.le_refl _)
  by_cases hj : n + j < sv.size
  · rw [tbyte_extract sv n sv.size j (Nat.le_refl _) hj, hsv]
    congr 1
    omega
  · rw [tbyte_out _ _ (by omega)]
    rw [tbyte_out s _ (by omega)]

/-- a slice of blocks that the program made, told as one that is handed on -/
theorem own_blks {w : World} {B : Nat} {e : TypeId} {v : Value} {c : Nat} {F : Nat → Nat} (h : w.ownsRow B e 256 v c (byL F (c * 256))) : ∃ a cap, v = .slice a c cap ∧ IsBlks w a c fun i j => F (256 * i + j) := by
  rcases h.2 with ⟨rfl, rfl⟩ | ⟨g, cap, cur, rfl, hb, hg, hcap, _, hsz, htake⟩
  · exact ⟨none, 0, rfl, fun i hi => absurd hi (by omega)⟩
  · refine ⟨_, cap, rfl, fun i hi => ⟨g, 0, rfl, (Array.getElem?_eq_some_iff.1 hg).1, fun j u hu => ?_⟩⟩
    have hj : j < 256 := by
      have := (List.getElem?_eq_some_iff.1 hu).1
      simpa using this
    rw [show 0 + i * 256 + j = i * 256 + j by omega, h.cellAt (i * 256 + j) (by omega), byL_at _ _ _ (by omega), ← hu]
    simp [hj, iv, show 256 * i + j = i * 256 + j by omega]
end Go.Proofs.Ytdniigefmlmcdab

namespace Go.Proofs.Ytdniigefmlmcdab
open Go Go.RowKit
set_option linter.unusedSimpArgs false
set_option linter.unusedVariables false

theorem tbyte_get (s : ByteArray) (i : Nat) (h : i < s.size) : tbyte s i = s[i].toNat := by
  have h' : i < s.data.size := h
  simp [tbyte, List.getD]
  rw [Array.getElem?_eq_getElem h']; rfl
def at4 (s : ByteArray) (a : Nat) : Nat := le4 (tbyte s a) (tbyte s (a + 1)) (tbyte s (a + 2)) (tbyte s (a + 3))
theorem at4_lt (s : ByteArray) (a : Nat) : at4 s a < 4294967296 := by
  have := tbyte_lt s a; have := tbyte_lt s (a + 1); have := tbyte_lt s (a + 2); have := tbyte_lt s (a + 3); unfold at4 le4; omega
theorem below_bytesWorld (w : World) (e : TypeId) (s : ByteArray) : Below w.heap.size w (Lib.bytesWorld w e s) :=
  ⟨rfl, rfl, rfl, by rw [Lib.bytesWorld_size]; omega, fun k hk => Lib.bytesWorld_at_old w e s k hk⟩
theorem tbyte_extract0 (s : ByteArray) (a k j : Nat) (hj : j < k) : tbyte (s.extract a (a + k)) j = tbyte s (a + j) := by
  unfold tbyte
  rw [ByteArray.data_extract]
  simp [List.getD, hj]
theorem bw_cell (w : World) (s : ByteArray) (a k j : Nat) (hj : j < k) (h : a + k ≤ s.size) :
    (Lib.bytesWorld w 5 (s.extract a (a + k))).cell? ⟨w.heap.size, j, none⟩ = some (.int .u8 ((tbyte s (a + j) : Nat) : Int)) := by
  rw [Lib.bytesWorld_cell w 5 _ j (by simp; omega)]
  rw [← tbyte_extract0 s a k j hj]; rfl
end Go.Proofs.Ytdniigefmlmcdab

namespace Go.Proofs.Ytdniigefmlmcdab
open Go Go.RowKit
set_option linter.unusedSimpArgs false
set_option linter.unusedVariables false

/-- a reference, as a plain thing -/
abbrev Rf := Nat × Vector Nat 32
def rfC (r : Rf) : Array Value := va 33 (rfF r.1 r.2)
def rf0 : Rf := (0, Vector.replicate 32 0)
theorem rfC_size (r : Rf) : (rfC r).size = 33 := va_size _ _
theorem rfF_one (a : Nat) (d : Vector Nat 32) (i : Nat) : (rfF a d i).oneCell' = true := by
  unfold rfF
  split <;> rfl
theorem rfC_all (r : Rf) : (rfC r).all (·.oneCell') = true := va_one fun i _ => rfF_one _ _ _
/-- is a reference right? -/
def rOk (r : Rf) : Bool := decide (r = rf0) || decide (r.1 ≠ 0)
/-- four references, a node -/
def kdF (K : Nat → Rf) : Nat → Value := fun i => rfF (K (i / 33)).1 (K (i / 33)).2 (i % 33)
def kdC (K : Nat → Rf) : Array Value := va 132 (kdF K)
def ndF (l : Int) (K : Nat → Rf) : Nat → Value := fun i => if i = 0 then .int .i64 l else kdF K (i - 1)
def ndC (l : Int) (K : Nat → Rf) : Array Value := va 133 (ndF l K)
theorem kdC_size (K : Nat → Rf) : (kdC K).size = 132 := va_size _ _
theorem ndC_size (l : Int) (K : Nat → Rf) : (ndC l K).size = 133 := va_size _ _
theorem kdC_all (K : Nat → Rf) : (kdC K).all (·.oneCell') = true := va_one fun i _ => rfF_one _ _ _
theorem ndC_all (l : Int) (K : Nat → Rf) : (ndC l K).all (·.oneCell') = true := va_one fun i _ => by
  unfold ndF
  split
  · rfl
  · exact rfF_one _ _ _
theorem kdF_at (K : Nat → Rf) (i j : Nat) (hj : j < 33) : kdF K (i * 33 + j) = rfF (K i).1 (K i).2 j := by
  unfold kdF
  rw [show (i * 33 + j) / 33 = i by omega, show (i * 33 + j) % 33 = j by omega]
theorem ndF_at (l : Int) (K : Nat → Rf) (i j : Nat) (hj : j < 33) : ndF l K (1 + i * 33 + j) = rfF (K i).1 (K i).2 j := by
  unfold ndF
  rw [if_neg (by omega), show 1 + i * 33 + j - 1 = i * 33 + j by omega, kdF_at K i j hj]
theorem kd_extract (K : Nat → Rf) (i : Nat) (hi : i < 4) : (kdC K).extract (i * 33) (i * 33 + 33) = rfC (K i) := by
  unfold kdC rfC
  rw [va_extract 132 (i * 33) 33 _ (by omega)]
  exact va_congr fun j hj => kdF_at K i j hj
theorem nd_extract (l : Int) (K : Nat → Rf) : (ndC l K).extract 1 (1 + 132) = kdC K := by
  unfold ndC kdC
  rw [va_extract 133 1 132 _ (by omega)]
  refine va_congr fun j hj => ?_
  unfold ndF
  rw [if_neg (by omega), show 1 + j - 1 = j by omega]
theorem kd_congr {K K' : Nat → Rf} (h : ∀ i, i < 4 → K i = K' i) : kdC K = kdC K' := va_congr fun i hi => by
  unfold kdF
  rw [h _ (by omega)]
theorem nd_congr {l : Int} {K K' : Nat → Rf} (h : ∀ i, i < 4 → K i = K' i) : ndC l K = ndC l K' := va_congr fun i hi => by
  unfold ndF kdF
  by_cases h0 : i = 0
  · rw [if_pos h0, if_pos h0]
  · rw [if_neg h0, if_neg h0, h _ (by omega)]
theorem ndSize32 : (Try.prog.info? 32).map (·.size) = some 32 := by kernel_rfl
theorem zero_of {t : TypeId} {v : Value} (h : (Try.prog.info? t).bind (·.zero) = some v) (w : World) : (zeroValue t).run Try.prog w = .ok v w := by
  cases hq : Try.prog.info? t with
  | none => simp [hq] at h
  | some i =>
    have hi : i.zero = some v := by simpa [hq] using h
    simp [zeroValue, typeInfo, hq, hi]
theorem zero_ref (w : World) : (zeroValue 35).run Try.prog w = .ok (.agg (rfC rf0)) w := zero_of (by kernel_rfl) w
theorem zero_256 (w : World) : (zeroValue 22).run Try.prog w = .ok (.agg (va 256 (iv .u8 fun _ => 0))) w := zero_of (by kernel_rfl) w
theorem built_ref0 : Try.prog.built 35 [] = some (rfC rf0) := by kernel_rfl
/-- items of an array compared, whatever they are -/
theorem run_items_any {P : Program} {w : World} {e : TypeId} (d c : Nat) (X Y : Nat → Value) (b : Nat → Bool) (xs ys : Array Value) :
    ∀ is : List Nat, (∀ i ∈ is, (part e xs (i * c)).run P w = .ok (X i) w ∧ (part e ys (i * c)).run P w = .ok (Y i) w ∧ (Op.equalIn d e (X i) (Y i)).run P w = .ok (b i) w) → (Op.eqItems d e c xs ys is).run P w = .ok (is.all b) w
  | [], _ => by simp [Op.eqItems]
  | i :: is, h => by
    obtain ⟨p1, p2, p3⟩ := h i (by simp)
    have ih := run_items_any (w := w) d c X Y b xs ys is fun j hj => h j (by simp [hj])
    simp only [Op.eqItems, Sem.run_bind, p1, p2, p3, Result.andThen_ok]
    cases hq : b i
    · simp only [Bool.not_false, if_true, Sem.run_pure, List.all_cons, hq, Bool.false_and]
    · simp only [Bool.not_true, Bool.false_eq_true, if_false, ih, List.all_cons, hq, Bool.true_and]
theorem part_agg (t n : Nat) (u : TypeDesc) (hu : Try.prog.underlying t = some u) (hd : u.isRow = true) (hs : (Try.prog.info? t).map (·.size) = some n) (cs ds : Array Value) (o : Nat) (he : cs.extract o (o + n) = ds) (w : World) : (part t cs o).run Try.prog w = .ok (.agg ds) w := by
  cases u <;> simp [TypeDesc.isRow] at hd <;> simp [part, isAgg, run_underlying hu, size_at _ _ hs, he]
/-- two references compared -/
theorem eq_ref (d : Nat) (a b : Rf) (w : World) : (Op.equalIn (d + 1 + 1 + 1) 35 (.agg (rfC a)) (.agg (rfC b))).run Try.prog w = .ok (decide (a = b)) w := eq_root d a.1 b.1 a.2 b.2 w
theorem part_sum32 (a : Nat) (d : Vector Nat 32) (w : World) : (part 32 (va 33 (rfF a d)) 1).run Try.prog w = .ok (dK d) w :=
  part_agg _ 32 _ Try.underlying32 rfl ndSize32 _ _ 1 (by rw [va_extract 33 1 32 _ (by decide), rf_sum]) w
/-- two nodes are the same -/
abbrev ndSame (l : Int) (K : Nat → Rf) (l' : Int) (K' : Nat → Rf) : Prop := l = l' ∧ ∀ i, i < 4 → K i = K' i
theorem eq_nodeAt (t tk tr : TypeId) (hk : Try.prog.underlying tk = some (.array 4 tr)) (ur : TypeDesc) (hur : Try.prog.underlying tr = some ur) (hrr : ur.isRow = true) (hsr : (Try.prog.info? tr).map (·.size) = some 33) (hcr : Try.prog.cellsOf tr = 33)
    (hsk : (Try.prog.info? tk).map (·.size) = some 132) (hu : Try.prog.underlying t = some (.struct (Try.prog.fieldsOf t))) (hp : Try.prog.stoodInHeld t = false)
    (hf : (Try.prog.fieldsOf t).toList.map (fun f => (f.name == "_", f.type, f.offset)) = [(false, 3, 0), (false, tk, 1)])
    (HR : ∀ (d : Nat) (a b : Rf) (w : World), (Op.equalIn (d + 1 + 1 + 1) tr (.agg (rfC a)) (.agg (rfC b))).run Try.prog w = .ok (decide (a = b)) w)
    (l l' : Int) (K K' : Nat → Rf) (w : World) : (Op.equalIn 10000 t (.agg (ndC l K)) (.agg (ndC l' K'))).run Try.prog w = .ok (decide (ndSame l K l' K')) w := by
  obtain ⟨ir, hir⟩ : ∃ i, Try.prog.info? tr = some i := by
    cases hq : Try.prog.info? tr with
    | none => simp [hq] at hsr
    | some i => exact ⟨i, rfl⟩
  have h1 : ∀ d, (Op.equalIn (d + 1) 3 (.int .i64 l) (.int .i64 l')).run Try.prog w = .ok (l == l') w := fun d => by simp [Op.equalIn, run_underlying Try.underlying3]
  have h2 : (Op.equalIn 9999 tk (.agg (kdC K)) (.agg (kdC K'))).run Try.prog w = .ok ((List.range 4).all fun i => decide (K i = K' i)) w := by
    rw [show (9999 : Nat) = 9998 + 1 from rfl, run_equalIn_array w 9998 (kdC K) (kdC K') hk hir, hcr]
    refine run_items_any 9998 33 (fun i => .agg (rfC (K i))) (fun i => .agg (rfC (K' i))) _ _ _ _ fun i hi => ?_
    have hi4 : i < 4 := by simpa using hi
    exact ⟨part_agg _ 33 _ hur hrr hsr _ _ _ (kd_extract K i hi4) w, part_agg _ 33 _ hur hrr hsr _ _ _ (kd_extract K' i hi4) w, HR 9995 _ _ w⟩
  have hd : decide (ndSame l K l' K') = ((l == l') && (List.range 4).all fun i => decide (K i = K' i)) := by
    rw [Bool.eq_iff_iff, decide_eq_true_eq, Bool.and_eq_true, List.all_eq_true, beq_iff_eq]
    simp only [List.mem_range, decide_eq_true_eq]
  rw [hd]
  have p1 : ∀ (l : Int) (K : Nat → Rf), (part 3 (ndC l K) 0).run Try.prog w = .ok (.int .i64 l) w := fun l K => part_int _ _ Try.underlying3 _ _ _ (va_at (ndF l K) (by decide)) w
  have uk : TypeDesc.isRow (.array 4 tr) = true := rfl
  have p2 : ∀ (l : Int) (K : Nat → Rf), (part tk (ndC l K) 1).run Try.prog w = .ok (.agg (kdC K)) w := fun l K => part_agg _ 132 _ hk uk hsk _ _ 1 (nd_extract l K) w
  exact run_eq_two hu hp hf (p1 l K) (p1 l' K') (p2 l K) (p2 l' K') (h1 9998) h2
/-- texts one behind the other -/
theorem tbyte_append (s t : ByteArray) (j : Nat) : tbyte (s ++ t) j = if j < s.size then tbyte s j else tbyte t (j - s.size) := by
  have hs : s.data.toList.length = s.size := Array.length_toList
  have e : (s ++ t).data.toList = s.data.toList ++ t.data.toList := by
    rw [ByteArray.data_append, Array.toList_append]
  unfold tbyte
  rw [e, List.getD_eq_getElem?_getD]
  by_cases h : j < s.size
  · rw [if_pos h, List.getElem?_append_left (by omega), List.getD_eq_getElem?_getD]
  · rw [if_neg h, List.getElem?_append_right (by omega), List.getD_eq_getElem?_getD, hs]
theorem strN_append (f : Nat → Nat) (a b : Nat) (hf : ∀ j, j < a + b → f j < 256) : strN f a ++ strN (fun j => f (a + j)) b = strN f (a + b) := by
  refine text_ext (by rw [ByteArray.size_append, strN_size, strN_size, strN_size]) fun j hj => ?_
  rw [ByteArray.size_append, strN_size, strN_size] at hj
  rw [tbyte_append, strN_size, strN_at f (a + b) j hj (hf j hj)]
  by_cases h : j < a
  · rw [if_pos h, strN_at f a j h (hf j (by omega))]
  · rw [if_neg h]
    have e : a + (j - a) = j := by omega
    rw [strN_at _ b (j - a) (by omega) (by rw [e]; exact hf j hj), e]
/-- a reference's bytes -/
def encR (r : Rf) : Nat → Nat := fun j => if j < 4 then dig r.1 j else dF r.2 (j - 4)
/-- a digest of bytes -/
def okD (d : Vector Nat 32) : Prop := ∀ i, i < 32 → dF d i < 256
theorem encR_lt (r : Rf) (hr : okD r.2) (j : Nat) (hj : j < 36) : encR r j < 256 := by
  unfold encR
  split
  · exact dig_lt _ _
  · exact hr _ (by omega)
theorem okD_zero : okD (Vector.replicate 32 0) := fun i hi => by
  unfold dF
  simp [hi]
theorem okD_sum (f : Nat → Nat) (h : ∀ i, i < 32 → f i < 256) : okD (sumD f) := fun i hi => by
  rw [dF_sumD f i hi]
  exact h i hi
end Go.Proofs.Ytdniigefmlmcdab
