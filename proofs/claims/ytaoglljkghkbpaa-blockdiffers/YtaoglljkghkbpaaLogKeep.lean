/- What a digest asked of one log leaves alone: another log, lists of entries, other blocks. -/
import Derived.Test.YtaoglljkghkbpaaRefPut
import Derived.Handy

namespace Go.Proofs.Ytaoglljkghkbpaa
open Go.RowKit
set_option linter.unusedSimpArgs false
set_option linter.unusedVariables false

theorem infoDig : (Try.prog.info? 68).map (fun i => (i.zero, i.size, i.bytes)) = some (some (.agg (va 32 (iv .u8 fun _ => 0))), 32, 32) := by kernel_rfl
theorem sizeDig : (Try.prog.info? 68).map (·.size) = some 32 := by kernel_rfl
/-- the cells of a digest, and of a row of them -/
def digL (d : Vector Nat 32) : List Value := (List.range 32).map (iv .u8 (dF d))
def sumCells (D : Nat → Vector Nat 32) (k : Nat) : List Value := (List.range k).flatMap fun j => digL (D j)
theorem digL_length (d : Vector Nat 32) : (digL d).length = 32 := by simp [digL]
theorem digL_one (d : Vector Nat 32) : ∀ u ∈ digL d, u.oneCell' = true := fun u hu => by
  unfold digL at hu
  obtain ⟨i, _, rfl⟩ := List.mem_map.1 hu
  rfl
theorem sumCells_succ (D : Nat → Vector Nat 32) (k : Nat) : sumCells D (k + 1) = sumCells D k ++ digL (D k) := by
  unfold sumCells
  rw [List.range_succ, List.flatMap_append]
  simp
theorem sumCells_length (D : Nat → Vector Nat 32) (k : Nat) : (sumCells D k).length = k * 32 := by
  induction k with
  | zero => simp [sumCells]
  | succ k ih => rw [sumCells_succ, List.length_append, ih, digL_length]; omega
theorem sumCells_at (D : Nat → Vector Nat 32) : ∀ (k i j : Nat), i < k → j < 32 → (sumCells D k)[i * 32 + j]? = some (iv .u8 (dF (D i)) j)
  | 0, i, j, hi, hj => by omega
  | k + 1, i, j, hi, hj => by
    rw [sumCells_succ]
    by_cases h : i < k
    · rw [List.getElem?_append_left (by rw [sumCells_length]; omega)]
      exact sumCells_at D k i j h hj
    · obtain rfl : i = k := by omega
      rw [List.getElem?_append_right (by rw [sumCells_length]; omega), sumCells_length, show i * 32 + j - i * 32 = j from by omega]
      simp [digL, hj]
theorem own_range {w : World} {B b k cap : Nat} {D : Nat → Vector Nat 32} (h : w.ownsRow B 68 32 (.slice (some ⟨b, 0, none⟩) k cap) k (sumCells D k)) (i : Nat) (hi : i < k) : w.rangeAt b (i * 32) ((List.range 32).map (iv .u8 (dF (D i)))) := fun j v hv => by
  have hj : j < 32 := by
    have := (List.getElem?_eq_some_iff.1 hv).1
    simpa using this
  rw [h.cellAt (i * 32 + j) (by omega), sumCells_at D k i j hi hj, ← hv]
  simp [hj]
theorem own_slice {w : World} {B e size k : Nat} {v : Value} {xs : List Value} (h : w.ownsRow B e size v k xs) (h0 : 0 < k) : ∃ b cap, v = .slice (some ⟨b, 0, none⟩) k cap ∧ B ≤ b ∧ b < w.heap.size := by
  rcases h.2 with ⟨_, h2⟩ | ⟨b, cap, cur, h1, h2, h3, _⟩
  · omega
  · exact ⟨b, cap, h1, h2, (Array.getElem?_eq_some_iff.1 h3).1⟩

theorem build_dig (f : Nat → Nat) : Array.foldl (fun (cs : Array Value) (x : Value × Nat) => cs.setIfInBounds x.snd x.fst) #[Value.int .u8 0, Value.int .u8 0, Value.int .u8 0, Value.int .u8 0, Value.int .u8 0, Value.int .u8 0, Value.int .u8 0, Value.int .u8 0, Value.int .u8 0, Value.int .u8 0, Value.int .u8 0, Value.int .u8 0, Value.int .u8 0, Value.int .u8 0, Value.int .u8 0, Value.int .u8 0, Value.int .u8 0, Value.int .u8 0, Value.int .u8 0, Value.int .u8 0, Value.int .u8 0, Value.int .u8 0, Value.int .u8 0, Value.int .u8 0, Value.int .u8 0, Value.int .u8 0, Value.int .u8 0, Value.int .u8 0, Value.int .u8 0, Value.int .u8 0, Value.int .u8 0, Value.int .u8 0] (va 32 (iv .u8 f)).zipIdx 0 (va 32 (iv .u8 f)).size = va 32 (iv .u8 f) := by kernel_rfl

end Go.Proofs.Ytaoglljkghkbpaa

namespace Go.Proofs.Ytaoglljkghkbpaa
open Go.RowKit
set_option linter.unusedSimpArgs false
set_option linter.unusedVariables false

theorem own_own {w : World} {B B' e e' size size' n n' k : Nat} {v v' : Value} {xs xs' : List Value} (h : w.ownsRow B e size v n xs) (h' : w.ownsRow B' e' size' v' n' xs') (hne : e ≠ e') (hk : v.ownBlock = some k) : v'.ownBlock ≠ some k := fun hk' => by
  rcases h.2 with ⟨rfl, _⟩ | ⟨b, cap, cur, rfl, _, hg, _⟩
  · simp [Value.ownBlock] at hk
  · rcases h'.2 with ⟨rfl, _⟩ | ⟨b', cap', cur', rfl, _, hg', _⟩
    · simp [Value.ownBlock] at hk'
    · simp [Value.ownBlock] at hk hk'
      subst hk
      subst hk'
      rw [hg] at hg'
      simp at hg'
      exact hne hg'.2
/-- two logs that share no memory -/
def Apart2 (g r : Nat) (v : Value) (g' r' : Nat) (v' : Value) : Prop := g' ≠ g ∧ r' ≠ r ∧ ∀ k, v'.ownBlock = some k → v.ownBlock ≠ some k
/-- all of a log lies from B on -/
def LogFrom (B g r : Nat) (v : Value) : Prop := B ≤ g ∧ B ≤ r ∧ ∀ k, v.ownBlock = some k → B ≤ k
theorem map_blk {w : World} {r g t : Nat} {cs : Array Value} {es : Array MapEntry} {cl : Nat} (hg : w.heap[r]? = some (.map es cl)) (hB : Blk w g t cs) : r ≠ g := fun q => by
  subst q
  unfold Blk at hB
  rw [hB] at hg
  cases hg
section
variable {w w' : World} {g r : Nat} {v : Value} {E : List (Nat × ByteArray)}
theorem LogKeeps.log {g' r' : Nat} {v' : Value} {F : List (Nat × ByteArray)} (hk : LogKeeps g r v w w') (h : LogAt w g r v E) (h' : LogAt w g' r' v' F) (ha : Apart2 g r v g' r' v') : LogAt w' g' r' v' F := by
  obtain ⟨hB, hown, es, cl, hg, _⟩ := h
  obtain ⟨hB', hown', es', cl', hg', he'⟩ := h'
  obtain ⟨a1, a2, a3⟩ := ha
  refine ⟨?_, own_block hown' fun k hkk => ?_, es', cl', ?_, he'⟩
  · unfold Blk
    rw [hk.2.2.2.2 g' hB'.lt a1 (fun q => map_blk hg hB' q.symm) (own_ne hown hB' (by decide))]
    exact hB'
  · refine hk.2.2.2.2 k (hown'.lt k hkk).2 (fun q => ?_) (fun q => ?_) (a3 k hkk)
    · subst q
      exact own_ne hown' hB (by decide) hkk
    · subst q
      exact own_map hown' hg hkk
  · rw [hk.2.2.2.2 r' (Array.getElem?_eq_some_iff.1 hg').1 (map_blk hg' hB) a2 (own_map hown hg')]
    exact hg'
theorem LogKeeps.blk {b t : Nat} {cs : Array Value} (hk : LogKeeps g r v w w') (h : LogAt w g r v E) (hb : Blk w b t cs) (h1 : t ≠ 91) (h2 : 98 ≠ t) : Blk w' b t cs := by
  obtain ⟨hB, hown, es, cl, hg, _⟩ := h
  unfold Blk
  rw [hk.2.2.2.2 b hb.lt (fun q => ?_) (fun q => map_blk hg hb q.symm) (own_ne hown hb h2)]
  · exact hb
  · subst q
    unfold Blk at hB hb
    rw [hB] at hb
    simp at hb
    exact h1 hb.2.symm
theorem LogKeeps.below {B : Nat} (hk : LogKeeps g r v w w') (hf : LogFrom B g r v) (hB : B ≤ w.heap.size) : Below B w w' :=
  ⟨hk.1, hk.2.1, hk.2.2.1, hk.2.2.2.1, fun k hkB => hk.2.2.2.2 k (by omega) (by have := hf.1; omega) (by have := hf.2.1; omega) (fun q => by have := hf.2.2 k q; omega)⟩
theorem LogKeeps.of_below (hb : Below w.heap.size w w') : LogKeeps g r v w w' := ⟨hb.os, hb.tape, hb.output, hb.size, fun k h1 _ _ _ => hb.block k h1⟩
end
theorem LogAt.lts {w : World} {g r : Nat} {v : Value} {E : List (Nat × ByteArray)} (h : LogAt w g r v E) : g < w.heap.size ∧ r < w.heap.size ∧ ∀ k, v.ownBlock = some k → k < w.heap.size := by
  obtain ⟨hB, hown, es, cl, hg, _⟩ := h
  exact ⟨hB.lt, (Array.getElem?_eq_some_iff.1 hg).1, fun k hk => (hown.lt k hk).2⟩
/-- a digest asked of a log -/
theorem logOf_any (tag : Nat) (ht : tag < 256) (s : ByteArray) (hs : s.size ≤ 140737488351232) (g r : Nat) (v : Value) (E : List (Nat × ByteArray)) (hE : E.length ≤ 4000000000000) (w : World) (h : LogAt w g r v E) :
    Calls Try.prog 43 #[.pointer (some ⟨g, 0, none⟩), .int .u8 (tag : Int), .string s] w fun e w' => e = .returned (.agg (va 32 (iv .u8 (sumOf (tag, s))))) ∧ ∃ v', LogAt w' g r v' (putE E (tag, s)) ∧ LogKeeps g r v w w' ∧ (v'.ownBlock = v.ownBlock ∨ ∃ k, v'.ownBlock = some k ∧ w.heap.size ≤ k) := by
  cases hq : isIn (tag, s) E with
  | true =>
    refine (logOf_old tag s g r v E hq w h).mono ?_
    rintro e w' ⟨rfl, hb⟩
    refine ⟨rfl, v, ?_, LogKeeps.of_below hb, .inl rfl⟩
    unfold putE
    rw [hq]
    exact h.below hb
  | false =>
    refine (logOf_new tag ht s hs g r v E hE hq w h).mono ?_
    rintro e w' ⟨rfl, v', h1, h2, h3⟩
    refine ⟨rfl, v', ?_, h2, h3⟩
    unfold putE
    rw [hq]
    exact h1
theorem Apart2.symm {g r : Nat} {v : Value} {g' r' : Nat} {v' : Value} (h : Apart2 g r v g' r' v') : Apart2 g' r' v' g r v := ⟨h.1.symm, h.2.1.symm, fun k h1 h2 => h.2.2 k h2 h1⟩
/-- the first log has grown -/
theorem Apart2.grow {w : World} {g r : Nat} {v u : Value} {g' r' : Nat} {v' : Value} {F : List (Nat × ByteArray)} (h : Apart2 g r v g' r' v') (h' : LogAt w g' r' v' F) (hu : u.ownBlock = v.ownBlock ∨ ∃ k, u.ownBlock = some k ∧ w.heap.size ≤ k) : Apart2 g r u g' r' v' :=
  ⟨h.1, h.2.1, fun k h1 h2 => by
    rcases hu with q | ⟨k', q, hk'⟩
    · rw [q] at h2
      exact h.2.2 k h1 h2
    · rw [q] at h2
      have := h'.lts.2.2 k h1
      injection h2 with h2
      omega⟩
theorem LogFrom.grow {w : World} {B g r : Nat} {v u : Value} (h : LogFrom B g r v) (hB : B ≤ w.heap.size) (hu : u.ownBlock = v.ownBlock ∨ ∃ k, u.ownBlock = some k ∧ w.heap.size ≤ k) : LogFrom B g r u :=
  ⟨h.1, h.2.1, fun k h1 => by
    rcases hu with q | ⟨k', q, hk'⟩
    · rw [q] at h1
      exact h.2.2 k h1
    · rw [q] at h1
      injection h1 with h1
      omega⟩
/-- entries as they may be -/
def OkE (E : List (Nat × ByteArray)) : Prop := ∀ i, i < E.length → (E.getD i (0, ByteArray.empty)).1 < 256 ∧ (E.getD i (0, ByteArray.empty)).2.size ≤ 140737488351232
theorem okE_nil : OkE [] := fun i hi => absurd hi (by simp)
theorem okE_put {E : List (Nat × ByteArray)} {e : Nat × ByteArray} (h : OkE E) (h1 : e.1 < 256) (h2 : e.2.size ≤ 140737488351232) : OkE (putE E e) := by
  unfold putE
  split
  · exact h
  · intro i hi
    by_cases hl : i < E.length
    · have := h i hl
      simpa [List.getD, List.getElem?_append_left hl] using this
    · have : i = E.length := by simp at hi; omega
      subst this
      simpa [List.getD] using ⟨h1, h2⟩
theorem len_put (E : List (Nat × ByteArray)) (e : Nat × ByteArray) : (putE E e).length ≤ E.length + 1 := by
  unfold putE
  split <;> simp
end Go.Proofs.Ytaoglljkghkbpaa
