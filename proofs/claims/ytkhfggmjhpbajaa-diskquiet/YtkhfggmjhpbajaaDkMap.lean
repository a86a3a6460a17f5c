/- A map from integers to bytes in the memory: a look-up, a key stored, new or not. -/
import Derived.Test.YtkhfggmjhpbajaaDkNew
import Derived.Handy
namespace Go.Proofs.Ytkhfggmjhpbajaa
open Go Go.RowKit
set_option linter.unusedSimpArgs false
set_option linter.unusedVariables false

def iK (a : Int) : Value := .int .i64 a
def bV (v : Nat) : Value := .int .u8 ((v : Nat) : Int)
theorem findNow_int (a : Int) : ∀ (l : List (Int × Nat)) (es : List MapEntry) (i : Nat), es.map (fun e => (e.key, e.val)) = l.map (fun p => (iK p.1, bV p.2)) →
    (findIn a l = none → Instr.findNow (.int .i64) (iK a) es i = some none) ∧ (∀ v, findIn a l = some v → ∃ j, Instr.findNow (.int .i64) (iK a) es i = some (some (i + j, bV v)) ∧ l[j]? = some (a, v) ∧ ∀ m, m < j → ∀ p, l[m]? = some p → p.1 ≠ a)
  | [], es, i, h => by
    have : es = [] := by cases es with
      | nil => rfl
      | cons e es => simp at h
    subst this
    exact ⟨fun _ => by simp [Instr.findNow], fun v hv => by cases hv⟩
  | p :: l, [], i, h => by simp at h
  | p :: l, e :: es, i, h => by
    simp only [List.map_cons, List.cons.injEq, Prod.mk.injEq] at h
    obtain ⟨⟨h1, h2⟩, h3⟩ := h
    obtain ⟨ih1, ih2⟩ := findNow_int a l es (i + 1) h3
    have hs : Instr.sameNow (.int .i64) (iK a) e.key = some (a == p.1) := by
      rw [h1]
      simp [Instr.sameNow, iK]
    by_cases hq : a = p.1
    · refine ⟨fun hn => ?_, fun v hv => ⟨0, ?_, ?_, fun m hm => by omega⟩⟩
      · unfold findIn at hn
        rw [if_pos hq] at hn
        cases hn
      · unfold findIn at hv
        rw [if_pos hq] at hv
        cases hv
        have hb : (a == p.1) = true := by simpa using hq
        simp [Instr.findNow, hs, hb, h2]
      · unfold findIn at hv
        rw [if_pos hq] at hv
        cases hv
        simp [hq]
    · have hb : (a == p.1) = false := by simpa using hq
      refine ⟨fun hn => ?_, fun v hv => ?_⟩
      · unfold findIn at hn
        rw [if_neg hq] at hn
        simp [Instr.findNow, hs, hb, ih1 hn]
      · unfold findIn at hv
        rw [if_neg hq] at hv
        obtain ⟨j, g1, g2, g3⟩ := ih2 v hv
        refine ⟨j + 1, ?_, by simpa using g2, fun m hm q hq2 => ?_⟩
        · simp [Instr.findNow, hs, hb, g1]
          omega
        · cases m with
          | zero =>
            simp at hq2
            rw [← hq2]
            exact Ne.symm hq
          | succ m => exact g3 m (by omega) q (by simpa using hq2)
theorem find_set (a b : Int) (v : Nat) : ∀ (l : List (Int × Nat)) (j : Nat) (u : Nat), l[j]? = some (a, u) → (∀ m, m < j → ∀ p, l[m]? = some p → p.1 ≠ a) → findIn b (l.set j (a, v)) = if b = a then some v else findIn b l
  | [], j, u, h, _ => by simp at h
  | p :: l, 0, u, h, _ => by
    simp at h
    subst h
    simp only [List.set_cons_zero, findIn]
    by_cases hb : b = a
    · simp [hb]
    · simp [hb]
  | p :: l, j + 1, u, h, h2 => by
    have hp : p.1 ≠ a := h2 0 (by omega) p (by simp)
    have ih := find_set a b v l j u (by simpa using h) fun m hm q hq => h2 (m + 1) (by omega) q (by simpa using hq)
    simp only [List.set_cons_succ, findIn, ih]
    by_cases hb : b = p.1
    · rw [if_pos hb, if_pos hb, if_neg (by rw [hb]; exact hp)]
    · rw [if_neg hb, if_neg hb]
/-- block r is a map that tells f -/
def IMap (w : World) (r : Nat) (f : Int → Option Nat) : Prop := ∃ l : List (Int × Nat), (∀ a, findIn a l = f a) ∧ MapIs iK bV w r l
theorem IMap.keep {w w' : World} {r : Nat} {f : Int → Option Nat} (h : IMap w r f) (hb : w'.heap[r]? = w.heap[r]?) : IMap w' r f := by
  obtain ⟨l, h1, es, cl, hg, he⟩ := h
  exact ⟨l, h1, es, cl, hb.trans hg, he⟩
theorem IMap.lt {w : World} {r : Nat} {f : Int → Option Nat} (h : IMap w r f) : r < w.heap.size := by
  obtain ⟨l, h1, es, cl, hg, he⟩ := h
  exact (Array.getElem?_eq_some_iff.1 hg).1
theorem zero_u8 (w : World) : (zeroValue 5).run Try.prog w = .ok (.int .u8 0) w := by
  have h : (Try.prog.info? 5).bind (·.zero) = some (.int .u8 0) := by kernel_rfl
  cases hq : Try.prog.info? 5 with
  | none => simp [hq] at h
  | some i =>
    have hi : i.zero = some (.int .u8 0) := by simpa [hq] using h
    simp [zeroValue, typeInfo, hq, hi]
theorem IMap.look {w : World} {r : Nat} {f : Int → Option Nat} (h : IMap w r f) (a : Int) : (Instr.lookup 66 (.map (some r)) (.int .i64 a) false).run Try.prog w = .ok (.int .u8 (((f a).getD 0 : Nat) : Int)) w := by
  obtain ⟨l, h1, es, cl, hg, he⟩ := h
  obtain ⟨g1, g2⟩ := findNow_int a l es.toList 0 he
  have hgo : (getObj r).run Try.prog w = .ok (.map es cl) w := by simp [getObj, Sem.run, hg]
  rw [← h1 a]
  cases hf : findIn a l with
  | none =>
    have hk : (Instr.findKey 3 (.int .i64 a) es.toList).run Try.prog w = .ok none w := by
      have := g1 hf
      unfold iK at this
      simp [Instr.findKey, run_underlying Try.underlying3, this]
    simp [Instr.lookup, run_underlying Try.underlying66, hgo, chk_int, hk, zero_u8]
  | some v =>
    obtain ⟨j, g3, _⟩ := g2 v hf
    have hk : (Instr.findKey 3 (.int .i64 a) es.toList).run Try.prog w = .ok (some (0 + j, bV v)) w := by
      unfold iK at g3
      simp [Instr.findKey, run_underlying Try.underlying3, g3]
    simp [Instr.lookup, run_underlying Try.underlying66, hgo, chk_int, hk, bV]
theorem IMap.put {w : World} {r : Nat} {f : Int → Option Nat} (h : IMap w r f) (a : Int) (v : Nat) :
    ∃ w', (Instr.mapUpdate 66 (.map (some r)) (.int .i64 a) (.int .u8 (v : Int))).run Try.prog w = .ok () w' ∧ IMap w' r (fun b => if b = a then some v else f b) ∧ Turns (fun z => z = r) w w' := by
  obtain ⟨l, h1, es, cl, hg, he⟩ := h
  obtain ⟨g1, g2⟩ := findNow_int a l es.toList 0 he
  have hgo : (getObj r).run Try.prog w = .ok (.map es cl) w := by simp [getObj, Sem.run, hg]
  have hso : ∀ o, (setObj r o).run Try.prog w = .ok () { w with heap := w.heap.setIfInBounds r o } := fun o => by simp [setObj, Sem.run, hg]
  have hr : r < w.heap.size := (Array.getElem?_eq_some_iff.1 hg).1
  have hT : ∀ o, Turns (fun z => z = r) w { w with heap := w.heap.setIfInBounds r o } := fun o => ⟨rfl, rfl, rfl, by simp, fun b hb hn => by simp [Array.getElem?_setIfInBounds, Ne.symm hn]⟩
  cases hf : findIn a l with
  | none =>
    have hk : (Instr.findKey 3 (.int .i64 a) es.toList).run Try.prog w = .ok none w := by
      have := g1 hf
      unfold iK at this
      simp [Instr.findKey, run_underlying Try.underlying3, this]
    refine ⟨{ w with heap := w.heap.setIfInBounds r (.map (es.push { key := iK a, val := bV v, born := cl }) (cl + 1)) }, ?_, ⟨l ++ [(a, v)], fun b => ?_, es.push { key := iK a, val := bV v, born := cl }, cl + 1, by simp [hr], by simp [he]⟩, hT _⟩
    · simp [Instr.mapUpdate, run_underlying Try.underlying66, hgo, chk_int, hk, hso, iK, bV]
    · show findIn b (l ++ [(a, v)]) = if b = a then some v else f b
      rw [findIn_append]
      by_cases hb : b = a
      · subst hb
        simp [hf, findIn]
      · rw [if_neg hb, ← h1 b]
        simp [findIn, hb]
  | some u =>
    obtain ⟨j, g3, g4, g5⟩ := g2 u hf
    have hk : (Instr.findKey 3 (.int .i64 a) es.toList).run Try.prog w = .ok (some (j, bV u)) w := by
      unfold iK at g3
      rw [Nat.zero_add] at g3
      simp [Instr.findKey, run_underlying Try.underlying3, g3]
    have hel : es.size = l.length := by
      have := congrArg List.length he
      simpa using this
    have hjl : j < l.length := (List.getElem?_eq_some_iff.1 g4).1
    have hkey : ((Option.map (fun x => x.key) es[j]?).getD (Value.int .i64 a)) = .int .i64 a := by
      have h2 := congrArg (fun z => (z[j]?).map Prod.fst) he
      simp only [List.getElem?_map, g4, Option.map_some] at h2
      rw [Array.getElem?_toList] at h2
      cases hq : es[j]? with
      | none => rw [hq] at h2; simp at h2
      | some e =>
        rw [hq] at h2
        simp at h2
        simp [h2, iK]
    have hst : (Instr.keyThatStays (.int .i64 a) (.int .i64 a)).run Try.prog w = .ok (.int .i64 a) w := by
      have hb : Instr.sameBits 10000 (Value.int .i64 a) (Value.int .i64 a) = true := by
        rw [show (10000 : Nat) = 9999 + 1 from rfl, Instr.sameBits]
        simp
      simp [Instr.keyThatStays, hb]
    refine ⟨{ w with heap := w.heap.setIfInBounds r (.map (es.modify j fun e => { key := .int .i64 a, val := bV v, born := e.born }) cl) }, ?_, ⟨l.set j (a, v), fun b => ?_, es.modify j fun e => { key := .int .i64 a, val := bV v, born := e.born }, cl, by simp [hr], ?_⟩, hT _⟩
    · simp only [Instr.mapUpdate, run_underlying Try.underlying66, Sem.run_bind, hgo, chk_int, hk, Result.andThen_ok, hkey, hst, hso, bV]
    · rw [find_set a b v l j u g4 g5, h1 b]
    · apply List.ext_getElem?
      intro i
      have h2 := congrArg (fun z => z[i]?) he
      simp only [List.getElem?_map, Array.getElem?_toList] at h2 ⊢
      rw [Array.getElem?_modify, List.getElem?_set]
      by_cases hij : j = i
      · subst hij
        rw [if_pos rfl, if_pos rfl, if_pos hjl]
        rw [Array.getElem?_eq_getElem (by omega)]
        simp [iK]
      · rw [if_neg hij, if_neg hij]
        exact h2
end Go.Proofs.Ytkhfggmjhpbajaa
