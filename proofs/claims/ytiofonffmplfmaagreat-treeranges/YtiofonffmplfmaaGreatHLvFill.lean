/- A block of one byte (the statements' own), and blocks by the document's type. -/
import Derived.Test.YtiofonffmplfmaaGreatHIntMap
import Derived.Maps.RangeWalk
import Derived.Maps.Own
import Derived.Handy
import Derived.Test.YtiofonffmplfmaaGreatHTrFollow
import Derived.Test.YtiofonffmplfmaaGreatHNdAwake
import Derived.Test.YtiofonffmplfmaaGreatHNdRefDec
import Derived.Test.YtiofonffmplfmaaGreatHNdTake
import Derived.Test.YtiofonffmplfmaaGreatHSegsTree
import Derived.Deep.DeepCutAuto
import Derived.Deep.Cut

namespace Go.Proofs.YtiofonffmplfmaaGreat
open Go Go.RowKit
open Go.ChangeMaps (setBlock)
set_option linter.unusedSimpArgs false
set_option linter.unusedVariables false

section
variable {β : Type} {P : Program} (V : β → Value)
/-- the entries say the list; each key once -/
def EsJ (es : Array MapEntry) (clock : Nat) (l : List (Int × β)) : Prop := es.toList.map (fun e => (e.key, e.val)) = l.map (fun p => (jK p.1, V p.2)) ∧ (es.toList.map (·.born)).Nodup ∧ (∀ x ∈ es.toList, x.born < clock) ∧ (l.map (·.1)).Nodup
/-- block m is that map -/
def JM (w : World) (m : Nat) (l : List (Int × β)) : Prop := ∃ es clock, w.heap[m]? = some (.map es clock) ∧ EsJ V es clock l
variable {V}
theorem JM.lt {w : World} {m : Nat} {l : List (Int × β)} (h : JM V w m l) : m < w.heap.size := by
  obtain ⟨es, cl, hg, _⟩ := h
  exact (Array.getElem?_eq_some_iff.1 hg).1
theorem JM.keep {w w' : World} {m : Nat} {l : List (Int × β)} (h : JM V w m l) (hb : w'.heap[m]? = w.heap[m]?) : JM V w' m l := by
  obtain ⟨es, cl, hg, h2⟩ := h
  exact ⟨es, cl, hb.trans hg, h2⟩
theorem JM.below {w w' : World} {m B : Nat} {l : List (Int × β)} (h : JM V w m l) (hb : Below B w w') (hm : m < B) : JM V w' m l := h.keep (hb.block m hm)
theorem JM.new {w : World} {m : Nat} {k : Nat} (h : w.heap[m]? = some (.map #[] k)) : JM V w m [] := ⟨#[], k, h, rfl, List.nodup_nil, (fun x hx => by simp at hx), List.nodup_nil⟩
theorem JM.is {w : World} {m : Nat} {l : List (Int × β)} (h : JM V w m l) : MapIs jK V w m l := by
  obtain ⟨es, cl, hg, he, _⟩ := h
  exact ⟨es, cl, hg, he⟩
theorem JM.nd {w : World} {m : Nat} {l : List (Int × β)} (h : JM V w m l) : (l.map (·.1)).Nodup := by
  obtain ⟨es, cl, hg, he⟩ := h
  exact he.2.2.2
theorem findJ_none {a : Int} : ∀ {l : List (Int × β)}, findIn a l = none → a ∉ l.map (·.1)
  | [], _ => by simp
  | p :: l, h => by
    unfold findIn at h
    by_cases hq : a = p.1
    · rw [if_pos hq] at h
      cases h
    · rw [if_neg hq] at h
      simp only [List.map_cons, List.mem_cons, not_or]
      exact ⟨hq, findJ_none h⟩
/-- a key stored -/
theorem JM.put {mt kt et : TypeId} (hm : P.underlying mt = some (.map kt et)) (hk : P.underlying kt = some (.int .i64)) {w : World} {m : Nat} {l : List (Int × β)} (h : JM V w m l) (a : Int) (v : β) :
    ∃ w' l', (Instr.mapUpdate mt (.map (some m)) (.int .i64 a) (V v)).run P w = .ok () w' ∧ JM V w' m l' ∧ (∀ b, findIn b l' = if b = a then some v else findIn b l) ∧ Turns (fun z => z = m) w w' := by
  obtain ⟨es, cl, hg, he, hb, hc, hn⟩ := h
  obtain ⟨g1, g2⟩ := findNow_intV (V := V) a l es.toList 0 he
  have hgo : (getObj m).run P w = .ok (.map es cl) w := by simp [getObj, Sem.run, hg]
  have hso : ∀ o, (setObj m o).run P w = .ok () { w with heap := w.heap.setIfInBounds m o } := fun o => by simp [setObj, Sem.run, hg]
  have hr : m < w.heap.size := (Array.getElem?_eq_some_iff.1 hg).1
  have hT : ∀ o, Turns (fun z => z = m) w { w with heap := w.heap.setIfInBounds m o } := fun o => ⟨rfl, rfl, rfl, by simp, fun b hb hn => by simp [Array.getElem?_setIfInBounds, Ne.symm hn]⟩
  cases hf : findIn a l with
  | none =>
    have hq : (Instr.findKey kt (.int .i64 a) es.toList).run P w = .ok none w := by
      have := g1 hf
      unfold jK at this
      simp [Instr.findKey, run_underlying hk, this]
    refine ⟨{ w with heap := w.heap.setIfInBounds m (.map (es.push { key := jK a, val := V v, born := cl }) (cl + 1)) }, l ++ [(a, v)], ?_, ⟨es.push { key := jK a, val := V v, born := cl }, cl + 1, by simp [hr], by simp [he], ?_, ?_, ?_⟩, fun b => ?_, hT _⟩
    · simp [Instr.mapUpdate, run_underlying hm, hgo, chk_intP hk, hq, hso, jK]
    · rw [Array.toList_push, List.map_append, List.nodup_append]
      refine ⟨hb, by simp, fun x hx y hy e => ?_⟩
      obtain ⟨z, hz, rfl⟩ := List.mem_map.1 hx
      have := hc z hz
      simp at hy
      omega
    · intro x hx
      rw [Array.toList_push, List.mem_append] at hx
      rcases hx with hx | hx
      · have := hc x hx; omega
      · simp at hx; subst hx; simp
    · rw [List.map_append, List.nodup_append]
      refine ⟨hn, by simp, fun x hx y hy e => ?_⟩
      simp at hy
      subst hy
      subst e
      exact findJ_none hf hx
    · show findIn b (l ++ [(a, v)]) = if b = a then some v else findIn b l
      rw [findIn_append]
      by_cases hb : b = a
      · subst hb
        simp [hf, findIn]
      · rw [if_neg hb]
        simp [findIn, hb]
  | some u =>
    obtain ⟨j, g3, g4, g5⟩ := g2 u hf
    have hq : (Instr.findKey kt (.int .i64 a) es.toList).run P w = .ok (some (j, V u)) w := by
      unfold jK at g3
      rw [Nat.zero_add] at g3
      simp [Instr.findKey, run_underlying hk, g3]
    have hel : es.size = l.length := by
      have := congrArg List.length he
      simpa using this
    have hjl : j < l.length := (List.getElem?_eq_some_iff.1 g4).1
    have hkey : ((Option.map (fun x => x.key) es[j]?).getD (Value.int .i64 a)) = .int .i64 a := by
      have h2 := congrArg (fun z => (z[j]?).map Prod.fst) he
      simp only [List.getElem?_map, g4, Option.map_some] at h2
      rw [Array.getElem?_toList] at h2
      cases hq : es[j]? with
      | none => rw [hq] at h2; simp at h2
      | some e =>
        rw [hq] at h2
        simp at h2
        simp [h2, jK]
    have hst : (Instr.keyThatStays (.int .i64 a) (.int .i64 a)).run P w = .ok (.int .i64 a) w := by
      have hb : Instr.sameBits 10000 (Value.int .i64 a) (Value.int .i64 a) = true := by
        rw [show (10000 : Nat) = 9999 + 1 from rfl, Instr.sameBits]
        simp
      simp [Instr.keyThatStays, hb]
    have hbr : (es.modify j fun e => { key := .int .i64 a, val := V v, born := e.born }).toList.map (·.born) = es.toList.map (·.born) := by
      apply List.ext_getElem?
      intro i
      simp only [List.getElem?_map, Array.getElem?_toList, Array.getElem?_modify]
      by_cases hij : j = i
      · subst hij
        rw [if_pos rfl]
        cases es[j]? <;> rfl
      · rw [if_neg hij]
    refine ⟨{ w with heap := w.heap.setIfInBounds m (.map (es.modify j fun e => { key := .int .i64 a, val := V v, born := e.born }) cl) }, l.set j (a, v), ?_, ⟨es.modify j fun e => { key := .int .i64 a, val := V v, born := e.born }, cl, by simp [hr], ?_, by rw [hbr]; exact hb, ?_, ?_⟩, fun b => find_setV a b v l j u g4 g5, hT _⟩
    · simp only [Instr.mapUpdate, run_underlying hm, Sem.run_bind, hgo, chk_intP hk, hq, Result.andThen_ok, hkey, hst, hso]
    · apply List.ext_getElem?
      intro i
      have h2 := congrArg (fun z => z[i]?) he
      simp only [List.getElem?_map, Array.getElem?_toList] at h2 ⊢
      rw [Array.getElem?_modify, List.getElem?_set]
      by_cases hij : j = i
      · subst hij
        rw [if_pos rfl, if_pos rfl, if_pos hjl]
        rw [Array.getElem?_eq_getElem (by omega)]
        simp [jK]
      · rw [if_neg hij, if_neg hij]
        exact h2
    · intro x hx
      have : x.born ∈ (es.modify j fun e => { key := .int .i64 a, val := V v, born := e.born }).toList.map (·.born) := List.mem_map.2 ⟨x, hx, rfl⟩
      rw [hbr] at this
      obtain ⟨y, hy, e⟩ := List.mem_map.1 this
      rw [← e]
      exact hc y hy
    · have e1 : (l.set j (a, v)).map (·.1) = l.map (·.1) := by
        apply List.ext_getElem?
        intro i
        simp only [List.getElem?_map, List.getElem?_set]
        by_cases hij : j = i
        · subst hij
          rw [if_pos rfl, if_pos hjl, g4]
          rfl
        · rw [if_neg hij]
      rw [e1]
      exact hn
/-- block r goes over the map in block b; these keys have come -/
def ItJ (V : β → Value) (w : World) (r b : Nat) (l : List (Int × β)) (done : List Int) : Prop := ∃ es clock since seen c0, w.heap[r]? = some (.mapIter (some b) since seen c0) ∧ w.heap[b]? = some (.map es clock) ∧ EsJ V es since l ∧ since ≤ c0 ∧ since ≤ clock ∧ done.Nodup ∧ (∀ e ∈ es.toList, ∀ x, e.key = jK x → (seen.contains e.born = true ↔ x ∈ done)) ∧ (∀ x ∈ done, x ∈ l.map (·.1)) ∧ seen.size = done.length
/-- how many have come, by the iterator alone -/
def itN (w : World) (r : Nat) : Nat := match w.heap[r]? with
  | some (.mapIter _ _ seen _) => seen.size
  | _ => 0
theorem ItJ.keep {w w' : World} {r b : Nat} {l : List (Int × β)} {done : List Int} (h : ItJ V w r b l done) (hr : w'.heap[r]? = w.heap[r]?) (hb : w'.heap[b]? = w.heap[b]?) : ItJ V w' r b l done := by
  obtain ⟨es, c, s, sn, c0, h1, h2, rest⟩ := h
  exact ⟨es, c, s, sn, c0, hr.trans h1, hb.trans h2, rest⟩
theorem ItJ.lt {w : World} {r b : Nat} {l : List (Int × β)} {done : List Int} (h : ItJ V w r b l done) : r < w.heap.size ∧ b < w.heap.size := by
  obtain ⟨es, c, s, sn, c0, h1, h2, rest⟩ := h
  exact ⟨(Array.getElem?_eq_some_iff.1 h1).1, (Array.getElem?_eq_some_iff.1 h2).1⟩
theorem ItJ.le {w : World} {r b : Nat} {l : List (Int × β)} {done : List Int} (h : ItJ V w r b l done) : done.length ≤ l.length := by
  obtain ⟨es, c, s, sn, c0, h1, h2, h3, h4, h5, h6, h7, h8, _⟩ := h
  have := h6.length_le_of_subset (l₂ := l.map (·.1)) fun x hx => h8 x hx
  simpa using this
theorem ItJ.num {w : World} {r b : Nat} {l : List (Int × β)} {done : List Int} (h : ItJ V w r b l done) : itN w r = done.length := by
  obtain ⟨es, c, s, sn, c0, h1, h2, h3, h4, h5, h6, h7, h8, h9⟩ := h
  unfold itN
  rw [h1]
  exact h9
theorem ItJ.sub {w : World} {r b : Nat} {l : List (Int × β)} {done : List Int} (h : ItJ V w r b l done) : ∀ x ∈ done, x ∈ l.map (·.1) := by
  obtain ⟨es, c, s, sn, c0, h1, h2, h3, h4, h5, h6, h7, h8, h9⟩ := h
  exact h8
theorem ItJ.map {w : World} {r b : Nat} {l : List (Int × β)} {done : List Int} (h : ItJ V w r b l done) : JM V w b l := by
  obtain ⟨es, c, s, sn, c0, h1, h2, h3, h4, h5, _⟩ := h
  exact ⟨es, c, h2, h3.1, h3.2.1, (fun x hx => Nat.lt_of_lt_of_le (h3.2.2.1 x hx) h5), h3.2.2.2⟩
theorem jK_inj {a b : Int} (h : jK a = jK b) : a = b := by
  unfold jK at h
  injection h
theorem ej_mem {es : Array MapEntry} {c : Nat} {l : List (Int × β)} (h : EsJ V es c l) {e : MapEntry} (he : e ∈ es.toList) : ∃ x v, (x, v) ∈ l ∧ e.key = jK x ∧ e.val = V v := by
  have : (e.key, e.val) ∈ es.toList.map (fun e => (e.key, e.val)) := List.mem_map.2 ⟨e, he, rfl⟩
  rw [h.1] at this
  obtain ⟨x, hx, hq⟩ := List.mem_map.1 this
  simp only [Prod.mk.injEq] at hq
  exact ⟨x.1, x.2, hx, hq.1.symm, hq.2.symm⟩
theorem ej_of {es : Array MapEntry} {c : Nat} {l : List (Int × β)} (h : EsJ V es c l) {x : Int} (hx : x ∈ l.map (·.1)) : ∃ e ∈ es.toList, e.key = jK x := by
  obtain ⟨p, hp, rfl⟩ := List.mem_map.1 hx
  have : (jK p.1, V p.2) ∈ l.map (fun a => (jK a.1, V a.2)) := List.mem_map.2 ⟨p, hp, rfl⟩
  rw [← h.1] at this
  obtain ⟨e, he, hq⟩ := List.mem_map.1 this
  simp only [Prod.mk.injEq] at hq
  exact ⟨e, he, hq.1⟩
theorem ej_one {es : Array MapEntry} {c : Nat} {l : List (Int × β)} (h : EsJ V es c l) {e f : MapEntry} (he : e ∈ es.toList) (hf : f ∈ es.toList) (hk : e.key = f.key) : e = f := by
  have hnd : (es.toList.map (fun e => e.key)).Nodup := by
    have h1 : es.toList.map (fun e => e.key) = (l.map (·.1)).map jK := by
      have := congrArg (List.map Prod.fst) h.1
      rw [List.map_map, List.map_map] at this
      rw [List.map_map]
      exact this
    rw [h1, List.Nodup, List.pairwise_map]
    exact h.2.2.2.imp fun hne e => hne (jK_inj e)
  obtain ⟨i, hi, rfl⟩ := List.getElem_of_mem he
  obtain ⟨j, hj, rfl⟩ := List.getElem_of_mem hf
  have : i = j := by
    refine (List.getElem_inj (h₀ := by simpa using hi) (h₁ := by simpa using hj) hnd).1 ?_
    simpa using hk
  subst this
  rfl
theorem findJ_of {a : Int} {v : β} : ∀ {l : List (Int × β)}, (l.map (·.1)).Nodup → (a, v) ∈ l → findIn a l = some v
  | [], _, h => by simp at h
  | p :: l, hn, h => by
    simp only [List.map_cons, List.nodup_cons] at hn
    unfold findIn
    rcases List.mem_cons.1 h with h | h
    · rw [if_pos (by rw [← h])]
      rw [← h]
    · rw [if_neg, findJ_of hn.2 h]
      intro e
      exact hn.1 (e ▸ List.mem_map.2 ⟨_, h, rfl⟩)
section
variable {ops : Array Oper} {rest : List Oper} {o : Oper} {a : Act} {w : World} {Q : Exit → Act → World → Prop}
theorem wpList_range_J (hg : o.guard = none) (m : Operand) (t : TypeId) (hop : o.op = Op.range t m) (kt et : TypeId) (ht : P.underlying t = some (.map kt et)) (b : Nat) (l : List (Int × β)) (hm : a.eval m = .map (some b)) (h : JM V w b l)
    (hK : ∀ w', ItJ V w' w.heap.size b l [] → Below w.heap.size w w' → w'.heap.size = w.heap.size + 1 → wpList P ops Q rest (a.put o.dst (.pointer (some ⟨w.heap.size, 0, none⟩))) w') : wpList P ops Q (o :: rest) a w := by
  obtain ⟨es, clock, h1, h2⟩ := h
  have hb : b < w.heap.size := (Array.getElem?_eq_some_iff.1 h1).1
  refine wpList_plain hg fun K' hK' => ?_
  have hrun := run_range_map (P := P) w t kt et b es clock ht h1
  unfold Oper.wp
  simp [execOp, hop, hm, hrun, Result.andThen]
  refine hK' _ _ (hK _ ⟨es, clock, clock, #[], clock, ?_, ?_, h2, Nat.le_refl _, Nat.le_refl _, List.nodup_nil, fun e he x hx => by simp, (fun x hx => by simp at hx), rfl⟩ ((Below.refl _ w).alloc (Nat.le_refl _) _) (by simp))
  · exact heap_alloc_new _ _
  · rw [heap_alloc_old _ _ hb]; exact h1
theorem wpList_next_J (hg : o.guard = none) (it : Operand) (hop : o.op = Op.next it false) (r b : Nat) (l : List (Int × β)) (done : List Int) (hit : a.eval it = .pointer (some ⟨r, 0, none⟩)) (h : ItJ V w r b l done) (hrb : r ≠ b)
    (hDone : (∀ x ∈ l.map (·.1), x ∈ done) → wpList P ops Q rest (a.put o.dst (.tuple #[.bool false])) w)
    (hMore : ∀ (x : Int) (v : β) (w' : World), (x, v) ∈ l → x ∉ done → ItJ V w' r b l (done ++ [x]) → Turns (fun z => z = r) w w' → (Instr.entry (.pointer (some ⟨r, 0, none⟩))).run P w' = .ok (.tuple #[.int .i64 x, V v]) w' → wpList P ops Q rest (a.put o.dst (.tuple #[.bool true, .int .i64 x, V v])) w') :
    wpList P ops Q (o :: rest) a w := by
  obtain ⟨es, clock, since, seen, c0, h1, h2, h3, h4, h5, h6, h7, h8, h9⟩ := h
  refine wpList_plain hg fun K' hK' => ?_
  unfold Oper.wp
  rcases run_next_at (P := P) w o.type r b since c0 seen es clock h1 h2 h3.2.2.1 h4 with ⟨g0, hrun⟩ | ⟨e, he, w1, hw1, hrun⟩
  · simp [execOp, hop, hit, hrun, Result.andThen]
    refine hK' _ _ (hDone fun x hx => ?_)
    obtain ⟨e, he, hek⟩ := ej_of h3 hx
    exact (h7 e he x hek).1 (all_seen es seen g0 e he)
  · obtain ⟨hem, hes⟩ := mem_left he
    obtain ⟨x, v, hxl, hxk, hxv⟩ := ej_mem h3 hem
    have hxd : x ∉ done := fun hd => by
      have := (h7 e hem x hxk).2 hd
      rw [this] at hes
      cases hes
    rw [hxk, hxv] at hrun
    have hr : r < w.heap.size := (Array.getElem?_eq_some_iff.1 h1).1
    have hh : w1.heap = w.heap := by rcases hw1 with rfl | rfl <;> rfl
    have e1 : (setBlock w1 r (.mapIter (some b) since (seen.push e.born) clock)).heap[r]? = some (.mapIter (some b) since (seen.push e.born) clock) := by simp [setBlock, hh, hr]
    have e2 : ∀ k, k ≠ r → (setBlock w1 r (.mapIter (some b) since (seen.push e.born) clock)).heap[k]? = w.heap[k]? := fun k hk => by simp [setBlock, hh, Array.getElem?_setIfInBounds, Ne.symm hk]
    have hen := run_entry_at (P := P) (setBlock w1 r (.mapIter (some b) since (seen.push e.born) clock)) r b since seen es clock e e1 ((e2 b (Ne.symm hrb)).trans h2) hem h3.2.1
    rw [hxk, hxv] at hen
    unfold jK at hrun hen
    simp [execOp, hop, hit, hrun, Result.andThen]
    refine hK' _ _ (hMore x v _ hxl hxd ⟨es, clock, since, seen.push e.born, clock, e1, (e2 b (Ne.symm hrb)).trans h2, h3, h5, h5, ?_, ?_, ?_, by simp [h9]⟩ ⟨?_, ?_, ?_, ?_, fun k hk hn => e2 k hn⟩ hen)
    · rw [List.nodup_append]
      exact ⟨h6, by simp, fun y hy z hz q => by simp at hz; subst hz; subst q; exact hxd hy⟩
    · intro f hf y hy
      rw [contains_push, Bool.or_eq_true, List.mem_append, List.mem_singleton, h7 f hf y hy]
      refine or_congr Iff.rfl ⟨fun q => ?_, fun q => ?_⟩
      · have := born_inj h3.2.1 hf hem (beq_iff_eq.1 q)
        subst this
        rw [hxk] at hy
        exact (jK_inj hy).symm
      · subst q
        rw [ej_one h3 hf hem (by rw [hy, hxk])]
        exact beq_self_eq_true _
    · intro y hy
      rw [List.mem_append, List.mem_singleton] at hy
      rcases hy with hy | rfl
      · exact h8 y hy
      · exact List.mem_map.2 ⟨_, hxl, rfl⟩
    · rcases hw1 with rfl | rfl <;> rfl
    · rcases hw1 with rfl | rfl <;> rfl
    · rcases hw1 with rfl | rfl <;> rfl
    · simp [setBlock, hh]
end
end
end Go.Proofs.YtiofonffmplfmaaGreat

namespace Go.Proofs.YtiofonffmplfmaaGreat
open Go Go.RowKit
set_option linter.unusedSimpArgs false
set_option linter.unusedVariables false

theorem strN_bk {f g : Nat → Nat} (h : bkSame f g) : strN f 256 = strN g 256 := strN_congr h
theorem dgB_bk {f g : Nat → Nat} (h : bkSame f g) : dgB f = dgB g := by
  unfold dgB
  rw [strN_bk h]
theorem decK_bk {f g : Nat → Nat} (h : bkSame f g) : decK f = decK g := by
  funext i
  unfold decK rawK
  rw [strN_bk h]
theorem rdOk_bk {f g : Nat → Nat} (h : bkSame f g) : rdOk f = rdOk g := by
  have h4 : f 4 = g 4 := h 4 (by decide)
  have e : bkSame (nodeB (g 4) (decK g)) f ↔ bkSame (nodeB (g 4) (decK g)) g := ⟨fun q i hi => (q i hi).trans (h i hi), fun q i hi => (q i hi).trans (h i hi).symm⟩
  unfold rdOk
  rw [decK_bk h, h4, decide_eq_decide.2 e]
theorem blkAt_bk {X X' : Nat → Nat} {n a : Nat} (hx : ∀ x, x < n * 256 → X' x = X x) (ha : a < n) : bkSame (blkAt X' a) (blkAt X a) := fun j hj => hx _ (by omega)
theorem gotOk_ext {X X' : Nat → Nat} {n n' : Nat} {k : Rf} (hx : ∀ x, x < n * 256 → X' x = X x) (hn : n ≤ n') (h : gotOk X n k) : gotOk X' n' k := by
  obtain ⟨h1, h2, h3⟩ := h
  exact ⟨h1, by omega, (dgB_bk (blkAt_bk hx h2)).trans h3⟩
/-- what hangs beneath a reference of a level, in an image of n blocks X: G p is the leaf of the place p there -/
def Has (X : Nat → Nat) (n : Nat) : Nat → Rf → (Nat → Nat → Nat) → Prop
  | 0, r, G => (r = rf0 ∧ ∀ j, j < 256 → G 0 j = 0) ∨ (r ≠ rf0 ∧ gotOk X n r ∧ ∀ j, j < 256 → blkAt X r.1 j = G 0 j)
  | l + 1, r, G => (r = rf0 ∧ ∀ p, p < 4 ^ (l + 1) → ∀ j, j < 256 → G p j = 0) ∨ (r ≠ rf0 ∧ gotOk X n r ∧ rdOk (blkAt X r.1) = true ∧ blkAt X r.1 4 = l + 1 ∧ ∀ i, i < 4 → Has X n l (decK (blkAt X r.1) i) fun p => G (i * 4 ^ l + p))
theorem Has.ext {X X' : Nat → Nat} {n n' : Nat} (hx : ∀ x, x < n * 256 → X' x = X x) (hn : n ≤ n') : ∀ {l : Nat} {r : Rf} {G : Nat → Nat → Nat}, Has X n l r G → Has X' n' l r G
  | 0, r, G, h => by
    rcases h with h | ⟨h1, h2, h3⟩
    · exact .inl h
    · exact .inr ⟨h1, gotOk_ext hx hn h2, fun j hj => (blkAt_bk hx h2.2.1 j hj).trans (h3 j hj)⟩
  | l + 1, r, G, h => by
    rcases h with h | ⟨h1, h2, h3, h4, h5⟩
    · exact .inl h
    · have hb := blkAt_bk hx h2.2.1
      refine .inr ⟨h1, gotOk_ext hx hn h2, (rdOk_bk hb).trans h3, (hb 4 (by decide)).trans h4, fun i hi => ?_⟩
      rw [decK_bk hb]
      exact (h5 i hi).ext hx hn
theorem Has.congr {X : Nat → Nat} {n : Nat} : ∀ {l : Nat} {r : Rf} {G G' : Nat → Nat → Nat}, (∀ p, p < 4 ^ l → ∀ j, j < 256 → G p j = G' p j) → Has X n l r G → Has X n l r G'
  | 0, r, G, G', hg, h => by
    rcases h with ⟨h1, h2⟩ | ⟨h1, h2, h3⟩
    · exact .inl ⟨h1, fun j hj => (hg 0 (by decide) j hj).symm.trans (h2 j hj)⟩
    · exact .inr ⟨h1, h2, fun j hj => (h3 j hj).trans (hg 0 (by decide) j hj)⟩
  | l + 1, r, G, G', hg, h => by
    rcases h with ⟨h1, h2⟩ | ⟨h1, h2, h3, h4, h5⟩
    · exact .inl ⟨h1, fun p hp j hj => (hg p hp j hj).symm.trans (h2 p hp j hj)⟩
    · refine .inr ⟨h1, h2, h3, h4, fun i hi => (h5 i hi).congr fun p hp j hj => hg _ ?_ j hj⟩
      rw [Nat.pow_succ]
      have : i * 4 ^ l ≤ 3 * 4 ^ l := Nat.mul_le_mul_right _ (by omega)
      omega
theorem Has.none {X : Nat → Nat} {n l : Nat} {G : Nat → Nat → Nat} (h : ∀ p, p < 4 ^ l → ∀ j, j < 256 → G p j = 0) : Has X n l rf0 G := by
  cases l with
  | zero => exact .inl ⟨rfl, h 0 (by decide)⟩
  | succ l => exact .inl ⟨rfl, h⟩
theorem Has.zero {X : Nat → Nat} {n l : Nat} {G : Nat → Nat → Nat} (h : Has X n l rf0 G) : ∀ p, p < 4 ^ l → ∀ j, j < 256 → G p j = 0 := by
  cases l with
  | zero =>
    rcases h with ⟨_, h⟩ | ⟨h, _⟩
    · intro p hp
      obtain rfl : p = 0 := by simpa using hp
      exact h
    · exact absurd rfl h
  | succ l =>
    rcases h with ⟨_, h⟩ | ⟨h, _⟩
    · exact h
    · exact absurd rfl h
theorem Has.ok {X : Nat → Nat} {n l : Nat} {r : Rf} {G : Nat → Nat → Nat} (h : Has X n l r G) : rOk r = true := by
  have : r = rf0 ∨ r.1 ≠ 0 := by
    cases l with
    | zero =>
      rcases h with h | h
      · exact .inl h.1
      · exact .inr h.2.1.1
    | succ l =>
      rcases h with h | h
      · exact .inl h.1
      · exact .inr h.2.1.1
  unfold rOk
  rcases this with h | h
  · simp [h]
  · simp [h]
theorem apX_old (X : Nat → Nat) (n : Nat) (f : Nat → Nat) : ∀ x, x < n * 256 → apX X n f x = X x := fun x hx => if_pos hx
theorem apX_new (X : Nat → Nat) (n : Nat) (f : Nat → Nat) : bkSame (blkAt (apX X n f) n) f := fun j hj => by
  show (if n * 256 + j < n * 256 then _ else f (n * 256 + j - n * 256)) = f j
  rw [if_neg (by omega), show n * 256 + j - n * 256 = j by omega]
theorem ref_new {n : Nat} {f : Nat → Nat} (hn : 1 ≤ n) : ((n, dgB f) : Rf) ≠ rf0 := fun e => by
  have := congrArg Prod.fst e
  simp [rf0] at this
  omega
theorem gotOk_new (X : Nat → Nat) {n : Nat} (f : Nat → Nat) (hn : 1 ≤ n) : gotOk (apX X n f) (n + 1) (n, dgB f) := ⟨by show n ≠ 0; omega, by show n < n + 1; omega, dgB_bk (apX_new X n f)⟩
theorem putR_ext {X X' : Nat → Nat} {n n' : Nat} {f : Nat → Nat} {r : Rf} (h : PutR X n f X' n' r) : n ≤ n' ∧ n' ≤ n + 1 ∧ ∀ x, x < n * 256 → X' x = X x := by
  rcases h with ⟨_, rfl, rfl, rfl⟩ | ⟨_, rfl, rfl, rfl⟩
  · exact ⟨Nat.le_refl _, Nat.le_succ _, fun x _ => rfl⟩
  · exact ⟨Nat.le_succ _, Nat.le_refl _, apX_old X n f⟩
/-- a leaf that was put -/
theorem Has.leaf {X X' : Nat → Nat} {n n' : Nat} {f : Nat → Nat} {r : Rf} {G : Nat → Nat → Nat} (hn : 1 ≤ n) (h : PutR X n f X' n' r) (hG : ∀ j, j < 256 → G 0 j = f j) : Has X' n' 0 r G := by
  rcases h with ⟨h1, rfl, rfl, rfl⟩ | ⟨h1, rfl, rfl, rfl⟩
  · exact .inl ⟨rfl, fun j hj => (hG j hj).trans (h1 j hj)⟩
  · exact .inr ⟨ref_new hn, gotOk_new X f hn, fun j hj => (apX_new X n f j hj).trans (hG j hj).symm⟩
theorem nodeB_some (l : Nat) (K : Nat → Rf) : ¬ bkSame (nodeB l K) fun _ => 0 := fun h => by
  have := h 0 (by decide)
  simp [nodeB] at this
/-- a node that was put -/
theorem Has.node {X X' : Nat → Nat} {n n' l : Nat} {r : Rf} {K : Nat → Rf} {G : Nat → Nat → Nat} (hn : 1 ≤ n) (hl : l + 1 ≤ 6) (hK : ∀ i, i < 4 → okD (K i).2) (hK1 : ∀ i, i < 4 → (K i).1 < 4294967296) (hH : ∀ i, i < 4 → Has X n l (K i) fun p => G (i * 4 ^ l + p)) (h : PutR X n (nodeB (l + 1) K) X' n' r) : Has X' n' (l + 1) r G := by
  have hok : ndOk ((l + 1 : Nat) : Int) K = true := by
    unfold ndOk
    simp only [Bool.and_eq_true, decide_eq_true_eq, List.all_eq_true, List.mem_range]
    exact ⟨⟨by omega, by omega⟩, fun i hi => (hH i hi).ok⟩
  rcases h with ⟨h1, rfl, rfl, rfl⟩ | ⟨h1, rfl, rfl, rfl⟩
  · exact absurd h1 (nodeB_some _ _)
  · have hb := apX_new X n (nodeB (l + 1) K)
    refine .inr ⟨ref_new hn, gotOk_new X _ hn, rdOk_of (l + 1) K hok hK hK1 _ hb, (hb 4 (by decide)).trans rfl, fun i hi => ?_⟩
    rw [decK_of (l + 1) K hok hK hK1 _ hb i hi]
    exact (hH i hi).ext (apX_old X n _) (Nat.le_succ _)
theorem ndOk_has {X : Nat → Nat} {n l : Nat} {K : Nat → Rf} {G : Nat → Nat → Nat → Nat} (hl : l + 1 ≤ 6) (hH : ∀ i, i < 4 → Has X n l (K i) (G i)) : ndOk ((l + 1 : Nat) : Int) K = true := by
  unfold ndOk
  simp only [Bool.and_eq_true, decide_eq_true_eq, List.all_eq_true, List.mem_range]
  exact ⟨⟨by omega, by omega⟩, fun i hi => (hH i hi).ok⟩
/-- the leaf of a place, by a list of keys and leaves -/
def gJ (L : List (Int × (Nat → Nat))) (a : Int) : Nat → Nat := (findIn a L).getD fun _ => 0
def lfV (f : Nat → Nat) : Value := .agg (va 256 (iv .u8 f))
/-- leaves by their places: a list told once -/
structure LvOk (L : List (Int × (Nat → Nat))) : Prop where
  key : ∀ a ∈ L, 0 ≤ a.1 ∧ a.1 ≤ 9223372036854775807
  byte : ∀ a ∈ L, ∀ j, a.2 j < 256
theorem findJ_mem {β : Type} {a : Int} {v : β} : ∀ {l : List (Int × β)}, findIn a l = some v → (a, v) ∈ l
  | [], h => by cases h
  | p :: l, h => by
    unfold findIn at h
    by_cases hq : a = p.1
    · rw [if_pos hq] at h
      cases h
      rw [hq]
      simp
    · rw [if_neg hq] at h
      exact List.mem_cons_of_mem _ (findJ_mem h)
theorem gJ_byte {L : List (Int × (Nat → Nat))} (h : LvOk L) (a : Int) (j : Nat) : gJ L a j < 256 := by
  unfold gJ
  cases hf : findIn a L with
  | none => exact Nat.zero_lt_succ _
  | some f => exact h.byte _ (findJ_mem hf) j
theorem gJ_none {L : List (Int × (Nat → Nat))} {a : Int} (h : a ∉ L.map (·.1)) : gJ L a = fun _ => 0 := by
  unfold gJ
  cases hf : findIn a L with
  | none => rfl
  | some f => exact absurd (List.mem_map.2 ⟨_, findJ_mem hf, rfl⟩) h
/-- a look-up tells the leaf -/
theorem JM.leaf {P : Program} {mt kt et : TypeId} (hm : P.underlying mt = some (.map kt et)) (hk : P.underlying kt = some (.int .i64)) (hz : ∀ w, (zeroValue et).run P w = .ok (lfV fun _ => 0) w) {w : World} {m : Nat} {L : List (Int × (Nat → Nat))} (h : JM lfV w m L) (a : Int) :
    (Instr.lookup mt (.map (some m)) (.int .i64 a) false).run P w = .ok (lfV (gJ L a)) w := by
  have := intMap_look (V := lfV) hm hk hz h.is a false
  rw [if_neg (by decide)] at this
  rw [this]
  unfold gJ
  cases findIn a L <;> rfl
end Go.Proofs.YtiofonffmplfmaaGreat

namespace Go.Proofs.YtiofonffmplfmaaGreat
open Go Go.RowKit
set_option linter.unusedSimpArgs false
set_option linter.unusedVariables false

theorem size256 : (Tryz.prog.info? 49).map (·.size) = some 256 := by kernel_rfl
set_option maxRecDepth 100000 in
set_option maxHeartbeats 4000000 in
theorem filled9_any (x : Nat) (w : World) : Calls Tryz.prog 15 #[.int .u8 (x : Int)] w fun e w' => e = .returned (.agg (va 256 (iv .u8 fun _ => x))) ∧ Below w.heap.size w w' := by
  have hz := zero_256
  have r0 : Blk ((w.alloc (.cells (va 256 (iv .u8 fun _ => 0)) 49)).alloc (.cells (va 256 (iv .u8 fun _ => 0)) 49)) w.heap.size 49 (va 256 (iv .u8 fun _ => 0)) := (Blk.new _ _ _).alloc _
  have r1 : Blk ((w.alloc (.cells (va 256 (iv .u8 fun _ => 0)) 49)).alloc (.cells (va 256 (iv .u8 fun _ => 0)) 49)) (w.heap.size + 1) 49 (va 256 (iv .u8 fun _ => 0)) := Blk.new1 _ _ _ _
  have hb0 : Below w.heap.size w ((w.alloc (.cells (va 256 (iv .u8 fun _ => 0)) 49)).alloc (.cells (va 256 (iv .u8 fun _ => 0)) 49)) := below_new2 _ _ _
  go_enter Tryz.func15, Tryz.ntmps15
  go_wp2_with (first
    | (refine wpList_store_row (by rfl) 49 _ _ (by rfl) (w.heap.size + 1) (va 256 (iv .u8 (fun _ => 0))) (by rfl) (by rfl) 49 _ r1 (size256.trans (by rw [va_size])) (by simp only [va_size]) (iv_one _ _ _) ?_; simp only [Act.put, List.setIfInBounds_toArray, List.set_cons_zero, List.set_cons_succ])
    | fail)
  go_loopw [4] (fun t wr => ∃ k : Nat, k ≤ 256 ∧ t = .int .i64 (k : Int) ∧ Blk wr w.heap.size 49 (va 256 (iv .u8 fun _ => 0)) ∧ Blk wr (w.heap.size + 1) 49 (va 256 (iv .u8 (fupN k (fun _ => x) fun _ => 0))) ∧ Below w.heap.size w wr) (fun t _ => 256 - (intOf t).toNat)
  case atStart =>
    refine ⟨0, by decide, rfl, r0.other _ (by omega), ?_, below_setRow hb0 (by omega) _⟩
    rw [fup_zero]
    exact r1.set _
  case round =>
    obtain ⟨k, hk, rfl, q0, q1, hb⟩ := hrel
    clear r0 r1 hb0
    by_cases hlt : k < 256
    · have c0 := q1.cv (i := k) hlt
      have f0 := q1.frozen k
      have k0 : (0 : Int) ≤ (k : Int) := by omega
      have k1 : (k : Int) < 256 := by omega
      have q2 : Blk (wr.setCell ⟨w.heap.size + 1, k, none⟩ (.int .u8 (x : Int))) (w.heap.size + 1) 49 (va 256 (iv .u8 (fupN (k + 1) (fun _ => x) fun _ => 0))) := by
        have := q1.put k (.int .u8 (x : Int))
        rw [va_set] at this
        have e := fup_step .u8 256 k (fun _ => x) (fun _ => 0)
        rw [e] at this
        exact this
      have q3 : Blk (wr.setCell ⟨w.heap.size + 1, k, none⟩ (.int .u8 (x : Int))) w.heap.size 49 (va 256 (iv .u8 fun _ => 0)) := q0.put_other _ _ (by omega)
      have hb2 : Below w.heap.size w (wr.setCell ⟨w.heap.size + 1, k, none⟩ (.int .u8 (x : Int))) := hb.setCell (p := ⟨w.heap.size + 1, k, none⟩) (Nat.le_succ _) _
      go_wp2_with fail
      refine ⟨⟨k + 1, by omega, by simp, q3, q2, hb2⟩, ?_⟩
      simp [intOf]
      omega
    · obtain rfl : k = 256 := by omega
      rw [fup_all _ _ _ _ _ (Nat.le_refl _)] at q1
      go_wp2_with (first
        | (refine wpList_load_row (by rfl) 49 _ (by rfl) (w.heap.size + 1) (by rfl) 49 (va 256 (iv .u8 (fun _ => x))) (0, 0) _ q1 Tryz.underlying49 (by rfl) (size256.trans (by rw [va_size])) ?_; simp only [Act.put, List.setIfInBounds_toArray, List.set_cons_zero, List.set_cons_succ])
        | (refine wpList_store_row (by rfl) 49 _ _ (by rfl) (w.heap.size) (va 256 (iv .u8 (fun _ => x))) (by rfl) (by rfl) 49 _ q0 (size256.trans (by rw [va_size])) (by simp only [va_size]) (iv_one _ _ _) ?_; simp only [Act.put, List.setIfInBounds_toArray, List.set_cons_zero, List.set_cons_succ])
        | fail)
      try simp only [Exit.inBlock, Exit.then]
      refine bodyPost_ret (results_cell_row Tryz.results15 _ _ w.heap.size 49 (va 256 (iv .u8 fun _ => x)) (0, 0) _ rfl (q0.set _) Tryz.underlying49 rfl (size256.trans (by rw [va_size]))) rfl ?_
      exact ⟨rfl, below_setRow hb (Nat.le_refl _) _⟩
end Go.Proofs.YtiofonffmplfmaaGreat
