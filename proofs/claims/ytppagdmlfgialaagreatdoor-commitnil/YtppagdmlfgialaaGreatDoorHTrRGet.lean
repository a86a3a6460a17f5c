/- The document's block of a reference in an image: what is on the disk, too. -/
import Derived.Test.YtppagdmlfgialaaGreatDoorHIntMap
import Derived.Maps.RangeWalk
import Derived.Maps.Own
import Derived.Handy
import Derived.Test.YtppagdmlfgialaaGreatDoorHSegsP
import Derived.Lib.SlBytesConst
import Derived.ArgAppend
import Derived.Test.YtppagdmlfgialaaGreatDoorHNdKit
import Derived.Deep.DeepCutAuto
import Derived.Deep.Cut
import Derived.Test.YtppagdmlfgialaaGreatDoorHCollKit
import Derived.BigQuiet
import Derived.Deep.QuietTactic

namespace Go.Proofs.YtppagdmlfgialaaGreatDoor
open Go Go.RowKit
open Go.ChangeMaps (setBlock)
set_option linter.unusedSimpArgs false
set_option linter.unusedVariables false

section
variable {β : Type} {P : Program} (V : β → Value)
/-- the entries say the list; each key once -/
def EsJ (es : Array MapEntry) (clock : Nat) (l : List (Int × β)) : Prop := es.toList.map (fun e => (e.key, e.val)) = l.map (fun p => (jK p.1, V p.2)) ∧ (es.toList.map (·.born)).Nodup ∧ (∀ x ∈ es.toList, x.born < clock) ∧ (l.map (·.1)).Nodup
/-- block m is that map -/
def JM (w : World) (m : Nat) (l : List (Int × β)) : Prop := ∃ es clock, w.heap[m]? = some (.map es clock) ∧ EsJ V es clock l
variable {V}
theorem JM.lt {w : World} {m : Nat} {l : List (Int × β)} (h : JM V w m l) : m < w.heap.size := by
  obtain ⟨es, cl, hg, _⟩ := h
  exact (Array.getElem?_eq_some_iff.1 hg).1
theorem JM.keep {w w' : World} {m : Nat} {l : List (Int × β)} (h : JM V w m l) (hb : w'.heap[m]? = w.heap[m]?) : JM V w' m l := by
  obtain ⟨es, cl, hg, h2⟩ := h
  exact ⟨es, cl, hb.trans hg, h2⟩
theorem JM.below {w w' : World} {m B : Nat} {l : List (Int × β)} (h : JM V w m l) (hb : Below B w w') (hm : m < B) : JM V w' m l := h.keep (hb.block m hm)
theorem JM.new {w : World} {m : Nat} {k : Nat} (h : w.heap[m]? = some (.map #[] k)) : JM V w m [] := ⟨#[], k, h, rfl, List.nodup_nil, (fun x hx => by simp at hx), List.nodup_nil⟩
theorem JM.is {w : World} {m : Nat} {l : List (Int × β)} (h : JM V w m l) : MapIs jK V w m l := by
  obtain ⟨es, cl, hg, he, _⟩ := h
  exact ⟨es, cl, hg, he⟩
theorem JM.nd {w : World} {m : Nat} {l : List (Int × β)} (h : JM V w m l) : (l.map (·.1)).Nodup := by
  obtain ⟨es, cl, hg, he⟩ := h
  exact he.2.2.2
theorem findJ_none {a : Int} : ∀ {l : List (Int × β)}, findIn a l = none → a ∉ l.map (·.1)
  | [], _ => by simp
  | p :: l, h => by
    unfold findIn at h
    by_cases hq : a = p.1
    · rw [if_pos hq] at h
      cases h
    · rw [if_neg hq] at h
      simp only [List.map_cons, List.mem_cons, not_or]
      exact ⟨hq, findJ_none h⟩
/-- a key stored -/
theorem JM.put {mt kt et : TypeId} (hm : P.underlying mt = some (.map kt et)) (hk : P.underlying kt = some (.int .i64)) {w : World} {m : Nat} {l : List (Int × β)} (h : JM V w m l) (a : Int) (v : β) :
    ∃ w' l', (Instr.mapUpdate mt (.map (some m)) (.int .i64 a) (V v)).run P w = .ok () w' ∧ JM V w' m l' ∧ (∀ b, findIn b l' = if b = a then some v else findIn b l) ∧ Turns (fun z => z = m) w w' := by
  obtain ⟨es, cl, hg, he, hb, hc, hn⟩ := h
  obtain ⟨g1, g2⟩ := findNow_intV (V := V) a l es.toList 0 he
  have hgo : (getObj m).run P w = .ok (.map es cl) w := by simp [getObj, Sem.run, hg]
  have hso : ∀ o, (setObj m o).run P w = .ok () { w with heap := w.heap.setIfInBounds m o } := fun o => by simp [setObj, Sem.run, hg]
  have hr : m < w.heap.size := (Array.getElem?_eq_some_iff.1 hg).1
  have hT : ∀ o, Turns (fun z => z = m) w { w with heap := w.heap.setIfInBounds m o } := fun o => ⟨rfl, rfl, rfl, by simp, fun b hb hn => by simp [Array.getElem?_setIfInBounds, Ne.symm hn]⟩
  cases hf : findIn a l with
  | none =>
    have hq : (Instr.findKey kt (.int .i64 a) es.toList).run P w = .ok none w := by
      have := g1 hf
      unfold jK at this
      simp [Instr.findKey, run_underlying hk, this]
    refine ⟨{ w with heap := w.heap.setIfInBounds m (.map (es.push { key := jK a, val := V v, born := cl }) (cl + 1)) }, l ++ [(a, v)], ?_, ⟨es.push { key := jK a, val := V v, born := cl }, cl + 1, by simp [hr], by simp [he], ?_, ?_, ?_⟩, fun b => ?_, hT _⟩
    · simp [Instr.mapUpdate, run_underlying hm, hgo, chk_intP hk, hq, hso, jK]
    · rw [Array.toList_push, List.map_append, List.nodup_append]
      refine ⟨hb, by simp, fun x hx y hy e => ?_⟩
      obtain ⟨z, hz, rfl⟩ := List.mem_map.1 hx
      have := hc z hz
      simp at hy
      omega
    · intro x hx
      rw [Array.toList_push, List.mem_append] at hx
      rcases hx with hx | hx
      · have := hc x hx; omega
      · simp at hx; subst hx; simp
    · rw [List.map_append, List.nodup_append]
      refine ⟨hn, by simp, fun x hx y hy e => ?_⟩
      simp at hy
      subst hy
      subst e
      exact findJ_none hf hx
    · show findIn b (l ++ [(a, v)]) = if b = a then some v else findIn b l
      rw [findIn_append]
      by_cases hb : b = a
      · subst hb
        simp [hf, findIn]
      · rw [if_neg hb]
        simp [findIn, hb]
  | some u =>
    obtain ⟨j, g3, g4, g5⟩ := g2 u hf
    have hq : (Instr.findKey kt (.int .i64 a) es.toList).run P w = .ok (some (j, V u)) w := by
      unfold jK at g3
      rw [Nat.zero_add] at g3
      simp [Instr.findKey, run_underlying hk, g3]
    have hel : es.size = l.length := by
      have := congrArg List.length he
      simpa using this
    have hjl : j < l.length := (List.getElem?_eq_some_iff.1 g4).1
    have hkey : ((Option.map (fun x => x.key) es[j]?).getD (Value.int .i64 a)) = .int .i64 a := by
      have h2 := congrArg (fun z => (z[j]?).map Prod.fst) he
      simp only [List.getElem?_map, g4, Option.map_some] at h2
      rw [Array.getElem?_toList] at h2
      cases hq : es[j]? with
      | none => rw [hq] at h2; simp at h2
      | some e =>
        rw [hq] at h2
        simp at h2
        simp [h2, jK]
    have hst : (Instr.keyThatStays (.int .i64 a) (.int .i64 a)).run P w = .ok (.int .i64 a) w := by
      have hb : Instr.sameBits 10000 (Value.int .i64 a) (Value.int .i64 a) = true := by
        rw [show (10000 : Nat) = 9999 + 1 from rfl, Instr.sameBits]
        simp
      simp [Instr.keyThatStays, hb]
    have hbr : (es.modify j fun e => { key := .int .i64 a, val := V v, born := e.born }).toList.map (·.born) = es.toList.map (·.born) := by
      apply List.ext_getElem?
      intro i
      simp only [List.getElem?_map, Array.getElem?_toList, Array.getElem?_modify]
      by_cases hij : j = i
      · subst hij
        rw [if_pos rfl]
        cases es[j]? <;> rfl
      · rw [if_neg hij]
    refine ⟨{ w with heap := w.heap.setIfInBounds m (.map (es.modify j fun e => { key := .int .i64 a, val := V v, born := e.born }) cl) }, l.set j (a, v), ?_, ⟨es.modify j fun e => { key := .int .i64 a, val := V v, born := e.born }, cl, by simp [hr], ?_, by rw [hbr]; exact hb, ?_, ?_⟩, fun b => find_setV a b v l j u g4 g5, hT _⟩
    · simp only [Instr.mapUpdate, run_underlying hm, Sem.run_bind, hgo, chk_intP hk, hq, Result.andThen_ok, hkey, hst, hso]
    · apply List.ext_getElem?
      intro i
      have h2 := congrArg (fun z => z[i]?) he
      simp only [List.getElem?_map, Array.getElem?_toList] at h2 ⊢
      rw [Array.getElem?_modify, List.getElem?_set]
      by_cases hij : j = i
      · subst hij
        rw [if_pos rfl, if_pos rfl, if_pos hjl]
        rw [Array.getElem?_eq_getElem (by omega)]
        simp [jK]
      · rw [if_neg hij, if_neg hij]
        exact h2
    · intro x hx
      have : x.born ∈ (es.modify j fun e => { key := .int .i64 a, val := V v, born := e.born }).toList.map (·.born) := List.mem_map.2 ⟨x, hx, rfl⟩
      rw [hbr] at this
      obtain ⟨y, hy, e⟩ := List.mem_map.1 this
      rw [← e]
      exact hc y hy
    · have e1 : (l.set j (a, v)).map (·.1) = l.map (·.1) := by
        apply List.ext_getElem?
        intro i
        simp only [List.getElem?_map, List.getElem?_set]
        by_cases hij : j = i
        · subst hij
          rw [if_pos rfl, if_pos hjl, g4]
          rfl
        · rw [if_neg hij]
      rw [e1]
      exact hn
/-- block r goes over the map in block b; these keys have come -/
def ItJ (V : β → Value) (w : World) (r b : Nat) (l : List (Int × β)) (done : List Int) : Prop := ∃ es clock since seen c0, w.heap[r]? = some (.mapIter (some b) since seen c0) ∧ w.heap[b]? = some (.map es clock) ∧ EsJ V es since l ∧ since ≤ c0 ∧ since ≤ clock ∧ done.Nodup ∧ (∀ e ∈ es.toList, ∀ x, e.key = jK x → (seen.contains e.born = true ↔ x ∈ done)) ∧ (∀ x ∈ done, x ∈ l.map (·.1)) ∧ seen.size = done.length
/-- how many have come, by the iterator alone -/
def itN (w : World) (r : Nat) : Nat := match w.heap[r]? with
  | some (.mapIter _ _ seen _) => seen.size
  | _ => 0
theorem ItJ.keep {w w' : World} {r b : Nat} {l : List (Int × β)} {done : List Int} (h : ItJ V w r b l done) (hr : w'.heap[r]? = w.heap[r]?) (hb : w'.heap[b]? = w.heap[b]?) : ItJ V w' r b l done := by
  obtain ⟨es, c, s, sn, c0, h1, h2, rest⟩ := h
  exact ⟨es, c, s, sn, c0, hr.trans h1, hb.trans h2, rest⟩
theorem ItJ.lt {w : World} {r b : Nat} {l : List (Int × β)} {done : List Int} (h : ItJ V w r b l done) : r < w.heap.size ∧ b < w.heap.size := by
  obtain ⟨es, c, s, sn, c0, h1, h2, rest⟩ := h
  exact ⟨(Array.getElem?_eq_some_iff.1 h1).1, (Array.getElem?_eq_some_iff.1 h2).1⟩
theorem ItJ.le {w : World} {r b : Nat} {l : List (Int × β)} {done : List Int} (h : ItJ V w r b l done) : done.length ≤ l.length := by
  obtain ⟨es, c, s, sn, c0, h1, h2, h3, h4, h5, h6, h7, h8, _⟩ := h
  have := h6.length_le_of_subset (l₂ := l.map (·.1)) fun x hx => h8 x hx
  simpa using this
theorem ItJ.num {w : World} {r b : Nat} {l : List (Int × β)} {done : List Int} (h : ItJ V w r b l done) : itN w r = done.length := by
  obtain ⟨es, c, s, sn, c0, h1, h2, h3, h4, h5, h6, h7, h8, h9⟩ := h
  unfold itN
  rw [h1]
  exact h9
theorem ItJ.sub {w : World} {r b : Nat} {l : List (Int × β)} {done : List Int} (h : ItJ V w r b l done) : ∀ x ∈ done, x ∈ l.map (·.1) := by
  obtain ⟨es, c, s, sn, c0, h1, h2, h3, h4, h5, h6, h7, h8, h9⟩ := h
  exact h8
theorem ItJ.map {w : World} {r b : Nat} {l : List (Int × β)} {done : List Int} (h : ItJ V w r b l done) : JM V w b l := by
  obtain ⟨es, c, s, sn, c0, h1, h2, h3, h4, h5, _⟩ := h
  exact ⟨es, c, h2, h3.1, h3.2.1, (fun x hx => Nat.lt_of_lt_of_le (h3.2.2.1 x hx) h5), h3.2.2.2⟩
theorem jK_inj {a b : Int} (h : jK a = jK b) : a = b := by
  unfold jK at h
  injection h
theorem ej_mem {es : Array MapEntry} {c : Nat} {l : List (Int × β)} (h : EsJ V es c l) {e : MapEntry} (he : e ∈ es.toList) : ∃ x v, (x, v) ∈ l ∧ e.key = jK x ∧ e.val = V v := by
  have : (e.key, e.val) ∈ es.toList.map (fun e => (e.key, e.val)) := List.mem_map.2 ⟨e, he, rfl⟩
  rw [h.1] at this
  obtain ⟨x, hx, hq⟩ := List.mem_map.1 this
  simp only [Prod.mk.injEq] at hq
  exact ⟨x.1, x.2, hx, hq.1.symm, hq.2.symm⟩
theorem ej_of {es : Array MapEntry} {c : Nat} {l : List (Int × β)} (h : EsJ V es c l) {x : Int} (hx : x ∈ l.map (·.1)) : ∃ e ∈ es.toList, e.key = jK x := by
  obtain ⟨p, hp, rfl⟩ := List.mem_map.1 hx
  have : (jK p.1, V p.2) ∈ l.map (fun a => (jK a.1, V a.2)) := List.mem_map.2 ⟨p, hp, rfl⟩
  rw [← h.1] at this
  obtain ⟨e, he, hq⟩ := List.mem_map.1 this
  simp only [Prod.mk.injEq] at hq
  exact ⟨e, he, hq.1⟩
theorem ej_one {es : Array MapEntry} {c : Nat} {l : List (Int × β)} (h : EsJ V es c l) {e f : MapEntry} (he : e ∈ es.toList) (hf : f ∈ es.toList) (hk : e.key = f.key) : e = f := by
  have hnd : (es.toList.map (fun e => e.key)).Nodup := by
    have h1 : es.toList.map (fun e => e.key) = (l.map (·.1)).map jK := by
      have := congrArg (List.map Prod.fst) h.1
      rw [List.map_map, List.map_map] at this
      rw [List.map_map]
      exact this
    rw [h1, List.Nodup, List.pairwise_map]
    exact h.2.2.2.imp fun hne e => hne (jK_inj e)
  obtain ⟨i, hi, rfl⟩ := List.getElem_of_mem he
  obtain ⟨j, hj, rfl⟩ := List.getElem_of_mem hf
  have : i = j := by
    refine (List.getElem_inj (h₀ := by simpa using hi) (h₁ := by simpa using hj) hnd).1 ?_
    simpa using hk
  subst this
  rfl
section
variable {ops : Array Oper} {rest : List Oper} {o : Oper} {a : Act} {w : World} {Q : Exit → Act → World → Prop}
theorem wpList_range_J (hg : o.guard = none) (m : Operand) (t : TypeId) (hop : o.op = Op.range t m) (kt et : TypeId) (ht : P.underlying t = some (.map kt et)) (b : Nat) (l : List (Int × β)) (hm : a.eval m = .map (some b)) (h : JM V w b l)
    (hK : ∀ w', ItJ V w' w.heap.size b l [] → Below w.heap.size w w' → w'.heap.size = w.heap.size + 1 → wpList P ops Q rest (a.put o.dst (.pointer (some ⟨w.heap.size, 0, none⟩))) w') : wpList P ops Q (o :: rest) a w := by
  obtain ⟨es, clock, h1, h2⟩ := h
  have hb : b < w.heap.size := (Array.getElem?_eq_some_iff.1 h1).1
  refine wpList_plain hg fun K' hK' => ?_
  have hrun := run_range_map (P := P) w t kt et b es clock ht h1
  unfold Oper.wp
  simp [execOp, hop, hm, hrun, Result.andThen]
  refine hK' _ _ (hK _ ⟨es, clock, clock, #[], clock, ?_, ?_, h2, Nat.le_refl _, Nat.le_refl _, List.nodup_nil, fun e he x hx => by simp, (fun x hx => by simp at hx), rfl⟩ ((Below.refl _ w).alloc (Nat.le_refl _) _) (by simp))
  · exact heap_alloc_new _ _
  · rw [heap_alloc_old _ _ hb]; exact h1
theorem wpList_next_J (hg : o.guard = none) (it : Operand) (hop : o.op = Op.next it false) (r b : Nat) (l : List (Int × β)) (done : List Int) (hit : a.eval it = .pointer (some ⟨r, 0, none⟩)) (h : ItJ V w r b l done) (hrb : r ≠ b)
    (hDone : (∀ x ∈ l.map (·.1), x ∈ done) → wpList P ops Q rest (a.put o.dst (.tuple #[.bool false])) w)
    (hMore : ∀ (x : Int) (v : β) (w' : World), (x, v) ∈ l → x ∉ done → ItJ V w' r b l (done ++ [x]) → Turns (fun z => z = r) w w' → (Instr.entry (.pointer (some ⟨r, 0, none⟩))).run P w' = .ok (.tuple #[.int .i64 x, V v]) w' → wpList P ops Q rest (a.put o.dst (.tuple #[.bool true, .int .i64 x, V v])) w') :
    wpList P ops Q (o :: rest) a w := by
  obtain ⟨es, clock, since, seen, c0, h1, h2, h3, h4, h5, h6, h7, h8, h9⟩ := h
  refine wpList_plain hg fun K' hK' => ?_
  unfold Oper.wp
  rcases run_next_at (P := P) w o.type r b since c0 seen es clock h1 h2 h3.2.2.1 h4 with ⟨g0, hrun⟩ | ⟨e, he, w1, hw1, hrun⟩
  · simp [execOp, hop, hit, hrun, Result.andThen]
    refine hK' _ _ (hDone fun x hx => ?_)
    obtain ⟨e, he, hek⟩ := ej_of h3 hx
    exact (h7 e he x hek).1 (all_seen es seen g0 e he)
  · obtain ⟨hem, hes⟩ := mem_left he
    obtain ⟨x, v, hxl, hxk, hxv⟩ := ej_mem h3 hem
    have hxd : x ∉ done := fun hd => by
      have := (h7 e hem x hxk).2 hd
      rw [this] at hes
      cases hes
    rw [hxk, hxv] at hrun
    have hr : r < w.heap.size := (Array.getElem?_eq_some_iff.1 h1).1
    have hh : w1.heap = w.heap := by rcases hw1 with rfl | rfl <;> rfl
    have e1 : (setBlock w1 r (.mapIter (some b) since (seen.push e.born) clock)).heap[r]? = some (.mapIter (some b) since (seen.push e.born) clock) := by simp [setBlock, hh, hr]
    have e2 : ∀ k, k ≠ r → (setBlock w1 r (.mapIter (some b) since (seen.push e.born) clock)).heap[k]? = w.heap[k]? := fun k hk => by simp [setBlock, hh, Array.getElem?_setIfInBounds, Ne.symm hk]
    have hen := run_entry_at (P := P) (setBlock w1 r (.mapIter (some b) since (seen.push e.born) clock)) r b since seen es clock e e1 ((e2 b (Ne.symm hrb)).trans h2) hem h3.2.1
    rw [hxk, hxv] at hen
    unfold jK at hrun hen
    simp [execOp, hop, hit, hrun, Result.andThen]
    refine hK' _ _ (hMore x v _ hxl hxd ⟨es, clock, since, seen.push e.born, clock, e1, (e2 b (Ne.symm hrb)).trans h2, h3, h5, h5, ?_, ?_, ?_, by simp [h9]⟩ ⟨?_, ?_, ?_, ?_, fun k hk hn => e2 k hn⟩ hen)
    · rw [List.nodup_append]
      exact ⟨h6, by simp, fun y hy z hz q => by simp at hz; subst hz; subst q; exact hxd hy⟩
    · intro f hf y hy
      rw [contains_push, Bool.or_eq_true, List.mem_append, List.mem_singleton, h7 f hf y hy]
      refine or_congr Iff.rfl ⟨fun q => ?_, fun q => ?_⟩
      · have := born_inj h3.2.1 hf hem (beq_iff_eq.1 q)
        subst this
        rw [hxk] at hy
        exact (jK_inj hy).symm
      · subst q
        rw [ej_one h3 hf hem (by rw [hy, hxk])]
        exact beq_self_eq_true _
    · intro y hy
      rw [List.mem_append, List.mem_singleton] at hy
      rcases hy with hy | rfl
      · exact h8 y hy
      · exact List.mem_map.2 ⟨_, hxl, rfl⟩
    · rcases hw1 with rfl | rfl <;> rfl
    · rcases hw1 with rfl | rfl <;> rfl
    · rcases hw1 with rfl | rfl <;> rfl
    · simp [setBlock, hh]
end
end
end Go.Proofs.YtppagdmlfgialaaGreatDoor

namespace Go.Proofs.YtppagdmlfgialaaGreatDoor
open Go Go.RowKit
set_option linter.unusedSimpArgs false
set_option linter.unusedVariables false

theorem strN_bk {f g : Nat → Nat} (h : bkSame f g) : strN f 256 = strN g 256 := strN_congr h
theorem dgB_bk {f g : Nat → Nat} (h : bkSame f g) : dgB f = dgB g := by
  unfold dgB
  rw [strN_bk h]
theorem decK_bk {f g : Nat → Nat} (h : bkSame f g) : decK f = decK g := by
  funext i
  unfold decK rawK
  rw [strN_bk h]
theorem rdOk_bk {f g : Nat → Nat} (h : bkSame f g) : rdOk f = rdOk g := by
  have h4 : f 4 = g 4 := h 4 (by decide)
  have e : bkSame (nodeB (g 4) (decK g)) f ↔ bkSame (nodeB (g 4) (decK g)) g := ⟨fun q i hi => (q i hi).trans (h i hi), fun q i hi => (q i hi).trans (h i hi).symm⟩
  unfold rdOk
  rw [decK_bk h, h4, decide_eq_decide.2 e]
theorem blkAt_bk {X X' : Nat → Nat} {n a : Nat} (hx : ∀ x, x < n * 256 → X' x = X x) (ha : a < n) : bkSame (blkAt X' a) (blkAt X a) := fun j hj => hx _ (by omega)
theorem gotOk_ext {X X' : Nat → Nat} {n n' : Nat} {k : Rf} (hx : ∀ x, x < n * 256 → X' x = X x) (hn : n ≤ n') (h : gotOk X n k) : gotOk X' n' k := by
  obtain ⟨h1, h2, h3⟩ := h
  exact ⟨h1, by omega, (dgB_bk (blkAt_bk hx h2)).trans h3⟩
/-- what hangs beneath a reference of a level, in an image of n blocks X: G p is the leaf of the place p there -/
def Has (X : Nat → Nat) (n : Nat) : Nat → Rf → (Nat → Nat → Nat) → Prop
  | 0, r, G => (r = rf0 ∧ ∀ j, j < 256 → G 0 j = 0) ∨ (r ≠ rf0 ∧ gotOk X n r ∧ ∀ j, j < 256 → blkAt X r.1 j = G 0 j)
  | l + 1, r, G => (r = rf0 ∧ ∀ p, p < 4 ^ (l + 1) → ∀ j, j < 256 → G p j = 0) ∨ (r ≠ rf0 ∧ gotOk X n r ∧ rdOk (blkAt X r.1) = true ∧ blkAt X r.1 4 = l + 1 ∧ ∀ i, i < 4 → Has X n l (decK (blkAt X r.1) i) fun p => G (i * 4 ^ l + p))
theorem Has.ext {X X' : Nat → Nat} {n n' : Nat} (hx : ∀ x, x < n * 256 → X' x = X x) (hn : n ≤ n') : ∀ {l : Nat} {r : Rf} {G : Nat → Nat → Nat}, Has X n l r G → Has X' n' l r G
  | 0, r, G, h => by
    rcases h with h | ⟨h1, h2, h3⟩
    · exact .inl h
    · exact .inr ⟨h1, gotOk_ext hx hn h2, fun j hj => (blkAt_bk hx h2.2.1 j hj).trans (h3 j hj)⟩
  | l + 1, r, G, h => by
    rcases h with h | ⟨h1, h2, h3, h4, h5⟩
    · exact .inl h
    · have hb := blkAt_bk hx h2.2.1
      refine .inr ⟨h1, gotOk_ext hx hn h2, (rdOk_bk hb).trans h3, (hb 4 (by decide)).trans h4, fun i hi => ?_⟩
      rw [decK_bk hb]
      exact (h5 i hi).ext hx hn
theorem Has.congr {X : Nat → Nat} {n : Nat} : ∀ {l : Nat} {r : Rf} {G G' : Nat → Nat → Nat}, (∀ p, p < 4 ^ l → ∀ j, j < 256 → G p j = G' p j) → Has X n l r G → Has X n l r G'
  | 0, r, G, G', hg, h => by
    rcases h with ⟨h1, h2⟩ | ⟨h1, h2, h3⟩
    · exact .inl ⟨h1, fun j hj => (hg 0 (by decide) j hj).symm.trans (h2 j hj)⟩
    · exact .inr ⟨h1, h2, fun j hj => (h3 j hj).trans (hg 0 (by decide) j hj)⟩
  | l + 1, r, G, G', hg, h => by
    rcases h with ⟨h1, h2⟩ | ⟨h1, h2, h3, h4, h5⟩
    · exact .inl ⟨h1, fun p hp j hj => (hg p hp j hj).symm.trans (h2 p hp j hj)⟩
    · refine .inr ⟨h1, h2, h3, h4, fun i hi => (h5 i hi).congr fun p hp j hj => hg _ ?_ j hj⟩
      rw [Nat.pow_succ]
      have : i * 4 ^ l ≤ 3 * 4 ^ l := Nat.mul_le_mul_right _ (by omega)
      omega
theorem Has.none {X : Nat → Nat} {n l : Nat} {G : Nat → Nat → Nat} (h : ∀ p, p < 4 ^ l → ∀ j, j < 256 → G p j = 0) : Has X n l rf0 G := by
  cases l with
  | zero => exact .inl ⟨rfl, h 0 (by decide)⟩
  | succ l => exact .inl ⟨rfl, h⟩
theorem Has.zero {X : Nat → Nat} {n l : Nat} {G : Nat → Nat → Nat} (h : Has X n l rf0 G) : ∀ p, p < 4 ^ l → ∀ j, j < 256 → G p j = 0 := by
  cases l with
  | zero =>
    rcases h with ⟨_, h⟩ | ⟨h, _⟩
    · intro p hp
      obtain rfl : p = 0 := by simpa using hp
      exact h
    · exact absurd rfl h
  | succ l =>
    rcases h with ⟨_, h⟩ | ⟨h, _⟩
    · exact h
    · exact absurd rfl h
theorem Has.ok {X : Nat → Nat} {n l : Nat} {r : Rf} {G : Nat → Nat → Nat} (h : Has X n l r G) : rOk r = true := by
  have : r = rf0 ∨ r.1 ≠ 0 := by
    cases l with
    | zero =>
      rcases h with h | h
      · exact .inl h.1
      · exact .inr h.2.1.1
    | succ l =>
      rcases h with h | h
      · exact .inl h.1
      · exact .inr h.2.1.1
  unfold rOk
  rcases this with h | h
  · simp [h]
  · simp [h]
theorem apX_old (X : Nat → Nat) (n : Nat) (f : Nat → Nat) : ∀ x, x < n * 256 → apX X n f x = X x := fun x hx => if_pos hx
theorem apX_new (X : Nat → Nat) (n : Nat) (f : Nat → Nat) : bkSame (blkAt (apX X n f) n) f := fun j hj => by
  show (if n * 256 + j < n * 256 then _ else f (n * 256 + j - n * 256)) = f j
  rw [if_neg (by omega), show n * 256 + j - n * 256 = j by omega]
theorem ref_new {n : Nat} {f : Nat → Nat} (hn : 1 ≤ n) : ((n, dgB f) : Rf) ≠ rf0 := fun e => by
  have := congrArg Prod.fst e
  simp [rf0] at this
  omega
theorem gotOk_new (X : Nat → Nat) {n : Nat} (f : Nat → Nat) (hn : 1 ≤ n) : gotOk (apX X n f) (n + 1) (n, dgB f) := ⟨by show n ≠ 0; omega, by show n < n + 1; omega, dgB_bk (apX_new X n f)⟩
theorem putR_ext {X X' : Nat → Nat} {n n' : Nat} {f : Nat → Nat} {r : Rf} (h : PutR X n f X' n' r) : n ≤ n' ∧ n' ≤ n + 1 ∧ ∀ x, x < n * 256 → X' x = X x := by
  rcases h with ⟨_, rfl, rfl, rfl⟩ | ⟨_, rfl, rfl, rfl⟩
  · exact ⟨Nat.le_refl _, Nat.le_succ _, fun x _ => rfl⟩
  · exact ⟨Nat.le_succ _, Nat.le_refl _, apX_old X n f⟩
/-- a leaf that was put -/
theorem Has.leaf {X X' : Nat → Nat} {n n' : Nat} {f : Nat → Nat} {r : Rf} {G : Nat → Nat → Nat} (hn : 1 ≤ n) (h : PutR X n f X' n' r) (hG : ∀ j, j < 256 → G 0 j = f j) : Has X' n' 0 r G := by
  rcases h with ⟨h1, rfl, rfl, rfl⟩ | ⟨h1, rfl, rfl, rfl⟩
  · exact .inl ⟨rfl, fun j hj => (hG j hj).trans (h1 j hj)⟩
  · exact .inr ⟨ref_new hn, gotOk_new X f hn, fun j hj => (apX_new X n f j hj).trans (hG j hj).symm⟩
/-- the leaf of a place, by a list of keys and leaves -/
def gJ (L : List (Int × (Nat → Nat))) (a : Int) : Nat → Nat := (findIn a L).getD fun _ => 0
def lfV (f : Nat → Nat) : Value := .agg (va 256 (iv .u8 f))
/-- leaves by their places: a list told once -/
structure LvOk (L : List (Int × (Nat → Nat))) : Prop where
  key : ∀ a ∈ L, 0 ≤ a.1 ∧ a.1 ≤ 9223372036854775807
  byte : ∀ a ∈ L, ∀ j, a.2 j < 256
theorem findJ_mem {β : Type} {a : Int} {v : β} : ∀ {l : List (Int × β)}, findIn a l = some v → (a, v) ∈ l
  | [], h => by cases h
  | p :: l, h => by
    unfold findIn at h
    by_cases hq : a = p.1
    · rw [if_pos hq] at h
      cases h
      rw [hq]
      simp
    · rw [if_neg hq] at h
      exact List.mem_cons_of_mem _ (findJ_mem h)
theorem gJ_byte {L : List (Int × (Nat → Nat))} (h : LvOk L) (a : Int) (j : Nat) : gJ L a j < 256 := by
  unfold gJ
  cases hf : findIn a L with
  | none => exact Nat.zero_lt_succ _
  | some f => exact h.byte _ (findJ_mem hf) j
/-- a look-up tells the leaf -/
theorem JM.leaf {P : Program} {mt kt et : TypeId} (hm : P.underlying mt = some (.map kt et)) (hk : P.underlying kt = some (.int .i64)) (hz : ∀ w, (zeroValue et).run P w = .ok (lfV fun _ => 0) w) {w : World} {m : Nat} {L : List (Int × (Nat → Nat))} (h : JM lfV w m L) (a : Int) :
    (Instr.lookup mt (.map (some m)) (.int .i64 a) false).run P w = .ok (lfV (gJ L a)) w := by
  have := intMap_look (V := lfV) hm hk hz h.is a false
  rw [if_neg (by decide)] at this
  rw [this]
  unfold gJ
  cases findIn a L <;> rfl
end Go.Proofs.YtppagdmlfgialaaGreatDoor

namespace Go.Proofs.YtppagdmlfgialaaGreatDoor
open Go Go.RowKit
set_option linter.unusedSimpArgs false
set_option linter.unusedVariables false

theorem size256 : (Tryz.prog.info? 121).map (·.size) = some 256 := by kernel_rfl
end Go.Proofs.YtppagdmlfgialaaGreatDoor

namespace Go.Proofs.YtppagdmlfgialaaGreatDoor
open Go Go.RowKit
set_option linter.unusedSimpArgs false
set_option linter.unusedVariables false

/-- may a tree be? -/
def trOk (h : Int) (R : Rf) : Prop := rOk R = true ∧ 0 ≤ h ∧ h ≤ 6
instance (h : Int) (R : Rf) : Decidable (trOk h R) := by unfold trOk; infer_instance
set_option maxRecDepth 100000 in
set_option maxHeartbeats 4000000 in
theorem right_ref (h : Int) (R : Rf) (hR : R.1 < 4294967296) (hD : okD R.2) (hok : rOk R = true) (y : Bool) (hy : ∀ w, Calls Tryz.prog 193 #[.int .i64 h] w fun e w1 => e = .returned (.bool y) ∧ w = w1) (w : World) : Calls Tryz.prog 267 #[.agg (trC h R)] w fun x w' => x = .returned (.bool y) ∧ Below w.heap.size w w' := by
  have hz := zero_ref
  have hEn : Hid (∀ w, Calls Tryz.prog 182 #[.agg (rfC R)] w fun e w' => e = .returned (.string (strN (encR R) 36)) ∧ Below w.heap.size w w') := encR_any R hD
  have hDe : Hid (∀ w, Calls Tryz.prog 312 #[.string (strN (encR R) 36), .int .i64 0] w fun e w' => e = .returned (.tuple #[.agg (rfC R), .bool true]) ∧ Below w.heap.size w w') := fun w => by
    have h1 := decodeR_good (strN (encR R) 36) 0 (by rw [strN_size]; unfold maxLen; decide) (by rw [strN_size]; decide) w
    rw [decR_of (strN (encR R) 36) 0 R hR (fun j hj => by rw [Nat.zero_add]; exact strN_at (encR R) 36 j hj (encR_lt R hD j hj))] at h1
    simp only [hok, if_true, Bool.false_eq_true, if_false] at h1
    exact h1
  have hsz : (strN (encR R) 36).size = 36 := strN_size _ _
  have hb1 : Below w.heap.size w (w.alloc (.cells (trC h R) 46)) := below_new1 _ _
  have t1 : Blk (w.alloc (.cells (trC h R) 46)) w.heap.size 46 (trC h R) := Blk.new _ _ _
  have HR1 : Hid ((w.alloc (.cells (trC h R) 46)).rangeAt w.heap.size 1 ((List.range 33).map (rfF R.1 R.2))) := tr_range t1
  clear hok hD hR
  generalize strN (encR R) 36 = sv at *
  go_enter Tryz.func267, Tryz.ntmps267
  go_wp2_with (first
    | (refine wpList_load_blk (by rfl) 41 _ (by rfl) (w.heap.size) (1) 33 (rfF R.1 R.2) (by rfl) _ (by exact HR1.out) Tryz.underlying41 rfl tsizeRef ?_; simp only [Act.put, List.setIfInBounds_toArray, List.set_cons_zero, List.set_cons_succ])
    | fail)
  generalize (w.alloc (.cells (trC h R) 46)) = w1 at *
  refine (hEn.out w1).mono ?_
  rintro x w2 ⟨rfl, hb2⟩
  have t2 := t1.below hb2 t1.lt
  have hb12 : Below w.heap.size w w2 := hb1.trans (hb2.mono hb1.size)
  clear HR1 hb2 t1 hb1
  go_wp2_with fail
  refine (hDe.out w2).mono ?_
  rintro x w3 ⟨rfl, hb3⟩
  have t3 := t2.below hb3 t2.lt
  have hb13 : Below w.heap.size w w3 := hb12.trans (hb3.mono hb12.size)
  have q0 := Blk.new w3 41 (rfC rf0)
  have hb4 : Below w3.heap.size w3 ((w3.alloc (.cells (rfC rf0) 41)).setRow w3.heap.size (rfC R)) := below_setRow (below_new1 _ _) (Nat.le_refl _) _
  have t4 := t3.below hb4 t3.lt
  have z4 : ((w3.alloc (.cells (rfC rf0) 41)).setRow w3.heap.size (rfC R)).cell? ⟨w.heap.size, 0, none⟩ = some (.int .i64 h) := (t4.cell 0).trans (va_at (trF h R) (by decide))
  have hb14 : Below w.heap.size w ((w3.alloc (.cells (rfC rf0) 41)).setRow w3.heap.size (rfC R)) := hb13.trans (hb4.mono hb13.size)
  clear hb4 hb13 hb12 hb3 t2 t3 t4
  go_wp2_with (first
    | (refine wpList_store_row (by rfl) 41 _ _ (by rfl) (w3.heap.size) (rfC R) (by rfl) (by rfl) 41 (_) (by exact q0) (tsizeRef.trans (by rw [rfC_size])) (by simp only [rfC_size]) (rfC_all _) ?_; simp only [Act.put, List.setIfInBounds_toArray, List.set_cons_zero, List.set_cons_succ])
    | fail)
  clear q0
  generalize ((w3.alloc (.cells (rfC rf0) 41)).setRow w3.heap.size (rfC R)) = w4 at *
  refine (hy w4).mono ?_
  rintro x _ ⟨rfl, rfl⟩
  go_wp2_with fail
  go_ret
  exact ⟨rfl, hb14⟩
set_option maxRecDepth 100000 in
set_option maxHeartbeats 4000000 in
theorem right_noref (h : Int) (R : Rf) (hR : R.1 < 4294967296) (hD : okD R.2) (hok : rOk R = false) (w : World) : Calls Tryz.prog 267 #[.agg (trC h R)] w fun x w' => x = .returned (.bool false) ∧ Below w.heap.size w w' := by
  have hz := zero_ref
  have hEn : Hid (∀ w, Calls Tryz.prog 182 #[.agg (rfC R)] w fun e w' => e = .returned (.string (strN (encR R) 36)) ∧ Below w.heap.size w w') := encR_any R hD
  have hDe : Hid (∀ w, Calls Tryz.prog 312 #[.string (strN (encR R) 36), .int .i64 0] w fun e w' => e = .returned (.tuple #[.agg (rfC rf0), .bool false]) ∧ Below w.heap.size w w') := fun w => by
    have h1 := decodeR_good (strN (encR R) 36) 0 (by rw [strN_size]; unfold maxLen; decide) (by rw [strN_size]; decide) w
    rw [decR_of (strN (encR R) 36) 0 R hR (fun j hj => by rw [Nat.zero_add]; exact strN_at (encR R) 36 j hj (encR_lt R hD j hj))] at h1
    simp only [hok, if_true, Bool.false_eq_true, if_false] at h1
    exact h1
  have hsz : (strN (encR R) 36).size = 36 := strN_size _ _
  have hb1 : Below w.heap.size w (w.alloc (.cells (trC h R) 46)) := below_new1 _ _
  have t1 : Blk (w.alloc (.cells (trC h R) 46)) w.heap.size 46 (trC h R) := Blk.new _ _ _
  have HR1 : Hid ((w.alloc (.cells (trC h R) 46)).rangeAt w.heap.size 1 ((List.range 33).map (rfF R.1 R.2))) := tr_range t1
  clear hok hD hR
  generalize strN (encR R) 36 = sv at *
  go_enter Tryz.func267, Tryz.ntmps267
  go_wp2_with (first
    | (refine wpList_load_blk (by rfl) 41 _ (by rfl) (w.heap.size) (1) 33 (rfF R.1 R.2) (by rfl) _ (by exact HR1.out) Tryz.underlying41 rfl tsizeRef ?_; simp only [Act.put, List.setIfInBounds_toArray, List.set_cons_zero, List.set_cons_succ])
    | fail)
  generalize (w.alloc (.cells (trC h R) 46)) = w1 at *
  refine (hEn.out w1).mono ?_
  rintro x w2 ⟨rfl, hb2⟩
  have t2 := t1.below hb2 t1.lt
  have hb12 : Below w.heap.size w w2 := hb1.trans (hb2.mono hb1.size)
  clear HR1 hb2 t1 hb1
  go_wp2_with fail
  refine (hDe.out w2).mono ?_
  rintro x w3 ⟨rfl, hb3⟩
  have t3 := t2.below hb3 t2.lt
  have hb13 : Below w.heap.size w w3 := hb12.trans (hb3.mono hb12.size)
  have q0 := Blk.new w3 41 (rfC rf0)
  have hb4 : Below w3.heap.size w3 ((w3.alloc (.cells (rfC rf0) 41)).setRow w3.heap.size (rfC rf0)) := below_setRow (below_new1 _ _) (Nat.le_refl _) _
  have t4 := t3.below hb4 t3.lt
  have z4 : ((w3.alloc (.cells (rfC rf0) 41)).setRow w3.heap.size (rfC rf0)).cell? ⟨w.heap.size, 0, none⟩ = some (.int .i64 h) := (t4.cell 0).trans (va_at (trF h R) (by decide))
  have hb14 : Below w.heap.size w ((w3.alloc (.cells (rfC rf0) 41)).setRow w3.heap.size (rfC rf0)) := hb13.trans (hb4.mono hb13.size)
  clear hb4 hb13 hb12 hb3 t2 t3 t4
  go_wp2_with (first
    | (refine wpList_store_row (by rfl) 41 _ _ (by rfl) (w3.heap.size) (rfC rf0) (by rfl) (by rfl) 41 (_) (by exact q0) (tsizeRef.trans (by rw [rfC_size])) (by simp only [rfC_size]) (rfC_all _) ?_; simp only [Act.put, List.setIfInBounds_toArray, List.set_cons_zero, List.set_cons_succ])
    | fail)
  go_ret
  exact ⟨rfl, hb14⟩
theorem tright_any (h : Int) (R : Rf) (hR : R.1 < 4294967296) (hD : okD R.2) (w : World) : Calls Tryz.prog 267 #[.agg (trC h R)] w fun x w' => x = .returned (.bool (decide (trOk h R))) ∧ Below w.heap.size w w' := by
  cases hok : rOk R with
  | false =>
    rw [decide_eq_false (fun u : trOk h R => by rw [u.1] at hok; cases hok)]
    exact right_noref h R hR hD hok w
  | true =>
    by_cases hh : 0 ≤ h ∧ h ≤ 6
    · rw [decide_eq_true (show trOk h R from ⟨hok, hh⟩)]
      obtain ⟨n, rfl⟩ : ∃ n : Nat, h = (n : Int) := ⟨h.toNat, by omega⟩
      exact right_ref _ R hR hD hok true (fun w => mayBe_yes n (by omega) w) w
    · rw [decide_eq_false (fun u : trOk h R => hh u.2)]
      exact right_ref h R hR hD hok false (fun w => mayBe_no h (by omega) w) w
set_option maxRecDepth 100000 in
set_option maxHeartbeats 4000000 in
theorem wayTo_ok (h : Int) (R : Rf) (hR : R.1 < 4294967296) (hD : okD R.2) (hok : trOk h R) (l : Int) (q : Nat) (p : Int) (hpq : p = (q : Int)) (hl : 0 ≤ l ∧ l ≤ h) (n : Nat) (hn : h - l = (n : Int)) (hp : q < 4 ^ n) (w : World) : Calls Tryz.prog 214 #[.agg (trC h R), .int .i64 l, .int .i64 p] w fun x w' => ∃ b, x = .returned (.tuple #[.slice (some ⟨b, 0, none⟩) n n, .int .i64 0]) ∧ w.heap.size ≤ b ∧ Blk w' b 3 (va n (iv .i64 (wayN n q))) ∧ Below w.heap.size w w' := by
  have hRi : Hid (∀ w, Calls Tryz.prog 267 #[.agg (trC h R)] w fun x w' => x = .returned (.bool true) ∧ Below w.heap.size w w') := fun w => by
    have := tright_any h R hR hD w
    rw [decide_eq_true hok] at this
    exact this
  have hb1 : Below w.heap.size w (w.alloc (.cells (trC h R) 46)) := below_new1 _ _
  have t1 : Blk (w.alloc (.cells (trC h R) 46)) w.heap.size 46 (trC h R) := Blk.new _ _ _
  have hl0 : ¬ l < 0 := by omega
  have d1 : decide (l < 0) = false := decide_eq_false hl0
  have hl1 : ¬ h < l := by omega
  have d2 : decide (h < l) = false := decide_eq_false hl1
  have hw1 : IntKind.i64.wrap (h - l) = h - l := by
    have := hok.2
    rw [IntKind.wrap_i64]
    omega
  have hw2 : wrap64 (h - l) = h - l := by
    rw [← IntWalk.i64_left]
    exact hw1
  obtain ⟨b1, b2, b3⟩ := hok
  subst hpq
  go_enter Tryz.func214, Tryz.ntmps214
  go_wp2_with (first
    | (refine wpList_load_rowg (by rfl) 46 _ (by rfl) (w.heap.size) (by rfl) 46 (trC h R) (0, 0) _ (by exact t1) Tryz.underlying46 (by rfl) (sizeTr.trans (by rw [trC_size])) ?_; simp only [Act.put, List.setIfInBounds_toArray, List.set_cons_zero, List.set_cons_succ])
    | fail)
  generalize (w.alloc (.cells (trC h R) 46)) = w1 at *
  refine (hRi.out w1).mono ?_
  rintro x w2 ⟨rfl, hb2⟩
  have t2 := t1.below hb2 t1.lt
  have z2 : w2.cell? ⟨w.heap.size, 0, none⟩ = some (.int .i64 h) := (t2.cell 0).trans (va_at (trF h R) (by decide))
  have hb12 : Below w.heap.size w w2 := hb1.trans (hb2.mono hb1.size)
  clear t1 t2 hb2 hb1
  go_wp2_with fail
  refine (way_ok n q (by omega) hp w2).mono ?_
  rintro x w3 ⟨rfl, b3', hb3⟩
  go_wp2_with fail
  go_ret2
  exact ⟨_, rfl, hb12.size, b3', hb12.trans (hb3.mono hb12.size)⟩
section
variable {B g N c m room i : Nat} {F : Nat → Nat} {U : Nat → Prop}
end
end Go.Proofs.YtppagdmlfgialaaGreatDoor

namespace Go.Proofs.YtppagdmlfgialaaGreatDoor
open Go Go.RowKit
set_option linter.unusedSimpArgs false
set_option linter.unusedVariables false

theorem rsizeSum : (Tryz.prog.info? 38).map (·.size) = some 32 := by kernel_rfl
theorem rsizeRef : (Tryz.prog.info? 67).map (·.size) = some 33 := by kernel_rfl
theorem rzero_sum (w : World) : (zeroValue 38).run Tryz.prog w = .ok (.agg (va 32 (iv .u8 fun _ => 0))) w := zero_of (by kernel_rfl) w
theorem dgB_ref (f : Nat → Nat) : va 32 (iv .u8 (ofN 1 (byteAt (strN f 256)) (strN f 256).size)) = va 32 (iv .u8 (dF (dgB f))) := dgB_cells f
set_option maxRecDepth 100000 in
set_option maxHeartbeats 4000000 in
theorem rsum_any (f : Nat → Nat) (w : World) : Calls Tryz.prog 97 #[.agg (va 256 (iv .u8 f))] w fun x w' => x = .returned (.agg (va 32 (iv .u8 (dF (dgB f))))) ∧ Below w.heap.size w w' := by
  have hz := rzero_sum
  have hOf : Hid (∀ w, Calls Tryz.prog 151 #[.int .u8 1, .string (strN f 256)] w fun e w' => e = .returned (.agg (va 32 (iv .u8 (dF (dgB f))))) ∧ Below w.heap.size w w') := fun w => by
    have := refOf_any 1 (by decide) (strN f 256) (by rw [strN_size]; decide) w
    rw [dgB_ref] at this
    exact this
  have b1 : Blk ((w.alloc (.cells (va 256 (iv .u8 f)) 121)).alloc (.cells (va 32 (iv .u8 fun _ => 0)) 38)) w.heap.size 121 (va 256 (iv .u8 f)) := (Blk.new _ _ _).alloc _
  have r1 : Blk ((w.alloc (.cells (va 256 (iv .u8 f)) 121)).alloc (.cells (va 32 (iv .u8 fun _ => 0)) 38)) (w.heap.size + 1) 38 (va 32 (iv .u8 fun _ => 0)) := Blk.new1 _ _ _ _
  have hb1 : Below w.heap.size w ((w.alloc (.cells (va 256 (iv .u8 f)) 121)).alloc (.cells (va 32 (iv .u8 fun _ => 0)) 38)) := below_new2 _ _ _
  have hc := run_bytes_text (P := Tryz.prog) ((w.alloc (.cells (va 256 (iv .u8 f)) 121)).alloc (.cells (va 32 (iv .u8 fun _ => 0)) 38)) 206 5 9 Tryz.underlying206 Tryz.underlying5 Tryz.underlying9 b1 0 256 256 (by omega)
  have hx : strN (fun j => f (0 + j)) 256 = strN f 256 := strN_congr fun j _ => by rw [Nat.zero_add]
  rw [hx] at hc
  generalize dgB f = dg at *
  generalize strN f 256 = sv at *
  go_enter Tryz.func97, Tryz.ntmps97
  go_wp2_with fail
  generalize ((w.alloc (.cells (va 256 (iv .u8 f)) 121)).alloc (.cells (va 32 (iv .u8 fun _ => 0)) 38)) = w1 at *
  refine (hOf.out w1).mono ?_
  rintro x w2 ⟨rfl, hb2⟩
  have r2 := r1.below hb2 r1.lt
  have hb12 := hb1.trans (hb2.mono hb1.size)
  clear hc b1 r1 hb1 hb2
  go_wp2_with (first
    | (refine wpList_store_row (by rfl) 38 _ _ (by rfl) (w.heap.size + 1) (va 32 (iv .u8 (dF dg))) (by rfl) (by rfl) 38 (_) (by exact r2) (rsizeSum.trans (by rw [va_size])) (by simp only [va_size]) (iv_one _ _ _) ?_; simp only [Act.put, List.setIfInBounds_toArray, List.set_cons_zero, List.set_cons_succ])
    | fail)
  try simp only [Exit.inBlock, Exit.then]
  refine bodyPost_ret (results_cell_row Tryz.results97 _ _ (w.heap.size + 1) 38 (va 32 (iv .u8 (dF dg))) (0, 0) _ rfl (r2.set _) Tryz.underlying38 rfl (rsizeSum.trans (by rw [va_size]))) rfl ?_
  exact ⟨rfl, below_setRow hb12 (by omega) _⟩
theorem rref_range {w : World} {b t : Nat} {k : Rf} (h : Blk w b t (rfC k)) : w.rangeAt b 1 ((List.range 32).map (iv .u8 (dF k.2))) := by
  have := Blk.range (n := 33) (f := rfF k.1 k.2) h 1 32 (by decide)
  rw [show ((List.range 32).map fun j => rfF k.1 k.2 (1 + j)) = (List.range 32).map (iv .u8 (dF k.2)) from List.map_congr_left fun j hj => ?_] at this
  · exact this
  · unfold rfF iv
    rw [if_neg (by omega), show 1 + j - 1 = j by omega]
/-- a block of an image in the memory -/
def RngB (W : World) (b o : Nat) (f : Nat → Nat) : Prop := W.rangeAt b o ((List.range 256).map (iv .u8 f))
theorem RngB.below {w w' : World} {B b o : Nat} {f : Nat → Nat} (h : RngB w b o f) (hb : Below B w w') (hB : b < B) : RngB w' b o f := range_below h hb hB
section
variable {F : Nat → Nat} {N : Nat}
end
end Go.Proofs.YtppagdmlfgialaaGreatDoor
