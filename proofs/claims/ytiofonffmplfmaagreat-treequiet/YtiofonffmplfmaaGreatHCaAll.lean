/- A cache of however many entries: use, drop, put, trim and keep, told by the list of entries. -/
import Derived.Test.YtiofonffmplfmaaGreatHMapKit
import Derived.Test.YtiofonffmplfmaaGreatHCaChain2
import Derived.Handy

namespace Go.Proofs.YtiofonffmplfmaaGreat
theorem sgLHCaAll : (∀ (α : Type) (a : α) (l r : List α), (a :: l) ++ r = a :: (l ++ r)) ∧ (∀ (α : Type) (l : List α), [] ++ l = l) ∧ (∀ (α : Type) (l : List α), l ++ [] = l) ∧ (∀ (α β : Type) (f : α → Option β) (a : α) (l : List α), (a :: l).filterMap f = match f a with | none => l.filterMap f | some b => b :: l.filterMap f) ∧ (∀ (α β : Type) (f : α → Option β), [].filterMap f = []) ∧ (∀ (α : Type) (l : List α) (i : Nat), l.toArray[i]? = l[i]?) ∧ (∀ (α : Type) (a : α) (l : List α), (a :: l)[0]? = some a) ∧ (∀ (α : Type) (a : α) (l : List α) (i : Nat), (a :: l)[i + 1]? = l[i]?) :=
  ⟨fun _ _ _ _ => List.cons_append, fun _ _ => List.nil_append _, fun _ _ => List.append_nil _, fun _ _ _ _ _ => List.filterMap_cons, fun _ _ _ => List.filterMap_nil, fun _ _ _ => List.getElem?_toArray, fun _ _ _ => List.getElem?_cons_zero, fun _ _ _ _ => List.getElem?_cons_succ⟩
theorem sgPHCaAll : (∀ (α : Type) (l : List α) (i : Nat) (a : α), l.toArray.setIfInBounds i a = (l.set i a).toArray) ∧ (∀ (α : Type) (a b : α) (l : List α), (a :: l).set 0 b = b :: l) ∧ (∀ (α : Type) (a b : α) (l : List α) (i : Nat), (a :: l).set (i + 1) b = a :: l.set i b) :=
  ⟨fun _ _ _ _ => List.setIfInBounds_toArray _ _ _, fun _ _ _ _ => List.set_cons_zero, fun _ _ _ _ _ => List.set_cons_succ⟩
end Go.Proofs.YtiofonffmplfmaaGreat
namespace Go.Proofs.YtiofonffmplfmaaGreat
open Go Go.RowKit
set_option linter.unusedVariables false
set_option linter.unusedSimpArgs false

section
variable {α β : Type} [DecidableEq α] {P : Program}
def delIn (a : α) : List (α × β) → List (α × β)
  | [] => []
  | p :: l => if a = p.1 then l else p :: delIn a l
theorem findIn_none {a : α} : ∀ {l : List (α × β)}, findIn a l = none ↔ a ∉ l.map Prod.fst
  | [] => by simp [findIn]
  | p :: l => by
    unfold findIn
    by_cases h : a = p.1
    · simp [h]
    · simp [h, findIn_none (l := l)]
theorem findIn_del_ne {a b : α} (hne : b ≠ a) : ∀ l : List (α × β), findIn b (delIn a l) = findIn b l
  | [] => rfl
  | p :: l => by
    unfold delIn
    by_cases h : a = p.1
    · rw [if_pos h]
      show _ = findIn b (p :: l)
      unfold findIn
      rw [if_neg (by rw [← h]; exact hne)]
      cases l <;> rfl
    · rw [if_neg h]
      show findIn b (p :: delIn a l) = findIn b (p :: l)
      simp only [findIn, findIn_del_ne hne l]
theorem findIn_del_self {a : α} : ∀ l : List (α × β), (l.map Prod.fst).Nodup → findIn a (delIn a l) = none
  | [], _ => rfl
  | p :: l, hn => by
    have h1 : p.1 ∉ l.map Prod.fst ∧ (l.map Prod.fst).Nodup := by simpa using hn
    unfold delIn
    by_cases h : a = p.1
    · rw [if_pos h, findIn_none, h]
      exact h1.1
    · rw [if_neg h]
      show findIn a (p :: delIn a l) = none
      simp only [findIn, if_neg h]
      exact findIn_del_self l h1.2
theorem delIn_sub (a : α) : ∀ l : List (α × β), (delIn a l).Sublist l
  | [] => List.Sublist.refl _
  | p :: l => by
    unfold delIn
    split
    · exact List.sublist_cons_self _ _
    · exact (delIn_sub a l).cons_cons p
theorem delIn_length {a : α} {b : β} : ∀ l : List (α × β), findIn a l = some b → (delIn a l).length + 1 = l.length
  | [], h => by cases h
  | p :: l, h => by
    unfold delIn
    by_cases h1 : a = p.1
    · rw [if_pos h1]
      rfl
    · rw [if_neg h1]
      simp only [findIn, if_neg h1] at h
      simp only [List.length_cons, delIn_length l h]
theorem run_findAt {kt : TypeId} {K : α → Value} {V : β → Value} (hk : KeyOf P kt K) (a : α) (w : World) (b : β) : ∀ (l : List (α × β)) (es : List MapEntry) (i : Nat), es.map (fun e => (e.key, e.val)) = l.map (fun p => (K p.1, V p.2)) → findIn a l = some b →
    ∃ j, (Instr.findAsking kt (K a) es i).run P w = .ok (some (i + j, V b)) w ∧ j < l.length ∧ l.eraseIdx j = delIn a l
  | [], es, i, h, hf => by cases hf
  | p :: l, [], i, h, hf => by simp at h
  | p :: l, e :: es, i, h, hf => by
    simp only [List.map_cons, List.cons.injEq, Prod.mk.injEq] at h
    obtain ⟨⟨h1, h2⟩, h3⟩ := h
    have he := hk.eq a p.1 w
    rw [← h1] at he
    unfold delIn
    by_cases hq : a = p.1
    · simp only [findIn, if_pos hq] at hf
      cases hf
      refine ⟨0, ?_, by simp, by rw [if_pos hq]; rfl⟩
      simp only [Instr.findAsking, Sem.run_bind, he, Result.andThen_ok, decide_eq_true hq, if_true, Sem.run_pure, Nat.add_zero, h2]
    · simp only [findIn, if_neg hq] at hf
      obtain ⟨j, h4, h5, h6⟩ := run_findAt hk a w b l es (i + 1) h3 hf
      refine ⟨j + 1, ?_, by simp only [List.length_cons]; omega, by rw [if_neg hq]; simp [h6]⟩
      simp only [Instr.findAsking, Sem.run_bind, he, Result.andThen_ok, decide_eq_false hq, Bool.false_eq_true, if_false, h4]
      rw [show i + 1 + j = i + (j + 1) by omega]
/-- a key taken away -/
theorem run_delete_is {mt kt et : TypeId} {K : α → Value} {V : β → Value} (hm : P.underlying mt = some (.map kt et)) (hk : KeyOf P kt K) {w : World} {r : Nat} {l : List (α × β)} (h : MapIs K V w r l) (a : α) (b : β) (hf : findIn a l = some b) :
    ∃ w', (∀ ty, (Builtin.delete_ #[mt, kt] ty #[.map (some r), K a]).run P w = .ok (.tuple #[]) w') ∧ MapIs K V w' r (delIn a l) ∧ Keeps r w w' := by
  obtain ⟨es, clock, hg, he⟩ := h
  obtain ⟨j, h4, h5, h6⟩ := run_findAt hk a w b l es.toList 0 he hf
  obtain ⟨d, hd, n1, n2, n3⟩ := hk.desc
  have hc := hk.chk es.isEmpty a w
  have hgo : (getObj r).run P w = .ok (.map es clock) w := by simp [getObj, Sem.run, hg]
  have hso : ∀ o, (setObj r o).run P w = .ok () { w with heap := w.heap.setIfInBounds r o } := fun o => by simp [setObj, Sem.run, hg]
  have hr : r < w.heap.size := (Array.getElem?_eq_some_iff.1 hg).1
  have hl : es.toList.length = l.length := by
    have := congrArg List.length he
    simpa using this
  have hfk : (Instr.findKey kt (K a) es.toList).run P w = .ok (some (j, V b)) w := by
    rw [Nat.zero_add] at h4
    cases hes : es.toList with
    | nil =>
      rw [hes] at hl
      simp at hl
      omega
    | cons e es' =>
      rw [hes] at h4
      simp [Instr.findKey, run_underlying hd, findNow_none n1 n2 n3, h4]
  refine ⟨{ w with heap := w.heap.setIfInBounds r (.map (es.eraseIdxIfInBounds j) clock) }, ?_, ⟨es.eraseIdxIfInBounds j, clock, ?_, ?_⟩, ⟨⟨rfl, rfl, rfl, by simp, fun k hk => ?_⟩, fun k hk _ => ?_⟩⟩
  · intro ty
    simp [Builtin.delete_, run_underlying hm, hgo, hc, hfk, hso, Result.andThen]
  · simp [hr]
  · have hj : j < es.size := by
      have : es.size = es.toList.length := by simp
      omega
    rw [← h6]
    unfold Array.eraseIdxIfInBounds
    rw [dif_pos hj, Array.toList_eraseIdx]
    have h7 : ∀ {γ δ : Type} (g : γ → δ) (xs : List γ) (n : Nat), (xs.eraseIdx n).map g = (xs.map g).eraseIdx n := fun g xs n => by
      induction xs generalizing n with
      | nil => rfl
      | cons x xs ih => cases n with
        | zero => rfl
        | succ n => simp [ih]
    rw [h7, h7, he]
  · simp [Array.getElem?_setIfInBounds, show r ≠ k by omega]
  · simp [Array.getElem?_setIfInBounds, Ne.symm hk]
end
end Go.Proofs.YtiofonffmplfmaaGreat

namespace Go.Proofs.YtiofonffmplfmaaGreat
open Go Go.RowKit
set_option linter.unusedSimpArgs false
set_option linter.unusedVariables false

/-- the map of the entries -/
def MapFor (w : World) (m : Nat) (L : List En) : Prop := ∃ es : List (Rf × Nat), MapIs rfV ptV w m es ∧ es.length = L.length ∧ (es.map Prod.fst).Nodup ∧ ∀ k b, findIn k es = some b ↔ ∃ e ∈ L, e.k = k ∧ e.b = b
/-- a cache's entries in the memory -/
structure CaAt (w : World) (c m : Nat) (dp lp : Option Addr) (room h r bd cn : Int) (L : List En) : Prop where
  ch : ChainAt w c m dp lp room h r bd cn L
  mp : MapFor w m L
/-- its blocks -/
def cafo (c m : Nat) (L : List En) (x : Nat) : Prop := chfoot c L x ∨ x = m
section
variable {w w' : World} {c m : Nat} {dp lp : Option Addr} {room h r bd cn : Int} {L : List En} {i : Nat} {e : En} {k : Rf}
theorem MapFor.of (H : MapFor w m L) (hk : w'.heap[m]? = w.heap[m]?) : MapFor w' m L := by
  obtain ⟨es, h1, h2⟩ := H
  exact ⟨es, h1.of hk, h2⟩
theorem MapFor.lt (H : MapFor w m L) : m < w.heap.size := by
  obtain ⟨es, h1, h2⟩ := H
  exact h1.lt
theorem MapFor.ne (H : MapFor w m L) {b t : Nat} {cs : Array Value} (hb : Blk w b t cs) : m ≠ b := by
  obtain ⟨es, h1, h2⟩ := H
  exact h1.ne hb
theorem MapFor.same (H : MapFor w m L) {L' : List En} (hl : L'.length = L.length) (he : ∀ x, x ∈ L' ↔ x ∈ L) : MapFor w m L' := by
  obtain ⟨es, h1, h2, h3, h4⟩ := H
  exact ⟨es, h1, h2.trans hl.symm, h3, fun k b => (h4 k b).trans ⟨fun ⟨e, a, b⟩ => ⟨e, (he e).2 a, b⟩, fun ⟨e, a, b⟩ => ⟨e, (he e).1 a, b⟩⟩⟩
theorem CaAt.below (H : CaAt w c m dp lp room h r bd cn L) (hb : Below w.heap.size w w') : CaAt w' c m dp lp room h r bd cn L := ⟨H.ch.below hb, H.mp.of (hb.block m H.mp.lt)⟩
theorem CaAt.drew (H : CaAt w c m dp lp room h r bd cn L) : CaAt w.drew c m dp lp room h r bd cn L := H.below (Below.refl _ _).drew
theorem CaAt.kept (H : CaAt w c m dp lp room h r bd cn L) (hk : ∀ x, cafo c m L x → w'.heap[x]? = w.heap[x]?) : CaAt w' c m dp lp room h r bd cn L := ⟨H.ch.kept fun x hx => hk x (.inl hx), H.mp.of (hk m (.inr rfl))⟩
theorem CaAt.lt (H : CaAt w c m dp lp room h r bd cn L) (x : Nat) (hx : cafo c m L x) : x < w.heap.size := by
  rcases hx with hx | rfl
  · exact H.ch.lt x hx
  · exact H.mp.lt
theorem CaAt.setRow (H : CaAt w c m dp lp room h r bd cn L) {b : Nat} (hb : ¬ cafo c m L b) (cs : Array Value) : CaAt (w.setRow b cs) c m dp lp room h r bd cn L := H.kept fun x hx => setRow_other w b x cs fun e => hb (e ▸ hx)
theorem CaAt.map3 (H : CaAt w c m dp lp room h r bd cn L) : w.cell? ⟨c, 3, none⟩ = some (.map (some m)) := by
  rw [H.ch.blk.cell]
  rfl
theorem CaAt.m_not (H : CaAt w c m dp lp room h r bd cn L) : ¬ chfoot c L m := by
  rintro (h1 | ⟨e, he, h1⟩)
  · exact H.mp.ne H.ch.blk h1
  · obtain ⟨i, hi⟩ := List.mem_iff_getElem?.1 he
    exact H.mp.ne (H.ch.ents i e hi) h1
theorem CaAt.one (H : CaAt w c m dp lp room h r bd cn L) {e e' : En} (he : e ∈ L) (he' : e' ∈ L) (hk : e.k = e'.k) : e.b = e'.b := by
  obtain ⟨es, h1, h2, h3, h4⟩ := H.mp
  have h5 := (h4 e.k e.b).2 ⟨e, he, rfl, rfl⟩
  have h6 := (h4 e.k e'.b).2 ⟨e', he', hk.symm, rfl⟩
  rw [h5] at h6
  injection h6
theorem CaAt.look_hit (H : CaAt w c m dp lp room h r bd cn L) (hi : L[i]? = some e) : (Instr.lookup 125 (.map (some m)) (.agg (rfC e.k)) true).run Tryz.prog w = .ok (.tuple #[.pointer (some ⟨e.b, 0, none⟩), .bool true]) w := by
  obtain ⟨es, h1, h2, h3, h4⟩ := H.mp
  have := run_lookup_is Tryz.underlying125 ref_key zero_en h1 e.k true
  rw [(h4 e.k e.b).2 ⟨e, List.mem_of_getElem? hi, rfl, rfl⟩] at this
  exact this
theorem MapFor.look_no (H : MapFor w m L) (hn : ∀ e ∈ L, e.k ≠ k) : (Instr.lookup 125 (.map (some m)) (.agg (rfC k)) true).run Tryz.prog w = .ok (.tuple #[.pointer none, .bool false]) w := by
  obtain ⟨es, h1, h2, h3, h4⟩ := H
  have := run_lookup_is Tryz.underlying125 ref_key zero_en h1 k true
  have hf : findIn k es = none := by
    cases hq : findIn k es with
    | none => rfl
    | some b =>
      obtain ⟨e, he, h5, _⟩ := (h4 k b).1 hq
      exact absurd h5 (hn e he)
  rw [hf] at this
  exact this
theorem mem_moved (hi : L[i]? = some e) (x : En) : x ∈ L.eraseIdx i ++ [e] ↔ x ∈ L := by
  rw [List.mem_append, List.mem_eraseIdx_iff_getElem?, List.mem_singleton, List.mem_iff_getElem?]
  constructor
  · rintro (⟨j, _, hj⟩ | rfl)
    · exact ⟨j, hj⟩
    · exact ⟨i, hi⟩
  · rintro ⟨j, hj⟩
    by_cases hij : j = i
    · subst hij
      rw [hi] at hj
      cases hj
      exact .inr rfl
    · exact .inl ⟨j, hij, hj⟩
theorem len_moved (hi : L[i]? = some e) : (L.eraseIdx i ++ [e]).length = L.length := by
  have hlt : i < L.length := (List.getElem?_eq_some_iff.1 hi).1
  rw [List.length_append, List.length_eraseIdx, if_pos hlt]
  simp
  omega
theorem mem_erased {x : En} (hx : x ∈ L.eraseIdx i) : x ∈ L := by
  obtain ⟨j, _, hj⟩ := List.mem_eraseIdx_iff_getElem?.1 hx
  exact List.mem_of_getElem? hj
theorem foot_erased {x : Nat} (hx : chfoot c (L.eraseIdx i) x) : chfoot c L x := by
  rcases hx with hx | ⟨e, he, hx⟩
  · exact .inl hx
  · exact .inr ⟨e, mem_erased he, hx⟩
theorem ChainAt.other (H : ChainAt w c m dp lp room h r bd cn L) (hi : L[i]? = some e) (j : Nat) (e' : En) (hj : (L.eraseIdx i)[j]? = some e') : e'.b ≠ e.b := fun hb => by
  rw [List.getElem?_eraseIdx] at hj
  split at hj
  · have := H.nd _ _ _ _ hj hi hb
    omega
  · have := H.nd _ _ _ _ hj hi hb
    omega
set_option maxRecDepth 100000 in
set_option maxHeartbeats 4000000 in
theorem use_hit (hi : L[i]? = some e) (w : World) (H : CaAt w c m dp lp room h r bd cn L) : Calls Tryz.prog 53 #[.pointer (some ⟨c, 3, none⟩), .agg (rfC e.k)] w fun x w' => x = .returned (.tuple #[.agg (va 256 (iv .u8 e.f)), .bool true]) ∧ CaAt w' c m dp lp room h r bd cn (L.eraseIdx i ++ [e]) ∧ Turns (cafo c m L) w w' := by
  have hz := zero_bk
  have hb1 : Below w.heap.size w ((w.alloc (.cells (rfC e.k) 43)).alloc (.cells (va 256 (iv .u8 fun _ => 0)) 52)) := below_new2 _ _ _
  have r1 : Blk ((w.alloc (.cells (rfC e.k) 43)).alloc (.cells (va 256 (iv .u8 fun _ => 0)) 52)) w.heap.size 43 (rfC e.k) := (Blk.new _ _ _).alloc _
  have k1 : Blk ((w.alloc (.cells (rfC e.k) 43)).alloc (.cells (va 256 (iv .u8 fun _ => 0)) 52)) (w.heap.size + 1) 52 (va 256 (iv .u8 fun _ => 0)) := Blk.new1 _ _ _ _
  have HC1 : Hid (CaAt ((w.alloc (.cells (rfC e.k) 43)).alloc (.cells (va 256 (iv .u8 fun _ => 0)) 52)).drew c m dp lp room h r bd cn L) := H.below hb1.drew
  have c3 : ((w.alloc (.cells (rfC e.k) 43)).alloc (.cells (va 256 (iv .u8 fun _ => 0)) 52)).cell? ⟨c, 3, none⟩ = some (.map (some m)) := (H.below hb1).map3
  have hlk : (Instr.lookup 125 (.map (some m)) (.agg (rfC e.k)) true).run Tryz.prog ((w.alloc (.cells (rfC e.k) 43)).alloc (.cells (va 256 (iv .u8 fun _ => 0)) 52)).drew = .ok (.tuple #[.pointer (some ⟨e.b, 0, none⟩), .bool true]) ((w.alloc (.cells (rfC e.k) 43)).alloc (.cells (va 256 (iv .u8 fun _ => 0)) 52)).drew := (H.below hb1.drew).look_hit hi
  have HLT : Hid (∀ x, cafo c m L x → x < w.heap.size) := H.lt
  have HEB : Hid (e.b < w.heap.size) := H.lt _ (.inl (.inr ⟨e, List.mem_of_getElem? hi, rfl⟩))
  have HB1 : Hid (Below w.heap.size w ((w.alloc (.cells (rfC e.k) 43)).alloc (.cells (va 256 (iv .u8 fun _ => 0)) 52)).drew) := hb1.drew
  have HI : Hid (L[i]? = some e) := hi
  clear H hb1 hi
  go_enter Tryz.func53, Tryz.ntmps53
  go_wp2_with fail
  have k1d : Blk ((w.alloc (.cells (rfC e.k) 43)).alloc (.cells (va 256 (iv .u8 fun _ => 0)) 52)).drew (w.heap.size + 1) 52 (va 256 (iv .u8 fun _ => 0)) := k1
  clear k1
  generalize ((w.alloc (.cells (rfC e.k) 43)).alloc (.cells (va 256 (iv .u8 fun _ => 0)) 52)) = w1 at *
  refine wp_region_partsS (fun W => W.cell? ⟨c, 3, none⟩ = some (.map (some m))) [([0], 1, true), ([], 2, true), ([], 3, true), ([], 4, false), ([], 5, false)] [6, 7, 8, 9, 10] [] (by kernel_rfl) (by kernel_rfl) c3 (partsI_yield ?_)
  simp only [sgLHCaAll]
  go_wp2_with fail
  refine ⟨rfl, _, .pointer (some ⟨c, 3, none⟩), rfl, Or.inl ⟨by rfl, fun W hW => by go_simp⟩, partsI_yield ?_⟩
  simp only [Act.put, sgPHCaAll]
  simp only [sgLHCaAll]
  go_wp2_with fail
  refine ⟨rfl, _, .pointer (some ⟨c, 3, none⟩), rfl, Or.inl ⟨by rfl, fun W hW => by go_simp⟩, partsI_yield ?_⟩
  simp only [Act.put, sgPHCaAll]
  simp only [sgLHCaAll]
  go_wp2_with fail
  refine ⟨rfl, _, .map (some m), rfl, Or.inl ⟨by rfl, fun W hW => by go_simp⟩, partsI_force ?_⟩
  simp only [Act.put, sgPHCaAll]
  simp only [sgLHCaAll]
  refine wpList_load_rowg (by rfl) 43 _ (by rfl) w.heap.size (by rfl) 43 (rfC e.k) (0, 0) _ r1.drew Tryz.underlying43 (by rfl) (slSizeRef.trans (by rw [rfC_size])) ?_
  simp only [Act.put, sgPHCaAll]
  go_wp2_with fail
  refine ⟨rfl, c3, partsI_force ?_⟩
  simp only [sgLHCaAll]
  go_wp2_with fail
  refine ⟨rfl, c3, partsI_last ?_⟩
  simp only [sgLHCaAll]
  go_wp2_with fail
  refine ⟨rfl, ?_⟩
  clear c3 hlk r1
  generalize w1.drew = w2 at *
  go_wp2_with fail
  refine (unlink_at HI.out w2 HC1.out.ch).mono ?_
  rintro x w3 ⟨rfl, hg3, he3, ht3⟩
  have HG3 : Hid (ChainAt w3 c m dp lp room h r bd cn (L.eraseIdx i)) := hg3
  have HE3 : Hid (Blk w3 e.b 174 (enC e.k e.f (prevOf L i) (nextOf L i))) := he3
  have HT3 : Hid (Turns (cafo c m L) w w3) := (Turns.of_below (S := cafo c m L) HB1.out).trans ht3 fun x hx => .inl (.inl hx)
  have HM3 : Hid (MapFor w3 m L) := HC1.out.mp.of (ht3.block m HC1.out.mp.lt HC1.out.m_not)
  have HMN : Hid (¬ chfoot c L m) := HC1.out.m_not
  have k3 : Blk w3 (w.heap.size + 1) 52 (va 256 (iv .u8 fun _ => 0)) := ht3.blk k1d (fun z => by have := HLT.out _ (.inl z); omega)
  have HO3 : Hid (∀ (j : Nat) (e' : En), (L.eraseIdx i)[j]? = some e' → e'.b ≠ e.b) := HC1.out.ch.other HI.out
  clear hg3 he3 ht3 k1d HC1 HB1
  go_wp2_with fail
  refine (link_at HO3.out w3 HG3.out HE3.out).mono ?_
  rintro x w4 ⟨rfl, hg4, ht4⟩
  have HT4 : Hid (Turns (cafo c m L) w w4) := HT3.out.trans ht4 fun x hx => by
    rcases hx with hx | hx
    · exact .inl (.inl (foot_erased hx))
    · exact .inl (.inl (.inr ⟨e, List.mem_of_getElem? HI.out, hx⟩))
  have hm4 : w4.heap[m]? = w3.heap[m]? := ht4.block m HM3.out.lt fun z => by
    rcases z with z | z
    · exact HMN.out (foot_erased z)
    · exact HMN.out (.inr ⟨e, List.mem_of_getElem? HI.out, z⟩)
  have HC4 : Hid (CaAt w4 c m dp lp room h r bd cn (L.eraseIdx i ++ [e])) := ⟨hg4, (HM3.out.of hm4).same (len_moved HI.out) (mem_moved HI.out)⟩
  have k4 : Blk w4 (w.heap.size + 1) 52 (va 256 (iv .u8 fun _ => 0)) := ht4.blk k3 (fun z => by
    rcases z with z | z
    · have := HLT.out _ (.inl (foot_erased z))
      omega
    · have := HEB.out
      omega)
  have HR4 : Hid (w4.rangeAt e.b 33 ((List.range 256).map (iv .u8 e.f))) := en_range (hg4.ents (L.eraseIdx i).length e (by simp))
  clear hg4 ht4 k3 HG3 HE3 HT3 HM3 hm4 HO3
  go_wp2_with (first
    | (refine wpList_load_blk (by rfl) 52 _ (by rfl) (e.b) (33) 256 (iv .u8 e.f) (by rfl) _ (by exact HR4.out) Tryz.underlying52 rfl sizeBk ?_; simp only [Act.put, sgPHCaAll])
    | (refine wpList_store_row (by rfl) 52 _ _ (by rfl) (w.heap.size + 1) (va 256 (iv .u8 e.f)) (by rfl) (by rfl) 52 _ k4 (sizeBk.trans (by rw [va_size])) (by simp only [va_size]) (iv_one _ _ _) ?_; simp only [Act.put, sgPHCaAll])
    | fail)
  try simp only [Exit.inBlock, Exit.then]
  refine bodyPost_ret (results_row2 Tryz.results53 _ _ (w.heap.size + 1) 52 (va 256 (iv .u8 e.f)) (0, 0) _ rfl ((k4.set _)) Tryz.underlying52 rfl (sizeBk.trans (by rw [va_size]))) rfl ?_
  refine ⟨rfl, HC4.out.setRow (fun z => ?_) _, HT4.out.laid (by omega) _⟩
  have hz2 : cafo c m L (w.heap.size + 1) := by
    rcases z with (z | ⟨x, hx, z⟩) | z
    · exact .inl (.inl z)
    · exact .inl (.inr ⟨x, (mem_moved HI.out x).1 hx, z⟩)
    · exact .inr z
  have := HLT.out _ hz2
  omega
set_option maxRecDepth 100000 in
set_option maxHeartbeats 4000000 in
theorem use_no (hn : ∀ e ∈ L, e.k ≠ k) (w : World) (H : CaAt w c m dp lp room h r bd cn L) : Calls Tryz.prog 53 #[.pointer (some ⟨c, 3, none⟩), .agg (rfC k)] w fun x w' => x = .returned (.tuple #[.agg (va 256 (iv .u8 fun _ => 0)), .bool false]) ∧ Below w.heap.size w w' := by
  have hz := zero_bk
  have hb1 : Below w.heap.size w ((w.alloc (.cells (rfC k) 43)).alloc (.cells (va 256 (iv .u8 fun _ => 0)) 52)) := below_new2 _ _ _
  have r1 : Blk ((w.alloc (.cells (rfC k) 43)).alloc (.cells (va 256 (iv .u8 fun _ => 0)) 52)) w.heap.size 43 (rfC k) := (Blk.new _ _ _).alloc _
  have k1 : Blk ((w.alloc (.cells (rfC k) 43)).alloc (.cells (va 256 (iv .u8 fun _ => 0)) 52)) (w.heap.size + 1) 52 (va 256 (iv .u8 fun _ => 0)) := Blk.new1 _ _ _ _
  have c3 : ((w.alloc (.cells (rfC k) 43)).alloc (.cells (va 256 (iv .u8 fun _ => 0)) 52)).cell? ⟨c, 3, none⟩ = some (.map (some m)) := (H.below hb1).map3
  have hlk : (Instr.lookup 125 (.map (some m)) (.agg (rfC k)) true).run Tryz.prog ((w.alloc (.cells (rfC k) 43)).alloc (.cells (va 256 (iv .u8 fun _ => 0)) 52)).drew = .ok (.tuple #[.pointer none, .bool false]) ((w.alloc (.cells (rfC k) 43)).alloc (.cells (va 256 (iv .u8 fun _ => 0)) 52)).drew := (H.below hb1.drew).mp.look_no hn
  have HB1 : Hid (Below w.heap.size w ((w.alloc (.cells (rfC k) 43)).alloc (.cells (va 256 (iv .u8 fun _ => 0)) 52)).drew) := hb1.drew
  clear H hb1 hn
  go_enter Tryz.func53, Tryz.ntmps53
  go_wp2_with fail
  have k1d : Blk ((w.alloc (.cells (rfC k) 43)).alloc (.cells (va 256 (iv .u8 fun _ => 0)) 52)).drew (w.heap.size + 1) 52 (va 256 (iv .u8 fun _ => 0)) := k1
  clear k1
  generalize ((w.alloc (.cells (rfC k) 43)).alloc (.cells (va 256 (iv .u8 fun _ => 0)) 52)) = w1 at *
  refine wp_region_partsS (fun W => W.cell? ⟨c, 3, none⟩ = some (.map (some m))) [([0], 1, true), ([], 2, true), ([], 3, true), ([], 4, false), ([], 5, false)] [6, 7, 8, 9, 10] [] (by kernel_rfl) (by kernel_rfl) c3 (partsI_yield ?_)
  simp only [sgLHCaAll]
  go_wp2_with fail
  refine ⟨rfl, _, .pointer (some ⟨c, 3, none⟩), rfl, Or.inl ⟨by rfl, fun W hW => by go_simp⟩, partsI_yield ?_⟩
  simp only [Act.put, sgPHCaAll]
  simp only [sgLHCaAll]
  go_wp2_with fail
  refine ⟨rfl, _, .pointer (some ⟨c, 3, none⟩), rfl, Or.inl ⟨by rfl, fun W hW => by go_simp⟩, partsI_yield ?_⟩
  simp only [Act.put, sgPHCaAll]
  simp only [sgLHCaAll]
  go_wp2_with fail
  refine ⟨rfl, _, .map (some m), rfl, Or.inl ⟨by rfl, fun W hW => by go_simp⟩, partsI_force ?_⟩
  simp only [Act.put, sgPHCaAll]
  simp only [sgLHCaAll]
  refine wpList_load_rowg (by rfl) 43 _ (by rfl) w.heap.size (by rfl) 43 (rfC k) (0, 0) _ r1.drew Tryz.underlying43 (by rfl) (slSizeRef.trans (by rw [rfC_size])) ?_
  simp only [Act.put, sgPHCaAll]
  go_wp2_with fail
  refine ⟨rfl, c3, partsI_force ?_⟩
  simp only [sgLHCaAll]
  go_wp2_with fail
  refine ⟨rfl, c3, partsI_last ?_⟩
  simp only [sgLHCaAll]
  go_wp2_with fail
  refine ⟨rfl, ?_⟩
  clear c3 hlk r1
  generalize w1.drew = w2 at *
  go_wp2_with (first
    | (refine wpList_store_row (by rfl) 52 _ _ (by rfl) (w.heap.size + 1) (va 256 (iv .u8 (fun _ => 0))) (by rfl) (by rfl) 52 _ k1d (sizeBk.trans (by rw [va_size])) (by simp only [va_size]) (iv_one _ _ _) ?_; simp only [Act.put, sgPHCaAll])
    | fail)
  try simp only [Exit.inBlock, Exit.then]
  refine bodyPost_ret (results_row2 Tryz.results53 _ _ (w.heap.size + 1) 52 (va 256 (iv .u8 (fun _ => 0))) (0, 0) _ rfl ((k1d.set _)) Tryz.underlying52 rfl (sizeBk.trans (by rw [va_size]))) rfl ?_
  exact ⟨rfl, below_setRow HB1.out (by omega) _⟩
theorem MapFor.erased (H : MapFor w m L) (hch : ChainAt w c m dp lp room h r bd cn L) (hi : L[i]? = some e) {w' : World} {es : List (Rf × Nat)} (hl : es.length = L.length) (hnd : (es.map Prod.fst).Nodup) (hq : ∀ k b, findIn k es = some b ↔ ∃ e ∈ L, e.k = k ∧ e.b = b) (hm : MapIs rfV ptV w' m (delIn e.k es)) : MapFor w' m (L.eraseIdx i) := by
  have hlt : i < L.length := (List.getElem?_eq_some_iff.1 hi).1
  have hf : findIn e.k es = some e.b := (hq _ _).2 ⟨e, List.mem_of_getElem? hi, rfl, rfl⟩
  refine ⟨_, hm, ?_, (hnd.sublist ((delIn_sub e.k es).map _)), fun k b => ?_⟩
  · have := delIn_length es hf
    rw [List.length_eraseIdx, if_pos hlt]
    omega
  · by_cases hk : k = e.k
    · subst hk
      rw [findIn_del_self es hnd]
      constructor
      · intro h
        cases h
      · rintro ⟨e', he', h1, h2⟩
        obtain ⟨j, hj, hj2⟩ := List.mem_eraseIdx_iff_getElem?.1 he'
        have hb : findIn e.k es = some e'.b := (hq _ _).2 ⟨e', List.mem_of_getElem? hj2, h1, rfl⟩
        rw [hf] at hb
        injection hb with hb
        exact absurd (hch.nd _ _ _ _ hj2 hi hb.symm) hj
    · rw [findIn_del_ne hk, hq]
      constructor
      · rintro ⟨e', he', h1, h2⟩
        obtain ⟨j, hj⟩ := List.mem_iff_getElem?.1 he'
        refine ⟨e', List.mem_eraseIdx_iff_getElem?.2 ⟨j, fun hji => ?_, hj⟩, h1, h2⟩
        subst hji
        rw [hi] at hj
        cases hj
        exact hk h1.symm
      · rintro ⟨e', he', h1, h2⟩
        exact ⟨e', mem_erased he', h1, h2⟩
set_option maxRecDepth 100000 in
set_option maxHeartbeats 4000000 in
theorem drop_hit (hi : L[i]? = some e) (w : World) (H : CaAt w c m dp lp room h r bd cn L) : Calls Tryz.prog 89 #[.pointer (some ⟨c, 3, none⟩), .agg (rfC e.k)] w fun x w' => x = .returned (.tuple #[]) ∧ CaAt w' c m dp lp room h r bd cn (L.eraseIdx i) ∧ Turns (cafo c m L) w w' := by
  have hb1 : Below w.heap.size w (w.alloc (.cells (rfC e.k) 43)) := below_new1 _ _
  have r1 : Blk (w.alloc (.cells (rfC e.k) 43)) w.heap.size 43 (rfC e.k) := Blk.new _ _ _
  have HC1 : Hid (CaAt (w.alloc (.cells (rfC e.k) 43)).drew c m dp lp room h r bd cn L) := H.below hb1.drew
  have c3 : (w.alloc (.cells (rfC e.k) 43)).cell? ⟨c, 3, none⟩ = some (.map (some m)) := (H.below hb1).map3
  have hlk : (Instr.lookup 125 (.map (some m)) (.agg (rfC e.k)) true).run Tryz.prog (w.alloc (.cells (rfC e.k) 43)).drew = .ok (.tuple #[.pointer (some ⟨e.b, 0, none⟩), .bool true]) (w.alloc (.cells (rfC e.k) 43)).drew := (H.below hb1.drew).look_hit hi
  have HLT : Hid (∀ x, cafo c m L x → x < w.heap.size) := H.lt
  have HB1 : Hid (Below w.heap.size w (w.alloc (.cells (rfC e.k) 43)).drew) := hb1.drew
  have HI : Hid (L[i]? = some e) := hi
  clear H hb1 hi
  go_enter Tryz.func89, Tryz.ntmps89
  go_wp2_with fail
  have r1d : Blk (w.alloc (.cells (rfC e.k) 43)).drew w.heap.size 43 (rfC e.k) := r1
  generalize (w.alloc (.cells (rfC e.k) 43)) = w1 at *
  refine wp_region_partsS (fun W => W.cell? ⟨c, 3, none⟩ = some (.map (some m))) [([0], 1, true), ([], 2, true), ([], 3, true), ([], 4, false), ([], 5, false)] [6, 7, 8, 9, 10] [] (by kernel_rfl) (by kernel_rfl) c3 (partsI_yield ?_)
  simp only [sgLHCaAll]
  go_wp2_with fail
  refine ⟨rfl, _, .pointer (some ⟨c, 3, none⟩), rfl, Or.inl ⟨by rfl, fun W hW => by go_simp⟩, partsI_yield ?_⟩
  simp only [Act.put, sgPHCaAll]
  simp only [sgLHCaAll]
  go_wp2_with fail
  refine ⟨rfl, _, .pointer (some ⟨c, 3, none⟩), rfl, Or.inl ⟨by rfl, fun W hW => by go_simp⟩, partsI_yield ?_⟩
  simp only [Act.put, sgPHCaAll]
  simp only [sgLHCaAll]
  go_wp2_with fail
  refine ⟨rfl, _, .map (some m), rfl, Or.inl ⟨by rfl, fun W hW => by go_simp⟩, partsI_force ?_⟩
  simp only [Act.put, sgPHCaAll]
  simp only [sgLHCaAll]
  refine wpList_load_rowg (by rfl) 43 _ (by rfl) w.heap.size (by rfl) 43 (rfC e.k) (0, 0) _ r1.drew Tryz.underlying43 (by rfl) (slSizeRef.trans (by rw [rfC_size])) ?_
  simp only [Act.put, sgPHCaAll]
  go_wp2_with fail
  refine ⟨rfl, c3, partsI_force ?_⟩
  simp only [sgLHCaAll]
  go_wp2_with fail
  refine ⟨rfl, c3, partsI_last ?_⟩
  simp only [sgLHCaAll]
  go_wp2_with fail
  refine ⟨rfl, ?_⟩
  clear c3 hlk r1
  generalize w1.drew = w2 at *
  go_wp2_with fail
  refine (unlink_at HI.out w2 HC1.out.ch).mono ?_
  rintro x w3 ⟨rfl, hg3, he3, ht3⟩
  have hm3 : w3.heap[m]? = w2.heap[m]? := ht3.block m HC1.out.mp.lt HC1.out.m_not
  obtain ⟨es, hes, hl, hnd, hq⟩ := HC1.out.mp
  obtain ⟨w4, hdl, hmap4, hk4⟩ := run_delete_is Tryz.underlying125 ref_key (hes.of (w' := w3.drew) hm3) e.k e.b ((hq _ _).2 ⟨e, List.mem_of_getElem? HI.out, rfl, rfl⟩)
  have hdl : ∀ ty, (Builtin.delete_ #[125, 43] ty #[.map (some m), .agg (rfC e.k)]).run Tryz.prog w3.drew = .ok (.tuple #[]) w4 := hdl
  have r3 : Blk w3 w.heap.size 43 (rfC e.k) := ht3.blk r1d (fun z => by have := HLT.out _ (.inl z); omega)
  have c33 : w3.cell? ⟨c, 3, none⟩ = some (.map (some m)) := by
    rw [hg3.blk.cell]
    rfl
  have HT3 : Hid (Turns (cafo c m L) w w3) := (Turns.of_below (S := cafo c m L) HB1.out).trans ht3 fun x hx => .inl (.inl hx)
  have HK4 : Hid (Keeps m w3 w4) := ⟨⟨hk4.1.os, hk4.1.tape, hk4.1.output, hk4.1.size, hk4.1.block⟩, hk4.2⟩
  have hg4 : ChainAt w4 c m dp lp room h r bd cn (L.eraseIdx i) := hg3.kept fun x hx => HK4.out.2 x (fun z => HC1.out.m_not (foot_erased (z ▸ hx))) (hg3.lt x hx)
  have HC4 : Hid (CaAt w4 c m dp lp room h r bd cn (L.eraseIdx i)) := ⟨hg4, HC1.out.mp.erased HC1.out.ch HI.out hl hnd hq hmap4⟩
  have c34 : w4.cell? ⟨c, 3, none⟩ = some (.map (some m)) := HC4.out.map3
  have HT4 : Hid (Turns (cafo c m L) w w4) := HT3.out.trans (Turns.of_keeps HK4.out) fun x hx => .inl (.inr hx)
  clear hg3 he3 ht3 hm3 hes hl hnd hq hmap4 hk4 hg4 HC1 HB1 r1d HK4 HT3
  go_wp2_with fail
  refine wp_region_partsS (fun W => W.cell? ⟨c, 3, none⟩ = some (.map (some m))) [([0], 1, true), ([], 2, true), ([], 3, true), ([], 4, false), ([], 5, false)] [] [] (by kernel_rfl) (by kernel_rfl) c33 (partsI_yield ?_)
  simp only [sgLHCaAll]
  go_wp2_with fail
  refine ⟨rfl, _, .pointer (some ⟨c, 3, none⟩), rfl, Or.inl ⟨by rfl, fun W hW => by go_simp⟩, partsI_yield ?_⟩
  simp only [Act.put, sgPHCaAll]
  simp only [sgLHCaAll]
  go_wp2_with fail
  refine ⟨rfl, _, .pointer (some ⟨c, 3, none⟩), rfl, Or.inl ⟨by rfl, fun W hW => by go_simp⟩, partsI_yield ?_⟩
  simp only [Act.put, sgPHCaAll]
  simp only [sgLHCaAll]
  go_wp2_with fail
  refine ⟨rfl, _, .map (some m), rfl, Or.inl ⟨by rfl, fun W hW => by go_simp⟩, partsI_force ?_⟩
  simp only [Act.put, sgPHCaAll]
  simp only [sgLHCaAll]
  refine wpList_load_rowg (by rfl) 43 _ (by rfl) w.heap.size (by rfl) 43 (rfC e.k) (0, 0) _ r3.drew Tryz.underlying43 (by rfl) (slSizeRef.trans (by rw [rfC_size])) ?_
  simp only [Act.put, sgPHCaAll]
  go_wp2_with fail
  refine ⟨rfl, c33, partsI_force ?_⟩
  simp only [sgLHCaAll]
  go_wp2_with fail
  refine ⟨rfl, c34, partsI_last ?_⟩
  simp only [sgLHCaAll]
  go_wp2_with fail
  refine ⟨rfl, ?_⟩
  go_wp2_with fail
  try simp only [Exit.inBlock, Exit.then]
  first
    | refine bodyPost_end (results_none Tryz.results89 _ _ _) rfl ?_
    | refine bodyPost_ret (results_none Tryz.results89 _ _ _) rfl ?_
  exact ⟨rfl, HC4.out, HT4.out⟩
set_option maxRecDepth 100000 in
set_option maxHeartbeats 4000000 in
theorem drop_no (hn : ∀ e ∈ L, e.k ≠ k) (w : World) (H : CaAt w c m dp lp room h r bd cn L) : Calls Tryz.prog 89 #[.pointer (some ⟨c, 3, none⟩), .agg (rfC k)] w fun x w' => x = .returned (.tuple #[]) ∧ Below w.heap.size w w' := by
  have hb1 : Below w.heap.size w (w.alloc (.cells (rfC k) 43)) := below_new1 _ _
  have r1 : Blk (w.alloc (.cells (rfC k) 43)) w.heap.size 43 (rfC k) := Blk.new _ _ _
  have c3 : (w.alloc (.cells (rfC k) 43)).cell? ⟨c, 3, none⟩ = some (.map (some m)) := (H.below hb1).map3
  have hlk : (Instr.lookup 125 (.map (some m)) (.agg (rfC k)) true).run Tryz.prog (w.alloc (.cells (rfC k) 43)).drew = .ok (.tuple #[.pointer none, .bool false]) (w.alloc (.cells (rfC k) 43)).drew := (H.below hb1.drew).mp.look_no hn
  have HB1 : Hid (Below w.heap.size w (w.alloc (.cells (rfC k) 43)).drew) := hb1.drew
  clear H hb1 hn
  go_enter Tryz.func89, Tryz.ntmps89
  go_wp2_with fail
  generalize (w.alloc (.cells (rfC k) 43)) = w1 at *
  refine wp_region_partsS (fun W => W.cell? ⟨c, 3, none⟩ = some (.map (some m))) [([0], 1, true), ([], 2, true), ([], 3, true), ([], 4, false), ([], 5, false)] [6, 7, 8, 9, 10] [] (by kernel_rfl) (by kernel_rfl) c3 (partsI_yield ?_)
  simp only [sgLHCaAll]
  go_wp2_with fail
  refine ⟨rfl, _, .pointer (some ⟨c, 3, none⟩), rfl, Or.inl ⟨by rfl, fun W hW => by go_simp⟩, partsI_yield ?_⟩
  simp only [Act.put, sgPHCaAll]
  simp only [sgLHCaAll]
  go_wp2_with fail
  refine ⟨rfl, _, .pointer (some ⟨c, 3, none⟩), rfl, Or.inl ⟨by rfl, fun W hW => by go_simp⟩, partsI_yield ?_⟩
  simp only [Act.put, sgPHCaAll]
  simp only [sgLHCaAll]
  go_wp2_with fail
  refine ⟨rfl, _, .map (some m), rfl, Or.inl ⟨by rfl, fun W hW => by go_simp⟩, partsI_force ?_⟩
  simp only [Act.put, sgPHCaAll]
  simp only [sgLHCaAll]
  refine wpList_load_rowg (by rfl) 43 _ (by rfl) w.heap.size (by rfl) 43 (rfC k) (0, 0) _ r1.drew Tryz.underlying43 (by rfl) (slSizeRef.trans (by rw [rfC_size])) ?_
  simp only [Act.put, sgPHCaAll]
  go_wp2_with fail
  refine ⟨rfl, c3, partsI_force ?_⟩
  simp only [sgLHCaAll]
  go_wp2_with fail
  refine ⟨rfl, c3, partsI_last ?_⟩
  simp only [sgLHCaAll]
  go_wp2_with fail
  refine ⟨rfl, ?_⟩
  go_wp2_with fail
  try simp only [Exit.inBlock, Exit.then]
  first
    | refine bodyPost_end (results_none Tryz.results89 _ _ _) rfl ?_
    | refine bodyPost_ret (results_none Tryz.results89 _ _ _) rfl ?_
  exact ⟨rfl, HB1.out⟩
end
end Go.Proofs.YtiofonffmplfmaaGreat
