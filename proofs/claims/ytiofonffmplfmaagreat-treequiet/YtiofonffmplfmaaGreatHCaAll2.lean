/- A cache of however many entries: put, trim and keep, told by the list of entries. -/
import Derived.Test.YtiofonffmplfmaaGreatHCaAll
import Derived.Handy

namespace Go.Proofs.YtiofonffmplfmaaGreat
theorem sgLHCaAll2 : (∀ (α : Type) (a : α) (l r : List α), (a :: l) ++ r = a :: (l ++ r)) ∧ (∀ (α : Type) (l : List α), [] ++ l = l) ∧ (∀ (α : Type) (l : List α), l ++ [] = l) ∧ (∀ (α β : Type) (f : α → Option β) (a : α) (l : List α), (a :: l).filterMap f = match f a with | none => l.filterMap f | some b => b :: l.filterMap f) ∧ (∀ (α β : Type) (f : α → Option β), [].filterMap f = []) ∧ (∀ (α : Type) (l : List α) (i : Nat), l.toArray[i]? = l[i]?) ∧ (∀ (α : Type) (a : α) (l : List α), (a :: l)[0]? = some a) ∧ (∀ (α : Type) (a : α) (l : List α) (i : Nat), (a :: l)[i + 1]? = l[i]?) :=
  ⟨fun _ _ _ _ => List.cons_append, fun _ _ => List.nil_append _, fun _ _ => List.append_nil _, fun _ _ _ _ _ => List.filterMap_cons, fun _ _ _ => List.filterMap_nil, fun _ _ _ => List.getElem?_toArray, fun _ _ _ => List.getElem?_cons_zero, fun _ _ _ _ => List.getElem?_cons_succ⟩
theorem sgPHCaAll2 : (∀ (α : Type) (l : List α) (i : Nat) (a : α), l.toArray.setIfInBounds i a = (l.set i a).toArray) ∧ (∀ (α : Type) (a b : α) (l : List α), (a :: l).set 0 b = b :: l) ∧ (∀ (α : Type) (a b : α) (l : List α) (i : Nat), (a :: l).set (i + 1) b = a :: l.set i b) :=
  ⟨fun _ _ _ _ => List.setIfInBounds_toArray _ _ _, fun _ _ _ _ => List.set_cons_zero, fun _ _ _ _ _ => List.set_cons_succ⟩
end Go.Proofs.YtiofonffmplfmaaGreat
namespace Go.Proofs.YtiofonffmplfmaaGreat
open Go Go.RowKit
set_option linter.unusedSimpArgs false
set_option linter.unusedVariables false

/-- the entries but the one of a reference, if it is there -/
def PutL (L : List En) (k : Rf) (L1 : List En) : Prop := (∃ i e, L[i]? = some e ∧ e.k = k ∧ L1 = L.eraseIdx i) ∨ ((∀ e ∈ L, e.k ≠ k) ∧ L1 = L)
theorem putL_any (L : List En) (k : Rf) : ∃ L1, PutL L k L1 := by
  by_cases h : ∃ e ∈ L, e.k = k
  · obtain ⟨e, he, hk⟩ := h
    obtain ⟨i, hi⟩ := List.mem_iff_getElem?.1 he
    exact ⟨_, .inl ⟨i, e, hi, hk, rfl⟩⟩
  · exact ⟨L, .inr ⟨fun e he hk => h ⟨e, he, hk⟩, rfl⟩⟩
theorem PutL.sub {L L1 : List En} {k : Rf} (h : PutL L k L1) {x : En} (hx : x ∈ L1) : x ∈ L := by
  rcases h with ⟨i, e, _, _, rfl⟩ | ⟨_, rfl⟩
  · exact mem_erased hx
  · exact hx
theorem PutL.foot {L L1 : List En} {k : Rf} (h : PutL L k L1) {c m x : Nat} (hx : cafo c m L1 x) : cafo c m L x := by
  rcases hx with (hx | ⟨e, he, hx⟩) | hx
  · exact .inl (.inl hx)
  · exact .inl (.inr ⟨e, h.sub he, hx⟩)
  · exact .inr hx
section
variable {w w' : World} {c m : Nat} {dp lp : Option Addr} {room h r bd cn : Int} {L L1 : List En} {i : Nat} {e : En} {k : Rf}
theorem PutL.none (H : CaAt w c m dp lp room h r bd cn L) (hp : PutL L k L1) : ∀ e ∈ L1, e.k ≠ k := by
  rcases hp with ⟨i, e, hi, rfl, rfl⟩ | ⟨hn, rfl⟩
  · intro x hx hk
    obtain ⟨j, hj, hj2⟩ := List.mem_eraseIdx_iff_getElem?.1 hx
    exact hj (H.ch.nd _ _ _ _ hj2 hi (H.one (List.mem_of_getElem? hj2) (List.mem_of_getElem? hi) hk))
  · exact hn
theorem drop_any (hp : PutL L k L1) (w : World) (H : CaAt w c m dp lp room h r bd cn L) : Calls Tryz.prog 89 #[.pointer (some ⟨c, 3, none⟩), .agg (rfC k)] w fun x w' => x = .returned (.tuple #[]) ∧ CaAt w' c m dp lp room h r bd cn L1 ∧ Turns (cafo c m L) w w' := by
  rcases hp with ⟨i, e, hi, rfl, rfl⟩ | ⟨hn, rfl⟩
  · exact drop_hit hi w H
  · refine (drop_no hn w H).mono ?_
    rintro x w' ⟨rfl, hb⟩
    exact ⟨rfl, H.below hb, .of_below hb⟩
theorem MapFor.added (H : MapFor w m L) (hn : ∀ e ∈ L, e.k ≠ k) {es : List (Rf × Nat)} (hl : es.length = L.length) (hnd : (es.map Prod.fst).Nodup) (hq : ∀ k b, findIn k es = some b ↔ ∃ e ∈ L, e.k = k ∧ e.b = b) {w' : World} {b : Nat} {f : Nat → Nat} (hm : MapIs rfV ptV w' m (es ++ [(k, b)])) : MapFor w' m (L ++ [⟨k, b, f⟩]) := by
  have hno : findIn k es = none := by
    cases hf : findIn k es with
    | none => rfl
    | some x =>
      obtain ⟨e, he, h5, _⟩ := (hq k x).1 hf
      exact absurd h5 (hn e he)
  refine ⟨_, hm, by simp [hl], ?_, fun k' b' => ?_⟩
  · rw [List.map_append, List.nodup_append]
    refine ⟨hnd, by simp, ?_⟩
    intro x hx y hy
    simp at hy
    subst hy
    rintro rfl
    exact findIn_none.1 hno hx
  · rw [findIn_append]
    by_cases hk : k' = k
    · subst hk
      rw [hno]
      simp only [findIn, Option.none_or, if_true]
      constructor
      · intro h
        injection h with h
        exact ⟨_, List.mem_append_right _ (List.mem_singleton.2 rfl), rfl, h⟩
      · rintro ⟨e, he, h1, h2⟩
        rcases List.mem_append.1 he with he | he
        · exact absurd h1 (hn e he)
        · have := List.mem_singleton.1 he
          subst this
          rw [← h2]
    · have : findIn k' [(k, b)] = (none : Option Nat) := by simp [findIn, hk]
      rw [this, Option.or_none, hq]
      constructor
      · rintro ⟨e, he, h1, h2⟩
        exact ⟨e, List.mem_append_left _ he, h1, h2⟩
      · rintro ⟨e, he, h1, h2⟩
        rcases List.mem_append.1 he with he | he
        · exact ⟨e, he, h1, h2⟩
        · have := List.mem_singleton.1 he
          subst this
          exact absurd h1.symm hk
set_option maxRecDepth 100000 in
set_option maxHeartbeats 4000000 in
theorem put_any (hp : PutL L k L1) (f : Nat → Nat) (w : World) (H : CaAt w c m dp lp room h r bd cn L) : Calls Tryz.prog 75 #[.pointer (some ⟨c, 3, none⟩), .agg (rfC k), .agg (va 256 (iv .u8 f))] w fun x w' => x = .returned (.tuple #[]) ∧ ∃ b, w.heap.size ≤ b ∧ CaAt w' c m dp lp room h r bd cn (L1 ++ [⟨k, b, f⟩]) ∧ Turns (cafo c m L) w w' := by
  have hb1 : Below w.heap.size w ((w.alloc (.cells (rfC k) 43)).alloc (.cells (va 256 (iv .u8 f)) 52)) := below_new2 _ _ _
  have r1 : Blk ((w.alloc (.cells (rfC k) 43)).alloc (.cells (va 256 (iv .u8 f)) 52)) w.heap.size 43 (rfC k) := (Blk.new _ _ _).alloc _
  have k1 : Blk ((w.alloc (.cells (rfC k) 43)).alloc (.cells (va 256 (iv .u8 f)) 52)) (w.heap.size + 1) 52 (va 256 (iv .u8 f)) := Blk.new1 _ _ _ _
  have HC1 : Hid (CaAt ((w.alloc (.cells (rfC k) 43)).alloc (.cells (va 256 (iv .u8 f)) 52)) c m dp lp room h r bd cn L) := H.below hb1
  have hBT : Hid (Tryz.prog.built 174 [(0, .agg (rfC k)), (1, .agg (va 256 (iv .u8 f)))] = some (enC k f none none)) := built_en k f
  have HLT : Hid (∀ x, cafo c m L x → x < w.heap.size) := H.lt
  have HPL : Hid (PutL L k L1) := hp
  have HNO : Hid (∀ e ∈ L1, e.k ≠ k) := hp.none H
  clear H hp
  go_enter Tryz.func75, Tryz.ntmps75
  go_wp2_with (first
    | (refine wpList_load_rowg (by rfl) 43 _ (by rfl) (w.heap.size) (by rfl) 43 (rfC k) (0, 0) _ (by exact r1) Tryz.underlying43 (by rfl) (slSizeRef.trans (by rw [rfC_size])) ?_; simp only [Act.put, sgPHCaAll2])
    | fail)
  generalize ((w.alloc (.cells (rfC k) 43)).alloc (.cells (va 256 (iv .u8 f)) 52)) = w1 at *
  refine (drop_any HPL.out w1 HC1.out).mono ?_
  rintro x w2 ⟨rfl, hc2, ht2⟩
  have r2 : Blk w2 w.heap.size 43 (rfC k) := ht2.blk r1 fun z => by have := HLT.out _ z; omega
  have k2 : Blk w2 (w.heap.size + 1) 52 (va 256 (iv .u8 f)) := ht2.blk k1 fun z => by have := HLT.out _ z; omega
  have HC2 : Hid (CaAt w2 c m dp lp room h r bd cn L1) := hc2
  have HT2 : Hid (Turns (cafo c m L) w w2) := (Turns.of_below (S := cafo c m L) hb1).trans ht2 fun x hx => .inl hx
  clear hc2 ht2 r1 k1 HC1 hb1
  have hb3 : Below w2.heap.size w2 (w2.alloc (.cells (enC k f none none) 174)) := below_new1 _ _
  have r3 : Blk (w2.alloc (.cells (enC k f none none) 174)) w.heap.size 43 (rfC k) := r2.alloc _
  have HC3 : Hid (CaAt (w2.alloc (.cells (enC k f none none) 174)) c m dp lp room h r bd cn L1) := HC2.out.below hb3
  have HE3 : Hid (Blk (w2.alloc (.cells (enC k f none none) 174)) w2.heap.size 174 (enC k f none none)) := Blk.new _ _ _
  have HT3 : Hid (Turns (cafo c m L) w (w2.alloc (.cells (enC k f none none) 174))) := HT2.out.alloc _
  have c33 : (w2.alloc (.cells (enC k f none none) 174)).cell? ⟨c, 3, none⟩ = some (.map (some m)) := HC3.out.map3
  have HSZ : Hid (w.heap.size ≤ w2.heap.size) := HT2.out.size
  have HL2 : Hid (∀ x, cafo c m L1 x → x < w2.heap.size) := HC2.out.lt
  clear hb3
  go_wp2_with (first
    | (refine wpList_load_rowg (by rfl) 43 _ (by rfl) (w.heap.size) (by rfl) 43 (rfC k) (0, 0) _ (by exact r2) Tryz.underlying43 (by rfl) (slSizeRef.trans (by rw [rfC_size])) ?_; simp only [Act.put, sgPHCaAll2])
    | (refine wpList_load_row (by rfl) 52 _ (by rfl) (w.heap.size + 1) (by rfl) 52 (va 256 (iv .u8 f)) (0, 0) _ k2 Tryz.underlying52 (by rfl) (sizeBk.trans (by rw [va_size])) ?_; simp only [Act.put, sgPHCaAll2])
    | (refine ca_build2 (by rfl) 174 _ _ (by rfl) (.agg (rfC k)) (.agg (va 256 (iv .u8 f))) (by rfl) (by rfl) (enC k f none none) (by exact hBT.out) ?_; simp only [Act.put, sgPHCaAll2])
    | fail)
  clear r2 k2 HC2 hBT
  generalize hB0 : w2.heap.size = b at *
  generalize (w2.alloc (.cells (enC k f none none) 174)) = w3 at *
  clear hB0
  obtain ⟨es, hes, hl, hnd, hq⟩ := HC3.out.mp
  have hno : findIn k es = none := by
    cases hf : findIn k es with
    | none => rfl
    | some x =>
      obtain ⟨e, he, h5, _⟩ := (hq k x).1 hf
      exact absurd h5 (HNO.out e he)
  obtain ⟨w4, hup, hmap4, hk4⟩ := run_update_is Tryz.underlying125 ref_key (hes.of (w' := w3.drew) rfl) k b hno
  have hup : (Instr.mapUpdate 125 (.map (some m)) (.agg (rfC k)) (.pointer (some ⟨b, 0, none⟩))).run Tryz.prog w3.drew = .ok () w4 := hup
  have HK4 : Hid (Keeps m w3 w4) := ⟨⟨hk4.1.os, hk4.1.tape, hk4.1.output, hk4.1.size, hk4.1.block⟩, hk4.2⟩
  have HG4 : Hid (ChainAt w4 c m dp lp room h r bd cn L1) := HC3.out.ch.kept fun x hx => HK4.out.2 x (fun z => HC3.out.m_not (z ▸ hx)) (HC3.out.ch.lt x hx)
  have HM4 : Hid (MapFor w4 m (L1 ++ [⟨k, b, f⟩])) := HC3.out.mp.added HNO.out hl hnd hq hmap4
  have HE4 : Hid (Blk w4 b 174 (enC k f none none)) := (HK4.out.2 b (fun z => HC3.out.mp.ne HE3.out z.symm) HE3.out.lt).trans HE3.out
  have c34 : w4.cell? ⟨c, 3, none⟩ = some (.map (some m)) := by
    rw [HG4.out.blk.cell]
    rfl
  have HT4 : Hid (Turns (cafo c m L) w w4) := HT3.out.trans (Turns.of_keeps HK4.out) fun x hx => .inl (.inr hx)
  have HMN : Hid (¬ chfoot c L1 m ∧ m ≠ b) := ⟨HC3.out.m_not, HC3.out.mp.ne HE3.out⟩
  clear hes hl hnd hq hno hmap4 hk4 HE3 HT3 HK4 HC3
  refine wp_region_partsS (fun W => W.cell? ⟨c, 3, none⟩ = some (.map (some m))) [([0, 5], 1, true), ([], 2, true), ([], 3, true), ([], 4, false), ([], 6, false)] [] [] (by kernel_rfl) (by kernel_rfl) c33 (partsI_yield ?_)
  simp only [sgLHCaAll2]
  go_wp2_with fail
  refine ⟨rfl, _, .pointer (some ⟨c, 3, none⟩), rfl, Or.inl ⟨by rfl, fun W hW => by go_simp⟩, partsI_yield ?_⟩
  simp only [Act.put, sgPHCaAll2]
  simp only [sgLHCaAll2]
  go_wp2_with fail
  refine ⟨rfl, _, .pointer (some ⟨c, 3, none⟩), rfl, Or.inl ⟨by rfl, fun W hW => by go_simp⟩, partsI_yield ?_⟩
  simp only [Act.put, sgPHCaAll2]
  simp only [sgLHCaAll2]
  go_wp2_with fail
  refine ⟨rfl, _, .map (some m), rfl, Or.inl ⟨by rfl, fun W hW => by go_simp⟩, partsI_force ?_⟩
  simp only [Act.put, sgPHCaAll2]
  simp only [sgLHCaAll2]
  refine wpList_load_rowg (by rfl) 43 _ (by rfl) w.heap.size (by rfl) 43 (rfC k) (0, 0) _ r3.drew Tryz.underlying43 (by rfl) (slSizeRef.trans (by rw [rfC_size])) ?_
  simp only [Act.put, sgPHCaAll2]
  go_wp2_with fail
  refine ⟨rfl, c33, partsI_force ?_⟩
  simp only [sgLHCaAll2]
  go_wp2_with fail
  refine ⟨rfl, c34, partsI_last ?_⟩
  simp only [sgLHCaAll2]
  go_wp2_with fail
  refine ⟨rfl, ?_⟩
  go_wp2_with fail
  refine (link_at (e := ⟨k, b, f⟩) (L := L1) (fun j e' hj hbb => by have := HL2.out _ (.inl (.inr ⟨e', List.mem_of_getElem? hj, rfl⟩)); simp at hbb; omega) w4 HG4.out HE4.out).mono ?_
  rintro x w5 ⟨rfl, hg5, ht5⟩
  have hm5 : w5.heap[m]? = w4.heap[m]? := ht5.block m HM4.out.lt fun z => by
    rcases z with z | z
    · exact HMN.out.1 z
    · exact HMN.out.2 z
  have HC5 : Hid (CaAt w5 c m dp lp room h r bd cn (L1 ++ [⟨k, b, f⟩])) := ⟨hg5, HM4.out.of hm5⟩
  have HT5 : Hid (Turns (cafo c m L) w w5) := HT4.out.trans ht5 fun x hx => by
    rcases hx with hx | hx
    · exact .inl (HPL.out.foot (.inl hx))
    · exact .inr (by have := HSZ.out; simp at hx; omega)
  clear hg5 ht5 hm5 c34 c33 hup
  go_wp2_with fail
  try simp only [Exit.inBlock, Exit.then]
  first
    | refine bodyPost_end (results_none Tryz.results75 _ _ _) rfl ?_
    | refine bodyPost_ret (results_none Tryz.results75 _ _ _) rfl ?_
  exact ⟨rfl, b, HSZ.out, HC5.out, HT5.out⟩
/-- how many keys a map has -/
def mapSz (w : World) (m : Nat) : Nat := match w.heap[m]? with
  | some (.map es _) => es.size
  | _ => 0
theorem MapFor.sz (H : MapFor w m L) : mapSz w m = L.length := by
  obtain ⟨es, ⟨xs, cl, hg, he⟩, hl, _⟩ := H
  unfold mapSz
  rw [hg]
  have := congrArg List.length he
  simp at this
  show xs.size = _
  omega
theorem MapFor.len (H : MapFor w m L) (ty : TypeId) : (Builtin.len_ #[125] ty #[.map (some m)]).run Tryz.prog w = .ok (.int .i64 (L.length : Int)) w := by
  obtain ⟨es, h1, h2, _⟩ := H
  have := map_len h1 ty
  rw [h2] at this
  exact this
theorem en_rangeK {w : World} {b : Nat} {k : Rf} {f : Nat → Nat} {o n : Option Addr} (h : Blk w b 174 (enC k f o n)) : w.rangeAt b 0 ((List.range 33).map (rfF k.1 k.2)) := by
  have := Blk.range (n := 291) (f := enF k f o n) h 0 33 (by decide)
  rw [show ((List.range 33).map fun j => enF k f o n (0 + j)) = (List.range 33).map (rfF k.1 k.2) from List.map_congr_left fun j hj => ?_] at this
  · exact this
  · have hj := List.mem_range.1 hj
    unfold enF
    rw [if_pos (by omega), Nat.zero_add]
set_option maxRecDepth 100000 in
set_option maxHeartbeats 4000000 in
theorem trim_any (x : Nat) (hx : x ≤ 4096) (w : World) (H : CaAt w c m dp lp room h r bd cn L) : Calls Tryz.prog 76 #[.pointer (some ⟨c, 3, none⟩), .int .i64 (x : Int)] w fun y w' => y = .returned (.tuple #[]) ∧ CaAt w' c m dp lp room h r bd cn (L.drop (L.length - x)) ∧ Turns (cafo c m L) w w' := by
  have HC : Hid (CaAt w c m dp lp room h r bd cn L) := H
  clear H
  go_enter Tryz.func76, Tryz.ntmps76
  go_wp2_with fail
  go_loopw [] (fun wx => ∃ j, j ≤ L.length - x ∧ CaAt wx c m dp lp room h r bd cn (L.drop j) ∧ Turns (cafo c m L) w wx) (fun wx => mapSz wx m)
  case atStart => exact ⟨0, Nat.zero_le _, HC.out, turns_refl w⟩
  case round =>
    clear HC
    obtain ⟨j, hj, hc, ht⟩ := hrel
    rename World => wr
    have HC : Hid (CaAt wr c m dp lp room h r bd cn (L.drop j)) := hc
    have HT : Hid (Turns (cafo c m L) w wr) := ht
    have c3 : wr.cell? ⟨c, 3, none⟩ = some (.map (some m)) := hc.map3
    have hlen : ∀ ty, (Builtin.len_ #[125] ty #[.map (some m)]).run Tryz.prog wr = .ok (.int .i64 ((L.drop j).length : Int)) wr := hc.mp.len
    obtain ⟨M, hM⟩ : ∃ M, (L.drop j).length = M := ⟨_, rfl⟩
    have hM2 : M = L.length - j := by
      rw [← hM, List.length_drop]
    rw [hM] at hlen
    by_cases hgt : x < M
    · have hgt1 : (x : Int) < (M : Int) := by omega
      have d1 : decide ((x : Int) < (M : Int)) = true := decide_eq_true hgt1
      have d2 : decide (x < M) = true := decide_eq_true hgt
      obtain ⟨e, he⟩ : ∃ e, (L.drop j)[0]? = some e := ⟨_, List.getElem?_eq_getElem (by omega)⟩
      have c4 : wr.cell? ⟨c, 4, none⟩ = some (.pointer (some ⟨e.b, 0, none⟩)) := by
        rw [hc.ch.blk.cell]
        show some (Value.pointer (headOf (L.drop j))) = _
        unfold headOf
        rw [he]
        rfl
      have HR : Hid (wr.rangeAt e.b 0 ((List.range 33).map (rfF e.k.1 e.k.2))) := en_rangeK (hc.ch.ents 0 e he)
      have HE : Hid ((L.drop j)[0]? = some e) := he
      have HJ : Hid (j < L.length - x ∧ M = L.length - j ∧ (L.drop j).length = M) := ⟨by omega, hM2, hM⟩
      clear hc ht he hM hM2 hgt hj
      go_wp2_with (first
        | (refine wpList_load_blk (by rfl) 43 _ (by rfl) (e.b) (0) 33 (rfF e.k.1 e.k.2) (by rfl) _ (by exact HR.out) Tryz.underlying43 rfl slSizeRef ?_; simp only [Act.put, sgPHCaAll2])
        | fail)
      refine (drop_hit HE.out wr HC.out).mono ?_
      rintro y w2 ⟨rfl, hc2, ht2⟩
      rw [show (L.drop j).eraseIdx 0 = L.drop (j + 1) by rw [List.eraseIdx_zero, List.tail_drop]] at hc2
      have HC2 : Hid (CaAt w2 c m dp lp room h r bd cn (L.drop (j + 1))) := hc2
      have HT2 : Hid (Turns (cafo c m L) w w2) := HT.out.trans ht2 fun z hz => .inl (by
        rcases hz with (hz | ⟨e', he', hz⟩) | hz
        · exact .inl (.inl hz)
        · exact .inl (.inr ⟨e', List.mem_of_mem_drop he', hz⟩)
        · exact .inr hz)
      have HS : Hid (mapSz w2 m < mapSz wr m) := by
        show _ < _
        have hjj := HJ.out
        rw [hc2.mp.sz, HC.out.mp.sz, hjj.2.2, List.length_drop]
        omega
      clear hc2 ht2 c3 c4 hlen HR HE
      go_wp2_with fail
      go_roundw
      case rel => exact ⟨j + 1, HJ.out.1, HC2.out, HT2.out⟩
      case measure => exact HS.out
    · have hgt1 : ¬ (x : Int) < (M : Int) := by omega
      have d1 : decide ((x : Int) < (M : Int)) = false := decide_eq_false hgt1
      have d2 : decide (x < M) = false := decide_eq_false hgt
      have HJ : Hid (j = L.length - x) := by
        show _ = _
        omega
      clear hc ht
      go_wp2_with fail
      try simp only [Exit.inBlock, Exit.then]
      first
        | refine bodyPost_end (results_none Tryz.results76 _ _ _) rfl ?_
        | refine bodyPost_ret (results_none Tryz.results76 _ _ _) rfl ?_
      rw [← HJ.out]
      exact ⟨rfl, HC.out, HT.out⟩
end
section
variable {w w' : World} {c m room : Nat} {dp lp : Option Addr} {h r bd cn : Int} {L L1 : List En} {i : Nat} {e : En} {k : Rf}
set_option maxRecDepth 100000 in
set_option maxHeartbeats 4000000 in
theorem keep_any (hroom : room ≤ 4096) (hp : PutL L k L1) (f : Nat → Nat) (w : World) (H : CaAt w c m dp lp (room : Int) h r bd cn L) : Calls Tryz.prog 55 #[.pointer (some ⟨c, 0, none⟩), .agg (rfC k), .agg (va 256 (iv .u8 f))] w fun x w' => x = .returned (.tuple #[]) ∧ ∃ b, w.heap.size ≤ b ∧ CaAt w' c m dp lp (room : Int) h r bd cn ((L1 ++ [(⟨k, b, f⟩ : En)]).drop ((L1 ++ [(⟨k, b, f⟩ : En)]).length - room)) ∧ Turns (cafo c m L) w w' := by
  have hb1 : Below w.heap.size w ((w.alloc (.cells (rfC k) 43)).alloc (.cells (va 256 (iv .u8 f)) 52)) := below_new2 _ _ _
  have r1 : Blk ((w.alloc (.cells (rfC k) 43)).alloc (.cells (va 256 (iv .u8 f)) 52)) w.heap.size 43 (rfC k) := (Blk.new _ _ _).alloc _
  have k1 : Blk ((w.alloc (.cells (rfC k) 43)).alloc (.cells (va 256 (iv .u8 f)) 52)) (w.heap.size + 1) 52 (va 256 (iv .u8 f)) := Blk.new1 _ _ _ _
  have k1d : Blk ((w.alloc (.cells (rfC k) 43)).alloc (.cells (va 256 (iv .u8 f)) 52)).drew (w.heap.size + 1) 52 (va 256 (iv .u8 f)) := k1
  have HC1d : Hid (CaAt ((w.alloc (.cells (rfC k) 43)).alloc (.cells (va 256 (iv .u8 f)) 52)).drew c m dp lp (room : Int) h r bd cn L) := H.below hb1.drew
  have HLT : Hid (∀ x, cafo c m L x → x < w.heap.size) := H.lt
  have HPL : Hid (PutL L k L1) := hp
  have HRM : Hid (room ≤ 4096) := hroom
  clear H hp hroom
  go_enter Tryz.func55, Tryz.ntmps55
  go_wp2_with fail
  have HB1 : Hid (Below w.heap.size w ((w.alloc (.cells (rfC k) 43)).alloc (.cells (va 256 (iv .u8 f)) 52)).drew) := hb1.drew
  have HS1 : Hid (w.heap.size ≤ ((w.alloc (.cells (rfC k) 43)).alloc (.cells (va 256 (iv .u8 f)) 52)).heap.size) := hb1.size
  clear hb1 k1
  generalize ((w.alloc (.cells (rfC k) 43)).alloc (.cells (va 256 (iv .u8 f)) 52)) = w1 at *
  refine wp_region_partsS (fun W => Blk W w.heap.size 43 (rfC k)) [([0], 1, true), ([], 2, true), ([], 3, true), ([], 4, false), ([], 5, false)] [] [] (by kernel_rfl) (by kernel_rfl) r1 (partsI_yield ?_)
  simp only [sgLHCaAll2]
  go_wp2_with fail
  refine ⟨rfl, _, .pointer (some ⟨c, 0, none⟩), rfl, Or.inl ⟨by rfl, fun W hW => by go_simp⟩, partsI_yield ?_⟩
  simp only [Act.put, sgPHCaAll2]
  simp only [sgLHCaAll2]
  go_wp2_with fail
  refine ⟨rfl, _, .pointer (some ⟨c, 3, none⟩), rfl, Or.inl ⟨by rfl, fun W hW => by go_simp⟩, partsI_yield ?_⟩
  simp only [Act.put, sgPHCaAll2]
  simp only [sgLHCaAll2]
  go_wp2_with fail
  refine ⟨rfl, _, .agg (rfC k), rfl, kyields_load (by rfl) 43 _ (by rfl) w.heap.size 33 (rfF k.1 k.2) (by rfl) _ 43 (fun W hW => hW) Tryz.underlying43 rfl slSizeRef, partsI_force ?_⟩
  simp only [Act.put, sgPHCaAll2]
  simp only [sgLHCaAll2]
  refine wpList_load_rowg (by rfl) 52 _ (by rfl) (w.heap.size + 1) (by rfl) 52 (va 256 (iv .u8 f)) (0, 0) _ k1d Tryz.underlying52 (by rfl) (sizeBk.trans (by rw [va_size])) ?_
  simp only [Act.put, sgPHCaAll2]
  go_wp2_with fail
  refine ⟨rfl, r1, partsI_force ?_⟩
  simp only [sgLHCaAll2]
  go_wp2_with fail
  refine (put_any HPL.out f _ HC1d.out).mono ?_
  rintro x w2 ⟨rfl, b, hb2, hc2, ht2⟩
  have HC2 : Hid (CaAt w2 c m dp lp room h r bd cn (L1 ++ [⟨k, b, f⟩])) := hc2
  have HT2 : Hid (Turns (cafo c m L) w1.drew w2) := ht2
  have HBB : Hid (w1.heap.size ≤ b) := hb2
  have r2 : Blk w2 w.heap.size 43 (rfC k) := ht2.blk r1 (fun z => by have := HLT.out _ z; omega)
  clear hc2 ht2 hb2
  go_wp2_with fail
  refine ⟨rfl, r2, partsI_last ?_⟩
  simp only [sgLHCaAll2]
  go_wp2_with fail
  refine ⟨rfl, ?_⟩
  clear r1 k1d HC1d r2
  have c22 : w2.cell? ⟨c, 2, none⟩ = some (.int .i64 (room : Int)) := by
    rw [HC2.out.ch.blk.cell]
    rfl
  have HC2d : Hid (CaAt w2.drew c m dp lp (room : Int) h r bd cn (L1 ++ [⟨k, b, f⟩])) := HC2.out.drew
  go_wp2_with fail
  refine wp_region_partsS (fun W => W.cell? ⟨c, 2, none⟩ = some (.int .i64 (room : Int))) [([0, 3], 1, true), ([], 2, true), ([], 4, false), ([], 5, false), ([], 6, false)] [] [7] (by kernel_rfl) (by kernel_rfl) c22 (partsI_yield ?_)
  simp only [sgLHCaAll2]
  go_wp2_with fail
  refine ⟨rfl, _, .pointer (some ⟨c, 0, none⟩), rfl, Or.inl ⟨by rfl, fun W hW => by go_simp⟩, partsI_yield ?_⟩
  simp only [Act.put, sgPHCaAll2]
  simp only [sgLHCaAll2]
  go_wp2_with fail
  refine ⟨rfl, _, .pointer (some ⟨c, 3, none⟩), rfl, Or.inl ⟨by rfl, fun W hW => by go_simp⟩, partsI_force ?_⟩
  simp only [Act.put, sgPHCaAll2]
  simp only [sgLHCaAll2]
  go_wp2_with fail
  refine ⟨rfl, c22, partsI_force ?_⟩
  simp only [sgLHCaAll2]
  go_wp2_with fail
  refine ⟨rfl, c22, partsI_force ?_⟩
  simp only [sgLHCaAll2]
  go_wp2_with fail
  refine ⟨rfl, c22, partsI_last ?_⟩
  simp only [sgLHCaAll2]
  go_wp2_with fail
  refine (trim_any room HRM.out _ HC2d.out).mono ?_
  rintro x w3 ⟨rfl, hc3, ht3⟩
  have HC3 : Hid (CaAt w3 c m dp lp (room : Int) h r bd cn ((L1 ++ [(⟨k, b, f⟩ : En)]).drop ((L1 ++ [(⟨k, b, f⟩ : En)]).length - room))) := hc3
  have HT3 : Hid (Turns (cafo c m (L1 ++ [⟨k, b, f⟩])) w2.drew w3) := ht3
  clear hc3 ht3
  go_wp2_with fail
  refine ⟨rfl, ?_⟩
  go_wp2_with fail
  try simp only [Exit.inBlock, Exit.then]
  first
    | refine bodyPost_end (results_none Tryz.results55 _ _ _) rfl ?_
    | refine bodyPost_ret (results_none Tryz.results55 _ _ _) rfl ?_
  have hs1 := HS1.out
  have hbb := HBB.out
  refine ⟨rfl, b, by omega, HC3.out, ?_⟩
  have t0 : Turns (cafo c m L) w w2.drew := ((Turns.of_below (S := cafo c m L) HB1.out).trans HT2.out fun x hx => .inl hx).drew
  refine t0.trans HT3.out fun z hz => ?_
  rcases hz with (hz | ⟨e', he', hz⟩) | hz
  · exact .inl (.inl (.inl hz))
  · rcases List.mem_append.1 he' with he' | he'
    · exact .inl (.inl (.inr ⟨e', HPL.out.sub he', hz⟩))
    · have := List.mem_singleton.1 he'
      subst this
      exact .inr (by simp at hz; omega)
  · exact .inl (.inr hz)
end
end Go.Proofs.YtiofonffmplfmaaGreat
