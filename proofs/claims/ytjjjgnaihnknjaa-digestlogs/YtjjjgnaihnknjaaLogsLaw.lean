/- The walk of the statement DigestLogs: it returns true, whatever the log is asked. -/
import Derived.Test.YtjjjgnaihnknjaaRefColl
import Derived.Handy
import Derived.Test.YtjjjgnaihnknjaaLogFns
import Derived.Test.YtjjjgnaihnknjaaSegsIf
import Derived.Test.YtjjjgnaihnknjaaLoggedOut
import Derived.Test.YtjjjgnaihnknjaaRefPut

namespace Go.Proofs.Ytjjjgnaihnknjaa
open Go.RowKit
set_option linter.unusedSimpArgs false
set_option linter.unusedVariables false

theorem own_own {w : World} {B B' e e' size size' n n' k : Nat} {v v' : Value} {xs xs' : List Value} (h : w.ownsRow B e size v n xs) (h' : w.ownsRow B' e' size' v' n' xs') (hne : e ≠ e') (hk : v.ownBlock = some k) : v'.ownBlock ≠ some k := fun hk' => by
  rcases h.2 with ⟨rfl, _⟩ | ⟨b, cap, cur, rfl, _, hg, _⟩
  · simp [Value.ownBlock] at hk
  · rcases h'.2 with ⟨rfl, _⟩ | ⟨b', cap', cur', rfl, _, hg', _⟩
    · simp [Value.ownBlock] at hk'
    · simp [Value.ownBlock] at hk hk'
      subst hk
      subst hk'
      rw [hg] at hg'
      simp at hg'
      exact hne hg'.2
/-- two logs that share no memory -/
def Apart2 (g r : Nat) (v : Value) (g' r' : Nat) (v' : Value) : Prop := g' ≠ g ∧ r' ≠ r ∧ ∀ k, v'.ownBlock = some k → v.ownBlock ≠ some k
/-- all of a log lies from B on -/
def LogFrom (B g r : Nat) (v : Value) : Prop := B ≤ g ∧ B ≤ r ∧ ∀ k, v.ownBlock = some k → B ≤ k
theorem map_blk {w : World} {r g t : Nat} {cs : Array Value} {es : Array MapEntry} {cl : Nat} (hg : w.heap[r]? = some (.map es cl)) (hB : Blk w g t cs) : r ≠ g := fun q => by
  subst q
  unfold Blk at hB
  rw [hB] at hg
  cases hg
section
variable {w w' : World} {g r : Nat} {v : Value} {E : List (Nat × ByteArray)}
theorem LogKeeps.ref {mv : Value} {F : List (Nat × ByteArray)} (hk : LogKeeps g r v w w') (h : LogAt w g r v E) (hm : RefAt w mv F) : RefAt w' mv F := by
  refine hm.keep hk.2.2.2.1 fun k hkk => ?_
  obtain ⟨hB, hown, es, cl, hg, _⟩ := h
  refine hk.2.2.2.2 k (hm.1.lt k hkk).2 (fun q => ?_) (fun q => ?_) (own_own hm.1 hown (by decide) hkk)
  · subst q
    exact own_ne hm.1 hB (by decide) hkk
  · subst q
    exact own_map hm.1 hg hkk
theorem LogKeeps.log {g' r' : Nat} {v' : Value} {F : List (Nat × ByteArray)} (hk : LogKeeps g r v w w') (h : LogAt w g r v E) (h' : LogAt w g' r' v' F) (ha : Apart2 g r v g' r' v') : LogAt w' g' r' v' F := by
  obtain ⟨hB, hown, es, cl, hg, _⟩ := h
  obtain ⟨hB', hown', es', cl', hg', he'⟩ := h'
  obtain ⟨a1, a2, a3⟩ := ha
  refine ⟨?_, own_block hown' fun k hkk => ?_, es', cl', ?_, he'⟩
  · unfold Blk
    rw [hk.2.2.2.2 g' hB'.lt a1 (fun q => map_blk hg hB' q.symm) (own_ne hown hB' (by decide))]
    exact hB'
  · refine hk.2.2.2.2 k (hown'.lt k hkk).2 (fun q => ?_) (fun q => ?_) (a3 k hkk)
    · subst q
      exact own_ne hown' hB (by decide) hkk
    · subst q
      exact own_map hown' hg hkk
  · rw [hk.2.2.2.2 r' (Array.getElem?_eq_some_iff.1 hg').1 (map_blk hg' hB) a2 (own_map hown hg')]
    exact hg'
theorem LogKeeps.blk {b t : Nat} {cs : Array Value} (hk : LogKeeps g r v w w') (h : LogAt w g r v E) (hb : Blk w b t cs) (h1 : t ≠ 96) (h2 : 98 ≠ t) : Blk w' b t cs := by
  obtain ⟨hB, hown, es, cl, hg, _⟩ := h
  unfold Blk
  rw [hk.2.2.2.2 b hb.lt (fun q => ?_) (fun q => map_blk hg hb q.symm) (own_ne hown hb h2)]
  · exact hb
  · subst q
    unfold Blk at hB hb
    rw [hB] at hb
    simp at hb
    exact h1 hb.2.symm
theorem LogKeeps.below {B : Nat} (hk : LogKeeps g r v w w') (hf : LogFrom B g r v) (hB : B ≤ w.heap.size) : Below B w w' :=
  ⟨hk.1, hk.2.1, hk.2.2.1, hk.2.2.2.1, fun k hkB => hk.2.2.2.2 k (by omega) (by have := hf.1; omega) (by have := hf.2.1; omega) (fun q => by have := hf.2.2 k q; omega)⟩
theorem LogKeeps.of_below (hb : Below w.heap.size w w') : LogKeeps g r v w w' := ⟨hb.os, hb.tape, hb.output, hb.size, fun k h1 _ _ _ => hb.block k h1⟩
end
theorem LogAt.lts {w : World} {g r : Nat} {v : Value} {E : List (Nat × ByteArray)} (h : LogAt w g r v E) : g < w.heap.size ∧ r < w.heap.size ∧ ∀ k, v.ownBlock = some k → k < w.heap.size := by
  obtain ⟨hB, hown, es, cl, hg, _⟩ := h
  exact ⟨hB.lt, (Array.getElem?_eq_some_iff.1 hg).1, fun k hk => (hown.lt k hk).2⟩
/-- a digest asked of a log -/
theorem logOf_any (tag : Nat) (ht : tag < 256) (s : ByteArray) (hs : s.size ≤ 140737488351232) (g r : Nat) (v : Value) (E : List (Nat × ByteArray)) (hE : E.length ≤ 4000000000000) (w : World) (h : LogAt w g r v E) :
    Calls Try.prog 32 #[.pointer (some ⟨g, 0, none⟩), .int .u8 (tag : Int), .string s] w fun e w' => e = .returned (.agg (va 32 (iv .u8 (sumOf (tag, s))))) ∧ ∃ v', LogAt w' g r v' (putE E (tag, s)) ∧ LogKeeps g r v w w' ∧ (v'.ownBlock = v.ownBlock ∨ ∃ k, v'.ownBlock = some k ∧ w.heap.size ≤ k) := by
  cases hq : isIn (tag, s) E with
  | true =>
    refine (logOf_old tag s g r v E hq w h).mono ?_
    rintro e w' ⟨rfl, hb⟩
    refine ⟨rfl, v, ?_, LogKeeps.of_below hb, .inl rfl⟩
    unfold putE
    rw [hq]
    exact h.below hb
  | false =>
    refine (logOf_new tag ht s hs g r v E hE hq w h).mono ?_
    rintro e w' ⟨rfl, v', h1, h2, h3⟩
    refine ⟨rfl, v', ?_, h2, h3⟩
    unfold putE
    rw [hq]
    exact h1
theorem Apart2.symm {g r : Nat} {v : Value} {g' r' : Nat} {v' : Value} (h : Apart2 g r v g' r' v') : Apart2 g' r' v' g r v := ⟨h.1.symm, h.2.1.symm, fun k h1 h2 => h.2.2 k h2 h1⟩
/-- the first log has grown -/
theorem Apart2.grow {w : World} {g r : Nat} {v u : Value} {g' r' : Nat} {v' : Value} {F : List (Nat × ByteArray)} (h : Apart2 g r v g' r' v') (h' : LogAt w g' r' v' F) (hu : u.ownBlock = v.ownBlock ∨ ∃ k, u.ownBlock = some k ∧ w.heap.size ≤ k) : Apart2 g r u g' r' v' :=
  ⟨h.1, h.2.1, fun k h1 h2 => by
    rcases hu with q | ⟨k', q, hk'⟩
    · rw [q] at h2
      exact h.2.2 k h1 h2
    · rw [q] at h2
      have := h'.lts.2.2 k h1
      injection h2 with h2
      omega⟩
theorem LogFrom.grow {w : World} {B g r : Nat} {v u : Value} (h : LogFrom B g r v) (hB : B ≤ w.heap.size) (hu : u.ownBlock = v.ownBlock ∨ ∃ k, u.ownBlock = some k ∧ w.heap.size ≤ k) : LogFrom B g r u :=
  ⟨h.1, h.2.1, fun k h1 => by
    rcases hu with q | ⟨k', q, hk'⟩
    · rw [q] at h1
      exact h.2.2 k h1
    · rw [q] at h1
      injection h1 with h1
      omega⟩
/-- entries as they may be -/
def OkE (E : List (Nat × ByteArray)) : Prop := ∀ i, i < E.length → (E.getD i (0, ByteArray.empty)).1 < 256 ∧ (E.getD i (0, ByteArray.empty)).2.size ≤ 140737488351232
theorem okE_nil : OkE [] := fun i hi => absurd hi (by simp)
theorem okE_put {E : List (Nat × ByteArray)} {e : Nat × ByteArray} (h : OkE E) (h1 : e.1 < 256) (h2 : e.2.size ≤ 140737488351232) : OkE (putE E e) := by
  unfold putE
  split
  · exact h
  · intro i hi
    by_cases hl : i < E.length
    · have := h i hl
      simpa [List.getD, List.getElem?_append_left hl] using this
    · have : i = E.length := by simp at hi; omega
      subst this
      simpa [List.getD] using ⟨h1, h2⟩
theorem len_put (E : List (Nat × ByteArray)) (e : Nat × ByteArray) : (putE E e).length ≤ E.length + 1 := by
  unfold putE
  split <;> simp
end Go.Proofs.Ytjjjgnaihnknjaa

namespace Go.Proofs.Ytjjjgnaihnknjaa
open Go.RowKit
set_option linter.unusedSimpArgs false
set_option linter.unusedVariables false

set_option maxHeartbeats 1000000 in
theorem logLen_nil (w : World) :
    Calls Try.prog 30 #[.pointer none] w fun e w' => e = .returned (.int .i64 0) ∧ w = w' := by
  go_enter Try.func30, Try.ntmps30
  go_wp2_with fail
  go_ret
  exact ⟨rfl, rfl⟩
set_option maxHeartbeats 1000000 in
theorem logHas_nil (tag : Int) (s : ByteArray) (w : World) :
    Calls Try.prog 31 #[.pointer none, .int .u8 tag, .string s] w fun e w' => e = .returned (.bool false) ∧ w = w' := by
  go_enter Try.func31, Try.ntmps31
  go_wp2_with fail
  go_ret
  exact ⟨rfl, rfl⟩
set_option maxHeartbeats 1000000 in
theorem logClone_nil (w : World) :
    Calls Try.prog 33 #[.pointer none] w fun e w' => ∃ g, e = .returned (.pointer (some ⟨g, 0, none⟩)) ∧ Below w.heap.size w w' := by
  have hN : Hid (∀ w : World, Calls Try.prog 29 #[] w fun e w' => ∃ g, e = .returned (.pointer (some ⟨g, 0, none⟩)) ∧ Below w.heap.size w w') := fun w => (newLog_any w).mono fun e w' ⟨g, r, h1, _, _, _, h2⟩ => ⟨g, h1, h2⟩
  go_enter Try.func33, Try.ntmps33
  go_wp2_with fail
  refine (hN.out _).mono ?_
  rintro e w1 ⟨g, rfl, hb⟩
  go_wp2_with fail
  go_ret
  exact ⟨g, rfl, hb⟩
set_option maxRecDepth 100000 in
set_option maxHeartbeats 4000000 in
theorem logOf_nil (tag : Nat) (ht : tag < 256) (s : ByteArray) (hs : s.size ≤ 140737488351232) (w : World) :
    Calls Try.prog 32 #[.pointer none, .int .u8 (tag : Int), .string s] w fun e w' => e = .returned (.agg (va 32 (iv .u8 (sumOf (tag, s))))) ∧ Below w.heap.size w w' := by
  have hO : Hid (∀ w : World, Calls Try.prog 14 #[.int .u8 (tag : Int), .string s] w fun e w' => e = .returned (.agg (va 32 (iv .u8 (sumOf (tag, s))))) ∧ Below w.heap.size w w') := fun w => of_any tag ht s hs w
  generalize sumOf (tag, s) = x at *
  clear hs
  have r0 : Blk (w.alloc (.cells #[.int .u8 0, .int .u8 0, .int .u8 0, .int .u8 0, .int .u8 0, .int .u8 0, .int .u8 0, .int .u8 0, .int .u8 0, .int .u8 0, .int .u8 0, .int .u8 0, .int .u8 0, .int .u8 0, .int .u8 0, .int .u8 0, .int .u8 0, .int .u8 0, .int .u8 0, .int .u8 0, .int .u8 0, .int .u8 0, .int .u8 0, .int .u8 0, .int .u8 0, .int .u8 0, .int .u8 0, .int .u8 0, .int .u8 0, .int .u8 0, .int .u8 0, .int .u8 0] 39)) w.heap.size 39 (va 32 (iv .u8 fun _ => 0)) := Blk.new _ _ _
  have b0 : Below w.heap.size w (w.alloc (.cells #[.int .u8 0, .int .u8 0, .int .u8 0, .int .u8 0, .int .u8 0, .int .u8 0, .int .u8 0, .int .u8 0, .int .u8 0, .int .u8 0, .int .u8 0, .int .u8 0, .int .u8 0, .int .u8 0, .int .u8 0, .int .u8 0, .int .u8 0, .int .u8 0, .int .u8 0, .int .u8 0, .int .u8 0, .int .u8 0, .int .u8 0, .int .u8 0, .int .u8 0, .int .u8 0, .int .u8 0, .int .u8 0, .int .u8 0, .int .u8 0, .int .u8 0, .int .u8 0] 39)) := (Below.refl _ _).alloc (Nat.le_refl _) _
  go_enter Try.func32, Try.ntmps32
  go_wp2_with fail
  refine (hO.out _).mono ?_
  rintro e w1 ⟨rfl, hb1⟩
  have r1 := r0.below hb1 r0.lt
  have b1 : Below w.heap.size w w1 := b0.trans (hb1.mono b0.size)
  clear hb1 r0 b0
  go_wp2_with (first
    | (refine wpList_store_row (by rfl) 39 _ _ (by rfl) w.heap.size (va 32 (iv .u8 x)) (by rfl) (by rfl) 39 _ r1 (sizeSum.trans (by rw [va_size])) (by rw [va_size, va_size]) (iv_one _ _ _) ?_; simp only [Act.put, List.setIfInBounds_toArray, List.set_cons_zero, List.set_cons_succ])
    | fail)
  try simp only [Exit.inBlock, Exit.then]
  refine bodyPost_ret (results_cell_row Try.results32 _ _ w.heap.size 39 (va 32 (iv .u8 x)) (0, 0) _ rfl (r1.set _) Try.underlying39 rfl (sizeSum.trans (by rw [va_size]))) rfl ?_
  exact ⟨rfl, below_setRow b1 (Nat.le_refl _) _⟩
end Go.Proofs.Ytjjjgnaihnknjaa

namespace Go.Proofs.Ytjjjgnaihnknjaa
open Go Go.RowKit

section
variable {P : Program} {ops : Array Oper} {Q : Exit → Act → World → Prop} {md : Region.Mode} {Wl : List Nat} {S : World → Prop}

theorem takeS_gen {i fuel : Nat} {o : Oper} {v : Value} {listed : Array Bool} {a : Act} {w : World} (hs : Region.noSelect ops = true) (hi : ops[i]? = some o) (hr : (Region.ready md ops listed).contains i = true)
    (hf : Region.free md ops listed i = true) (hWi : Wl.contains i = false) (hwait : waitW md ops listed i Wl (waitArr md ops listed i) = true) (hy : YieldsIf P ops S o v a) (hS : S w)
    (hK : wpAnyW P md ops (Strict Q) S (Wl.contains ·) fuel (listed.setIfInBounds i true) (a.put o.dst v) w) :
    wpAnyW P md ops (Strict Q) S (Wl.contains ·) (fuel + 1) listed a w := by
  generalize hwt : waitArr md ops listed i = arr at hwait
  unfold waitW at hwait
  rw [List.all_eq_true] at hwait
  have hall : ∀ j oj, ops[j]? = some oj → (if arr.getD j false then (j == i || oj.after.any fun e => Region.binds md e && arr.getD e.on false && decide (e.on < ops.size)) && !listed.getD j true else !Wl.contains j) = true := fun j oj hj => by
    have h1 := hwait j (List.mem_range.2 (Array.getElem?_eq_some_iff.1 hj).1)
    rw [hj] at h1; exact h1
  have hin : ∀ j, decide (j < ops.size) = true → ∃ oj, ops[j]? = some oj := fun j hj => ⟨_, Array.getElem?_eq_getElem (of_decide_eq_true hj)⟩
  refine wpAnyW_take hi (Region.noSelect_spec hs) (fun j => arr.getD j false && decide (j < ops.size)) (v := v) (strict_frame _ _) ?_ ?_ hWi fuel listed a w (Region.free_spec hi hf) ?_ (by simpa using hr) hy hS hK
  · intro j oj hj hw hne
    simp only [Bool.and_eq_true] at hw
    have h1 := hall j oj hj
    rw [if_pos hw.1] at h1
    simp only [Bool.and_eq_true, Bool.or_eq_true, beq_iff_eq, hne, false_or] at h1
    obtain ⟨e, he, hb⟩ := Array.any_eq_true'.1 h1.1
    simp only [Bool.and_eq_true] at hb
    exact ⟨e, he, hb.1.1, by simp only [Bool.and_eq_true]; exact ⟨hb.1.2, hb.2⟩⟩
  · intro j oj hj hw
    have hlt : decide (j < ops.size) = true := decide_eq_true (Array.getElem?_eq_some_iff.1 hj).1
    have h1 := hall j oj hj
    cases hq : arr.getD j false with
    | true => rw [hlt]; rfl
    | false => rw [if_neg (by rw [hq]; decide), hw] at h1; cases h1
  · intro j hw
    simp only [Bool.and_eq_true] at hw
    obtain ⟨oj, hj⟩ := hin j hw.2
    have h1 := hall j oj hj
    rw [if_pos hw.1] at h1
    simp only [Bool.and_eq_true, Bool.not_eq_true'] at h1
    exact h1.2

theorem forceS_step {i fuel : Nat} {listed : Array Bool} {a : Act} {w : World} (hb : forceW md ops listed i = true)
    (h : wpOp P ops (Strict Q) i (fun a' w' => (Wl.contains i = false → S w') ∧ wpAnyW P md ops (Strict Q) S (Wl.contains ·) fuel (listed.setIfInBounds i true) a' w') a w) :
    wpAnyW P md ops (Strict Q) S (Wl.contains ·) (fuel + 1) listed a w := by
  unfold forceW at hb
  simp only [Bool.and_eq_true, beq_iff_eq] at hb
  refine ⟨fun h0 => absurd (hb.1.symm.trans h0) (by simp), ?_⟩
  rw [hb.1]
  intro j hj
  have : j = i := by simpa using hj
  subst this; exact h

theorem takeS_step {i fuel : Nat} {listed : Array Bool} {a : Act} {w : World} (hs : Region.noSelect ops = true) (hb : takeW md ops listed Wl [] i = true) (hS : S w)
    (h : wpOp P ops (Strict Q) i (fun a' w' => S w' → wpAnyW P md ops (Strict Q) S (Wl.contains ·) fuel (listed.setIfInBounds i true) a' w') a w) :
    wpAnyW P md ops (Strict Q) S (Wl.contains ·) (fuel + 1) listed a w := by
  unfold takeW at hb
  cases hi : ops[i]? with
  | none => rw [hi] at hb; cases hb
  | some o =>
    rw [hi] at hb
    simp only [Bool.and_eq_true, Bool.or_eq_true, Bool.not_eq_true'] at hb
    obtain ⟨⟨⟨⟨hr, hf⟩, hWi⟩, hk⟩, hwait⟩ := hb
    have key : ∃ v, wpAnyW P md ops (Strict Q) S (Wl.contains ·) fuel (listed.setIfInBounds i true) (a.put o.dst v) w ∧ YieldsIf P ops S o v a := by
      unfold wpOp at h
      simp only [hi] at h
      by_cases hw : Region.wanted o (yielded ops a.tmps) = true
      · simp only [hw, if_true] at h
        rcases h with h | ⟨_, h⟩
        · unfold Oper.wp at h
          have hrun : ∃ v, (execOp a.eval o).run P w = .ok (.value v) w ∧ ∀ w', S w' → (execOp a.eval o).run P w' = .ok (.value v) w' := by
            cases hsr : (execOp a.eval o).run P w with
            | ok n w1 =>
              rcases hk with hk | hk
              · obtain ⟨hp, hv⟩ := kindV_run (P := P) hk a.eval
                obtain ⟨v, rfl⟩ := hv _ _ _ hsr
                obtain ⟨rfl, h2⟩ := hp _ _ _ hsr
                exact ⟨v, rfl, fun w' _ => h2 w'⟩
              · obtain ⟨t, x, hop, hx⟩ := lowLoad_run hk
                cases hx
            | halt y w1 =>
              rw [hsr] at h
              cases y <;> simp only [Oper.upon, Strict] at h <;> first | exact absurd h.1 (by intro e; cases e) | exact h.elim
          obtain ⟨v, h1, h2⟩ := hrun
          rw [h1, Oper.upon_value] at h
          exact ⟨v, h hS, .inl ⟨hw, h2⟩⟩
        · exact absurd h Strict.noOut
      · rw [Bool.not_eq_true] at hw
        simp only [hw, Bool.false_eq_true, if_false] at h
        exact ⟨undef, h hS, .inr ⟨hw, rfl⟩⟩
    obtain ⟨v, hK, hy⟩ := key
    exact takeS_gen hs hi hr hf hWi hwait hy hS hK

theorem takesS_step (hs : Region.noSelect ops = true) (more : List Nat) (fuel : Nat) (Q' : Exit → Act → World → Prop) :
    ∀ (ts : List Nat) (listed l2 : Array Bool) (a : Act) (w : World), takesB md ops Wl [] ts listed = some l2 →
      (∀ a' w', S w' → wpList P ops (Strict Q') (more.filterMap fun i => ops[i]?) a' w' → wpAnyW P md ops (Strict Q) S (Wl.contains ·) fuel l2 a' w') →
      S w → wpList P ops (Strict Q') ((ts ++ more).filterMap fun i => ops[i]?) a w →
      wpAnyW P md ops (Strict Q) S (Wl.contains ·) (ts.length + fuel) listed a w := by
  intro ts
  induction ts with
  | nil =>
    intro listed l2 a w hb hn hS h
    simp only [takesB, Option.some.injEq] at hb
    subst hb
    rw [List.length_nil, Nat.zero_add]
    exact hn a w hS h
  | cons i rest ih =>
    intro listed l2 a w hb hn hS h
    unfold takesB at hb
    split at hb
    · rename_i hc
      have hlen : (i :: rest).length + fuel = (rest.length + fuel) + 1 := by simp only [List.length_cons]; omega
      rw [hlen]
      obtain ⟨o, ho⟩ := has_op hc
      refine takeS_step hs hc hS (wpOp_mono (fun a' w' h' h2 => ?_) (wpOp_strict (wpList_one ho h)))
      exact ih _ l2 a' w' hb hn h2 h'
    · cases hb

theorem tailS_step : ∀ (ts : List Nat) (listed : Array Bool) (a : Act) (w : World), tailB md ops Wl ts listed = true → wpList P ops (Strict Q) (ts.filterMap fun i => ops[i]?) a w →
    wpAnyW P md ops (Strict Q) S (Wl.contains ·) ts.length listed a w
  | [], listed, a, w, hb, h => ⟨by simpa [tailB] using hb, h⟩
  | i :: rest, listed, a, w, hb, h => by
    simp only [tailB, Bool.and_eq_true] at hb
    obtain ⟨o, ho⟩ := has_op' hb.1.1
    refine forceS_step hb.1.1 (wpOp_mono (fun a' w' h' => ?_) (wpList_one ho h))
    exact ⟨fun e => (by rw [hb.1.2] at e; cases e), tailS_step rest _ a' w' hb.2 h'⟩

theorem partsS_step (hs : Region.noSelect ops = true) (takes tail : List Nat) :
    ∀ (ps : List (List Nat × Nat × Bool)) (listed : Array Bool) (a : Act) (w : World), partsB md ops Wl [] ps takes tail listed = true → S w →
      wpPartsI P ops Q S ps (takes ++ tail) a w → wpAnyW P md ops (Strict Q) S (Wl.contains ·) (lenOf ps (takes.length + tail.length)) listed a w
  | [], listed, a, w, hb, hS, h => by
    unfold partsB at hb
    split at hb
    · rename_i l2 hl2
      exact takesS_step hs tail tail.length Q takes listed l2 a w hl2 (fun a' w' _ h' => tailS_step tail l2 a' w' hb h') hS h
    · cases hb
  | (ts, i, false) :: rest, listed, a, w, hb, hS, h => by
    unfold partsB at hb
    split at hb
    · rename_i l2 hl2
      simp only [Bool.and_eq_true, Bool.not_eq_true', Bool.false_eq_true, if_false] at hb
      refine takesS_step hs [i] _ _ ts listed l2 a w hl2 (fun a' w' _ h' => ?_) hS h
      obtain ⟨o, ho⟩ := has_op' hb.1.1
      rw [Nat.add_comm 1]
      refine forceS_step hb.1.1 (wpOp_mono (fun a2 w2 h2 => ?_) (wpOp_strict (wpList_one ho h')))
      have h3 := h2.2
      exact ⟨fun _ => h3.1, partsS_step hs takes tail rest _ a2 w2 hb.2 h3.1 h3.2⟩
    · cases hb
  | (ts, i, true) :: rest, listed, a, w, hb, hS, h => by
    unfold partsB at hb
    split at hb
    · rename_i l2 hl2
      simp only [Bool.and_eq_true, if_true] at hb
      refine takesS_step hs [] _ _ ts listed l2 a w hl2 (fun a' w' hS' h' => ?_) hS h
      obtain ⟨-, o, v, ho, hy, hn⟩ := h'
      have hc := hb.1
      unfold yieldW at hc
      rw [ho] at hc
      simp only [Bool.and_eq_true, Bool.not_eq_true'] at hc
      rw [Nat.add_comm 1]
      exact takeS_gen hs ho hc.1.1.1 hc.1.1.2 hc.1.2 hc.2 hy hS' (partsS_step hs takes tail rest _ _ w' hb.2 hS' hn)
    · cases hb

/-- THE LAW. -/
theorem wp_region_partsS {id : Nat} {a : Act} {w : World} (S : World → Prop) (ps : List (List Nat × Nat × Bool)) (takes tail : List Nat) (hm : P.follows .mixedOrders = true) (hB : wholeB ops tail [] ps takes tail = true)
    (hS : S w.drew) (h : wpPartsI P ops Q S ps (takes ++ tail) a w.drew) : (Code.region id ops true).wp P Q a w := by
  unfold wholeB at hB
  simp only [Bool.and_eq_true, beq_iff_eq] at hB
  refine Code.wp_mono Strict.imp (wp_region_any hm ?_)
  rw [← hB.1.1.1]
  exact wpAny_of_W _ _ _ _ (partsS_step hB.1.1.2 takes tail ps _ a _ (by rw [hB.1.1.1]; exact hB.2) hS h)
end
end Go.Proofs.Ytjjjgnaihnknjaa

namespace Go.Proofs.Ytjjjgnaihnknjaa
open Go.RowKit
set_option linter.unusedSimpArgs false
set_option linter.unusedVariables false

theorem logged_any (g r : Nat) (v mv : Value) (E : List (Nat × ByteArray)) (hE : E.length ≤ 4000000000000) (hOk : OkE E) (kind n : Int) (tag : Nat) (s : ByteArray) (w : World) (h : LogAt w g r v E) (hm : RefAt w mv E) :
    Calls Try.prog 35 #[.pointer (some ⟨g, 0, none⟩), mv, .agg #[.int .i64 kind, .int .i64 n, .int .u8 (tag : Int), .string s]] w fun e w' => e = .returned (.bool true) ∧ Below w.heap.size w w' := by
  by_cases hn : 0 ≤ n ∧ n < (E.length : Int)
  · obtain ⟨k, rfl⟩ : ∃ k : Nat, n = (k : Int) := ⟨n.toNat, by omega⟩
    exact logged_in g r v mv E hE hOk kind k tag s (by omega) w h hm
  · exact logged_out g r v mv E hE hOk kind n tag s (by omega) w h hm
theorem RefAt.of_own2 {w : World} {B n : Nat} {v : Value} {xs : List Value} {E : List (Nat × ByteArray)} (h : w.ownsRow B 69 2 v n xs) (hn : n = E.length) (hx : xs = entCells E) (h0 : v ≠ .slice none 0 0) : RefAt w v E := by
  subst hn hx
  refine ⟨own_mono h (Nat.zero_le _), ?_⟩
  rcases h.2 with ⟨h1, _⟩ | ⟨b, cap, cur, h1, _, h3, _⟩
  · exact absurd h1 h0
  · exact ⟨b, cap, h1, (Array.getElem?_eq_some_iff.1 h3).1⟩
/-- the call's argument: what is asked at each place -/
def IsAsked (w : World) (ao : Option Addr) (N : Nat) (kdF nF : Nat → Int) (tgF : Nat → Nat) (txF : Nat → ByteArray) : Prop :=
  ∀ i, i < N → ∃ b o, ao = some ⟨b, o, none⟩ ∧ b < w.heap.size ∧ w.cell? ⟨b, o + i * 4, none⟩ = some (.int .i64 (kdF i)) ∧ w.cell? ⟨b, o + i * 4 + 1, none⟩ = some (.int .i64 (nF i)) ∧
    w.cell? ⟨b, o + i * 4 + 2, none⟩ = some (.int .u8 ((tgF i : Nat) : Int)) ∧ w.cell? ⟨b, o + i * 4 + 3, none⟩ = some (.string (txF i)) ∧ tgF i < 256 ∧ (txF i).size ≤ 140737488351232
/-- how the two logs and the two lists stand -/
structure Both (w wr : World) (N ga ra : Nat) (to tm tk : Value) (i : Nat) : Prop where
  st : ∃ (A K : List (Nat × ByteArray)) (va vo : Value) (go ro : Nat), to = .pointer (some ⟨go, 0, none⟩) ∧ LogAt wr ga ra va A ∧ LogAt wr go ro vo K ∧ RefAt wr tm A ∧ RefAt wr tk K ∧ Apart2 ga ra va go ro vo ∧
    LogFrom w.heap.size ga ra va ∧ LogFrom w.heap.size go ro vo ∧ OkE A ∧ OkE K ∧ A.length ≤ i ∧ K.length ≤ i
  bel : Below w.heap.size w wr

set_option maxRecDepth 100000 in
set_option maxHeartbeats 16000000 in
theorem logsLaw (w : World) (ao : Option Addr) (N cap : Nat) (hN : N ≤ 4000000000000) (kdF nF : Nat → Int) (tgF : Nat → Nat) (txF : Nat → ByteArray) (hA : IsAsked w ao N kdF nF tgF txF) :
    Calls Try.prog 7 #[.slice ao N cap] w fun e w' => e = .returned (.bool true) ∧ Below w.heap.size w w' := by
  have HA : Hid (IsAsked w ao N kdF nF tgF txF) := hA
  clear hA
  have HNEW : Hid (∀ W : World, Calls Try.prog 29 #[] W fun e w' => ∃ g r, e = .returned (.pointer (some ⟨g, 0, none⟩)) ∧ W.heap.size ≤ g ∧ W.heap.size ≤ r ∧ LogAt w' g r (.slice none 0 0) [] ∧ Below W.heap.size W w') := fun W => newLog_any W
  have HAW : Hid (∀ W : World, Calls Try.prog 13 #[] W fun e w' => e = .returned (.bool true) ∧ Below W.heap.size W w') := fun W => awake3_any W
  have HLN : Hid (∀ W : World, Calls Try.prog 30 #[.pointer none] W fun e w' => e = .returned (.int .i64 0) ∧ W = w') := fun W => logLen_nil W
  have HHN : Hid (∀ W : World, Calls Try.prog 31 #[.pointer none, .int .u8 1, .string { data := #[] }] W fun e w' => e = .returned (.bool false) ∧ W = w') := fun W => logHas_nil 1 _ W
  have HON : Hid (∀ W : World, Calls Try.prog 32 #[.pointer none, .int .u8 3, .string { data := #[120] }] W fun e w' => e = .returned (.agg (va 32 (iv .u8 (sumOf (3, { data := #[120] }))))) ∧ Below W.heap.size W w') := fun W => logOf_nil 3 (by decide) { data := #[120] } (by decide) W
  have HRN : Hid (∀ W : World, Calls Try.prog 15 #[.int .u8 3, .string { data := #[120] }] W fun e w' => e = .returned (.agg (va 32 (iv .u8 (sumOf (3, { data := #[120] }))))) ∧ Below W.heap.size W w') := fun W => refOf_any 3 (by decide) { data := #[120] } (by decide) W
  have HCN : Hid (∀ W : World, Calls Try.prog 33 #[.pointer none] W fun e w' => ∃ g, e = .returned (.pointer (some ⟨g, 0, none⟩)) ∧ Below W.heap.size W w') := fun W => logClone_nil W
  generalize sumOf (3, { data := #[120] }) = x3 at *
  have hq3 := eq_sum x3
  go_enter Try.func7, Try.ntmps7
  go_wp2_with fail
  refine (HNEW.out _).mono ?_
  rintro e w1 ⟨ga, ra, rfl, hga, hra, hla, hb1⟩
  go_wp2_with fail
  refine (HNEW.out _).mono ?_
  rintro e w2 ⟨gb, rb, rfl, hgb, hrb, hlb, hb2⟩
  have hla2 := hla.below hb2
  have hbel2 : Below w.heap.size w w2 := hb1.trans (hb2.mono hb1.size)
  obtain ⟨lg, lr, _⟩ := hla.lts
  have hap : Apart2 ga ra (.slice none 0 0) gb rb (.slice none 0 0) := ⟨by omega, by omega, fun k h1 => by simp [Value.ownBlock] at h1⟩
  have hfa : LogFrom w.heap.size ga ra (.slice none 0 0) := ⟨hga, hra, fun k h1 => by simp [Value.ownBlock] at h1⟩
  have hfb : LogFrom w.heap.size gb rb (.slice none 0 0) := ⟨Nat.le_trans hb1.size hgb, Nat.le_trans hb1.size hrb, fun k h1 => by simp [Value.ownBlock] at h1⟩
  clear hla hb1 hb2 HNEW hga hra hgb hrb lg lr
  go_wp2_with fail
  refine (HAW.out _).mono ?_
  rintro e w3 ⟨rfl, hb3⟩
  go_wp2_with fail
  refine (HLN.out _).mono ?_
  rintro e w4 ⟨rfl, hw4⟩
  subst hw4
  go_wp2_with fail
  refine (HHN.out _).mono ?_
  rintro e w4 ⟨rfl, hw4⟩
  subst hw4
  go_wp2_with fail
  refine (HON.out _).mono ?_
  rintro e w4 ⟨rfl, hb4⟩
  go_wp2_with fail
  refine (HRN.out _).mono ?_
  rintro e w5 ⟨rfl, hb5⟩
  go_wp2_with fail
  refine (HCN.out _).mono ?_
  rintro e w6 ⟨gc, rfl, hb6⟩
  have hb26 : Below w2.heap.size w2 w6 := hb3.trans ((hb4.mono hb3.size).trans ((hb5.mono (Nat.le_trans hb3.size hb4.size)).trans (hb6.mono (Nat.le_trans hb3.size (Nat.le_trans hb4.size hb5.size)))))
  have hla6 := hla2.below hb26
  have hlb6 := hlb.below hb26
  have hbel6 : Below w.heap.size w w6 := hbel2.trans (hb26.mono hbel2.size)
  clear hb3 hb4 hb5 hb6 hb26 hla2 hlb hbel2 HAW HLN HHN HON HRN HCN hq3
  have hs7 : ((w6.alloc (.cells #[] 69)).alloc (.cells #[] 69)).heap.size = w6.heap.size + 2 := by simp
  have hb7 : Below w6.heap.size w6 ((w6.alloc (.cells #[] 69)).alloc (.cells #[] 69)) := ((Below.refl _ _).alloc (Nat.le_refl _) _).alloc (by simp) _
  have hm7 : RefAt ((w6.alloc (.cells #[] 69)).alloc (.cells #[] 69)) (.slice (some ⟨w6.heap.size, 0, none⟩) 0 0) [] :=
    ⟨(World.ownsRow_lit w6 #[] 0 (Nat.zero_le _) (by decide) rfl).alloc _, w6.heap.size, 0, rfl, by omega⟩
  have hk7 : RefAt ((w6.alloc (.cells #[] 69)).alloc (.cells #[] 69)) (.slice (some ⟨w6.heap.size + 1, 0, none⟩) 0 0) [] := by
    have e : (w6.alloc (.cells #[] 69)).heap.size = w6.heap.size + 1 := by simp
    refine ⟨?_, w6.heap.size + 1, 0, rfl, by omega⟩
    rw [← e]
    exact World.ownsRow_lit (w6.alloc (.cells #[] 69)) #[] 0 (Nat.zero_le _) (by decide) rfl
  have hB7 : Hid (Both w ((w6.alloc (.cells #[] 69)).alloc (.cells #[] 69)) N ga ra (.pointer (some ⟨gb, 0, none⟩)) (.slice (some ⟨w6.heap.size, 0, none⟩) 0 0) (.slice (some ⟨w6.heap.size + 1, 0, none⟩) 0 0) 0) :=
    ⟨⟨[], [], .slice none 0 0, .slice none 0 0, gb, rb, rfl, hla6.below hb7, hlb6.below hb7, hm7, hk7, hap, hfa, hfb, okE_nil, okE_nil, Nat.le_refl _, Nat.le_refl _⟩, hbel6.trans (hb7.mono hbel6.size)⟩
  clear hs7 hb7 hm7 hk7 hla6 hlb6 hbel6 hap hfa hfb
  as_aux_lemma =>
    go_wp2_with fail
    go_loopw [5, 6, 7, 8] (fun to tm tk c wr => ∃ i : Nat, i ≤ N ∧ c = .int .i64 (i : Int) ∧ Hid (Both w wr N ga ra to tm tk i)) (fun _ _ _ c _ => N + 1 - (intOf c).toNat)
    case atStart =>
      exact ⟨0, Nat.zero_le _, rfl, hB7⟩
    case round =>
      clear hB7
      obtain ⟨i, hi, rfl, HBO⟩ := hrel
      by_cases hlt : i < N

      · obtain ⟨⟨AA, KK, va, vo, go, ro, hto, hla, hlo, hrm, hrk, hap, hfa, hfo, okA, okK, lenA, lenK⟩, hbel⟩ := HBO.out
        subst hto
        clear HBO
        obtain ⟨b, o, rfl, hbl, d0, d1, d2, d3, htg, htx⟩ := HA.out i hlt
        rw [← hbel.cell hbl] at d0 d1 d2 d3
        generalize kdF i = kd at *
        generalize nF i = nn at *
        generalize tgF i = tg at *
        generalize txF i = tx at *
        have t0 : (i : Int) < (N : Int) := by omega
        have j0 : (0 : Int) ≤ (i : Int) := by omega
        have HTG : Hid (tg < 256) := htg
        have HTX : Hid (tx.size ≤ 140737488351232) := htx
        clear htg htx
        have hbx : Blk (wr.alloc (.cells #[.int .i64 kd, .int .i64 nn, .int .u8 (tg : Int), .string tx] 66)) wr.heap.size 66 #[.int .i64 kd, .int .i64 nn, .int .u8 (tg : Int), .string tx] := Blk.new _ _ _
        have hb1 : Below wr.heap.size wr (wr.alloc (.cells #[.int .i64 kd, .int .i64 nn, .int .u8 (tg : Int), .string tx] 66)) := (Below.refl _ _).alloc (Nat.le_refl _) _
        have x0 : (wr.alloc (.cells #[.int .i64 kd, .int .i64 nn, .int .u8 (tg : Int), .string tx] 66)).cell? ⟨wr.heap.size, 0, none⟩ = some (.int .i64 kd) := by rw [hbx.cell]; rfl
        have hla1 := hla.below hb1
        have hlo1 := hlo.below hb1
        have hrm1 := hrm.below hb1
        have hrk1 := hrk.below hb1
        have hbel1 : Below w.heap.size w _ := hbel.trans (hb1.mono hbel.size)
        have hx1 := hbel.size
        clear hla hlo hrm hrk hbel hb1
        by_cases hk0 : kd = 0
        · subst hk0
          as_aux_lemma =>
            go_wp2_with fail
            generalize wr.alloc (.cells #[.int .i64 0, .int .i64 nn, .int .u8 (tg : Int), .string tx] 66) = w1 at *
            clear x0
            have hlad := hla1.below (Below.refl _ _).drew
            have HOF : Hid (∀ W, LogAt W ga ra va AA → Calls Try.prog 32 #[.pointer (some ⟨ga, 0, none⟩), .int .u8 (tg : Int), .string tx] W fun e w' => e = .returned (.agg (_root_.Go.Proofs.Ytjjjgnaihnknjaa.va 32 (iv .u8 (sumOf (tg, tx))))) ∧ ∃ v', LogAt w' ga ra v' (putE AA (tg, tx)) ∧ LogKeeps ga ra va W w' ∧ (v'.ownBlock = va.ownBlock ∨ ∃ k, v'.ownBlock = some k ∧ W.heap.size ≤ k)) := fun W hW => logOf_any tg HTG.out tx HTX.out ga ra va AA (by omega) W hW
            have HRF : Hid (∀ W : World, Calls Try.prog 15 #[.int .u8 (tg : Int), .string tx] W fun e w' => e = .returned (.agg (_root_.Go.Proofs.Ytjjjgnaihnknjaa.va 32 (iv .u8 (sumOf (tg, tx))))) ∧ Below W.heap.size W w') := fun W => refOf_any tg HTG.out tx HTX.out W
            generalize sumOf (tg, tx) = y at *
            have hq := eq_sum y
            refine wp_region_partsS (fun W => Blk W wr.heap.size 66 #[.int .i64 0, .int .i64 nn, .int .u8 (tg : Int), .string tx]) [([0], 1, true), ([], 2, true), ([], 3, true), ([], 4, true), ([], 6, true), ([], 7, true), ([], 8, true), ([], 9, true), ([], 5, false), ([], 10, false), ([], 11, false)] [] [] (by kernel_rfl) (by kernel_rfl) hbx.drew (partsI_yield ?_)
            simp only [List.cons_append, List.nil_append, List.append_nil, List.filterMap_cons, List.filterMap_nil, List.getElem?_toArray, List.getElem?_cons_zero, List.getElem?_cons_succ]
            go_wp2_with fail
            refine ⟨rfl, _, .pointer (some ⟨wr.heap.size, 2, none⟩), rfl, Or.inl ⟨by rfl, fun W (hW : Blk W wr.heap.size 66 #[.int .i64 0, .int .i64 nn, .int .u8 (tg : Int), .string tx]) => by go_simp⟩, partsI_yield ?_⟩
            simp only [Act.put, List.setIfInBounds_toArray, List.set_cons_zero, List.set_cons_succ]
            simp only [List.cons_append, List.nil_append, List.append_nil, List.filterMap_cons, List.filterMap_nil, List.getElem?_toArray, List.getElem?_cons_zero, List.getElem?_cons_succ]
            refine ⟨rfl, _, .int .u8 (tg : Int), rfl, Or.inl ⟨by rfl, fun W (hW : Blk W wr.heap.size 66 #[.int .i64 0, .int .i64 nn, .int .u8 (tg : Int), .string tx]) => by have cw : W.cell? ⟨wr.heap.size, 2, none⟩ = some (.int .u8 (tg : Int)) := (by rw [hW.cell]; rfl); go_simp⟩, partsI_yield ?_⟩
            simp only [Act.put, List.setIfInBounds_toArray, List.set_cons_zero, List.set_cons_succ]
            simp only [List.cons_append, List.nil_append, List.append_nil, List.filterMap_cons, List.filterMap_nil, List.getElem?_toArray, List.getElem?_cons_zero, List.getElem?_cons_succ]
            refine ⟨rfl, _, .pointer (some ⟨wr.heap.size, 3, none⟩), rfl, Or.inl ⟨by rfl, fun W (hW : Blk W wr.heap.size 66 #[.int .i64 0, .int .i64 nn, .int .u8 (tg : Int), .string tx]) => by go_simp⟩, partsI_yield ?_⟩
            simp only [Act.put, List.setIfInBounds_toArray, List.set_cons_zero, List.set_cons_succ]
            simp only [List.cons_append, List.nil_append, List.append_nil, List.filterMap_cons, List.filterMap_nil, List.getElem?_toArray, List.getElem?_cons_zero, List.getElem?_cons_succ]
            refine ⟨rfl, _, .string tx, rfl, Or.inl ⟨by rfl, fun W (hW : Blk W wr.heap.size 66 #[.int .i64 0, .int .i64 nn, .int .u8 (tg : Int), .string tx]) => by have cw : W.cell? ⟨wr.heap.size, 3, none⟩ = some (.string tx) := (by rw [hW.cell]; rfl); go_simp⟩, partsI_yield ?_⟩
            simp only [Act.put, List.setIfInBounds_toArray, List.set_cons_zero, List.set_cons_succ]
            simp only [List.cons_append, List.nil_append, List.append_nil, List.filterMap_cons, List.filterMap_nil, List.getElem?_toArray, List.getElem?_cons_zero, List.getElem?_cons_succ]
            refine ⟨rfl, _, .pointer (some ⟨wr.heap.size, 2, none⟩), rfl, Or.inl ⟨by rfl, fun W (hW : Blk W wr.heap.size 66 #[.int .i64 0, .int .i64 nn, .int .u8 (tg : Int), .string tx]) => by go_simp⟩, partsI_yield ?_⟩
            simp only [Act.put, List.setIfInBounds_toArray, List.set_cons_zero, List.set_cons_succ]
            simp only [List.cons_append, List.nil_append, List.append_nil, List.filterMap_cons, List.filterMap_nil, List.getElem?_toArray, List.getElem?_cons_zero, List.getElem?_cons_succ]
            refine ⟨rfl, _, .int .u8 (tg : Int), rfl, Or.inl ⟨by rfl, fun W (hW : Blk W wr.heap.size 66 #[.int .i64 0, .int .i64 nn, .int .u8 (tg : Int), .string tx]) => by have cw : W.cell? ⟨wr.heap.size, 2, none⟩ = some (.int .u8 (tg : Int)) := (by rw [hW.cell]; rfl); go_simp⟩, partsI_yield ?_⟩
            simp only [Act.put, List.setIfInBounds_toArray, List.set_cons_zero, List.set_cons_succ]
            simp only [List.cons_append, List.nil_append, List.append_nil, List.filterMap_cons, List.filterMap_nil, List.getElem?_toArray, List.getElem?_cons_zero, List.getElem?_cons_succ]
            refine ⟨rfl, _, .pointer (some ⟨wr.heap.size, 3, none⟩), rfl, Or.inl ⟨by rfl, fun W (hW : Blk W wr.heap.size 66 #[.int .i64 0, .int .i64 nn, .int .u8 (tg : Int), .string tx]) => by go_simp⟩, partsI_yield ?_⟩
            simp only [Act.put, List.setIfInBounds_toArray, List.set_cons_zero, List.set_cons_succ]
            simp only [List.cons_append, List.nil_append, List.append_nil, List.filterMap_cons, List.filterMap_nil, List.getElem?_toArray, List.getElem?_cons_zero, List.getElem?_cons_succ]
            refine ⟨rfl, _, .string tx, rfl, Or.inl ⟨by rfl, fun W (hW : Blk W wr.heap.size 66 #[.int .i64 0, .int .i64 nn, .int .u8 (tg : Int), .string tx]) => by have cw : W.cell? ⟨wr.heap.size, 3, none⟩ = some (.string tx) := (by rw [hW.cell]; rfl); go_simp⟩, partsI_force ?_⟩
            simp only [Act.put, List.setIfInBounds_toArray, List.set_cons_zero, List.set_cons_succ]
            simp only [List.cons_append, List.nil_append, List.append_nil, List.filterMap_cons, List.filterMap_nil, List.getElem?_toArray, List.getElem?_cons_zero, List.getElem?_cons_succ]
            go_wp2_with fail
            refine (HOF.out _ hlad).mono ?_
            rintro e w2 ⟨rfl, v2, hl2, hkp, hv2⟩
            have hbx2 : Blk w2 wr.heap.size 66 #[.int .i64 0, .int .i64 nn, .int .u8 (tg : Int), .string tx] := hkp.blk hlad hbx.drew (by decide) (by decide)
            have hapA : Apart2 ga ra va go ro vo := hap
            have ho2 := hkp.log hlad (hlo1.below (Below.refl _ _).drew) hapA
            have hrm2 := hkp.ref hlad (hrm1.below (Below.refl _ _).drew)
            have hrk2 := hkp.ref hlad (hrk1.below (Below.refl _ _).drew)
            have hbel2 : Below w.heap.size w w2 := hbel1.drew.trans (hkp.below hfa hbel1.size)
            have hap2 := hapA.grow (hlo1.below (Below.refl _ _).drew) hv2
            have hf2 := LogFrom.grow hfa (w := w1.drew) hbel1.size hv2
            clear hkp hv2 HOF hlad hapA hla1 hlo1 hrm1 hrk1 hbel1 hap
            go_wp2_with fail
            refine ⟨rfl, hbx2, partsI_force ?_⟩
            simp only [List.cons_append, List.nil_append, List.append_nil, List.filterMap_cons, List.filterMap_nil, List.getElem?_toArray, List.getElem?_cons_zero, List.getElem?_cons_succ]
            go_wp2_with fail
            refine (HRF.out _).mono ?_
            rintro e w3 ⟨rfl, hb3⟩
            have hbx3 := hbx2.below hb3 hbx2.lt
            have hl3 := hl2.below hb3
            have ho3 := ho2.below hb3
            have hrm3 := hrm2.below hb3
            have hrk3 := hrk2.below hb3
            have hbel3 : Below w.heap.size w w3 := hbel2.trans (hb3.mono hbel2.size)
            clear hb3 hl2 ho2 hrm2 hrk2 hbel2 hbx2 hbx HRF
            go_wp2_with fail
            refine ⟨rfl, hbx3, partsI_force ?_⟩
            simp only [List.cons_append, List.nil_append, List.append_nil, List.filterMap_cons, List.filterMap_nil, List.getElem?_toArray, List.getElem?_cons_zero, List.getElem?_cons_succ]
            go_wp2_with fail
            refine ⟨rfl, hbx3, partsI_last ?_⟩
            simp only [List.cons_append, List.nil_append, List.append_nil, List.filterMap_cons, List.filterMap_nil, List.getElem?_toArray, List.getElem?_cons_zero, List.getElem?_cons_succ]
            refine ⟨rfl, ?_⟩
            have z2 : w3.cell? ⟨wr.heap.size, 2, none⟩ = some (.int .u8 (tg : Int)) := by rw [hbx3.cell]; rfl
            have z3 : w3.cell? ⟨wr.heap.size, 3, none⟩ = some (.string tx) := by rw [hbx3.cell]; rfl
            have HPUT : Hid (Calls Try.prog 34 #[u6, .agg #[.int .u8 (tg : Int), .string tx]] w3 fun e w' => ∃ v', e = .returned v' ∧ RefAt w' v' (putE AA (tg, tx)) ∧ Below w3.heap.size w3 w') := refPut_any tg tx u6 AA (by omega) w3 hrm3
            go_wp2_with fail
            refine HPUT.out.mono ?_
            rintro e w4 ⟨v4, rfl, hr4, hb4⟩
            clear HPUT z2 z3
            have hbx4 := hbx3.below hb4 hbx3.lt
            have hl4 := hl3.below hb4
            have ho4 := ho3.below hb4
            have hbel4 : Below w.heap.size w w4 := hbel3.trans (hb4.mono hbel3.size)
            have hro4 := hrk3.below hb4
            have ok4 := okE_put (e := (tg, tx)) okA HTG.out HTX.out
            have len4 := len_put AA (tg, tx)
            clear hb4 hl3 ho3 hrm3 hrk3 hbel3 hbx3
            have HG1 : Hid (Calls Try.prog 35 #[.pointer (some ⟨ga, 0, none⟩), v4, .agg #[.int .i64 0, .int .i64 nn, .int .u8 (tg : Int), .string tx]] w4 fun e w' => e = .returned (.bool true) ∧ Below w4.heap.size w4 w') := logged_any ga ra v2 v4 (putE AA (tg, tx)) (by omega) ok4 0 nn tg tx w4 hl4 hr4
            have HG2 : Hid (∀ W, LogAt W go ro vo KK → RefAt W u7 KK → Calls Try.prog 35 #[.pointer (some ⟨go, 0, none⟩), u7, .agg #[.int .i64 0, .int .i64 nn, .int .u8 (tg : Int), .string tx]] W fun e w' => e = .returned (.bool true) ∧ Below W.heap.size W w') := fun W h1 h2 => logged_any go ro vo u7 KK (by omega) okK 0 nn tg tx W h1 h2
            have z0 : w4.cell? ⟨wr.heap.size, 0, none⟩ = some (.int .i64 0) := by rw [hbx4.cell]; rfl
            have z1 : w4.cell? ⟨wr.heap.size, 1, none⟩ = some (.int .i64 nn) := by rw [hbx4.cell]; rfl
            have z2 : w4.cell? ⟨wr.heap.size, 2, none⟩ = some (.int .u8 (tg : Int)) := by rw [hbx4.cell]; rfl
            have z3 : w4.cell? ⟨wr.heap.size, 3, none⟩ = some (.string tx) := by rw [hbx4.cell]; rfl
            go_wp2_with fail
            refine HG1.out.mono ?_
            rintro e w8 ⟨rfl, hb8⟩
            have hbx8 := hbx4.below hb8 hbx4.lt
            have hla8 := hl4.below hb8
            have hlo8 := ho4.below hb8
            have hrm8 := hr4.below hb8
            have hrk8 := hro4.below hb8
            have hbel8 : Below w.heap.size w w8 := hbel4.trans (hb8.mono hbel4.size)
            clear z0 z1 z2 z3 HG1 hb8
            have z0 : w8.cell? ⟨wr.heap.size, 0, none⟩ = some (.int .i64 0) := by rw [hbx8.cell]; rfl
            have z1 : w8.cell? ⟨wr.heap.size, 1, none⟩ = some (.int .i64 nn) := by rw [hbx8.cell]; rfl
            have z2 : w8.cell? ⟨wr.heap.size, 2, none⟩ = some (.int .u8 (tg : Int)) := by rw [hbx8.cell]; rfl
            have z3 : w8.cell? ⟨wr.heap.size, 3, none⟩ = some (.string tx) := by rw [hbx8.cell]; rfl
            go_wp2_with fail
            refine (HG2.out _ hlo8 hrk8).mono ?_
            rintro e w9 ⟨rfl, hb9⟩
            have hB9 : Hid (Both w w9 N ga ra (.pointer (some ⟨go, 0, none⟩)) v4 u7 (i + 1)) := ⟨⟨(putE AA (tg, tx)), KK, v2, vo, go, ro, rfl, hla8.below hb9, hlo8.below hb9, hrm8.below hb9, hrk8.below hb9, hap2, hf2, hfo, ok4, okK, by omega, by omega⟩, hbel8.trans (hb9.mono hbel8.size)⟩
            clear z0 z1 z2 z3 HG2 hb9 hla8 hlo8 hrm8 hrk8 hbel8 hbx8
            go_wp2_with fail
            refine ⟨⟨i + 1, by omega, by simp, hB9⟩, ?_⟩
            simp [intOf]
            omega
        · have q0 : (kd == 0) = false := by simpa using hk0
          by_cases hk1 : kd = 1
          · subst hk1
            as_aux_lemma =>
              go_wp2_with fail
              generalize wr.alloc (.cells #[.int .i64 1, .int .i64 nn, .int .u8 (tg : Int), .string tx] 66) = w1 at *
              clear x0
              have hlad := hlo1.below (Below.refl _ _).drew
              have HOF : Hid (∀ W, LogAt W go ro vo KK → Calls Try.prog 32 #[.pointer (some ⟨go, 0, none⟩), .int .u8 (tg : Int), .string tx] W fun e w' => e = .returned (.agg (_root_.Go.Proofs.Ytjjjgnaihnknjaa.va 32 (iv .u8 (sumOf (tg, tx))))) ∧ ∃ v', LogAt w' go ro v' (putE KK (tg, tx)) ∧ LogKeeps go ro vo W w' ∧ (v'.ownBlock = vo.ownBlock ∨ ∃ k, v'.ownBlock = some k ∧ W.heap.size ≤ k)) := fun W hW => logOf_any tg HTG.out tx HTX.out go ro vo KK (by omega) W hW
              have HRF : Hid (∀ W : World, Calls Try.prog 15 #[.int .u8 (tg : Int), .string tx] W fun e w' => e = .returned (.agg (_root_.Go.Proofs.Ytjjjgnaihnknjaa.va 32 (iv .u8 (sumOf (tg, tx))))) ∧ Below W.heap.size W w') := fun W => refOf_any tg HTG.out tx HTX.out W
              generalize sumOf (tg, tx) = y at *
              have hq := eq_sum y
              refine wp_region_partsS (fun W => Blk W wr.heap.size 66 #[.int .i64 1, .int .i64 nn, .int .u8 (tg : Int), .string tx]) [([0], 1, true), ([], 2, true), ([], 3, true), ([], 4, true), ([], 6, true), ([], 7, true), ([], 8, true), ([], 9, true), ([], 5, false), ([], 10, false), ([], 11, false)] [] [] (by kernel_rfl) (by kernel_rfl) hbx.drew (partsI_yield ?_)
              simp only [List.cons_append, List.nil_append, List.append_nil, List.filterMap_cons, List.filterMap_nil, List.getElem?_toArray, List.getElem?_cons_zero, List.getElem?_cons_succ]
              go_wp2_with fail
              refine ⟨rfl, _, .pointer (some ⟨wr.heap.size, 2, none⟩), rfl, Or.inl ⟨by rfl, fun W (hW : Blk W wr.heap.size 66 #[.int .i64 1, .int .i64 nn, .int .u8 (tg : Int), .string tx]) => by go_simp⟩, partsI_yield ?_⟩
              simp only [Act.put, List.setIfInBounds_toArray, List.set_cons_zero, List.set_cons_succ]
              simp only [List.cons_append, List.nil_append, List.append_nil, List.filterMap_cons, List.filterMap_nil, List.getElem?_toArray, List.getElem?_cons_zero, List.getElem?_cons_succ]
              refine ⟨rfl, _, .int .u8 (tg : Int), rfl, Or.inl ⟨by rfl, fun W (hW : Blk W wr.heap.size 66 #[.int .i64 1, .int .i64 nn, .int .u8 (tg : Int), .string tx]) => by have cw : W.cell? ⟨wr.heap.size, 2, none⟩ = some (.int .u8 (tg : Int)) := (by rw [hW.cell]; rfl); go_simp⟩, partsI_yield ?_⟩
              simp only [Act.put, List.setIfInBounds_toArray, List.set_cons_zero, List.set_cons_succ]
              simp only [List.cons_append, List.nil_append, List.append_nil, List.filterMap_cons, List.filterMap_nil, List.getElem?_toArray, List.getElem?_cons_zero, List.getElem?_cons_succ]
              refine ⟨rfl, _, .pointer (some ⟨wr.heap.size, 3, none⟩), rfl, Or.inl ⟨by rfl, fun W (hW : Blk W wr.heap.size 66 #[.int .i64 1, .int .i64 nn, .int .u8 (tg : Int), .string tx]) => by go_simp⟩, partsI_yield ?_⟩
              simp only [Act.put, List.setIfInBounds_toArray, List.set_cons_zero, List.set_cons_succ]
              simp only [List.cons_append, List.nil_append, List.append_nil, List.filterMap_cons, List.filterMap_nil, List.getElem?_toArray, List.getElem?_cons_zero, List.getElem?_cons_succ]
              refine ⟨rfl, _, .string tx, rfl, Or.inl ⟨by rfl, fun W (hW : Blk W wr.heap.size 66 #[.int .i64 1, .int .i64 nn, .int .u8 (tg : Int), .string tx]) => by have cw : W.cell? ⟨wr.heap.size, 3, none⟩ = some (.string tx) := (by rw [hW.cell]; rfl); go_simp⟩, partsI_yield ?_⟩
              simp only [Act.put, List.setIfInBounds_toArray, List.set_cons_zero, List.set_cons_succ]
              simp only [List.cons_append, List.nil_append, List.append_nil, List.filterMap_cons, List.filterMap_nil, List.getElem?_toArray, List.getElem?_cons_zero, List.getElem?_cons_succ]
              refine ⟨rfl, _, .pointer (some ⟨wr.heap.size, 2, none⟩), rfl, Or.inl ⟨by rfl, fun W (hW : Blk W wr.heap.size 66 #[.int .i64 1, .int .i64 nn, .int .u8 (tg : Int), .string tx]) => by go_simp⟩, partsI_yield ?_⟩
              simp only [Act.put, List.setIfInBounds_toArray, List.set_cons_zero, List.set_cons_succ]
              simp only [List.cons_append, List.nil_append, List.append_nil, List.filterMap_cons, List.filterMap_nil, List.getElem?_toArray, List.getElem?_cons_zero, List.getElem?_cons_succ]
              refine ⟨rfl, _, .int .u8 (tg : Int), rfl, Or.inl ⟨by rfl, fun W (hW : Blk W wr.heap.size 66 #[.int .i64 1, .int .i64 nn, .int .u8 (tg : Int), .string tx]) => by have cw : W.cell? ⟨wr.heap.size, 2, none⟩ = some (.int .u8 (tg : Int)) := (by rw [hW.cell]; rfl); go_simp⟩, partsI_yield ?_⟩
              simp only [Act.put, List.setIfInBounds_toArray, List.set_cons_zero, List.set_cons_succ]
              simp only [List.cons_append, List.nil_append, List.append_nil, List.filterMap_cons, List.filterMap_nil, List.getElem?_toArray, List.getElem?_cons_zero, List.getElem?_cons_succ]
              refine ⟨rfl, _, .pointer (some ⟨wr.heap.size, 3, none⟩), rfl, Or.inl ⟨by rfl, fun W (hW : Blk W wr.heap.size 66 #[.int .i64 1, .int .i64 nn, .int .u8 (tg : Int), .string tx]) => by go_simp⟩, partsI_yield ?_⟩
              simp only [Act.put, List.setIfInBounds_toArray, List.set_cons_zero, List.set_cons_succ]
              simp only [List.cons_append, List.nil_append, List.append_nil, List.filterMap_cons, List.filterMap_nil, List.getElem?_toArray, List.getElem?_cons_zero, List.getElem?_cons_succ]
              refine ⟨rfl, _, .string tx, rfl, Or.inl ⟨by rfl, fun W (hW : Blk W wr.heap.size 66 #[.int .i64 1, .int .i64 nn, .int .u8 (tg : Int), .string tx]) => by have cw : W.cell? ⟨wr.heap.size, 3, none⟩ = some (.string tx) := (by rw [hW.cell]; rfl); go_simp⟩, partsI_force ?_⟩
              simp only [Act.put, List.setIfInBounds_toArray, List.set_cons_zero, List.set_cons_succ]
              simp only [List.cons_append, List.nil_append, List.append_nil, List.filterMap_cons, List.filterMap_nil, List.getElem?_toArray, List.getElem?_cons_zero, List.getElem?_cons_succ]
              go_wp2_with fail
              refine (HOF.out _ hlad).mono ?_
              rintro e w2 ⟨rfl, v2, hl2, hkp, hv2⟩
              have hbx2 : Blk w2 wr.heap.size 66 #[.int .i64 1, .int .i64 nn, .int .u8 (tg : Int), .string tx] := hkp.blk hlad hbx.drew (by decide) (by decide)
              have hapA : Apart2 go ro vo ga ra va := hap.symm
              have ho2 := hkp.log hlad (hla1.below (Below.refl _ _).drew) hapA
              have hrm2 := hkp.ref hlad (hrm1.below (Below.refl _ _).drew)
              have hrk2 := hkp.ref hlad (hrk1.below (Below.refl _ _).drew)
              have hbel2 : Below w.heap.size w w2 := hbel1.drew.trans (hkp.below hfo hbel1.size)
              have hap2 := hapA.grow (hla1.below (Below.refl _ _).drew) hv2
              have hf2 := LogFrom.grow hfo (w := w1.drew) hbel1.size hv2
              clear hkp hv2 HOF hlad hapA hla1 hlo1 hrm1 hrk1 hbel1 hap
              go_wp2_with fail
              refine ⟨rfl, hbx2, partsI_force ?_⟩
              simp only [List.cons_append, List.nil_append, List.append_nil, List.filterMap_cons, List.filterMap_nil, List.getElem?_toArray, List.getElem?_cons_zero, List.getElem?_cons_succ]
              go_wp2_with fail
              refine (HRF.out _).mono ?_
              rintro e w3 ⟨rfl, hb3⟩
              have hbx3 := hbx2.below hb3 hbx2.lt
              have hl3 := hl2.below hb3
              have ho3 := ho2.below hb3
              have hrm3 := hrm2.below hb3
              have hrk3 := hrk2.below hb3
              have hbel3 : Below w.heap.size w w3 := hbel2.trans (hb3.mono hbel2.size)
              clear hb3 hl2 ho2 hrm2 hrk2 hbel2 hbx2 hbx HRF
              go_wp2_with fail
              refine ⟨rfl, hbx3, partsI_force ?_⟩
              simp only [List.cons_append, List.nil_append, List.append_nil, List.filterMap_cons, List.filterMap_nil, List.getElem?_toArray, List.getElem?_cons_zero, List.getElem?_cons_succ]
              go_wp2_with fail
              refine ⟨rfl, hbx3, partsI_last ?_⟩
              simp only [List.cons_append, List.nil_append, List.append_nil, List.filterMap_cons, List.filterMap_nil, List.getElem?_toArray, List.getElem?_cons_zero, List.getElem?_cons_succ]
              refine ⟨rfl, ?_⟩
              have z2 : w3.cell? ⟨wr.heap.size, 2, none⟩ = some (.int .u8 (tg : Int)) := by rw [hbx3.cell]; rfl
              have z3 : w3.cell? ⟨wr.heap.size, 3, none⟩ = some (.string tx) := by rw [hbx3.cell]; rfl
              have HPUT : Hid (Calls Try.prog 34 #[u7, .agg #[.int .u8 (tg : Int), .string tx]] w3 fun e w' => ∃ v', e = .returned v' ∧ RefAt w' v' (putE KK (tg, tx)) ∧ Below w3.heap.size w3 w') := refPut_any tg tx u7 KK (by omega) w3 hrk3
              go_wp2_with fail
              refine HPUT.out.mono ?_
              rintro e w4 ⟨v4, rfl, hr4, hb4⟩
              clear HPUT z2 z3
              have hbx4 := hbx3.below hb4 hbx3.lt
              have hl4 := hl3.below hb4
              have ho4 := ho3.below hb4
              have hbel4 : Below w.heap.size w w4 := hbel3.trans (hb4.mono hbel3.size)
              have hro4 := hrm3.below hb4
              have ok4 := okE_put (e := (tg, tx)) okK HTG.out HTX.out
              have len4 := len_put KK (tg, tx)
              clear hb4 hl3 ho3 hrm3 hrk3 hbel3 hbx3
              have HG1 : Hid (Calls Try.prog 35 #[.pointer (some ⟨ga, 0, none⟩), u6, .agg #[.int .i64 1, .int .i64 nn, .int .u8 (tg : Int), .string tx]] w4 fun e w' => e = .returned (.bool true) ∧ Below w4.heap.size w4 w') := logged_any ga ra va u6 AA (by omega) okA 1 nn tg tx w4 ho4 hro4
              have HG2 : Hid (∀ W, LogAt W go ro v2 (putE KK (tg, tx)) → RefAt W v4 (putE KK (tg, tx)) → Calls Try.prog 35 #[.pointer (some ⟨go, 0, none⟩), v4, .agg #[.int .i64 1, .int .i64 nn, .int .u8 (tg : Int), .string tx]] W fun e w' => e = .returned (.bool true) ∧ Below W.heap.size W w') := fun W h1 h2 => logged_any go ro v2 v4 (putE KK (tg, tx)) (by omega) ok4 1 nn tg tx W h1 h2
              have z0 : w4.cell? ⟨wr.heap.size, 0, none⟩ = some (.int .i64 1) := by rw [hbx4.cell]; rfl
              have z1 : w4.cell? ⟨wr.heap.size, 1, none⟩ = some (.int .i64 nn) := by rw [hbx4.cell]; rfl
              have z2 : w4.cell? ⟨wr.heap.size, 2, none⟩ = some (.int .u8 (tg : Int)) := by rw [hbx4.cell]; rfl
              have z3 : w4.cell? ⟨wr.heap.size, 3, none⟩ = some (.string tx) := by rw [hbx4.cell]; rfl
              go_wp2_with fail
              refine HG1.out.mono ?_
              rintro e w8 ⟨rfl, hb8⟩
              have hbx8 := hbx4.below hb8 hbx4.lt
              have hla8 := ho4.below hb8
              have hlo8 := hl4.below hb8
              have hrm8 := hro4.below hb8
              have hrk8 := hr4.below hb8
              have hbel8 : Below w.heap.size w w8 := hbel4.trans (hb8.mono hbel4.size)
              clear z0 z1 z2 z3 HG1 hb8
              have z0 : w8.cell? ⟨wr.heap.size, 0, none⟩ = some (.int .i64 1) := by rw [hbx8.cell]; rfl
              have z1 : w8.cell? ⟨wr.heap.size, 1, none⟩ = some (.int .i64 nn) := by rw [hbx8.cell]; rfl
              have z2 : w8.cell? ⟨wr.heap.size, 2, none⟩ = some (.int .u8 (tg : Int)) := by rw [hbx8.cell]; rfl
              have z3 : w8.cell? ⟨wr.heap.size, 3, none⟩ = some (.string tx) := by rw [hbx8.cell]; rfl
              go_wp2_with fail
              refine (HG2.out _ hlo8 hrk8).mono ?_
              rintro e w9 ⟨rfl, hb9⟩
              have hB9 : Hid (Both w w9 N ga ra (.pointer (some ⟨go, 0, none⟩)) u6 v4 (i + 1)) := ⟨⟨AA, (putE KK (tg, tx)), va, v2, go, ro, rfl, hla8.below hb9, hlo8.below hb9, hrm8.below hb9, hrk8.below hb9, hap2.symm, hfa, hf2, okA, ok4, by omega, by omega⟩, hbel8.trans (hb9.mono hbel8.size)⟩
              clear z0 z1 z2 z3 HG2 hb9 hla8 hlo8 hrm8 hrk8 hbel8 hbx8
              go_wp2_with fail
              refine ⟨⟨i + 1, by omega, by simp, hB9⟩, ?_⟩
              simp [intOf]
              omega
          · have q1 : (kd == 1) = false := by simpa using hk1
            by_cases hk2 : kd = 2
            · subst hk2
              as_aux_lemma =>
                go_wp2_with fail
                generalize wr.alloc (.cells #[.int .i64 2, .int .i64 nn, .int .u8 (tg : Int), .string tx] 66) = w1 at *
                clear x0
                have HCL : Hid (Calls Try.prog 33 #[.pointer (some ⟨ga, 0, none⟩)] w1 fun e w' => ∃ g' r' v', e = .returned (.pointer (some ⟨g', 0, none⟩)) ∧ w1.heap.size ≤ g' ∧ w1.heap.size ≤ r' ∧ (∀ k, v'.ownBlock = some k → w1.heap.size ≤ k) ∧ LogAt w' g' r' v' AA ∧ Below w1.heap.size w1 w') := logClone_any ga ra va AA (by omega) w1 hla1
                refine HCL.out.mono ?_
                rintro e w2 ⟨g2, r2, v2, rfl, hg2, hr2, hv2, hl2, hb2⟩
                obtain ⟨l1, l2, l3⟩ := hla1.lts
                have hap2 : Apart2 ga ra va g2 r2 v2 := ⟨by omega, by omega, fun k h1 h2 => by have := hv2 k h1; have := l3 k h2; omega⟩
                have hf2 : LogFrom w.heap.size g2 r2 v2 := ⟨Nat.le_trans hbel1.size hg2, Nat.le_trans hbel1.size hr2, fun k h1 => Nat.le_trans hbel1.size (hv2 k h1)⟩
                have hla2 := hla1.below hb2
                have hrm2 := hrm1.below hb2
                have hbx2 := hbx.below hb2 hbx.lt
                have hbel2 : Below w.heap.size w w2 := hbel1.trans (hb2.mono hbel1.size)
                clear HCL hla1 hlo1 hrm1 hrk1 hbel1 hbx hb2 hg2 hr2 hv2 l1 l2 l3 hap hfo
                obtain ⟨bm, capm, hu6, hbm⟩ := hrm2.2
                subst hu6
                obtain ⟨i0, hi0, hz0, hz1, hz2⟩ := info_parts infoRef
                have hone := entCells_one AA
                have HO : Hid ((w2.alloc (.cells #[] 69)).ownsRow w2.heap.size 69 2 (.slice (some ⟨w2.heap.size, 0, none⟩) 0 0) 0 []) := World.ownsRow_lit w2 #[] 0 (Nat.le_refl _) (by decide) rfl
                have HC : Hid (∀ j u, (entCells AA)[j]? = some u → (w2.alloc (.cells #[] 69)).cell? ((⟨bm, 0, none⟩ : Addr).add j) = some u) := (hrm2.1.alloc _).cells rfl
                have hl := hrm2.1.1
                go_wp2_with (first
                  | (at_builtin; refine wpList_append_own _ rfl _ _ 64 rfl w2.heap.size 69 i0 _ 2 24 Try.underlying64 hi0 hz0 hz1 hz2 rfl (by decide) _ _ _ rfl HO.out ⟨bm, 0, none⟩ AA.length capm (entCells AA) rfl hl HC.out hone (by unfold maxLen; omega) (by omega) (by simp) ?_)
                  | go_in)
                intro v3 w3 own3 grow3 hnil
                have hb3 : Below w2.heap.size w2 w3 := ((Below.refl _ _).alloc (Nat.le_refl _) _).grown grow3 (by simp) (fun k hk => by simp [Value.ownBlock] at hk; omega)
                have hrk3 : RefAt w3 v3 AA := RefAt.of_own2 own3 (by omega) (by simp) hnil
                have hla3 := hla2.below hb3
                have hl3 := hl2.below hb3
                have hrm3 := hrm2.below hb3
                have hbx3 := hbx2.below hb3 hbx2.lt
                have hbel3 : Below w.heap.size w w3 := hbel2.trans (hb3.mono hbel2.size)
                clear hnil own3 grow3 hb3 hla2 hl2 hrm2 hbx2 hbel2 HO HC hl hone hi0 hz0 hz1 hz2
                have HG1 : Hid (Calls Try.prog 35 #[.pointer (some ⟨ga, 0, none⟩), (.slice (some ⟨bm, 0, none⟩) AA.length capm), .agg #[.int .i64 2, .int .i64 nn, .int .u8 (tg : Int), .string tx]] w3 fun e w' => e = .returned (.bool true) ∧ Below w3.heap.size w3 w') := logged_any ga ra va (.slice (some ⟨bm, 0, none⟩) AA.length capm) AA (by omega) okA 2 nn tg tx w3 hla3 hrm3
                have HG2 : Hid (∀ W, LogAt W g2 r2 v2 AA → RefAt W v3 AA → Calls Try.prog 35 #[.pointer (some ⟨g2, 0, none⟩), v3, .agg #[.int .i64 2, .int .i64 nn, .int .u8 (tg : Int), .string tx]] W fun e w' => e = .returned (.bool true) ∧ Below W.heap.size W w') := fun W h1 h2 => logged_any g2 r2 v2 v3 AA (by omega) okA 2 nn tg tx W h1 h2
                have z0 : w3.cell? ⟨wr.heap.size, 0, none⟩ = some (.int .i64 2) := by rw [hbx3.cell]; rfl
                have z1 : w3.cell? ⟨wr.heap.size, 1, none⟩ = some (.int .i64 nn) := by rw [hbx3.cell]; rfl
                have z2 : w3.cell? ⟨wr.heap.size, 2, none⟩ = some (.int .u8 (tg : Int)) := by rw [hbx3.cell]; rfl
                have z3 : w3.cell? ⟨wr.heap.size, 3, none⟩ = some (.string tx) := by rw [hbx3.cell]; rfl
                go_wp2_with fail
                refine HG1.out.mono ?_
                rintro e w8 ⟨rfl, hb8⟩
                have hbx8 := hbx3.below hb8 hbx3.lt
                have hla8 := hla3.below hb8
                have hlo8 := hl3.below hb8
                have hrm8 := hrm3.below hb8
                have hrk8 := hrk3.below hb8
                have hbel8 : Below w.heap.size w w8 := hbel3.trans (hb8.mono hbel3.size)
                clear z0 z1 z2 z3 HG1 hb8
                have z0 : w8.cell? ⟨wr.heap.size, 0, none⟩ = some (.int .i64 2) := by rw [hbx8.cell]; rfl
                have z1 : w8.cell? ⟨wr.heap.size, 1, none⟩ = some (.int .i64 nn) := by rw [hbx8.cell]; rfl
                have z2 : w8.cell? ⟨wr.heap.size, 2, none⟩ = some (.int .u8 (tg : Int)) := by rw [hbx8.cell]; rfl
                have z3 : w8.cell? ⟨wr.heap.size, 3, none⟩ = some (.string tx) := by rw [hbx8.cell]; rfl
                go_wp2_with fail
                refine (HG2.out _ hlo8 hrk8).mono ?_
                rintro e w9 ⟨rfl, hb9⟩
                have hB9 : Hid (Both w w9 N ga ra (.pointer (some ⟨g2, 0, none⟩)) (.slice (some ⟨bm, 0, none⟩) AA.length capm) v3 (i + 1)) := ⟨⟨AA, AA, va, v2, g2, r2, rfl, hla8.below hb9, hlo8.below hb9, hrm8.below hb9, hrk8.below hb9, hap2, hfa, hf2, okA, okA, by omega, by omega⟩, hbel8.trans (hb9.mono hbel8.size)⟩
                clear z0 z1 z2 z3 HG2 hb9 hla8 hlo8 hrm8 hrk8 hbel8 hbx8
                go_wp2_with fail
                refine ⟨⟨i + 1, by omega, by simp, hB9⟩, ?_⟩
                simp [intOf]
                omega
            · have q2 : (kd == 2) = false := by simpa using hk2
              as_aux_lemma =>
                go_wp2_with fail
                generalize wr.alloc (.cells #[.int .i64 kd, .int .i64 nn, .int .u8 (tg : Int), .string tx] 66) = w1 at *
                clear x0
                have HG1 : Hid (Calls Try.prog 35 #[.pointer (some ⟨ga, 0, none⟩), u6, .agg #[.int .i64 kd, .int .i64 nn, .int .u8 (tg : Int), .string tx]] w1 fun e w' => e = .returned (.bool true) ∧ Below w1.heap.size w1 w') := logged_any ga ra va u6 AA (by omega) okA kd nn tg tx w1 hla1 hrm1
                have HG2 : Hid (∀ W, LogAt W go ro vo KK → RefAt W u7 KK → Calls Try.prog 35 #[.pointer (some ⟨go, 0, none⟩), u7, .agg #[.int .i64 kd, .int .i64 nn, .int .u8 (tg : Int), .string tx]] W fun e w' => e = .returned (.bool true) ∧ Below W.heap.size W w') := fun W h1 h2 => logged_any go ro vo u7 KK (by omega) okK kd nn tg tx W h1 h2
                have z0 : w1.cell? ⟨wr.heap.size, 0, none⟩ = some (.int .i64 kd) := by rw [hbx.cell]; rfl
                have z1 : w1.cell? ⟨wr.heap.size, 1, none⟩ = some (.int .i64 nn) := by rw [hbx.cell]; rfl
                have z2 : w1.cell? ⟨wr.heap.size, 2, none⟩ = some (.int .u8 (tg : Int)) := by rw [hbx.cell]; rfl
                have z3 : w1.cell? ⟨wr.heap.size, 3, none⟩ = some (.string tx) := by rw [hbx.cell]; rfl
                go_wp2_with fail
                refine HG1.out.mono ?_
                rintro e w8 ⟨rfl, hb8⟩
                have hbx8 := hbx.below hb8 hbx.lt
                have hla8 := hla1.below hb8
                have hlo8 := hlo1.below hb8
                have hrm8 := hrm1.below hb8
                have hrk8 := hrk1.below hb8
                have hbel8 : Below w.heap.size w w8 := hbel1.trans (hb8.mono hbel1.size)
                clear z0 z1 z2 z3 HG1 hb8
                have z0 : w8.cell? ⟨wr.heap.size, 0, none⟩ = some (.int .i64 kd) := by rw [hbx8.cell]; rfl
                have z1 : w8.cell? ⟨wr.heap.size, 1, none⟩ = some (.int .i64 nn) := by rw [hbx8.cell]; rfl
                have z2 : w8.cell? ⟨wr.heap.size, 2, none⟩ = some (.int .u8 (tg : Int)) := by rw [hbx8.cell]; rfl
                have z3 : w8.cell? ⟨wr.heap.size, 3, none⟩ = some (.string tx) := by rw [hbx8.cell]; rfl
                go_wp2_with fail
                refine (HG2.out _ hlo8 hrk8).mono ?_
                rintro e w9 ⟨rfl, hb9⟩
                have hB9 : Hid (Both w w9 N ga ra (.pointer (some ⟨go, 0, none⟩)) u6 u7 (i + 1)) := ⟨⟨AA, KK, va, vo, go, ro, rfl, hla8.below hb9, hlo8.below hb9, hrm8.below hb9, hrk8.below hb9, hap, hfa, hfo, okA, okK, by omega, by omega⟩, hbel8.trans (hb9.mono hbel8.size)⟩
                clear z0 z1 z2 z3 HG2 hb9 hla8 hlo8 hrm8 hrk8 hbel8 hbx8
                go_wp2_with fail
                refine ⟨⟨i + 1, by omega, by simp, hB9⟩, ?_⟩
                simp [intOf]
                omega
      · obtain ⟨⟨AA, KK, va, vo, go, ro, hto, hla, hlo, hrm, hrk, hap, hfa, hfo, okA, okK, lenA, lenK⟩, hbel⟩ := HBO.out
        subst hto
        clear HBO
        obtain rfl : i = N := by omega
        have t0 : ¬ (i : Int) < (i : Int) := by omega
        have HG1 : Hid (Calls Try.prog 35 #[.pointer (some ⟨ga, 0, none⟩), u6, .agg #[.int .i64 0, .int .i64 0, .int .u8 0, .string { data := #[] }]] wr fun e w' => e = .returned (.bool true) ∧ Below wr.heap.size wr w') := logged_any ga ra va u6 AA (by omega) okA 0 0 0 _ wr hla hrm
        have HG2 : Hid (∀ W, LogAt W go ro vo KK → RefAt W u7 KK → Calls Try.prog 35 #[.pointer (some ⟨go, 0, none⟩), u7, .agg #[.int .i64 0, .int .i64 0, .int .u8 0, .string { data := #[] }]] W fun e w' => e = .returned (.bool true) ∧ Below W.heap.size W w') := fun W h1 h2 => logged_any go ro vo u7 KK (by omega) okK 0 0 0 _ W h1 h2
        go_wp2_with fail
        refine HG1.out.mono ?_
        rintro e w8 ⟨rfl, hb8⟩
        have hlo8 := hlo.below hb8
        have hrk8 := hrk.below hb8
        have hbel8 : Below w.heap.size w w8 := hbel.trans (hb8.mono hbel.size)
        go_wp2_with fail
        refine (HG2.out _ hlo8 hrk8).mono ?_
        rintro e w9 ⟨rfl, hb9⟩
        have hbel9 : Below w.heap.size w w9 := hbel8.trans (hb9.mono hbel8.size)
        go_wp2_with fail
        go_ret
        exact ⟨rfl, hbel9⟩
end Go.Proofs.Ytjjjgnaihnknjaa