/- FindWalks: names walked, in any tree. -/
import Derived.Test.YtojnlmfahgeidaaGreatDoorHPaParse
import Derived.BigQuiet
import Derived.Deep.QuietTactic
import Derived.Shelf.Strings.OnBuilder
import Derived.Shelf.Slices.Equal
import Derived.Shelf.Slices.Clone
import Derived.Shelf.Slices.Empties2
import Derived.Test.YtojnlmfahgeidaaGreatDoorProg
import Derived.Lib.FJoinFns
import Derived.Test.YtojnlmfahgeidaaGreatDoorHSegsR
import Derived.Test.YtojnlmfahgeidaaGreatDoorHInsDrop
import Derived.Test.YtojnlmfahgeidaaGreatDoorHMathCount
import Derived.Handy
import Derived.Test.YtojnlmfahgeidaaGreatDoorHFiAlong
import Derived.Test.YtojnlmfahgeidaaGreatDoorHFiMath
import Derived.Test.YtojnlmfahgeidaaGreatDoorHBlkOwn

namespace Go.Proofs.YtojnlmfahgeidaaGreatDoor
open Go Go.RowKit Go.Shelf
set_option linter.unusedVariables false
set_option linter.unusedSimpArgs false
attribute [local go_sem] Oper.semAt_some
set_option maxRecDepth 100000 in
set_option maxHeartbeats 4000000 in
theorem parse_any (s : ByteArray) (w : World) : Calls Tryz.prog 73 #[.string s] w fun e w' => PRet s.data.toList w e w' := by
  by_cases h1 : s.size ≤ 1024
  · by_cases h2 : s.data.toList[0]? = some 47
    · exact parse_main s h1 h2 w
    · have hz : (s.size : Int) ≤ 1024 := by omega
      have HX : Hid (∀ w : World, Calls Tryz.prog 67 #[.string s, .string ⟨#[47]⟩] w fun e w' => e = .returned (.bool false) ∧ w' = w) := fun w => by
        have := prefix_any s w
        rwa [decide_eq_false h2] at this
      have HR : Hid (prs s.data.toList = ([], false, 0, 180)) := by
        show prs _ = _
        unfold prs
        rw [if_neg (by rw [← Lib.size_eq]; omega), if_neg h2]
      clear h2
      refine (callsIn_wide (n := 4)).1 ?_
      refine callsIn_of_wp_marks Tryz.func73 rfl trivial ?_ rfl
      simp only [Tryz.ntmps73, List.size_toArray, List.length_cons, List.length_nil, Nat.reduceAdd, Nat.reduceSub, Array.replicate_succ, Array.replicate_zero, List.push_toArray, List.append_toArray, List.nil_append, List.cons_append]
      gi_wp2
      refine ⟨trivial, ?_⟩
      refine (callsIn_wide.2 (HX.out _)).mono ?_
      rintro e w9 ⟨rfl, hw9⟩
      subst w9
      gi_wp2
      have hb : Below w.heap.size w (((w.alloc (.cells #[.slice none 0 0, .bool false] 94)).alloc (.cells #[.int .i64 0] 3)).alloc (.cells #[.int .i64 180] 41)) := (((Below.refl _ w).alloc (Nat.le_refl _) _).alloc (by simp) _).alloc (by simp; omega) _
      have k0 : Blk (((w.alloc (.cells #[.slice none 0 0, .bool false] 94)).alloc (.cells #[.int .i64 0] 3)).alloc (.cells #[.int .i64 180] 41)) w.heap.size 94 #[.slice none 0 0, .bool false] := ((Blk.new w _ _).alloc _).alloc _
      have k1 : Blk (((w.alloc (.cells #[.slice none 0 0, .bool false] 94)).alloc (.cells #[.int .i64 0] 3)).alloc (.cells #[.int .i64 180] 41)) (w.heap.size + 1) 3 #[.int .i64 0] := by
        have := Blk.new (w.alloc (.cells #[.slice none 0 0, .bool false] 94)) 3 #[.int .i64 0]
        rw [World.size_alloc] at this
        exact this.alloc _
      have k2 : Blk (((w.alloc (.cells #[.slice none 0 0, .bool false] 94)).alloc (.cells #[.int .i64 0] 3)).alloc (.cells #[.int .i64 180] 41)) (w.heap.size + 1 + 1) 41 #[.int .i64 180] := by
        have := Blk.new ((w.alloc (.cells #[.slice none 0 0, .bool false] 94)).alloc (.cells #[.int .i64 0] 3)) 41 #[.int .i64 180]
        rw [World.size_alloc, World.size_alloc] at this
        exact this
      have r0 := k0.cell 0
      have r1 := k0.cell 1
      have r2 := k1.cell 0
      have r3 := k2.cell 0
      generalize (((w.alloc (.cells #[.slice none 0 0, .bool false] 94)).alloc (.cells #[.int .i64 0] 3)).alloc (.cells #[.int .i64 180] 41)) = Wf at *
      refine ⟨.tuple #[.agg #[.slice none 0 0, .bool false], .int .i64 0, .int .i64 180], ?_, pret_of HR.out (World.ownsRow_nil _ _ _ _) hb⟩
      simp [results, Tryz.f73, go_sem, r0, r1, r2, r3]
  · have hz : (1024 : Int) < (s.size : Int) := by omega
    have HR : Hid (prs s.data.toList = ([], false, 1024, 181)) := by
      show prs _ = _
      unfold prs
      rw [if_pos (by rw [← Lib.size_eq]; omega)]
    refine (callsIn_wide (n := 4)).1 ?_
    refine callsIn_of_wp_marks Tryz.func73 rfl trivial ?_ rfl
    simp only [Tryz.ntmps73, List.size_toArray, List.length_cons, List.length_nil, Nat.reduceAdd, Nat.reduceSub, Array.replicate_succ, Array.replicate_zero, List.push_toArray, List.append_toArray, List.nil_append, List.cons_append]
    gi_wp2
    have hb : Below w.heap.size w (((w.alloc (.cells #[.slice none 0 0, .bool false] 94)).alloc (.cells #[.int .i64 1024] 3)).alloc (.cells #[.int .i64 181] 41)) := (((Below.refl _ w).alloc (Nat.le_refl _) _).alloc (by simp) _).alloc (by simp; omega) _
    have k0 : Blk (((w.alloc (.cells #[.slice none 0 0, .bool false] 94)).alloc (.cells #[.int .i64 1024] 3)).alloc (.cells #[.int .i64 181] 41)) w.heap.size 94 #[.slice none 0 0, .bool false] := ((Blk.new w _ _).alloc _).alloc _
    have k1 : Blk (((w.alloc (.cells #[.slice none 0 0, .bool false] 94)).alloc (.cells #[.int .i64 1024] 3)).alloc (.cells #[.int .i64 181] 41)) (w.heap.size + 1) 3 #[.int .i64 1024] := by
      have := Blk.new (w.alloc (.cells #[.slice none 0 0, .bool false] 94)) 3 #[.int .i64 1024]
      rw [World.size_alloc] at this
      exact this.alloc _
    have k2 : Blk (((w.alloc (.cells #[.slice none 0 0, .bool false] 94)).alloc (.cells #[.int .i64 1024] 3)).alloc (.cells #[.int .i64 181] 41)) (w.heap.size + 1 + 1) 41 #[.int .i64 181] := by
      have := Blk.new ((w.alloc (.cells #[.slice none 0 0, .bool false] 94)).alloc (.cells #[.int .i64 1024] 3)) 41 #[.int .i64 181]
      rw [World.size_alloc, World.size_alloc] at this
      exact this
    have r0 := k0.cell 0
    have r1 := k0.cell 1
    have r2 := k1.cell 0
    have r3 := k2.cell 0
    generalize (((w.alloc (.cells #[.slice none 0 0, .bool false] 94)).alloc (.cells #[.int .i64 1024] 3)).alloc (.cells #[.int .i64 181] 41)) = Wf at *
    refine ⟨.tuple #[.agg #[.slice none 0 0, .bool false], .int .i64 1024, .int .i64 181], ?_, pret_of HR.out (World.ownsRow_nil _ _ _ _) hb⟩
    simp [results, Tryz.f73, go_sem, r0, r1, r2, r3]
end Go.Proofs.YtojnlmfahgeidaaGreatDoor

namespace Go.Proofs.YtojnlmfahgeidaaGreatDoor
open Go Go.RowKit Go.Shelf
set_option linter.unusedVariables false
set_option linter.unusedSimpArgs false
/-- a slice at a holds these texts -/
def IsN (w : World) (a : Option Addr) (N : List ByteArray) : Prop := N = [] ∨ ∃ g o, a = some ⟨g, o, none⟩ ∧ g < w.heap.size ∧ ∀ j x, N[j]? = some x → w.cell? ⟨g, o + j, none⟩ = some (.string x)
theorem IsN.below {w w' : World} {a : Option Addr} {N : List ByteArray} (h : IsN w a N) (hb : Below w.heap.size w w') : IsN w' a N := by
  rcases h with h | ⟨g, o, rfl, hg, hc⟩
  · exact .inl h
  · exact .inr ⟨g, o, rfl, Nat.lt_of_lt_of_le hg hb.size, fun j x hj => (hb.cell (p := ⟨g, o + j, none⟩) hg).trans (hc j x hj)⟩
theorem IsN.at {w : World} {a : Option Addr} {N : List ByteArray} (h : IsN w a N) {j : Nat} (hj : j < N.length) : ∃ g o, a = some ⟨g, o, none⟩ ∧ g < w.heap.size ∧ w.cell? ⟨g, o + j, none⟩ = some (.string N[j]) := by
  rcases h with rfl | ⟨g, o, rfl, hg, hc⟩
  · simp at hj
  · exact ⟨g, o, rfl, hg, hc j _ (List.getElem?_eq_getElem hj)⟩
theorem IsN.take {w : World} {a : Option Addr} {N : List ByteArray} (h : IsN w a N) (k : Nat) : IsN w a (N.take k) := by
  rcases h with rfl | ⟨g, o, rfl, hg, hc⟩
  · exact .inl (by simp)
  · refine .inr ⟨g, o, rfl, hg, fun j x hj => hc j x ?_⟩
    rw [List.getElem?_take] at hj
    split at hj
    · exact hj
    · cases hj
/-- an own slice of texts -/
theorem own_isN {w : World} {B n : Nat} {a : Option Addr} {m c : Nat} {N : List ByteArray} (h : w.ownsRow B 9 1 (.slice a m c) n (N.map Value.string)) : IsN w a N := by
  rcases h.2 with ⟨hv, hn⟩ | ⟨g, cap, cur, hv, hB, hg, hrest⟩
  · left
    have := h.1
    rw [hn] at this
    simpa using this
  · right
    cases hv
    refine ⟨g, 0, rfl, (Array.getElem?_eq_some_iff.1 hg).1, fun j x hj => ?_⟩
    have hl := (List.getElem?_eq_some_iff.1 hj).1
    have hn := h.1
    rw [List.length_map, Nat.mul_one] at hn
    rw [Nat.zero_add, h.cellAt j (by omega), List.getElem?_map, hj]
    rfl
end Go.Proofs.YtojnlmfahgeidaaGreatDoor

namespace Go.Proofs.YtojnlmfahgeidaaGreatDoor
open Go Go.RowKit Go.Shelf
set_option linter.unusedVariables false
set_option linter.unusedSimpArgs false
/-- at most 32 names -/
def GoodN (N : List ByteArray) : Prop := N.length ≤ 32 ∧ ∀ x ∈ N, isName x.data.toList = true
theorem GoodN.nil : GoodN [] := ⟨by simp, by simp⟩
theorem GoodN.drop {N : List ByteArray} (h : GoodN N) : GoodN N.dropLast := ⟨by have := h.1; simp; omega, fun x hx => h.2 x (List.dropLast_subset N hx)⟩
theorem GoodN.take {N : List ByteArray} (h : GoodN N) (k : Nat) : GoodN (N.take k) := ⟨by have := h.1; simp; omega, fun x hx => h.2 x (List.take_subset k N hx)⟩
end Go.Proofs.YtojnlmfahgeidaaGreatDoor

namespace Go.Proofs.YtojnlmfahgeidaaGreatDoor
open Go Go.RowKit Go.Shelf
set_option linter.unusedVariables false
set_option linter.unusedSimpArgs false
/-- Parse told in single things -/
theorem parse_at (s : ByteArray) {N : List ByteArray} {d : Bool} {i : Nat} {z : Int} (hp : prs s.data.toList = (N, d, i, z)) (w : World) : Calls Tryz.prog 73 #[.string s] w fun e w' => ∃ (a : Option Addr) (c : Nat), e = .returned (.tuple #[.agg #[.slice a N.length c, .bool d], .int .i64 (i : Int), .int .i64 z]) ∧ w'.ownsRow w.heap.size 9 1 (.slice a N.length c) N.length (N.map Value.string) ∧ Below w.heap.size w w' := by
  refine (parse_any s w).mono ?_
  rintro e w' ⟨v, he, ho, hb⟩
  rw [hp] at he ho
  obtain ⟨a, c, rfl⟩ := kown_slice ho
  exact ⟨a, c, he, ho, hb⟩
end Go.Proofs.YtojnlmfahgeidaaGreatDoor

namespace Go.Proofs.YtojnlmfahgeidaaGreatDoor
open Go Go.RowKit
set_option linter.unusedSimpArgs false
set_option linter.unusedVariables false
set_option maxRecDepth 100000 in
set_option maxHeartbeats 4000000 in
theorem along_none (x : Nat) (a : Option Addr) (c : Nat) (fv : Value) (w : World) : Calls Tryz.prog 70 #[.pointer (some ⟨x, 0, none⟩), .slice a 0 c, fv] w fun e w' => e = .returned (.int .i64 0) ∧ w' = w := by
  go_enter Tryz.func70, Tryz.ntmps70
  go_wp2_with fail
  go_loopw [20] (fun v wr => v = .int .i64 0 ∧ w = wr) (fun _ _ => 0)
  case atStart => exact ⟨rfl, rfl⟩
  case round =>
    obtain ⟨rfl, rfl⟩ := hrel
    go_wp2_with fail
    go_loopw [32] (fun v wr => v = .int .i64 0 ∧ w = wr) (fun _ _ => 0)
    case atStart => exact ⟨rfl, rfl⟩
    case round =>
      obtain ⟨rfl, rfl⟩ := hrel
      go_wp2_with fail
      go_ret
      exact ⟨rfl, rfl⟩
set_option maxRecDepth 100000 in
set_option maxHeartbeats 4000000 in
theorem walk_none (x : Nat) (a : Option Addr) (c : Nat) (w : World) : Calls Tryz.prog 33 #[.pointer (some ⟨x, 0, none⟩), .slice a 0 c] w fun e w' => e = .returned (.tuple #[.int .i64 1, .int .i64 0]) ∧ Below w.heap.size w w' := by
  have HA : Hid (∀ (fv : Value) (w : World), Calls Tryz.prog 70 #[.pointer (some ⟨x, 0, none⟩), .slice a 0 c, fv] w fun e w' => e = .returned (.int .i64 0) ∧ w' = w) := fun fv w => along_none x a c fv w
  have b1 : Blk (w.alloc (.cells #[.int .i64 1] 3)) w.heap.size 3 #[.int .i64 1] := Blk.new _ _ _
  have HB : Hid (Below w.heap.size w (w.alloc (.cells #[.int .i64 1] 3))) := below_new1 _ _
  have c0 := (b1.cell 0).trans rfl
  clear b1
  go_enter Tryz.func33, Tryz.ntmps33
  go_wp2_with fail
  generalize (w.alloc (.cells #[.int .i64 1] 3)) = w1 at *
  refine (HA.out _ _).mono ?_
  rintro e w2 ⟨rfl, hw⟩
  subst w2
  go_wp2_with fail
  go_ret2
  exact ⟨rfl, HB.out⟩
end Go.Proofs.YtojnlmfahgeidaaGreatDoor

namespace Go.Proofs.YtojnlmfahgeidaaGreatDoor
open Go Go.RowKit
set_option linter.unusedSimpArgs false
set_option linter.unusedVariables false
set_option maxRecDepth 100000 in
set_option maxHeartbeats 4000000 in
theorem named_ok (x : Nat) (a : Option Addr) (n c : Nat) (b : Bool) (wn nn k l z : Int) (st : Nat) (hk : b = true → k = 2) (w : World) (HW0 : ∀ V, Below w.heap.size w V → Calls Tryz.prog 33 #[.pointer (some ⟨x, 0, none⟩), .slice a n c] V fun e w' => e = .returned (.tuple #[.int .i64 wn, .int .i64 0]) ∧ Below V.heap.size V w') (HG0 : ∀ V, Below w.heap.size w V → Calls Tryz.prog 56 #[.pointer (some ⟨x, 0, none⟩), .int .i64 wn] V fun e w' => e = .returned (.tuple #[.agg (nfC nn k l z st), .int .i64 0]) ∧ Below V.heap.size V w') :
    Calls Tryz.prog 74 #[.pointer (some ⟨x, 0, none⟩), .agg #[.slice a n c, .bool b]] w fun e w' => e = .returned (.tuple #[.agg (nfC nn k l z st), .int .i64 0]) ∧ Below w.heap.size w w' := by
  have HG : Hid (∀ V, Below w.heap.size w V → Calls Tryz.prog 56 #[.pointer (some ⟨x, 0, none⟩), .int .i64 wn] V fun e w' => e = .returned (.tuple #[.agg (nfC nn k l z st), .int .i64 0]) ∧ Below V.heap.size V w') := HG0
  have HW : Hid (∀ V, Below w.heap.size w V → Calls Tryz.prog 33 #[.pointer (some ⟨x, 0, none⟩), .slice a n c] V fun e w' => e = .returned (.tuple #[.int .i64 wn, .int .i64 0]) ∧ Below V.heap.size V w') := HW0
  have hz := zero_nf
  have hbt := built_nf0
  have b0 : Blk ((w.alloc (.cells #[.slice a n c, .bool b] 94)).alloc (.cells nf0 86)) w.heap.size 94 #[.slice a n c, .bool b] := Blk.alloc (Blk.new _ _ _) _
  have b1 : Blk ((w.alloc (.cells #[.slice a n c, .bool b] 94)).alloc (.cells nf0 86)) (w.heap.size + 1) 86 nf0 := Blk.new1 _ _ _ _
  have hb : Below w.heap.size w ((w.alloc (.cells #[.slice a n c, .bool b] 94)).alloc (.cells nf0 86)) := below_new2 _ _ _
  have c0 := (b0.cell 0).trans rfl
  clear HW0 HG0
  go_enter Tryz.func74, Tryz.ntmps74
  go_wp2_with fail
  generalize ((w.alloc (.cells #[.slice a n c, .bool b] 94)).alloc (.cells nf0 86)) = w1 at *
  refine (HW.out _ hb).mono ?_
  rintro e w2 ⟨rfl, hb2⟩
  have hb12 := hb.trans (hb2.mono hb.size)
  have d0 := b0.below hb2 b0.lt
  have d1 := b1.below hb2 b1.lt
  have H1 := HG.out w2 hb12
  clear b0 b1 c0 hb hb2 HW HG
  go_wp2_with fail
  refine H1.mono ?_
  rintro e w3 ⟨rfl, hb3⟩
  have hb13 := hb12.trans (hb3.mono hb12.size)
  have e0 := d0.below hb3 d0.lt
  have e1 := d1.below hb3 d1.lt
  have u1 : Blk (w3.alloc (.cells nf0 86)) w3.heap.size 86 nf0 := Blk.new _ _ _
  have u2 : Blk ((w3.alloc (.cells nf0 86)).setRow w3.heap.size (nfC nn k l z st)) w3.heap.size 86 (nfC nn k l z st) := u1.set _
  have hn : Below w3.heap.size w3 ((w3.alloc (.cells nf0 86)).setRow w3.heap.size (nfC nn k l z st)) := below_setRow (below_new1 _ _) (Nat.le_refl _) _
  have e0' := e0.below hn e0.lt
  have e1' := e1.below hn e1.lt
  have hb14 := hb13.trans (hn.mono hb13.size)
  obtain ⟨n0, n1, n2, n3, n4⟩ := nf_cs u2
  have k1 := (e0'.cell 1).trans rfl
  have r1 := e1'.set (nfC nn k l z st)
  have HB : Hid (Below w.heap.size w (((w3.alloc (.cells nf0 86)).setRow w3.heap.size (nfC nn k l z st)).setRow (w.heap.size + 1) (nfC nn k l z st))) := below_setRow hb14 (by omega) _
  clear d0 d1 hb12 hb3 hb13 e0 e1 hn hb14 H1 e0'
  cases b
  · clear hk
    go_wp2_with (first | (refine wpList_store_row (by rfl) 86 _ _ (by rfl) (w3.heap.size) (nfC nn k l z st) (by rfl) (by rfl) 86 (nf0) (by exact u1) (size_nf.trans (by rfl)) (by rfl) (nf_all _ _ _ _ _) ?_; simp only [Act.put, List.setIfInBounds_toArray, List.set_cons_zero, List.set_cons_succ]) | (refine wpList_load_row (by rfl) 86 _ (by rfl) (w3.heap.size) (by rfl) 86 (nfC nn k l z st) (0, 0) _ (by exact u2) Tryz.underlying86 (by rfl) (size_nf.trans (by rfl)) ?_; simp only [Act.put, List.setIfInBounds_toArray, List.set_cons_zero, List.set_cons_succ]) | (refine wpList_store_row (by rfl) 86 _ _ (by rfl) (w.heap.size + 1) (nfC nn k l z st) (by rfl) (by rfl) 86 (nf0) (by exact e1') (size_nf.trans (by rfl)) (by rfl) (nf_all _ _ _ _ _) ?_; simp only [Act.put, List.setIfInBounds_toArray, List.set_cons_zero, List.set_cons_succ]) | fail)
    try simp only [Exit.inBlock, Exit.then]
    refine bodyPost_ret (results_row2 Tryz.results74 _ _ (w.heap.size + 1) 86 (nfC nn k l z st) (0, 0) _ rfl r1 Tryz.underlying86 rfl (size_nf.trans (by rfl))) rfl ?_
    exact ⟨rfl, HB.out⟩
  · have hk2 := hk rfl
    subst hk2
    clear hk
    go_wp2_with (first | (refine wpList_store_row (by rfl) 86 _ _ (by rfl) (w3.heap.size) (nfC nn 2 l z st) (by rfl) (by rfl) 86 (nf0) (by exact u1) (size_nf.trans (by rfl)) (by rfl) (nf_all _ _ _ _ _) ?_; simp only [Act.put, List.setIfInBounds_toArray, List.set_cons_zero, List.set_cons_succ]) | (refine wpList_load_row (by rfl) 86 _ (by rfl) (w3.heap.size) (by rfl) 86 (nfC nn 2 l z st) (0, 0) _ (by exact u2) Tryz.underlying86 (by rfl) (size_nf.trans (by rfl)) ?_; simp only [Act.put, List.setIfInBounds_toArray, List.set_cons_zero, List.set_cons_succ]) | (refine wpList_store_row (by rfl) 86 _ _ (by rfl) (w.heap.size + 1) (nfC nn 2 l z st) (by rfl) (by rfl) 86 (nf0) (by exact e1') (size_nf.trans (by rfl)) (by rfl) (nf_all _ _ _ _ _) ?_; simp only [Act.put, List.setIfInBounds_toArray, List.set_cons_zero, List.set_cons_succ]) | fail)
    try simp only [Exit.inBlock, Exit.then]
    refine bodyPost_ret (results_row2 Tryz.results74 _ _ (w.heap.size + 1) 86 (nfC nn 2 l z st) (0, 0) _ rfl r1 Tryz.underlying86 rfl (size_nf.trans (by rfl))) rfl ?_
    exact ⟨rfl, HB.out⟩
theorem own_nm {w : World} {B n m c : Nat} {a : Option Addr} {N : List ByteArray} (h : w.ownsRow B 9 1 (.slice a m c) n (N.map Value.string)) : IsNm w a N.length (fun j => N.getD j ⟨#[]⟩) := fun j hj => by
  rcases own_isN h with h0 | ⟨g, o, rfl, hg, hc⟩
  · rw [h0] at hj
    exact absurd hj (Nat.not_lt_zero _)
  · refine ⟨g, o, rfl, hg, hc j _ ?_⟩
    simp [List.getD, List.getElem?_eq_getElem hj]
set_option maxRecDepth 100000 in
set_option maxHeartbeats 4000000 in
theorem lookup_ok (x : Nat) (s : ByteArray) (N : List ByteArray) (dd : Bool) (i : Nat) (hp : prs s.data.toList = (N, dd, i, 0)) (nn k l z er : Int) (st : Nat) (w : World) (HM0 : ∀ V a c, Below w.heap.size w V → IsNm V a N.length (fun j => N.getD j ⟨#[]⟩) → Calls Tryz.prog 74 #[.pointer (some ⟨x, 0, none⟩), .agg #[.slice a N.length c, .bool dd]] V fun e w' => e = .returned (.tuple #[.agg (nfC nn k l z st), .int .i64 er]) ∧ Below V.heap.size V w') :
    Calls Tryz.prog 37 #[.pointer (some ⟨x, 0, none⟩), .string s] w fun e w' => e = .returned (.tuple #[.agg (nfC nn k l z st), .int .i64 er]) ∧ Below w.heap.size w w' := by
  have HP : Hid (∀ V : World, Calls Tryz.prog 73 #[.string s] V fun e w' => ∃ (a : Option Addr) (c : Nat), e = .returned (.tuple #[.agg #[.slice a N.length c, .bool dd], .int .i64 (i : Int), .int .i64 0]) ∧ w'.ownsRow V.heap.size 9 1 (.slice a N.length c) N.length (N.map Value.string) ∧ Below V.heap.size V w') := fun V => parse_at s hp V
  have HM : Hid (∀ V a c, Below w.heap.size w V → IsNm V a N.length (fun j => N.getD j ⟨#[]⟩) → Calls Tryz.prog 74 #[.pointer (some ⟨x, 0, none⟩), .agg #[.slice a N.length c, .bool dd]] V fun e w' => e = .returned (.tuple #[.agg (nfC nn k l z st), .int .i64 er]) ∧ Below V.heap.size V w') := HM0
  have hz := zero_nf
  have hz2 := pt_zero
  have b1 : Blk (w.alloc (.cells nf0 86)) w.heap.size 86 nf0 := Blk.new _ _ _
  have hb : Below w.heap.size w (w.alloc (.cells nf0 86)) := below_new1 _ _
  clear HM0 hp
  go_enter Tryz.func37, Tryz.ntmps37
  go_wp2_with fail
  generalize (w.alloc (.cells nf0 86)) = w1 at *
  refine (HP.out _).mono ?_
  rintro e w2 ⟨a, c, rfl, ho, hb2⟩
  have hb12 := hb.trans (hb2.mono hb.size)
  have d1 := (b1.below hb2 b1.lt).alloc (.cells #[.slice a N.length c, .bool dd] 94)
  have hb13 : Below w.heap.size w (w2.alloc (.cells #[.slice a N.length c, .bool dd] 94)) := hb12.alloc hb12.size _
  have H1 := HM.out (w2.alloc (.cells #[.slice a N.length c, .bool dd] 94)) a c hb13 ((own_nm ho).below (below_new1 _ _))
  clear b1 hb hb2 hb12 HP HM ho
  go_wp2_with fail
  generalize (w2.alloc (.cells #[.slice a N.length c, .bool dd] 94)) = w3 at *
  refine H1.mono ?_
  rintro e w4 ⟨rfl, hb4⟩
  have e1 := d1.below hb4 d1.lt
  have r1 := e1.set (nfC nn k l z st)
  have HB : Hid (Below w.heap.size w (w4.setRow w.heap.size (nfC nn k l z st))) := below_setRow (hb13.trans (hb4.mono hb13.size)) (Nat.le_refl _) _
  clear d1 hb13 hb4 H1
  · go_wp2_with (first | (refine wpList_store_row (by rfl) 86 _ _ (by rfl) (w.heap.size) (nfC nn k l z st) (by rfl) (by rfl) 86 (nf0) (by exact e1) (size_nf.trans (by rfl)) (by rfl) (nf_all _ _ _ _ _) ?_; simp only [Act.put, List.setIfInBounds_toArray, List.set_cons_zero, List.set_cons_succ]) | fail)
    try simp only [Exit.inBlock, Exit.then]
    refine bodyPost_ret (results_row2 Tryz.results37 _ _ w.heap.size 86 (nfC nn k l z st) (0, 0) _ rfl r1 Tryz.underlying86 rfl (size_nf.trans (by rfl))) rfl ?_
    exact ⟨rfl, HB.out⟩
end Go.Proofs.YtojnlmfahgeidaaGreatDoor

namespace Go.Proofs.YtojnlmfahgeidaaGreatDoor
open Go Go.RowKit
set_option linter.unusedSimpArgs false
set_option linter.unusedVariables false
set_option maxRecDepth 100000 in
set_option maxHeartbeats 4000000 in
theorem awake19_any (w : World) : Calls Tryz.prog 32 #[] w fun e w' => e = .returned (.bool true) ∧ Below w.heap.size w w' := by
  have HB := built19_any none 0 0 (by decide) (fun _ => ⟨false, false, 0, 0, ⟨#[]⟩⟩) (fun i hi => absurd hi (Nat.not_lt_zero _)) w (fun i hi => absurd hi (Nat.not_lt_zero _))
  have hz := zero_nf
  go_enter Tryz.func32, Tryz.ntmps32
  go_wp2_with fail
  refine HB.mono ?_
  rintro e w1 ⟨x, mf, ml, mc, cp, r, all, F, rfl, hT⟩
  obtain ⟨k, l, z, st, hk, _, hG⟩ := hT.bi.getN 1 ⟨Nat.le_refl _, hT.al1.1⟩
  have hk2 := hk hT.bi.d1
  subst hk2
  have HL := lookup_ok x ⟨#[47]⟩ [] true (prs [47]).2.2.1 (by decide) 1 2 l z 0 st w1 (fun V a c hV _ => named_ok x a 0 c true 1 1 2 l z st (fun _ => rfl) V (fun V' hV' => walk_none x a c V') (fun V' hV' => hG V' (hV.trans (hV'.mono hV.size))))
  have HB1 : Hid (Below w.heap.size w w1) := hT.bl
  clear HB hT hk hG
  go_wp2_with fail
  refine HL.mono ?_
  rintro e w2 ⟨rfl, hb2⟩
  have hb12 := HB1.out.trans (hb2.mono HB1.out.size)
  have u1 : Blk (w2.alloc (.cells nf0 86)) w2.heap.size 86 nf0 := Blk.new _ _ _
  have u2 : Blk ((w2.alloc (.cells nf0 86)).setRow w2.heap.size (nfC 1 2 l z st)) w2.heap.size 86 (nfC 1 2 l z st) := u1.set _
  have HB3 : Hid (Below w.heap.size w ((w2.alloc (.cells nf0 86)).setRow w2.heap.size (nfC 1 2 l z st))) := below_setRow (hb12.alloc hb12.size _) hb12.size _
  obtain ⟨n0, n1, n2, n3, n4⟩ := nf_cs u2
  clear hb2 hb12 HL
  go_wp2_with (first | (refine wpList_store_row (by rfl) 86 _ _ (by rfl) (w2.heap.size) (nfC 1 2 l z st) (by rfl) (by rfl) 86 (nf0) (by exact u1) (size_nf.trans (by rfl)) (by rfl) (nf_all _ _ _ _ _) ?_; simp only [Act.put, List.setIfInBounds_toArray, List.set_cons_zero, List.set_cons_succ]) | fail)
  go_ret
  exact ⟨rfl, HB3.out⟩
end Go.Proofs.YtojnlmfahgeidaaGreatDoor

namespace Go.Proofs.YtojnlmfahgeidaaGreatDoor
open Go Go.RowKit
set_option linter.unusedSimpArgs false
set_option linter.unusedVariables false
/-- a slice of numbers -/
def IsI (w : World) (a : Option Addr) (m : Nat) (f : Nat → Nat) : Prop := ∀ j, j < m → ∃ b o, a = some ⟨b, o, none⟩ ∧ b < w.heap.size ∧ w.cell? ⟨b, o + j, none⟩ = some (.int .i64 ((f j : Nat) : Int))
theorem IsI.below {w w' : World} {a : Option Addr} {m : Nat} {f : Nat → Nat} (h : IsI w a m f) (hb : Below w.heap.size w w') : IsI w' a m f := fun j hj => by
  obtain ⟨b, o, h1, h2, h3⟩ := h j hj
  exact ⟨b, o, h1, Nat.lt_of_lt_of_le h2 hb.size, (hb.cell (p := ⟨b, o + j, none⟩) h2).trans h3⟩
theorem own_isI {w : World} {B e m : Nat} {v : Value} {f : Nat → Nat} (h : w.ownsRow B e 1 v m ((List.range m).map fun j => .int .i64 ((f j : Nat) : Int))) : ∃ a c, v = .slice a m c ∧ IsI w a m f := by
  obtain ⟨a, c, rfl⟩ := kown_slice h
  refine ⟨a, c, rfl, fun j hj => ?_⟩
  obtain ⟨g, cap', hv, hg1, hg2⟩ := kown_form h (by omega)
  injection hv with hv1 hv2 hv3
  subst hv1
  refine ⟨g, 0, rfl, hg2, ?_⟩
  subst hv3
  rw [Nat.zero_add, h.cellAt j (by omega)]
  simp [hj]
set_option maxRecDepth 100000 in
set_option maxHeartbeats 4000000 in
theorem ints_any (a b : Option Addr) (m ca cb : Nat) (hm : m ≤ 9223372036854775806) (f : Nat → Nat) (w : World) (ha : IsI w a m f) (hb : IsI w b m f) : Calls Tryz.prog 36 #[.slice a m ca, .slice b m cb] w fun e w' => e = .returned (.bool true) ∧ ∃ k, w' = w.drewN k := by
  have HA : Hid (IsI w a m f) := ha
  have HB : Hid (IsI w b m f) := hb
  clear ha hb
  have hnn : ((m : Int) != (m : Int)) = false := by simp
  go_enter Tryz.func36, Tryz.ntmps36
  go_wp2_with fail
  go_loopw [5] (fun v wr => Hid (∃ (i k : Nat), i ≤ m ∧ v = .int .i64 (i : Int) ∧ wr = w.drewN k)) (fun v _ => m - (intOf v).toNat)
  case atStart => exact ⟨0, 0, by omega, rfl, rfl⟩
  case round =>
    obtain ⟨i, k, hi, rfl, rfl⟩ := Hid.out hrel
    clear hrel
    by_cases h1 : i < m
    · have i1 : (i : Int) < (m : Int) := by omega
      obtain ⟨ga, oa, rfl, _, ca0⟩ := HA.out i h1
      obtain ⟨gb, ob, rfl, _, cb0⟩ := HB.out i h1
      have a0 : ∀ q, ((w.drewN k).drewN q).cell? ⟨ga, oa + i, none⟩ = some (.int .i64 ((f i : Nat) : Int)) := fun _ => ca0
      have b0 : ∀ q, ((w.drewN k).drewN q).cell? ⟨gb, ob + i, none⟩ = some (.int .i64 ((f i : Nat) : Int)) := fun _ => cb0
      have HF : Hid (∀ q, ∃ z, (w.drewN k).drewN q = w.drewN z) := fun q => ⟨_, World.drewN_drewN _ _ _⟩
      clear ca0 cb0
      generalize w.drewN k = w3 at a0 b0 HF ⊢
      generalize ((f i : Nat) : Int) = fi at *
      have hq : (fi != fi) = false := by simp
      have a0' := a0 0
      have b0' := b0 0
      rw [World.drewN_zero] at a0' b0'
      go_wp2_with fail
      go_quiet (fail)
      go_wp2_with fail
      go_roundw
      case rel =>
        obtain ⟨z, hz⟩ := HF.out nq
        exact ⟨i + 1, z, by omega, by first | rfl | go_num | simp, hz⟩
      case measure => simp [intOf]; omega
    · obtain rfl : i = m := by omega
      have i1 : ¬ ((i : Int) < (i : Int)) := by omega
      go_wp2_with fail
      go_ret
      exact ⟨rfl, k, rfl⟩
end Go.Proofs.YtojnlmfahgeidaaGreatDoor

namespace Go.Proofs.YtojnlmfahgeidaaGreatDoor
open Go Go.RowKit
set_option linter.unusedSimpArgs false
set_option linter.unusedVariables false
/-- two lists, one beside the other -/
structure RW (B : Nat) (w0 : World) (v1 v2 : Value) (L1 L2 : List Value) (U : World) : Prop where
  r1 : U.ownsRow B 3 1 v1 L1.length L1
  r2 : U.ownsRow B 3 1 v2 L2.length L2
  ap : ∀ b, v1.ownBlock = some b → v2.ownBlock ≠ some b
  bl : Below B w0 U
  bs : B ≤ U.heap.size
section
variable {B : Nat} {w0 : World} {v1 v2 : Value} {L1 L2 : List Value} {U U' : World}
theorem RW.alloc (h : RW B w0 v1 v2 L1 L2 U) (o : Obj) : RW B w0 v1 v2 L1 L2 (U.alloc o) := ⟨h.r1.alloc _, h.r2.alloc _, h.ap, h.bl.alloc h.bs _, by have := h.bs; simp; omega⟩
theorem RW.app1 {v1' : Value} {n : Nat} {xs : List Value} (h : RW B w0 v1 v2 L1 L2 U) (ho : U'.ownsRow B 3 1 v1' n xs) (hg : U.grownBy U' v1.ownBlock) (hv : v1'.ownBlock = v1.ownBlock ∨ v1'.ownBlock = some U.heap.size) (hn : n = xs.length := by simp) : RW B w0 v1' v2 xs L2 U' := by
  subst hn
  have hlt := fun b q => (h.r2.lt b q).2
  refine ⟨ho, h.r2.kept hg ?_, fun b hb q => ?_, h.bl.trans (fi_grown h.r1 hg h.bs), Nat.le_trans h.bs hg.size⟩
  · cases hq : v2.ownBlock with
    | none => exact .inl rfl
    | some k => exact .inr fun q => h.ap k q.symm hq
  · rcases hv with hv | hv
    · exact h.ap b (hv.symm.trans hb) q
    · rw [hv] at hb
      injection hb with hb
      have := hlt b q
      omega
theorem RW.app2 {v2' : Value} {n : Nat} {xs : List Value} (h : RW B w0 v1 v2 L1 L2 U) (ho : U'.ownsRow B 3 1 v2' n xs) (hg : U.grownBy U' v2.ownBlock) (hv : v2'.ownBlock = v2.ownBlock ∨ v2'.ownBlock = some U.heap.size) (hn : n = xs.length := by simp) : RW B w0 v1 v2' L1 xs U' := by
  subst hn
  have hlt := fun b q => (h.r1.lt b q).2
  refine ⟨h.r1.kept hg ?_, ho, fun b hb q => ?_, h.bl.trans (fi_grown h.r2 hg h.bs), Nat.le_trans h.bs hg.size⟩
  · cases hq : v1.ownBlock with
    | none => exact .inl rfl
    | some k => exact .inr fun q => h.ap k hq q.symm
  · rcases hv with hv | hv
    · exact h.ap b hb (hv.symm.trans q)
    · rw [hv] at q
      injection q with q
      have := hlt b hb
      omega
end
theorem rw_start (w w0 : World) (hb : Below w0.heap.size w0 w) : RW w0.heap.size w0 (.slice (some ⟨w.heap.size, 0, none⟩) 1 1) (.slice (some ⟨w.heap.size + 1, 0, none⟩) 0 0) [.int .i64 1] [] ((w.alloc (.cells #[.int .i64 1] 3)).alloc (.cells #[] 3)) := by
  have hs := hb.size
  have q0 : Blk (w.alloc (.cells #[.int .i64 1] 3)) w.heap.size 3 #[.int .i64 1] := Blk.new _ _ _
  have q1 : Blk ((w.alloc (.cells #[.int .i64 1] 3)).alloc (.cells #[] 3)) (w.alloc (.cells #[.int .i64 1] 3)).heap.size 3 #[] := Blk.new _ _ _
  rw [show (w.alloc (.cells #[.int .i64 1] 3)).heap.size = w.heap.size + 1 by simp] at q1
  exact ⟨fi_one (q0.alloc _) hs, kown_empty q1 (by omega), fun b hb => by
    simp [Value.ownBlock] at hb ⊢
    omega, (hb.alloc hs _).alloc (by simp; omega) _, by simp; omega⟩
/-- what the document's Walk answers -/
def RWk (F : Fo) (nm : Nat → ByteArray) (n : Nat) (RR : Int) (w : World) (e : Ending) (w' : World) : Prop := ∃ a1 a2 m1 m2 c1 c2, e = .returned (.tuple #[.slice a1 m1 c1, .slice a2 m2 c2, .int .i64 RR]) ∧ m1 = (if RR = 0 then n + 1 else 0) ∧ m2 = (if RR = 0 then n else 0) ∧ IsI w' a1 m1 (wkA F nm) ∧ IsI w' a2 m2 (wkP F nm) ∧ Below w.heap.size w w'
theorem RWk.err {F : Fo} {nm : Nat → ByteArray} {n : Nat} {RR : Int} {w w' : World} {a1 a2 : Option Addr} {c1 c2 : Nat} (h : RR ≠ 0) (hb : Below w.heap.size w w') : RWk F nm n RR w (.returned (.tuple #[.slice a1 0 c1, .slice a2 0 c2, .int .i64 RR])) w' :=
  ⟨a1, a2, 0, 0, c1, c2, rfl, by rw [if_neg h], by rw [if_neg h], fun j hj => absurd hj (Nat.not_lt_zero _), fun j hj => absurd hj (Nat.not_lt_zero _), hb⟩
theorem RWk.ok {F : Fo} {nm : Nat → ByteArray} {n : Nat} {w w' : World} {B : Nat} {v1 v2 : Value} (h1 : w'.ownsRow B 3 1 v1 (n + 1) ((List.range (n + 1)).map fun k => .int .i64 ((wkA F nm k : Nat) : Int))) (h2 : w'.ownsRow B 3 1 v2 n ((List.range n).map fun k => .int .i64 ((wkP F nm k : Nat) : Int))) (hb : Below w.heap.size w w') : RWk F nm n 0 w (.returned (.tuple #[v1, v2, .int .i64 0])) w' := by
  obtain ⟨a1, c1, rfl, hI1⟩ := own_isI h1
  obtain ⟨a2, c2, rfl, hI2⟩ := own_isI h2
  exact ⟨a1, a2, n + 1, n, c1, c2, rfl, by rw [if_pos rfl], by rw [if_pos rfl], hI1, hI2, hb⟩
set_option maxRecDepth 100000 in
set_option maxHeartbeats 16000000 in
theorem rwalk_any (r : Nat) (F : Fo) (w : World) (hM : BM w r F) (hk : ∀ n, F.dr n = true → F.K n ≤ 16384) (hW : ∀ (nm : Nat → ByteArray) i, wkE F nm i = 0 → F.N (wkA F nm i) (wkP F nm i) = ((wkA F nm (i + 1) : Nat) : Int)) (a : Option Addr) (n c : Nat) (hn : n ≤ 8796093022200) (nm : Nat → ByteArray) (hN : IsNm w a n nm) : Calls Tryz.prog 35 #[.map (some r), .slice a n c] w (RWk F nm n (wkR F nm n) w) := by
  obtain ⟨i0, hi0, hz0, hz1, hz2⟩ := info_parts infoIn
  have HM : Hid (∀ V, Below w.heap.size w V → BM V r F) := fun V hV => hM.below hV
  have HN : Hid (∀ V, Below w.heap.size w V → IsNm V a n nm) := fun V hV => hN.below hV
  have HK : Hid (∀ n, F.dr n = true → F.K n ≤ 16384) := hk
  have HW : Hid (∀ (nm : Nat → ByteArray) i, wkE F nm i = 0 → F.N (wkA F nm i) (wkP F nm i) = ((wkA F nm (i + 1) : Nat) : Int)) := hW
  have HNN : Hid (n ≤ 8796093022200) := hn
  clear hM hN hk hW
  obtain ⟨RR, hRR⟩ : ∃ R, R = wkR F nm n := ⟨_, rfl⟩
  have HRR : Hid (RR = wkR F nm n) := hRR
  rw [← hRR]
  clear hRR
  go_enter Tryz.func35, Tryz.ntmps35
  go_wp2_with fail
  go_loopw [7] (fun v wr => Hid (∃ i : Nat, i ≤ n ∧ v = .int .i64 (i : Int) ∧ naE nm i = 0 ∧ Below w.heap.size w wr)) (fun v _ => n - (intOf v).toNat)
  case atStart => exact ⟨0, Nat.zero_le _, rfl, rfl, Below.refl _ _⟩
  case round =>
    obtain ⟨i, hi, rfl, hna, hb⟩ := Hid.out hrel
    have HS : Hid (naE nm i = 0 ∧ Below w.heap.size w wr) := ⟨hna, hb⟩
    clear hrel hna hb
    by_cases hin : i < n
    · have i1 : (i : Int) < (n : Int) := by omega
      obtain ⟨b, o, rfl, _, c0⟩ := HN.out wr HS.out.2 i hin
      have HC := is_any (nm i) wr
      by_cases h : isName (nm i).data.toList = true
      · have HE : Hid (nameE (nm i).data.toList = 0) := by show nameE _ = 0; unfold nameE; rw [if_pos h]
        rw [h] at HC
        clear h
        go_wp2_with fail
        refine HC.mono ?_
        rintro e w2 ⟨rfl, hw2⟩
        subst w2
        have HS2 : Hid (naE nm (i + 1) = 0 ∧ Below w.heap.size w wr) := ⟨(naE_step HS.out.1).trans HE.out, HS.out.2⟩
        clear HC c0
        go_wp2_with fail
        go_roundw
        case rel => exact ⟨i + 1, hin, by first | rfl | go_num | simp, HS2.out.1, HS2.out.2⟩
        case measure => simp [intOf]; omega
      · have he : nameE (nm i).data.toList = 130 := by unfold nameE; rw [if_neg h]
        have HE : Hid (RR = 130) := HRR.out.trans ((wkR_name HS.out.1 hin (by rw [he]; decide)).trans he)
        have h' : isName (nm i).data.toList = false := by simpa using h
        rw [h'] at HC
        clear h h' he
        go_wp2_with fail
        refine HC.mono ?_
        rintro e w2 ⟨rfl, hw2⟩
        subst w2
        have HB : Hid (Below w.heap.size w ((wr.alloc (.cells #[] 3)).alloc (.cells #[] 3))) := (HS.out.2.alloc HS.out.2.size _).alloc (by have := HS.out.2.size; simp; omega) _
        clear HC c0
        go_wp2_with fail
        go_ret3
        have e1 := HE.out
        subst e1
        exact RWk.err (by decide) HB.out
    · obtain rfl : i = n := by omega
      have i1 : ¬ ((i : Int) < (i : Int)) := by omega
      have HNA : Hid (naE nm i = 0) := HS.out.1
      have HW0 : Hid (RW w.heap.size w (.slice (some ⟨wr.heap.size, 0, none⟩) 1 1) (.slice (some ⟨wr.heap.size + 1, 0, none⟩) 0 0) [.int .i64 1] [] ((wr.alloc (.cells #[.int .i64 1] 3)).alloc (.cells #[] 3))) := rw_start wr w HS.out.2
      clear HS
      go_wp2_with fail
      go_loopw [8, 9, 10, 11] (fun v8 v9 v10 v11 wr => Hid (∃ j : Nat, j ≤ i ∧ v8 = .int .i64 ((wkA F nm j : Nat) : Int) ∧ v11 = .int .i64 (j : Int) ∧ feE F nm j = 0 ∧ RW w.heap.size w v9 v10 (wkL F nm j) (plL F nm j) wr)) (fun _ _ _ v11 _ => i - (intOf v11).toNat)
      case atStart => exact ⟨0, Nat.zero_le _, rfl, rfl, rfl, HW0.out⟩
      case round =>
        clear HW0
        obtain ⟨WR, rfl⟩ : ∃ u, u = wr := ⟨_, rfl⟩
        obtain ⟨j, hj, rfl, rfl, hfe, hR⟩ := Hid.out hrel
        obtain ⟨V1, rfl⟩ : ∃ u, u = u9 := ⟨_, rfl⟩
        obtain ⟨V2, rfl⟩ : ∃ u, u = u10 := ⟨_, rfl⟩
        have HT : Hid (feE F nm j = 0 ∧ RW w.heap.size w V1 V2 (wkL F nm j) (plL F nm j) WR) := ⟨hfe, hR⟩
        clear hrel hfe hR i1
        by_cases hjn : j < i
        · have j1 : (j : Int) < (i : Int) := by omega
          obtain ⟨t, ht, hlk⟩ := (HM.out WR HT.out.2.bl).look (wkA F nm j)
          obtain ⟨ta, tn, tc⟩ := t
          cases hd : F.dr (wkA F nm j) with
          | false =>
            have he : wkE F nm j = 170 := by unfold wkE; rw [if_neg (by rw [hd]; decide)]
            have HE : Hid (RR = 170) := HRR.out.trans ((wkR_step HNA.out HT.out.1 hjn (by rw [he]; decide)).trans he)
            rw [hd] at hlk
            have HB : Hid (Below w.heap.size w ((WR.alloc (.cells #[] 3)).alloc (.cells #[] 3))) := (HT.out.2.bl.alloc HT.out.2.bl.size _).alloc (by have := HT.out.2.bl.size; simp; omega) _
            clear ht hd he
            generalize wkA F nm j = A0 at *
            go_wp2_with fail
            go_ret3
            have e1 := HE.out
            subst e1
            exact RWk.err (by decide) HB.out
          | true =>
            obtain ⟨k1, k2, k3, k4⟩ := ht hd
            have k1' : tn = F.K (wkA F nm j) := k1
            subst k1'
            obtain ⟨b, o, rfl, _, c0⟩ := HN.out WR HT.out.2.bl j hjn
            have HFI := rfind17_any ta (F.K (wkA F nm j)) tc (wkP F nm j) (by have := HK.out _ hd; omega) (F.N (wkA F nm j)) (F.S (wkA F nm j)) (nm j) (fiN_is _ _ _) _ _ rfl rfl WR k2
            rw [hd] at hlk
            by_cases hp : wkP F nm j < F.K (wkA F nm j)
            · have he : wkE F nm j = 0 := by unfold wkE; rw [if_pos hd, if_pos hp]
              have hNN := HW.out nm j he
              rw [if_pos hp, if_pos hp, hNN] at HFI
              have HFE : Hid (feE F nm (j + 1) = 0) := (feE_step HT.out.1).trans he
              have h1 : Hid (RW w.heap.size w V1 V2 (wkL F nm j) (plL F nm j) (WR.alloc (.cells #[.int .i64 ((wkA F nm (j + 1) : Nat) : Int)] 3))) := HT.out.2.alloc _
              have HL : Hid ((wkL F nm j).length ≤ 8796093022201 ∧ (plL F nm j).length ≤ 8796093022200) := ⟨by rw [wkL_len]; have := HNN.out; omega, by rw [plL_len]; have := HNN.out; omega⟩
              have HS1 : Hid (wkL F nm (j + 1) = wkL F nm j ++ [.int .i64 ((wkA F nm (j + 1) : Nat) : Int)] ∧ plL F nm (j + 1) = plL F nm j ++ [.int .i64 ((wkP F nm j : Nat) : Int)]) := ⟨wkL_succ _ _ _, plL_succ _ _ _⟩
              generalize hA1 : wkA F nm (j + 1) = A1 at HFI h1 HS1
              have HA1 : Hid (wkA F nm (j + 1) = A1) := hA1
              have p0 : (0 : Int) ≤ ((wkP F nm j : Nat) : Int) := by omega
              clear hA1 hNN k1 k2 k3 k4 hp he hd ht
              generalize F.K (wkA F nm j) = KA at *
              generalize wkP F nm j = P1 at *
              generalize wkA F nm j = A0 at *
              generalize nm j = sj at *
              go_wp2_with fail
              refine HFI.mono ?_
              rintro e w2 ⟨rfl, hw2⟩
              subst w2
              clear HFI c0 hlk
              go_wp2_with (first
                | (at_builtin; refine wpList_append_own_at rfl _ _ 78 rfl w.heap.size 3 i0 (.int .i64 0) 1 8 Tryz.underlying78 hi0 hz0 hz1 hz2 rfl (by decide) V1 (wkL F nm j).length (wkL F nm j) rfl h1.out.r1 ⟨WR.heap.size, 0, none⟩ 1 1 [.int .i64 (A1 : Int)] rfl rfl (cell_one_new _ _ _) (fun x hx => by simp at hx; subst hx; rfl) (by have := HL.out; unfold maxLen; omega) (by have := HL.out; omega) h1.out.bs ?_)
                | go_in)
              intro va U2 ho hg hv
              have h2 : Hid (RW w.heap.size w va V2 (wkL F nm j ++ [.int .i64 (A1 : Int)]) (plL F nm j) U2) := h1.out.app1 ho hg (by simpa using hv)
              have h3 : Hid (RW w.heap.size w va V2 (wkL F nm j ++ [.int .i64 (A1 : Int)]) (plL F nm j) (U2.alloc (.cells #[.int .i64 (P1 : Int)] 3))) := h2.out.alloc _
              clear ho hg hv h1
              go_wp2_with (first
                | (at_builtin; refine wpList_append_own_at rfl _ _ 78 rfl w.heap.size 3 i0 (.int .i64 0) 1 8 Tryz.underlying78 hi0 hz0 hz1 hz2 rfl (by decide) V2 (plL F nm j).length (plL F nm j) rfl h3.out.r2 ⟨U2.heap.size, 0, none⟩ 1 1 [.int .i64 (P1 : Int)] rfl rfl (cell_one_new _ _ _) (fun x hx => by simp at hx; subst hx; rfl) (by have := HL.out; unfold maxLen; omega) (by have := HL.out; omega) h3.out.bs ?_)
                | go_in)
              intro vb U4 ho hg hv
              have h4 : Hid (RW w.heap.size w va vb (wkL F nm j ++ [.int .i64 (A1 : Int)]) (plL F nm j ++ [.int .i64 (P1 : Int)]) U4) := h3.out.app2 ho hg (by simpa using hv)
              clear ho hg hv h3 h2
              go_wp2_with fail
              go_roundw
              case rel => exact ⟨j + 1, hjn, by rw [HA1.out], by first | rfl | go_num | simp, HFE.out, by rw [HS1.out.1, HS1.out.2]; exact h4.out⟩
              case measure => simp [intOf]; omega
            · have he : wkE F nm j = 171 := by unfold wkE; rw [if_pos hd, if_neg hp]
              have HE : Hid (RR = 171) := HRR.out.trans ((wkR_step HNA.out HT.out.1 hjn (by rw [he]; decide)).trans he)
              rw [if_neg hp, if_neg hp] at HFI
              have HB : Hid (Below w.heap.size w ((WR.alloc (.cells #[] 3)).alloc (.cells #[] 3))) := (HT.out.2.bl.alloc HT.out.2.bl.size _).alloc (by have := HT.out.2.bl.size; simp; omega) _
              clear k1 k2 k3 k4 hp he hd ht
              generalize F.K (wkA F nm j) = KA at *
              generalize wkA F nm j = A0 at *
              generalize nm j = sj at *
              go_wp2_with fail
              refine HFI.mono ?_
              rintro e w2 ⟨rfl, hw2⟩
              subst w2
              clear HFI c0 hlk
              go_wp2_with fail
              go_ret3
              have e1 := HE.out
              subst e1
              exact RWk.err (by decide) HB.out
        · obtain rfl : j = i := by omega
          have j1 : ¬ ((j : Int) < (j : Int)) := by omega
          have HE : Hid (RR = 0) := HRR.out.trans (wkR_ok HNA.out HT.out.1)
          have HO : Hid (WR.ownsRow w.heap.size 3 1 V1 (j + 1) ((List.range (j + 1)).map fun k => .int .i64 ((wkA F nm k : Nat) : Int)) ∧ WR.ownsRow w.heap.size 3 1 V2 j ((List.range j).map fun k => .int .i64 ((wkP F nm k : Nat) : Int)) ∧ Below w.heap.size w WR) := by
            have h1 := HT.out.2.r1
            have h2 := HT.out.2.r2
            rw [wkL_len] at h1
            rw [plL_len] at h2
            exact ⟨h1, h2, HT.out.2.bl⟩
          clear HT
          go_wp2_with fail
          go_ret3
          have e1 := HE.out
          subst e1
          exact RWk.ok HO.out.1 HO.out.2.1 HO.out.2.2
end Go.Proofs.YtojnlmfahgeidaaGreatDoor

namespace Go.Proofs.YtojnlmfahgeidaaGreatDoor
open Go Go.RowKit
set_option linter.unusedSimpArgs false
set_option linter.unusedVariables false
set_option maxRecDepth 100000 in
set_option maxHeartbeats 16000000 in
theorem findWalksLaw (a : Option Addr) (n c : Nat) (hn : n ≤ 9223372036854775807) (X : Nat → A19) (hX : ∀ i, i < n → (X i).ok) (na : Option Addr) (nn nc : Nat) (hnn : nn ≤ 8796093022200) (nm : Nat → ByteArray) (w : World) (hI : IsA19 w a n X) (hN : IsNm w na nn nm) :
    Calls Tryz.prog 6 #[.slice a n c, .slice na nn nc] w fun e w' => e = .returned (.bool true) ∧ Below w.heap.size w w' := by
  have HB := built19_any a n c hn X hX w hI
  have HN : Hid (∀ V, Below w.heap.size w V → IsNm V na nn nm) := fun V hV => hN.below hV
  have HAW : Hid (∀ V : World, Calls Tryz.prog 32 #[] V fun e w' => e = .returned (.bool true) ∧ Below V.heap.size V w') := awake19_any
  clear hX hI hN
  go_enter Tryz.func6, Tryz.ntmps6
  go_wp2_with fail
  refine HB.mono ?_
  rintro e w1 ⟨x, mf, ml, mc, cp, r, all, F, rfl, hT⟩
  have HT1 : Hid (BT19 w w1 x mf ml mc cp r all F) := hT
  clear HB hT
  go_wp2_with fail
  refine (HAW.out _).mono ?_
  rintro e w2 ⟨rfl, hb2⟩
  have HT2 : Hid (BT19 w w2 x mf ml mc cp r all F) := HT1.out.below hb2
  have H3 := HT2.out.bi.fwalk na nn nc (by omega) nm (HN.out _ HT2.out.bl)
  clear hb2 HT1 HAW
  have HR := wkR_four F nm nn
  have HWW : Hid ((wkR F nm nn = 0 → wkW F nm nn = ((wkA F nm nn : Nat) : Int)) ∧ (wkR F nm nn ≠ 0 → wkW F nm nn = 0)) := ⟨fun h0 => by unfold wkW; rw [if_pos h0], fun h0 => by unfold wkW; rw [if_neg h0]⟩
  generalize wkW F nm nn = WW at HWW H3
  obtain ⟨RR, hRR⟩ : ∃ R, wkR F nm nn = R := ⟨_, rfl⟩
  have HRR : Hid (wkR F nm nn = RR) := hRR
  rw [hRR] at HWW H3 HR
  clear hRR
  go_wp2_with fail
  refine H3.mono ?_
  rintro e w3 ⟨rfl, hb3⟩
  have HT3 : Hid (BT19 w w3 x mf ml mc cp r all F) := HT2.out.below hb3
  have H4 := HT3.out.bi.fchain na nn nc hnn nm (HN.out _ HT3.out.bl)
  rw [HRR.out] at H4
  clear hb3 H3 HT2
  go_wp2_with fail
  refine H4.mono ?_
  rintro e w4 ⟨v1, v2, rfl, ho1, ho2, hb4⟩
  have HT4 : Hid (BT19 w w4 x mf ml mc cp r all F) := HT3.out.below hb4
  have HV : Hid (∃ b1 b2 d1 d2 k1 k2, v1 = .slice b1 k1 d1 ∧ v2 = .slice b2 k2 d2 ∧ k1 = (if RR = 0 then nn + 1 else 0) ∧ k2 = (if RR = 0 then nn else 0) ∧ IsI w4 b1 k1 (wkA F nm) ∧ IsI w4 b2 k2 (wkP F nm)) := by
    by_cases h0 : RR = 0
    · obtain ⟨o1, o2⟩ := ho1 h0
      obtain ⟨b1, d1, rfl, i1⟩ := own_isI o1
      obtain ⟨b2, d2, rfl, i2⟩ := own_isI o2
      exact ⟨b1, b2, d1, d2, _, _, rfl, rfl, by rw [if_pos h0], by rw [if_pos h0], i1, i2⟩
    · obtain ⟨rfl, rfl⟩ := ho2 h0
      exact ⟨none, none, 0, 0, 0, 0, rfl, rfl, by rw [if_neg h0], by rw [if_neg h0], fun j hj => absurd hj (Nat.not_lt_zero _), fun j hj => absurd hj (Nat.not_lt_zero _)⟩
  obtain ⟨b1, b2, d1, d2, k1, k2, rfl, rfl, hk1, hk2, hi1, hi2⟩ := HV.out
  have HK : Hid (k1 = (if RR = 0 then nn + 1 else 0) ∧ k2 = (if RR = 0 then nn else 0) ∧ IsI w4 b1 k1 (wkA F nm) ∧ IsI w4 b2 k2 (wkP F nm)) := ⟨hk1, hk2, hi1, hi2⟩
  have H5 := rwalk_any r F w4 HT4.out.bm (fun n hn => HT4.out.bi.kle hn) (fun nm i h => (HT4.out.bi.wkN h).1) na nn nc hnn nm (HN.out _ HT4.out.bl)
  rw [HRR.out] at H5
  clear ho1 ho2 hb4 HV hk1 hk2 hi1 hi2 H4 HT3
  go_wp2_with fail
  refine H5.mono ?_
  rintro e w5 ⟨a1, a2, m1, m2, c1, c2, rfl, hm1, hm2, hj1, hj2, hb5⟩
  have HB5 : Hid (Below w.heap.size w w5) := (HT4.out.below hb5).bl
  obtain ⟨e1, e2, i1, i2⟩ := HK.out
  have e11 : k1 = m1 := e1.trans hm1.symm
  have e22 : k2 = m2 := e2.trans hm2.symm
  subst e11 e22
  have HS : Hid (IsI w5 b1 k1 (wkA F nm) ∧ IsI w5 b2 k2 (wkP F nm) ∧ IsI w5 a1 k1 (wkA F nm) ∧ IsI w5 a2 k2 (wkP F nm)) := ⟨i1.below hb5, i2.below hb5, hj1, hj2⟩
  have HM : Hid (k1 ≤ 9223372036854775806 ∧ k2 ≤ 9223372036854775806) := ⟨by rw [hm1]; split <;> omega, by rw [hm2]; split <;> omega⟩
  by_cases h0 : RR = 0
  · rw [if_pos h0] at hm1 hm2
    subst h0
    subst hm1
    obtain rfl : nn = k2 := hm2.symm
    have hW := HWW.out.1 rfl
    obtain ⟨g, o, rfl, _, c0⟩ := HS.out.2.2.1 nn (by omega)
    rw [← hW] at c0
    have t1 := ints_any b1 (some ⟨g, o, none⟩) (nn + 1) d1 c1 HM.out.1 (wkA F nm) w5 HS.out.1 HS.out.2.2.1
    have t2 : Hid (∀ k, Calls Tryz.prog 36 #[.slice b2 nn d2, .slice a2 nn c2] (w5.drewN k) fun e w' => e = .returned (.bool true) ∧ ∃ q, w' = (w5.drewN k).drewN q) := fun k => ints_any b2 a2 nn d2 c2 HM.out.2 (wkP F nm) (w5.drewN k) HS.out.2.1 HS.out.2.2.2
    have n1 : (0 : Int) ≤ (nn : Int) := by omega
    clear HWW HR e1 e2 i1 i2 hj1 hj2 hb5 HS HM HK HT4 hW H5
    go_wp2_with fail
    refine t1.mono ?_
    rintro e w6 ⟨rfl, k, rfl⟩
    clear t1
    go_wp2_with fail
    refine (t2.out k).mono ?_
    rintro e w7 ⟨rfl, q, rfl⟩
    have HB7 : Hid (∀ m, Below w.heap.size w (w5.drewN m)) := fun m => below_drewN HB5.out m
    clear t2
    go_wp2_with fail
    go_ret
    exact ⟨rfl, by first | exact HB7.out _ | exact below_drewN (HB7.out _) _⟩
  · rw [if_neg h0] at hm1 hm2
    subst hm1 hm2
    have hW := HWW.out.2 h0
    subst hW
    have t1 := ints_any b1 a1 0 d1 c1 HM.out.1 (wkA F nm) w5 HS.out.1 HS.out.2.2.1
    have t2 : Hid (∀ k, Calls Tryz.prog 36 #[.slice b2 0 d2, .slice a2 0 c2] (w5.drewN k) fun e w' => e = .returned (.bool true) ∧ ∃ q, w' = (w5.drewN k).drewN q) := fun k => ints_any b2 a2 0 d2 c2 HM.out.2 (wkP F nm) (w5.drewN k) HS.out.2.1 HS.out.2.2.2
    clear HWW e1 e2 i1 i2 hj1 hj2 hb5 HS HM HK HT4 H5
    rcases HR with hz | rfl | rfl | rfl
    · exact absurd hz h0
    all_goals
      clear h0
      go_wp2_with fail
      refine t1.mono ?_
      rintro e w6 ⟨rfl, k, rfl⟩
      clear t1
      go_wp2_with fail
      refine (t2.out k).mono ?_
      rintro e w7 ⟨rfl, q, rfl⟩
      have HB7 : Hid (∀ m, Below w.heap.size w (w5.drewN m)) := fun m => below_drewN HB5.out m
      clear t2
      go_wp2_with fail
      go_ret
      exact ⟨rfl, by first | exact HB7.out _ | exact below_drewN (HB7.out _) _⟩
end Go.Proofs.YtojnlmfahgeidaaGreatDoor
