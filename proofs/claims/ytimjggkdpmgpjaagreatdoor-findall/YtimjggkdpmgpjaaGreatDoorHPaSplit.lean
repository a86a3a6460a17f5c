/- Clean and Split, the document's Split. -/
import Derived.Test.YtimjggkdpmgpjaaGreatDoorHPaParts
import Derived.Test.YtimjggkdpmgpjaaGreatDoorHBlkOwn
import Derived.Shelf.Strconv.Clone
import Derived.WalkSmall
import Derived.Maps.AppendAt
import Derived.BigQuiet
import Derived.Deep.QuietTactic
import Derived.Shelf.Strings.OnBuilder
import Derived.Shelf.Slices.Equal
import Derived.Shelf.Slices.Clone
import Derived.Shelf.Slices.Empties2
import Derived.Test.YtimjggkdpmgpjaaGreatDoorProg
import Derived.Lib.FJoinFns

namespace Go.Proofs.YtimjggkdpmgpjaaGreatDoor
open Go Go.RowKit Go.Shelf
set_option linter.unusedVariables false
set_option linter.unusedSimpArgs false
attribute [local go_sem] Oper.semAt_some
theorem prefix_any (s : ByteArray) (w : World) : Calls Tryz.prog 55 #[.string s, .string ⟨#[47]⟩] w fun e w' => e = .returned (.bool (decide (s.data.toList[0]? = some 47))) ∧ w' = w := by
  refine (Any.strings_HasPrefix Tryz.prefixA s ⟨#[47]⟩ w).mono ?_
  rintro e w' ⟨rfl, hw⟩
  refine ⟨?_, hw⟩
  congr 2
  cases h : s.data.toList with
  | nil => rfl
  | cons b l =>
    simp only [Lib.hasPrefix, List.getElem?_cons_zero, Option.some.injEq]
    by_cases hb : b = 47
    · subst hb; rfl
    · have : ((47 : UInt8) == b) = false := by rw [beq_eq_false_iff_ne]; exact fun e => hb e.symm
      simp [List.isPrefixOf, this, hb]
theorem suffix_any (s : ByteArray) (hs : s.size ≤ 9223372036854775807) (w : World) : Calls Tryz.prog 59 #[.string s, .string ⟨#[47]⟩] w fun e w' => e = .returned (.bool (endS s.data.toList)) ∧ w' = w := by
  refine (Any.strings_HasSuffix Tryz.suffixA s ⟨#[47]⟩ w hs).mono ?_
  rintro e w' ⟨rfl, hw⟩
  refine ⟨?_, hw⟩
  congr 2
  unfold endS Lib.hasSuffix
  rw [Bool.eq_iff_iff]
  simp only [List.isSuffixOf_iff_suffix, decide_eq_true_eq]
  rw [List.getLast?_eq_some_iff]
  constructor
  · rintro ⟨t, ht⟩
    exact ⟨t, ht.symm⟩
  · rintro ⟨t, ht⟩
    exact ⟨t, ht.symm⟩
set_option maxHeartbeats 1000000 in
theorem behind_any (a : Option Addr) (n c : Nat) (hn : n ≤ 9223372036854775807) (p : ByteArray) (w : World) : Calls Tryz.prog 57 #[.slice a n c, .string p] w fun e w' => e = .returned (.int .i64 (if isName p.data.toList = true then (if 32 ≤ n then 182 else 0) else 130)) ∧ Below w.heap.size w w' := by
  have HX : Hid (∀ w : World, Calls Tryz.prog 62 #[.string p] w fun e w' => e = .returned (.int .i64 (if isName p.data.toList = true then 0 else 130)) ∧ Below w.heap.size w w') := fun w => qcheck_any p w
  cases hi : isName p.data.toList
  · rw [hi] at HX
    simp only [Bool.false_eq_true, if_false] at HX ⊢
    go_enter Tryz.func57, Tryz.ntmps57
    go_wp2_with fail
    refine (HX.out _).mono ?_
    rintro e w9 ⟨rfl, hw9⟩
    go_wp2_with fail
    go_ret
    exact ⟨rfl, hw9⟩
  · rw [hi] at HX
    simp only [if_true] at HX ⊢
    by_cases h32 : 32 ≤ n
    · rw [if_pos h32]
      have hz : (32 : Int) ≤ (n : Int) := by omega
      go_enter Tryz.func57, Tryz.ntmps57
      go_wp2_with fail
      refine (HX.out _).mono ?_
      rintro e w9 ⟨rfl, hw9⟩
      go_wp2_with fail
      go_ret
      exact ⟨rfl, hw9⟩
    · rw [if_neg h32]
      have hz : ¬ (32 : Int) ≤ (n : Int) := by omega
      go_enter Tryz.func57, Tryz.ntmps57
      go_wp2_with fail
      refine (HX.out _).mono ?_
      rintro e w9 ⟨rfl, hw9⟩
      go_wp2_with fail
      go_ret
      exact ⟨rfl, hw9⟩
theorem paClone_any (s : ByteArray) (hs : s.size ≤ 281474976710656) (w : World) : Calls Tryz.prog 58 #[.string s] w fun e w' => e = .returned (.string s) ∧ Below w.heap.size w w' := by
  have HX : Hid (∀ w : World, Calls Tryz.prog 94 #[.string s] w fun e w' => e = .returned (.string s) ∧ Below w.heap.size w w') := fun w => Any.stringslite_Clone Tryz.cloneA s w hs
  go_enter Tryz.func58, Tryz.ntmps58
  go_wp2_with fail
  refine (HX.out _).mono ?_
  rintro e w9 ⟨rfl, hw9⟩
  go_wp2_with fail
  go_ret
  exact ⟨rfl, hw9⟩
theorem blk_grown {V V' : World} {row : Option Nat} {B g : Nat} {t : TypeId} {cs : Array Value} (h : Blk V g t cs) (hg : V.grownBy V' row) (hr : ∀ r, row = some r → B ≤ r ∧ ∃ o : Obj, V.heap[r]? = some o ∧ o.isCells = false) : Blk V' g t cs :=
  (hg.block g h.lt (fun e => by
    obtain ⟨_, o, ho, hc⟩ := hr g e.symm
    rw [show V.heap[g]? = _ from h] at ho
    cases ho
    cases hc)).trans h
theorem paOwn_grown {V V' : World} {row : Option Nat} {B base n : Nat} {t : TypeId} {v : Value} {xs : List Value} (h : V.ownsRow base t 1 v n xs) (hg : V.grownBy V' row) (hr : ∀ r, row = some r → B ≤ r ∧ ∃ o : Obj, V.heap[r]? = some o ∧ o.isCells = false) : V'.ownsRow base t 1 v n xs := by
  refine h.kept hg ?_
  rcases h.2 with ⟨rfl, _⟩ | ⟨g, cap, cur, rfl, _, hgb, _⟩
  · exact .inl rfl
  · refine .inr fun e' => ?_
    obtain ⟨_, o, ho, hc⟩ := hr g (by simpa [Value.ownBlock] using e'.symm)
    rw [hgb] at ho; cases ho; cases hc
theorem below_grown {w V V' : World} {row : Option Nat} {B b : Nat} (h : Below b w V) (hb : b ≤ B) (hbV : b ≤ V.heap.size) (hg : V.grownBy V' row) (hr : ∀ r, row = some r → B ≤ r ∧ ∃ o : Obj, V.heap[r]? = some o ∧ o.isCells = false) : Below b w V' :=
  h.trans ⟨hg.os, hg.tape, hg.output, hg.size, fun k hk => hg.block k (by omega) (fun e => by
    have := (hr k e.symm).1
    omega)⟩
/-- between two parts -/
def PJ (w : World) (b : Nat) (pre : List (Nat × ByteArray)) (V : World) : Prop :=
  ∃ (N : List ByteArray) (d : Bool) (v : Value), (∀ rest, runP [] false (pre ++ rest) = runP N d rest) ∧ N.length ≤ 32 ∧ Blk V (b + 1 + 1 + 1) 88 #[v, .bool d] ∧ V.ownsRow (b + 5) 9 1 v N.length (N.map Value.string) ∧
    Blk V b 88 #[.slice none 0 0, .bool false] ∧ Blk V (b + 1) 3 #[.int .i64 0] ∧ Blk V (b + 1 + 1) 30 #[.int .i64 0] ∧ Below b w V ∧ b ≤ V.heap.size ∧ b + 5 ≤ V.heap.size
/-- left at a part that is wrong -/
def PX (w : World) (b : Nat) (c : Code) (pre : List (Nat × ByteArray)) (V : World) : Prop :=
  c = .ret ∧ ∃ (i : Nat) (e : Int), (∀ rest, runP [] false (pre ++ rest) = ([], false, i, e)) ∧ e ≠ 0 ∧
    Blk V b 88 #[.slice none 0 0, .bool false] ∧ Blk V (b + 1) 3 #[.int .i64 (i : Int)] ∧ Blk V (b + 1 + 1) 30 #[.int .i64 e] ∧ Below b w V ∧ b ≤ V.heap.size
theorem pj_own (w : World) (b B : Nat) (hb : b ≤ B) : OwnFrom B (PJ w b) := by
  rintro pre V V' row ⟨N, d, v, h1, h2, h3, h4, h5, h6, h7, h8, h9, h10⟩ hg hr
  exact ⟨N, d, v, h1, h2, blk_grown h3 hg hr, paOwn_grown h4 hg hr, blk_grown h5 hg hr, blk_grown h6 hg hr, blk_grown h7 hg hr, below_grown h8 hb h9 hg hr, Nat.le_trans h9 hg.size, Nat.le_trans h10 hg.size⟩
theorem px_own (w : World) (b B : Nat) (hb : b ≤ B) (c : Code) : OwnFrom B (PX w b c) := by
  rintro pre V V' row ⟨hc, i, e, h1, h2, h5, h6, h7, h8, h9⟩ hg hr
  exact ⟨hc, i, e, h1, h2, blk_grown h5 hg hr, blk_grown h6 hg hr, blk_grown h7 hg hr, below_grown h8 hb h9 hg hr, Nat.le_trans h9 hg.size⟩
theorem pj_next {w V : World} {b : Nat} {pre : List (Nat × ByteArray)} {x : Nat × ByteArray} {N N' : List ByteArray} {d d' : Bool} {v' : Value} (hr : ∀ rest, runP [] false (pre ++ rest) = runP N d rest) (hE : badE N x.2 = 0 ∧ nxtN N x.2 = N' ∧ dirP x.2 = d') (hN : N'.length ≤ 32)
    (k3 : Blk V (b + 1 + 1 + 1) 88 #[v', .bool d']) (ho : V.ownsRow (b + 5) 9 1 v' N'.length (N'.map Value.string)) (k0 : Blk V b 88 #[.slice none 0 0, .bool false]) (k1 : Blk V (b + 1) 3 #[.int .i64 0]) (k2 : Blk V (b + 1 + 1) 30 #[.int .i64 0]) (hB : Below b w V) (hs : b + 5 ≤ V.heap.size) : PJ w b (pre ++ [x]) V :=
  ⟨N', d', v', fun rest => by rw [List.append_assoc, List.singleton_append, hr, runP_good hE.1, hE.2.1, hE.2.2], hN, k3, ho, k0, k1, k2, hB, by omega, hs⟩
/-- a cell of one's own block turned -/
theorem own_cell {V : World} {base n g j : Nat} {t : TypeId} {v : Value} {xs : List Value} (h : V.ownsRow base t 1 v n xs) (hg : g < base) (u : Value) : (V.setCell ⟨g, j, none⟩ u).ownsRow base t 1 v n xs :=
  kown_kept h fun k hk _ => Below.heap_setCell _ _ _ k (by show k ≠ g; omega)
theorem kpb_cell {V : World} {g j Bn : Nat} (h : Bn ≠ g) (u : Value) : KpB Bn V (V.setCell ⟨g, j, none⟩ u) := Below.heap_setCell _ _ _ Bn h
theorem keeps_below {W W' : World} (h : Below W.heap.size W W') : KeepsOthers W W' := KeepsOthers.of_grownBy (row := none) ⟨h.os, h.tape, h.output, h.size, fun k hk _ => h.block k hk⟩ (fun j o e => by cases e)
theorem keeps_row {W w1 : World} {v : Value} {n base : Nat} {t : TypeId} {xs : List Value} (hrow : W.ownsRow base t 1 v n xs) (hg : W.grownBy w1 v.ownBlock) : KeepsOthers W w1 := by
  refine KeepsOthers.of_grownBy hg fun j o ej hj => ?_
  rcases hrow.2 with ⟨rfl, _⟩ | ⟨g, cap, cur, rfl, _, hgb, _⟩
  · simp [Value.ownBlock] at ej
  · obtain rfl : g = j := by simpa [Value.ownBlock] using ej
    rw [hgb] at hj; cases hj; rfl
theorem blk_row {W w1 : World} {v : Value} {n base g : Nat} {t t' : TypeId} {xs : List Value} {cs : Array Value} (hrow : W.ownsRow base t 1 v n xs) (hg : W.grownBy w1 v.ownBlock) (h : Blk W g t' cs) (hgb : g < base) : Blk w1 g t' cs :=
  (hg.block g h.lt (fun e => by have := (hrow.lt g e.symm).1; omega)).trans h
theorem below_row {w W w1 : World} {v : Value} {n base b : Nat} {t : TypeId} {xs : List Value} (hrow : W.ownsRow base t 1 v n xs) (hg : W.grownBy w1 v.ownBlock) (h : Below b w W) (hb : b ≤ base) (hbW : b ≤ W.heap.size) : Below b w w1 :=
  h.trans ⟨hg.os, hg.tape, hg.output, hg.size, fun k hk => hg.block k (by omega) (fun e => by have := (hrow.lt k e.symm).1; omega)⟩
theorem infoStr : (Tryz.prog.info? 9).map (fun i => (i.zero, i.size, i.bytes)) = some (some (.string ⟨#[]⟩), 1, 16) := by kernel_rfl
theorem size_cell (V : World) (a : Addr) (u : Value) : V.heap.size ≤ (V.setCell a u).heap.size := (KeepsWalks.setCell V a u).size
/-- what Parse answers -/
def PRet (l : List UInt8) (w : World) (e : Ending) (w' : World) : Prop :=
  ∃ v, e = .returned (.tuple #[.agg #[v, .bool (prs l).2.1], .int .i64 ((prs l).2.2.1 : Int), .int .i64 (prs l).2.2.2]) ∧ w'.ownsRow w.heap.size 9 1 v (prs l).1.length ((prs l).1.map Value.string) ∧ Below w.heap.size w w'
theorem dead_grown {V : World} {D : Nat} {o : Obj} (hK : V.heap[D]? = some o) (hc : o.isCells = false) {B : Nat} (hD : B ≤ D) : ∀ r, (some D : Option Nat) = some r → B ≤ r ∧ ∃ o : Obj, V.heap[r]? = some o ∧ o.isCells = false := fun r e => by
  cases e
  exact ⟨hD, o, hK, hc⟩
theorem pret_of {l : List UInt8} {w W : World} {v : Value} {N : List ByteArray} {d : Bool} {i : Nat} {e : Int} (hp : prs l = (N, d, i, e)) (ho : W.ownsRow w.heap.size 9 1 v N.length (N.map Value.string)) (hb : Below w.heap.size w W) : PRet l w (.returned (.tuple #[.agg #[v, .bool d], .int .i64 (i : Int), .int .i64 e])) W := by
  unfold PRet
  rw [hp]
  exact ⟨v, rfl, ho, hb⟩
set_option maxRecDepth 100000 in
set_option maxHeartbeats 4000000 in
theorem parse_main (s : ByteArray) (h1 : s.size ≤ 1024) (h2 : s.data.toList[0]? = some 47) (w : World) : Calls Tryz.prog 28 #[.string s] w fun e w' => PRet s.data.toList w e w' := by
  have HPr : Hid (prs s.data.toList = (if (runP [] false (pts s.data.toList 0)).2.2.2 = 0 then ((runP [] false (pts s.data.toList 0)).1, (runP [] false (pts s.data.toList 0)).2.1 || endS s.data.toList, 0, 0) else ([], false, (runP [] false (pts s.data.toList 0)).2.2.1, (runP [] false (pts s.data.toList 0)).2.2.2))) := by
    show prs _ = _
    unfold prs
    rw [if_neg (by rw [← Lib.size_eq]; omega), if_pos h2]
  refine (callsIn_wide (n := 4)).1 ?_
  refine callsIn_of_wp_marks Tryz.func28 rfl trivial ?_ rfl
  simp only [Tryz.ntmps28, List.size_toArray, List.length_cons, List.length_nil, Nat.reduceAdd, Nat.reduceSub, Array.replicate_succ, Array.replicate_zero, List.push_toArray, List.append_toArray, List.nil_append, List.cons_append]
  have hz : (s.size : Int) ≤ 1024 := by omega
  have HX : Hid (∀ w : World, Calls Tryz.prog 55 #[.string s, .string ⟨#[47]⟩] w fun e w' => e = .returned (.bool true) ∧ w' = w) := fun w => by
    have := prefix_any s w
    rwa [h2, decide_eq_true rfl] at this
  gi_wp2
  refine ⟨trivial, ?_⟩
  refine (callsIn_wide.2 (HX.out _)).mono ?_
  rintro e w9 ⟨rfl, hw9⟩
  subst w9
  gi_wp2
  refine ⟨trivial, ?_⟩
  refine (parts_in s _).mono ?_
  rintro e w9 ⟨rfl, hw9⟩
  subst w9
  gi_wp2
  obtain ⟨W0, hW0⟩ : ∃ W0, (((((w.alloc (.cells #[.slice none 0 0, .bool false] 88)).alloc (.cells #[.int .i64 0] 3)).alloc (.cells #[.int .i64 0] 30)).alloc (.cells #[.slice none 0 0, .bool false] 88)).alloc (.cells #[.string s] 9)) = W0 := ⟨_, rfl⟩
  have hB0 : Below w.heap.size w W0 := by rw [← hW0]; exact (((((Below.refl _ w).alloc (Nat.le_refl _) _).alloc (by simp) _).alloc (by simp; omega) _).alloc (by simp; omega) _).alloc (by simp; omega) _
  have z0 : W0.heap.size = w.heap.size + 1 + 1 + 1 + 1 + 1 := by rw [← hW0]; simp
  have k0 : Blk W0 w.heap.size 88 #[.slice none 0 0, .bool false] := by rw [← hW0]; exact ((((Blk.new w _ _).alloc _).alloc _).alloc _).alloc _
  have k1 : Blk W0 (w.heap.size + 1) 3 #[.int .i64 0] := by
    rw [← hW0]
    have := Blk.new (w.alloc (.cells #[.slice none 0 0, .bool false] 88)) 3 #[.int .i64 0]
    rw [World.size_alloc] at this
    exact ((this.alloc _).alloc _).alloc _
  have k2 : Blk W0 (w.heap.size + 1 + 1) 30 #[.int .i64 0] := by
    rw [← hW0]
    have := Blk.new ((w.alloc (.cells #[.slice none 0 0, .bool false] 88)).alloc (.cells #[.int .i64 0] 3)) 30 #[.int .i64 0]
    rw [World.size_alloc, World.size_alloc] at this
    exact (this.alloc _).alloc _
  have k3 : Blk W0 (w.heap.size + 1 + 1 + 1) 88 #[.slice none 0 0, .bool false] := by
    rw [← hW0]
    have := Blk.new (((w.alloc (.cells #[.slice none 0 0, .bool false] 88)).alloc (.cells #[.int .i64 0] 3)).alloc (.cells #[.int .i64 0] 30)) 88 #[.slice none 0 0, .bool false]
    rw [World.size_alloc, World.size_alloc, World.size_alloc] at this
    exact this.alloc _
  have k4 : Boxed W0 (w.heap.size + 1 + 1 + 1 + 1) 9 (.string s) := by
    rw [← hW0]
    have := Boxed.new ((((w.alloc (.cells #[.slice none 0 0, .bool false] 88)).alloc (.cells #[.int .i64 0] 3)).alloc (.cells #[.int .i64 0] 30)).alloc (.cells #[.slice none 0 0, .bool false] 88)) 9 (.string s)
    rw [World.size_alloc, World.size_alloc, World.size_alloc, World.size_alloc] at this
    exact this
  rw [hW0]
  clear hW0
  refine wpIn_rangeFunc_ownF rfl (by decide) (gf := 92) (lb := #[.pointer (some ⟨w.heap.size + 1 + 1 + 1 + 1, 0, none⟩)]) rfl trivial (enters_of Tryz.func92 (by kernel_rfl) rfl)
    (parts_stops (w.heap.size + 1 + 1 + 1 + 1) s (by omega) W0 k4) (fun h k => k.trans h)
    (fun W l o o' hl ho h1 h2 => by
      show (W.putObj l o').heap[_]? = _
      exact World.putObj_heap_other (by omega)) (Below.refl _ _) (fun _ => rfl)
    (PJ w w.heap.size) (PX w w.heap.size) (pj_own w _ _ hB0.size) (px_own w _ _ hB0.size)
    ⟨[], false, .slice none 0 0, fun _ => rfl, by simp, k3, World.ownsRow_nil _ _ _ _, k0, k1, k2, hB0, hB0.size, by omega⟩
    (fun x => { tmps := #[.string s, undef, .pointer (some ⟨w.heap.size, 0, none⟩), .pointer (some ⟨w.heap.size + 1, 0, none⟩), .pointer (some ⟨w.heap.size + 1 + 1, 0, none⟩), .pointer (some ⟨w.heap.size + 1 + 1 + 1, 0, none⟩), .int .i64 (x.1 : Int), .string x.2, undef, .string s, .int .i64 (s.size : Int), .bool (decide (1024 < (s.size : Int))), undef, .string s, .bool true, .bool false, undef, .string s, .func (.func 92) #[] #[.pointer (some ⟨w.heap.size + 1 + 1 + 1 + 1, 0, none⟩)], .int .i64 (x.1 : Int), .string x.2, undef, undef, undef, undef, undef, undef, undef, undef, undef, undef, undef, undef, undef, undef, undef, undef, undef, undef, undef, undef, undef, undef, undef, undef, undef, undef, undef, undef, undef, undef, undef, undef, undef, undef, undef, undef, undef, undef, undef, undef, undef, undef, undef, undef, undef], defers := [] }) ?assign ?body ?done ?stop
  case assign =>
    intro l x V K hK
    dsimp only [encP]
    gi_wp2
    exact hK
  case body =>
    rintro l pre x V ⟨N, d, v, g1, g2, g3, g4, g5, g6, g7, g8, g9, g10⟩ _
    have HI : Hid (_ ∧ _ ∧ _ ∧ _ ∧ _ ∧ _) := ⟨g1, g4, g5, g6, g7, g8⟩
    have c0 := g3.cell 0
    have c1 := g3.cell 1
    have f0 := g3.frozen 0
    have f1 := g3.frozen 1
    clear k0 k1 k2 k3 k4 hB0 g1 g4 g5 g6 g7 g8
    have htl : x.2.toList = x.2.data.toList := Lib.toList_data x.2
    by_cases q1 : x.2.data.toList = [46]
    · have t1 : x.2.toList = [46] := htl.trans q1
      have eb : badE N x.2 = 0 := by unfold badE; rw [if_pos q1]
      have en : nxtN N x.2 = N := by unfold nxtN; rw [if_pos q1]
      have ed : dirP x.2 = true := by unfold dirP; rw [decide_eq_true q1]; rfl
      have HE : Hid (_ ∧ _ ∧ _) := ⟨eb, en, ed⟩
      have HG : Hid (Blk V (w.heap.size + 1 + 1 + 1) 88 #[v, .bool d]) := g3
      clear eb en ed htl q1 g3
      gi_wp2
      obtain ⟨g1, g4, g5, g6, g7, g8⟩ := HI.out
      exact ⟨KeepsOthers.setCell _ _ _, kpb_cell (by omega) _, pj_next g1 HE.out g2 (HG.out.put 1 _) (own_cell g4 (by omega) _) (g5.put_other _ _ (by omega)) (g6.put_other _ _ (by omega)) (g7.put_other _ _ (by omega)) (g8.setCell (p := ⟨w.heap.size + 1 + 1 + 1, 1, none⟩) (by show w.heap.size ≤ w.heap.size + 1 + 1 + 1; omega) _) (Nat.le_trans g10 (size_cell _ _ _))⟩
    by_cases q2 : x.2.data.toList = [46, 46]
    · have t1 : ¬ x.2.toList = [46] := by rw [htl]; exact q1
      have t2 : x.2.toList = [46, 46] := htl.trans q2
      have eb : badE N x.2 = 0 := by unfold badE; rw [if_neg q1, if_pos q2]
      have en : nxtN N x.2 = N.dropLast := by unfold nxtN; rw [if_neg q1, if_pos q2]
      have ed : dirP x.2 = true := by unfold dirP; rw [decide_eq_true q2]; simp
      have HE : Hid (_ ∧ _ ∧ _) := ⟨eb, en, ed⟩
      have HG : Hid (Blk V (w.heap.size + 1 + 1 + 1) 88 #[v, .bool d]) := g3
      have HG1 := g3.put 1 (.bool true)
      have c01 := HG1.cell 0
      have f01 := HG1.frozen 0
      clear eb en ed htl q1 q2 g3
      rcases List.eq_nil_or_concat N with rfl | ⟨M, y, rfl⟩
      · obtain ⟨a, cap, rfl⟩ := kown_slice HI.out.2.1
        clear HG1
        gi_wp2
        obtain ⟨g1, g4, g5, g6, g7, g8⟩ := HI.out
        rw [show (max (-1 : Int) 0).toNat = 0 from rfl]
        exact ⟨(KeepsOthers.setCell _ _ _).trans (KeepsOthers.setCell _ _ _), (kpb_cell (by omega) _).trans (kpb_cell (by omega) _), pj_next g1 HE.out (by simp) ((HG.out.put 1 _).put 0 _) (own_cell (own_cell g4 (by omega) _) (by omega) _) ((g5.put_other _ _ (by omega)).put_other _ _ (by omega)) ((g6.put_other _ _ (by omega)).put_other _ _ (by omega)) ((g7.put_other _ _ (by omega)).put_other _ _ (by omega)) ((g8.setCell (p := ⟨w.heap.size + 1 + 1 + 1, 1, none⟩) (by show w.heap.size ≤ w.heap.size + 1 + 1 + 1; omega) _).setCell (p := ⟨w.heap.size + 1 + 1 + 1, 0, none⟩) (by show w.heap.size ≤ w.heap.size + 1 + 1 + 1; omega) _) (Nat.le_trans (Nat.le_trans g10 (size_cell _ _ _)) (size_cell _ _ _))⟩
      · rw [List.concat_eq_append] at *
        have hlen : (M ++ [y]).length = M.length + 1 := by simp
        have h4 := HI.out.2.1
        rw [hlen, List.map_append] at h4
        obtain ⟨g, cap, rfl⟩ := ownsRow_succ h4
        have HP : Hid (V.ownsRow (w.heap.size + 5) 9 1 (.slice (some ⟨g, 0, none⟩) M.length cap) M.length (M.map Value.string)) := ownsRow_pop (by simp) h4
        have hmc : M.length + 1 ≤ cap := by
          rcases h4.2 with ⟨h, _⟩ | ⟨g', cap', cur, hv, _, _, hn, _⟩
          · cases h
          · cases hv; exact hn
        have hm32 : M.length ≤ 32 := by rw [hlen] at g2; omega
        rw [List.dropLast_concat] at HE
        clear HG1 h4 g2
        obtain ⟨m, hm⟩ : ∃ m, M.length = m := ⟨_, rfl⟩
        rw [hm] at hm32 hmc c0 c1 c01 HG HP
        have HM : Hid (M.length = m) := hm
        have HI2 : Hid (_ ∧ _ ∧ _ ∧ _ ∧ _) := ⟨HI.out.1, HI.out.2.2.1, HI.out.2.2.2.1, HI.out.2.2.2.2.1, HI.out.2.2.2.2.2⟩
        clear hm hlen HI
        have hmx : max ((m : Int) + 1 - 1) 0 = (m : Int) := by omega
        have hmy : max (m : Int) 0 = (m : Int) := by omega
        gi_wp2
        obtain ⟨g1, g5, g6, g7, g8⟩ := HI2.out
        refine ⟨(KeepsOthers.setCell _ _ _).trans (KeepsOthers.setCell _ _ _), (kpb_cell (by omega) _).trans (kpb_cell (by omega) _), pj_next g1 HE.out (by rw [HM.out]; exact hm32) ((HG.out.put 1 _).put 0 _) (by rw [HM.out]; exact own_cell (own_cell HP.out (by omega) _) (by omega) _) ((g5.put_other _ _ (by omega)).put_other _ _ (by omega)) ((g6.put_other _ _ (by omega)).put_other _ _ (by omega)) ((g7.put_other _ _ (by omega)).put_other _ _ (by omega)) ((g8.setCell (p := ⟨w.heap.size + 1 + 1 + 1, 1, none⟩) (by show w.heap.size ≤ w.heap.size + 1 + 1 + 1; omega) _).setCell (p := ⟨w.heap.size + 1 + 1 + 1, 0, none⟩) (by show w.heap.size ≤ w.heap.size + 1 + 1 + 1; omega) _) (Nat.le_trans (Nat.le_trans g10 (size_cell _ _ _)) (size_cell _ _ _))⟩
    · have t1 : ¬ x.2.toList = [46] := by rw [htl]; exact q1
      have t2 : ¬ x.2.toList = [46, 46] := by rw [htl]; exact q2
      have t1b : (x.2.toList == [46]) = false := by rw [beq_eq_false_iff_ne]; exact t1
      have t2b : (x.2.toList == [46, 46]) = false := by rw [beq_eq_false_iff_ne]; exact t2
      have ed : dirP x.2 = false := by unfold dirP; rw [decide_eq_false q1, decide_eq_false q2]; rfl
      have HC : Hid (badE N x.2 = (if isName x.2.data.toList = true then (if 32 ≤ N.length then 182 else 0) else 130)) := by
        show badE N x.2 = _
        unfold badE
        simp only [if_neg q1, if_neg q2]
      have en : nxtN N x.2 = N ++ [x.2] := by unfold nxtN; rw [if_neg q1, if_neg q2]
      have HG : Hid (Blk V (w.heap.size + 1 + 1 + 1) 88 #[v, .bool d]) := g3
      have HG1 := g3.put 1 (.bool false)
      have c01 := HG1.cell 0
      have f01 := HG1.frozen 0
      clear htl q1 q2 g3
      obtain ⟨a, cap, rfl⟩ := kown_slice HI.out.2.1
      have HBh : Hid (∀ w : World, Calls Tryz.prog 57 #[.slice a N.length cap, .string x.2] w fun e w' => e = .returned (.int .i64 (badE N x.2)) ∧ Below w.heap.size w w') := fun w => by
        have := behind_any a N.length cap (by omega) x.2 w
        rwa [← HC.out] at this
      by_cases hb : badE N x.2 = 0
      · have hnm : isName x.2.data.toList = true ∧ N.length < 32 := by
          have := HC.out.symm.trans hb
          by_cases hi : isName x.2.data.toList = true
          · rw [if_pos hi] at this
            by_cases h3 : 32 ≤ N.length
            · rw [if_pos h3] at this; exact absurd this (by decide)
            · exact ⟨hi, by omega⟩
          · rw [if_neg hi] at this; exact absurd this (by decide)
        have hxs : x.2.size ≤ 56 := by rw [Lib.size_eq]; exact (isName_len hnm.1).2
        have hn32 := hnm.2
        have HCl : Hid (∀ w : World, Calls Tryz.prog 58 #[.string x.2] w fun e w' => e = .returned (.string x.2) ∧ Below w.heap.size w w') := fun w => paClone_any x.2 (by omega) w
        have HE : Hid (badE N x.2 = 0 ∧ nxtN N x.2 = N ++ [x.2] ∧ dirP x.2 = false) := ⟨hb, en, ed⟩
        have HI2 : Hid (_ ∧ _ ∧ _ ∧ _ ∧ _ ∧ _ ∧ _) := ⟨HI.out.1, (HI.out.2.2.1.put_other (g := w.heap.size + 1 + 1 + 1) 1 (.bool false) (by omega)), (HI.out.2.2.2.1.put_other (g := w.heap.size + 1 + 1 + 1) 1 (.bool false) (by omega)), (HI.out.2.2.2.2.1.put_other (g := w.heap.size + 1 + 1 + 1) 1 (.bool false) (by omega)), HI.out.2.2.2.2.2.setCell (p := ⟨w.heap.size + 1 + 1 + 1, 1, none⟩) (by show w.heap.size ≤ w.heap.size + 1 + 1 + 1; omega) (.bool false), HG1, own_cell (j := 1) HI.out.2.1 (g := w.heap.size + 1 + 1 + 1) (by omega) (.bool false)⟩
        have hKO : KeepsOthers V (V.setCell ⟨w.heap.size + 1 + 1 + 1, 1, none⟩ (.bool false)) := KeepsOthers.setCell _ _ _
        have hKB : KpB (w.heap.size + 1 + 1 + 1 + 1) V (V.setCell ⟨w.heap.size + 1 + 1 + 1, 1, none⟩ (.bool false)) := kpb_cell (by omega) _
        have hsz := Nat.le_trans g9 (size_cell V ⟨w.heap.size + 1 + 1 + 1, 1, none⟩ (.bool false))
        have hB4 : w.heap.size + 1 + 1 + 1 + 1 < (V.setCell ⟨w.heap.size + 1 + 1 + 1, 1, none⟩ (.bool false)).heap.size := by rw [World.size_setCell]; exact g10
        rw [hb] at HBh
        clear HG HG1 HI HC g9 hb en ed hnm
        gi_wp2
        refine ⟨trivial, ?_⟩
        refine (CallsIn.inRound l (callsIn_wide.2 (HBh.out _))).mono ?_
        rintro e W9 ⟨rfl, hW9⟩
        obtain ⟨g1, g5, g6, g7, g8, g3, g4⟩ := HI2.out
        generalize V.setCell ⟨w.heap.size + 1 + 1 + 1, 1, none⟩ (.bool false) = V1 at *
        have m5 := g5.below hW9 g5.lt
        have m6 := g6.below hW9 g6.lt
        have m7 := g7.below hW9 g7.lt
        have m8 := g8.trans (hW9.mono hsz)
        have m3 := g3.below hW9 g3.lt
        have m4 := kown_below g4 hW9
        have hKO9 := hKO.trans (keeps_below hW9)
        clear c0 c1 f0 f1 c01 f01 g1 g4 g5 g6 g7 g8 g3
        gi_wp2
        have hK9 : W9.heap[w.heap.size + 1 + 1 + 1 + 1]? = V.heap[w.heap.size + 1 + 1 + 1 + 1]? := (hW9.block _ hB4).trans hKB
        have h5 : w.heap.size + 5 ≤ W9.heap.size := Nat.le_trans hB4 hW9.size
        have m3c := m3.cell 0
        refine wpIn_region_partsS (fun U => Below W9.heap.size W9 U) [([2], 0, true), ([], 1, true), ([], 3, false), ([], 4, false)] [] [5, 6, 7] (by kernel_rfl) (by kernel_rfl) (by kernel_rfl) (Below.refl _ _).drew (partsI_yield ?_)
        simp only [List.cons_append, List.nil_append, List.append_nil, List.filterMap_cons, List.filterMap_nil, List.getElem?_toArray, List.getElem?_cons_zero, List.getElem?_cons_succ]
        go_wp2_with fail
        refine ⟨rfl, _, .pointer (some ⟨w.heap.size + 1 + 1 + 1, 0, none⟩), rfl, Or.inl ⟨by rfl, fun U hU => by go_simp⟩, partsI_yield ?_⟩
        simp only [Act.put, List.setIfInBounds_toArray, List.set_cons_zero, List.set_cons_succ]
        simp only [List.cons_append, List.nil_append, List.append_nil, List.filterMap_cons, List.filterMap_nil, List.getElem?_toArray, List.getElem?_cons_zero, List.getElem?_cons_succ]
        go_wp2_with fail
        refine ⟨rfl, _, .slice a N.length cap, rfl, Or.inl ⟨by rfl, fun U hU => by have c1 := (m3.below hU m3.lt).cell 0; go_simp⟩, partsI_force ?_⟩
        simp only [Act.put, List.setIfInBounds_toArray, List.set_cons_zero, List.set_cons_succ]
        simp only [List.cons_append, List.nil_append, List.append_nil, List.filterMap_cons, List.filterMap_nil, List.getElem?_toArray, List.getElem?_cons_zero, List.getElem?_cons_succ]
        go_wp2_with fail
        refine (HCl.out _).mono ?_
        rintro e U1 ⟨rfl, hU1⟩
        have hb1 : Below W9.heap.size W9 U1 := (Below.refl _ W9).drew.trans hU1
        go_wp2_with fail
        refine ⟨rfl, hb1, partsI_force ?_⟩
        simp only [List.cons_append, List.nil_append, List.append_nil, List.filterMap_cons, List.filterMap_nil, List.getElem?_toArray, List.getElem?_cons_zero, List.getElem?_cons_succ]
        go_wp2_with fail
        refine ⟨rfl, hb1.alloc hb1.size _, partsI_last ?_⟩
        simp only [List.cons_append, List.nil_append, List.append_nil, List.filterMap_cons, List.filterMap_nil, List.getElem?_toArray, List.getElem?_cons_zero, List.getElem?_cons_succ]
        have hb2 := hb1.alloc hb1.size (.cells #[.string x.2] 9)
        have HOWN : Hid ((U1.alloc (.cells #[.string x.2] 9)).ownsRow (w.heap.size + 5) 9 1 (.slice a N.length cap) N.length (N.map Value.string)) := kown_below m4 hb2
        have hUs : w.heap.size + 5 ≤ (U1.alloc (.cells #[.string x.2] 9)).heap.size := Nat.le_trans h5 hb2.size
        obtain ⟨i0, hi, hz0, hz1, hz2⟩ := info_parts infoStr
        have hnew := cell_one_new U1 (.string x.2) 9
        refine wpList_append_own _ rfl _ _ 33 rfl (w.heap.size + 5) 9 i0 (.string ⟨#[]⟩) 1 16 Tryz.underlying33 hi hz0 hz1 hz2 rfl (by decide) _ _ _ rfl HOWN.out ⟨U1.heap.size, 0, none⟩ 1 1 [.string x.2] rfl rfl hnew (fun y hy => by simp at hy; subst hy; rfl) (by unfold maxLen; omega) (by omega) hUs ?_
        rintro v' w1 hown' hgrow -
        obtain ⟨g', cap', rfl⟩ := ownsRow_succ hown'
        have j3 := blk_row HOWN.out hgrow (m3.below hb2 m3.lt) (by omega)
        have j5 := blk_row HOWN.out hgrow (m5.below hb2 m5.lt) (by omega)
        have j6 := blk_row HOWN.out hgrow (m6.below hb2 m6.lt) (by omega)
        have j7 := blk_row HOWN.out hgrow (m7.below hb2 m7.lt) (by omega)
        have j8 := below_row HOWN.out hgrow (m8.trans (hb2.mono (by omega))) (by omega) (by omega)
        have jK : w1.heap[w.heap.size + 1 + 1 + 1 + 1]? = V.heap[w.heap.size + 1 + 1 + 1 + 1]? := ((hgrow.block _ (by omega) (fun e => by have := (HOWN.out.lt _ e.symm).1; omega)).trans (hb2.block _ (by omega))).trans hK9
        have jO := (hKO9.trans (keeps_below hb2)).trans (keeps_row HOWN.out hgrow)
        have jS : w.heap.size + 5 ≤ w1.heap.size := Nat.le_trans hUs hgrow.size
        have jc := j3.cell 0
        have jf := j3.frozen 0
        have HJ : Hid (_ ∧ _ ∧ _ ∧ _ ∧ _ ∧ _ ∧ _ ∧ _ ∧ _) := ⟨j3, j5, j6, j7, j8, jK, jO, jS, hown'⟩
        clear j3 j5 j6 j7 j8 jK jO hown' hgrow hnew HOWN hb2 m3 m4 m5 m6 m7 m8 m3c hKO9 hKO
        go_wp2_with fail
        obtain ⟨j3, j5, j6, j7, j8, jK, jO, jS, hown'⟩ := HJ.out
        refine ⟨rfl, ?_⟩
        exact ⟨jO.trans (KeepsOthers.setCell _ _ _), (kpb_cell (by omega) _).trans jK, pj_next HI2.out.1 HE.out (by simp; omega) (j3.put 0 _) (by rw [List.length_append, List.map_append]; exact own_cell hown' (by omega) _) (j5.put_other _ _ (by omega)) (j6.put_other _ _ (by omega)) (j7.put_other _ _ (by omega)) (j8.setCell (p := ⟨w.heap.size + 1 + 1 + 1, 0, none⟩) (by show w.heap.size ≤ w.heap.size + 1 + 1 + 1; omega) _) (Nat.le_trans jS (size_cell _ _ _))⟩
      · have HE : Hid (badE N x.2 ≠ 0) := hb
        have HI2 : Hid (_ ∧ _ ∧ _ ∧ _ ∧ _) := ⟨HI.out.1, (HI.out.2.2.1.put_other (g := w.heap.size + 1 + 1 + 1) 1 (.bool false) (by omega)), (HI.out.2.2.2.1.put_other (g := w.heap.size + 1 + 1 + 1) 1 (.bool false) (by omega)), (HI.out.2.2.2.2.1.put_other (g := w.heap.size + 1 + 1 + 1) 1 (.bool false) (by omega)), HI.out.2.2.2.2.2.setCell (p := ⟨w.heap.size + 1 + 1 + 1, 1, none⟩) (by show w.heap.size ≤ w.heap.size + 1 + 1 + 1; omega) (.bool false)⟩
        have hKO : KeepsOthers V (V.setCell ⟨w.heap.size + 1 + 1 + 1, 1, none⟩ (.bool false)) := KeepsOthers.setCell _ _ _
        have hsz := Nat.le_trans g9 (size_cell V ⟨w.heap.size + 1 + 1 + 1, 1, none⟩ (.bool false))
        have HR : Hid (∀ rest, runP [] false (pre ++ [x] ++ rest) = ([], false, x.1, badE N x.2)) := fun rest => by rw [List.append_assoc, List.singleton_append, HI.out.1, runP_bad hb]
        generalize badE N x.2 = z at *
        clear HG HG1 HI HC g9
        gi_wp2
        refine ⟨trivial, ?_⟩
        refine (CallsIn.inRound l (callsIn_wide.2 (HBh.out _))).mono ?_
        rintro e W9 ⟨rfl, hW9⟩
        obtain ⟨g1, g5, g6, g7, g8⟩ := HI2.out
        generalize V.setCell ⟨w.heap.size + 1 + 1 + 1, 1, none⟩ (.bool false) = V1 at *
        have m5 := g5.below hW9 (by have := g5.lt; exact this)
        have m6 := g6.below hW9 (by have := g6.lt; exact this)
        have m7 := g7.below hW9 (by have := g7.lt; exact this)
        have m8 := g8.trans (hW9.mono hsz)
        have p00 := m5.cell 0
        have p01 := m5.cell 1
        have p10 := m6.cell 0
        have p20 := m7.cell 0
        have r00 := m5.frozen 0
        have r01 := m5.frozen 1
        have r10 := m6.frozen 0
        have r20 := m7.frozen 0
        gi_wp2
        refine ⟨((((hKO.trans (keeps_below hW9)).trans (KeepsOthers.setCell _ _ _)).trans (KeepsOthers.setCell _ _ _)).trans (KeepsOthers.setCell _ _ _)).trans (KeepsOthers.setCell _ _ _), rfl, x.1, z, fun rest => ?_, HE.out, ((((m5.put 0 _).put 1 _).put_other _ _ (by omega)).put_other _ _ (by omega)), ((((m6.put_other _ _ (by omega)).put_other _ _ (by omega)).put 0 _).put_other _ _ (by omega)), ((((m7.put_other _ _ (by omega)).put_other _ _ (by omega)).put_other _ _ (by omega)).put 0 _), (((m8.setCell (p := ⟨w.heap.size, 0, none⟩) (Nat.le_refl _) _).setCell (p := ⟨w.heap.size, 1, none⟩) (Nat.le_refl _) _).setCell (p := ⟨w.heap.size + 1, 0, none⟩) (Nat.le_succ _) _).setCell (p := ⟨w.heap.size + 1 + 1, 0, none⟩) (by show w.heap.size ≤ w.heap.size + 1 + 1; omega) _, ?_⟩
        · exact HR.out rest
        · have := hW9.size
          simp only [World.size_setCell]
          omega
  case done =>
    rintro D ys V hD rfl ⟨N, d, v, g1, g2, g3, g4, g5, g6, g7, g8, g9, g10⟩ hK
    have hr := g1 []
    rw [List.append_nil] at hr
    have HR : Hid (prs s.data.toList = (N, d || endS s.data.toList, 0, 0)) := by
      show prs _ = _
      rw [HPr.out, hr]
      simp [runP]
    have HSf : Hid (∀ w : World, Calls Tryz.prog 59 #[.string s, .string ⟨#[47]⟩] w fun e w' => e = .returned (.bool (endS s.data.toList)) ∧ w' = w) := fun w => suffix_any s (by omega) w
    obtain ⟨a, cap, rfl⟩ := kown_slice g4
    obtain ⟨z, hz9⟩ : ∃ z, (d || endS s.data.toList) = z := ⟨_, rfl⟩
    rw [hz9] at HR
    have main : ∃ Vf, Vf = ((((V.setCell ⟨w.heap.size + 1 + 1 + 1, 1, none⟩ (.bool z)).setCell ⟨w.heap.size, 0, none⟩ (.slice a N.length cap)).setCell ⟨w.heap.size, 1, none⟩ (.bool z)).setCell ⟨w.heap.size + 1, 0, none⟩ (.int .i64 0)).setCell ⟨w.heap.size + 1 + 1, 0, none⟩ (.int .i64 0) ∧ Hid (Blk Vf w.heap.size 88 #[.slice a N.length cap, .bool z] ∧ Blk Vf (w.heap.size + 1) 3 #[.int .i64 0] ∧ Blk Vf (w.heap.size + 1 + 1) 30 #[.int .i64 0] ∧ Vf.ownsRow (w.heap.size + 5) 9 1 (.slice a N.length cap) N.length (N.map Value.string) ∧ Below w.heap.size w Vf ∧ Vf.heap[D]? = some (.deferred (some []))) := by
      refine ⟨_, rfl, ?_, ?_, ?_, ?_, ?_, ?_⟩
      · exact ((((g5.put_other _ _ (by omega)).put 0 _).put 1 _).put_other _ _ (by omega)).put_other _ _ (by omega)
      · exact ((((g6.put_other _ _ (by omega)).put_other _ _ (by omega)).put_other _ _ (by omega)).put 0 _).put_other _ _ (by omega)
      · exact ((((g7.put_other _ _ (by omega)).put_other _ _ (by omega)).put_other _ _ (by omega)).put_other _ _ (by omega)).put 0 _
      · exact own_cell (own_cell (own_cell (own_cell (own_cell g4 (by omega) _) (by omega) _) (by omega) _) (by omega) _) (by omega) _
      · exact ((((g8.setCell (p := ⟨w.heap.size + 1 + 1 + 1, 1, none⟩) (by show w.heap.size ≤ w.heap.size + 1 + 1 + 1; omega) _).setCell (p := ⟨w.heap.size, 0, none⟩) (Nat.le_refl _) _).setCell (p := ⟨w.heap.size, 1, none⟩) (Nat.le_refl _) _).setCell (p := ⟨w.heap.size + 1, 0, none⟩) (Nat.le_succ _) _).setCell (p := ⟨w.heap.size + 1 + 1, 0, none⟩) (by show w.heap.size ≤ w.heap.size + 1 + 1; omega) _
      · exact (((((KeepsOthers.setCell _ _ _).trans (KeepsOthers.setCell _ _ _)).trans (KeepsOthers.setCell _ _ _)).trans (KeepsOthers.setCell _ _ _)).trans (KeepsOthers.setCell _ _ _)).same D _ hK rfl
    have q3 := g3.cell 1
    have q3f := g3.frozen 1
    have y5 := g5.put_other (g := w.heap.size + 1 + 1 + 1) 1 (.bool z) (by omega)
    have y6 := g6.put_other (g := w.heap.size + 1 + 1 + 1) 1 (.bool z) (by omega)
    have y7 := g7.put_other (g := w.heap.size + 1 + 1 + 1) 1 (.bool z) (by omega)
    have y3 := g3.put 1 (.bool z)
    have a0 := y3.cell 0
    have a1 := y3.cell 1
    have a2 := y5.cell 0
    have a3 := y5.cell 1
    have a4 := y6.cell 0
    have a5 := y7.cell 0
    have b2 := y5.frozen 0
    have b3 := y5.frozen 1
    have b4 := y6.frozen 0
    have b5 := y7.frozen 0
    clear k0 k1 k2 k3 k4 hB0 y3 y5 y6 y7 g1 hr HX h2
    obtain ⟨Vf, hVf, HVf⟩ := main
    clear g3 g4 g5 g6 g7 g8 g9 g10 hK
    have END : Hid (PRet s.data.toList w (.returned (.tuple #[.agg #[.slice a N.length cap, .bool z], .int .i64 ((0 : Nat) : Int), .int .i64 0])) (Vf.putObj D (.deferred none))) := by
      obtain ⟨e1, e2, e3, e4, e5, e6⟩ := HVf.out
      exact pret_of HR.out (kown_mono (ownsRow_putObj e4 _ e6 rfl) (by omega)) (below_grown (B := W0.heap.size) e5 (by omega) e5.size (grownBy_putObj' _ D _) (dead_grown e6 rfl hD))
    obtain ⟨e1, e2, e3, e4, e5, e6⟩ := HVf.out
    have r0 := (blk_grown (B := W0.heap.size) e1 (grownBy_putObj' _ D (.deferred none)) (dead_grown e6 rfl hD)).cell 0
    have r1 := (blk_grown (B := W0.heap.size) e1 (grownBy_putObj' _ D (.deferred none)) (dead_grown e6 rfl hD)).cell 1
    have r2 := (blk_grown (B := W0.heap.size) e2 (grownBy_putObj' _ D (.deferred none)) (dead_grown e6 rfl hD)).cell 0
    have r3 := (blk_grown (B := W0.heap.size) e3 (grownBy_putObj' _ D (.deferred none)) (dead_grown e6 rfl hD)).cell 0
    have HRT : Hid (_ ∧ _ ∧ _ ∧ _) := ⟨r0, r1, r2, r3⟩
    clear e1 e2 e3 e4 e5 HVf r0 r1 r2 r3
    cases d
    · have hz8 : endS s.data.toList = z := hz9
      rw [hz8] at HSf
      clear hz9 hz8
      gi_wp2
      refine ⟨trivial, ?_⟩
      refine (callsIn_wide.2 (HSf.out _)).mono ?_
      rintro e w9 ⟨rfl, hw9⟩
      subst w9
      gi_wp2
      rw [← hVf]
      clear a0 a1 a2 a3 a4 a5 b2 b3 b4 b5 q3 q3f hVf
      refine ⟨by simp, .inl ⟨_, _, rfl, run_takeDeferred e6, ?_⟩⟩
      obtain ⟨r0, r1, r2, r3⟩ := HRT.out
      generalize Vf.putObj D (.deferred none) = Wf at *
      refine ⟨.tuple #[.agg #[.slice a N.length cap, .bool z], .int .i64 0, .int .i64 0], ?_, END.out⟩
      simp [results, Tryz.f28, go_sem, r0, r1, r2, r3]
    · have hz8 : true = z := hz9
      subst hz8
      clear hz9
      gi_wp2
      refine ⟨trivial, ?_⟩
      gi_wp2
      rw [← hVf]
      clear a0 a1 a2 a3 a4 a5 b2 b3 b4 b5 q3 q3f hVf
      refine ⟨by simp, .inl ⟨_, _, rfl, run_takeDeferred e6, ?_⟩⟩
      obtain ⟨r0, r1, r2, r3⟩ := HRT.out
      generalize Vf.putObj D (.deferred none) = Wf at *
      refine ⟨.tuple #[.agg #[.slice a N.length cap, .bool true], .int .i64 0, .int .i64 0], ?_, END.out⟩
      simp [results, Tryz.f28, go_sem, r0, r1, r2, r3]
  case stop =>
    rintro D c pre V hD ⟨t, hpre⟩ ⟨rfl, i, e, g1, g2, g5, g6, g7, g8, g9⟩ hK
    have hr := g1 t
    rw [hpre] at hr
    have HR : Hid (prs s.data.toList = ([], false, i, e)) := by
      show prs _ = _
      rw [HPr.out, hr]
      simp [g2]
    have END : Hid (PRet s.data.toList w (.returned (.tuple #[.agg #[.slice none 0 0, .bool false], .int .i64 (i : Int), .int .i64 e])) (V.putObj D (.deferred none))) :=
      pret_of HR.out (World.ownsRow_nil _ _ _ _) (below_grown (B := W0.heap.size) g8 (by omega) g9 (grownBy_putObj' _ D _) (dead_grown hK rfl hD))
    have r0 := (blk_grown (B := W0.heap.size) g5 (grownBy_putObj' _ D (.deferred none)) (dead_grown hK rfl hD)).cell 0
    have r1 := (blk_grown (B := W0.heap.size) g5 (grownBy_putObj' _ D (.deferred none)) (dead_grown hK rfl hD)).cell 1
    have r2 := (blk_grown (B := W0.heap.size) g6 (grownBy_putObj' _ D (.deferred none)) (dead_grown hK rfl hD)).cell 0
    have r3 := (blk_grown (B := W0.heap.size) g7 (grownBy_putObj' _ D (.deferred none)) (dead_grown hK rfl hD)).cell 0
    clear k0 k1 k2 k3 k4 hB0 hr HX h2 g1 g5 g6 g7 g8
    gi_wp2
    refine ⟨by simp, .inl ⟨_, _, rfl, run_takeDeferred hK, ?_⟩⟩
    generalize V.putObj D (.deferred none) = Wf at *
    refine ⟨.tuple #[.agg #[.slice none 0 0, .bool false], .int .i64 (i : Int), .int .i64 e], ?_, END.out⟩
    simp [results, Tryz.f28, go_sem, r0, r1, r2, r3]
end Go.Proofs.YtimjggkdpmgpjaaGreatDoor

namespace Go.Proofs.YtimjggkdpmgpjaaGreatDoor
open Go Go.RowKit Go.Shelf
set_option linter.unusedVariables false
set_option linter.unusedSimpArgs false
attribute [local go_sem] Oper.semAt_some
set_option maxRecDepth 100000 in
set_option maxHeartbeats 4000000 in
theorem parse_any (s : ByteArray) (w : World) : Calls Tryz.prog 28 #[.string s] w fun e w' => PRet s.data.toList w e w' := by
  by_cases h1 : s.size ≤ 1024
  · by_cases h2 : s.data.toList[0]? = some 47
    · exact parse_main s h1 h2 w
    · have hz : (s.size : Int) ≤ 1024 := by omega
      have HX : Hid (∀ w : World, Calls Tryz.prog 55 #[.string s, .string ⟨#[47]⟩] w fun e w' => e = .returned (.bool false) ∧ w' = w) := fun w => by
        have := prefix_any s w
        rwa [decide_eq_false h2] at this
      have HR : Hid (prs s.data.toList = ([], false, 0, 180)) := by
        show prs _ = _
        unfold prs
        rw [if_neg (by rw [← Lib.size_eq]; omega), if_neg h2]
      clear h2
      refine (callsIn_wide (n := 4)).1 ?_
      refine callsIn_of_wp_marks Tryz.func28 rfl trivial ?_ rfl
      simp only [Tryz.ntmps28, List.size_toArray, List.length_cons, List.length_nil, Nat.reduceAdd, Nat.reduceSub, Array.replicate_succ, Array.replicate_zero, List.push_toArray, List.append_toArray, List.nil_append, List.cons_append]
      gi_wp2
      refine ⟨trivial, ?_⟩
      refine (callsIn_wide.2 (HX.out _)).mono ?_
      rintro e w9 ⟨rfl, hw9⟩
      subst w9
      gi_wp2
      have hb : Below w.heap.size w (((w.alloc (.cells #[.slice none 0 0, .bool false] 88)).alloc (.cells #[.int .i64 0] 3)).alloc (.cells #[.int .i64 180] 30)) := (((Below.refl _ w).alloc (Nat.le_refl _) _).alloc (by simp) _).alloc (by simp; omega) _
      have k0 : Blk (((w.alloc (.cells #[.slice none 0 0, .bool false] 88)).alloc (.cells #[.int .i64 0] 3)).alloc (.cells #[.int .i64 180] 30)) w.heap.size 88 #[.slice none 0 0, .bool false] := ((Blk.new w _ _).alloc _).alloc _
      have k1 : Blk (((w.alloc (.cells #[.slice none 0 0, .bool false] 88)).alloc (.cells #[.int .i64 0] 3)).alloc (.cells #[.int .i64 180] 30)) (w.heap.size + 1) 3 #[.int .i64 0] := by
        have := Blk.new (w.alloc (.cells #[.slice none 0 0, .bool false] 88)) 3 #[.int .i64 0]
        rw [World.size_alloc] at this
        exact this.alloc _
      have k2 : Blk (((w.alloc (.cells #[.slice none 0 0, .bool false] 88)).alloc (.cells #[.int .i64 0] 3)).alloc (.cells #[.int .i64 180] 30)) (w.heap.size + 1 + 1) 30 #[.int .i64 180] := by
        have := Blk.new ((w.alloc (.cells #[.slice none 0 0, .bool false] 88)).alloc (.cells #[.int .i64 0] 3)) 30 #[.int .i64 180]
        rw [World.size_alloc, World.size_alloc] at this
        exact this
      have r0 := k0.cell 0
      have r1 := k0.cell 1
      have r2 := k1.cell 0
      have r3 := k2.cell 0
      generalize (((w.alloc (.cells #[.slice none 0 0, .bool false] 88)).alloc (.cells #[.int .i64 0] 3)).alloc (.cells #[.int .i64 180] 30)) = Wf at *
      refine ⟨.tuple #[.agg #[.slice none 0 0, .bool false], .int .i64 0, .int .i64 180], ?_, pret_of HR.out (World.ownsRow_nil _ _ _ _) hb⟩
      simp [results, Tryz.f28, go_sem, r0, r1, r2, r3]
  · have hz : (1024 : Int) < (s.size : Int) := by omega
    have HR : Hid (prs s.data.toList = ([], false, 1024, 181)) := by
      show prs _ = _
      unfold prs
      rw [if_pos (by rw [← Lib.size_eq]; omega)]
    refine (callsIn_wide (n := 4)).1 ?_
    refine callsIn_of_wp_marks Tryz.func28 rfl trivial ?_ rfl
    simp only [Tryz.ntmps28, List.size_toArray, List.length_cons, List.length_nil, Nat.reduceAdd, Nat.reduceSub, Array.replicate_succ, Array.replicate_zero, List.push_toArray, List.append_toArray, List.nil_append, List.cons_append]
    gi_wp2
    have hb : Below w.heap.size w (((w.alloc (.cells #[.slice none 0 0, .bool false] 88)).alloc (.cells #[.int .i64 1024] 3)).alloc (.cells #[.int .i64 181] 30)) := (((Below.refl _ w).alloc (Nat.le_refl _) _).alloc (by simp) _).alloc (by simp; omega) _
    have k0 : Blk (((w.alloc (.cells #[.slice none 0 0, .bool false] 88)).alloc (.cells #[.int .i64 1024] 3)).alloc (.cells #[.int .i64 181] 30)) w.heap.size 88 #[.slice none 0 0, .bool false] := ((Blk.new w _ _).alloc _).alloc _
    have k1 : Blk (((w.alloc (.cells #[.slice none 0 0, .bool false] 88)).alloc (.cells #[.int .i64 1024] 3)).alloc (.cells #[.int .i64 181] 30)) (w.heap.size + 1) 3 #[.int .i64 1024] := by
      have := Blk.new (w.alloc (.cells #[.slice none 0 0, .bool false] 88)) 3 #[.int .i64 1024]
      rw [World.size_alloc] at this
      exact this.alloc _
    have k2 : Blk (((w.alloc (.cells #[.slice none 0 0, .bool false] 88)).alloc (.cells #[.int .i64 1024] 3)).alloc (.cells #[.int .i64 181] 30)) (w.heap.size + 1 + 1) 30 #[.int .i64 181] := by
      have := Blk.new ((w.alloc (.cells #[.slice none 0 0, .bool false] 88)).alloc (.cells #[.int .i64 1024] 3)) 30 #[.int .i64 181]
      rw [World.size_alloc, World.size_alloc] at this
      exact this
    have r0 := k0.cell 0
    have r1 := k0.cell 1
    have r2 := k1.cell 0
    have r3 := k2.cell 0
    generalize (((w.alloc (.cells #[.slice none 0 0, .bool false] 88)).alloc (.cells #[.int .i64 1024] 3)).alloc (.cells #[.int .i64 181] 30)) = Wf at *
    refine ⟨.tuple #[.agg #[.slice none 0 0, .bool false], .int .i64 1024, .int .i64 181], ?_, pret_of HR.out (World.ownsRow_nil _ _ _ _) hb⟩
    simp [results, Tryz.f28, go_sem, r0, r1, r2, r3]
end Go.Proofs.YtimjggkdpmgpjaaGreatDoor

namespace Go.Proofs.YtimjggkdpmgpjaaGreatDoor
open Go Go.RowKit Go.Shelf
set_option linter.unusedVariables false
set_option linter.unusedSimpArgs false
/-- a slice at a holds these texts -/
def IsN (w : World) (a : Option Addr) (N : List ByteArray) : Prop := N = [] ∨ ∃ g o, a = some ⟨g, o, none⟩ ∧ g < w.heap.size ∧ ∀ j x, N[j]? = some x → w.cell? ⟨g, o + j, none⟩ = some (.string x)
theorem IsN.below {w w' : World} {a : Option Addr} {N : List ByteArray} (h : IsN w a N) (hb : Below w.heap.size w w') : IsN w' a N := by
  rcases h with h | ⟨g, o, rfl, hg, hc⟩
  · exact .inl h
  · exact .inr ⟨g, o, rfl, Nat.lt_of_lt_of_le hg hb.size, fun j x hj => (hb.cell (p := ⟨g, o + j, none⟩) hg).trans (hc j x hj)⟩
theorem IsN.at {w : World} {a : Option Addr} {N : List ByteArray} (h : IsN w a N) {j : Nat} (hj : j < N.length) : ∃ g o, a = some ⟨g, o, none⟩ ∧ g < w.heap.size ∧ w.cell? ⟨g, o + j, none⟩ = some (.string N[j]) := by
  rcases h with rfl | ⟨g, o, rfl, hg, hc⟩
  · simp at hj
  · exact ⟨g, o, rfl, hg, hc j _ (List.getElem?_eq_getElem hj)⟩
theorem IsN.take {w : World} {a : Option Addr} {N : List ByteArray} (h : IsN w a N) (k : Nat) : IsN w a (N.take k) := by
  rcases h with rfl | ⟨g, o, rfl, hg, hc⟩
  · exact .inl (by simp)
  · refine .inr ⟨g, o, rfl, hg, fun j x hj => hc j x ?_⟩
    rw [List.getElem?_take] at hj
    split at hj
    · exact hj
    · cases hj
/-- an own slice of texts -/
theorem own_isN {w : World} {B n : Nat} {a : Option Addr} {m c : Nat} {N : List ByteArray} (h : w.ownsRow B 9 1 (.slice a m c) n (N.map Value.string)) : IsN w a N := by
  rcases h.2 with ⟨hv, hn⟩ | ⟨g, cap, cur, hv, hB, hg, hrest⟩
  · left
    have := h.1
    rw [hn] at this
    simpa using this
  · right
    cases hv
    refine ⟨g, 0, rfl, (Array.getElem?_eq_some_iff.1 hg).1, fun j x hj => ?_⟩
    have hl := (List.getElem?_eq_some_iff.1 hj).1
    have hn := h.1
    rw [List.length_map, Nat.mul_one] at hn
    rw [Nat.zero_add, h.cellAt j (by omega), List.getElem?_map, hj]
    rfl
end Go.Proofs.YtimjggkdpmgpjaaGreatDoor

namespace Go.Proofs.YtimjggkdpmgpjaaGreatDoor
open Go Go.RowKit Go.Shelf
set_option linter.unusedVariables false
set_option linter.unusedSimpArgs false
/-- at most 32 names -/
def GoodN (N : List ByteArray) : Prop := N.length ≤ 32 ∧ ∀ x ∈ N, isName x.data.toList = true
theorem GoodN.nil : GoodN [] := ⟨by simp, by simp⟩
theorem GoodN.drop {N : List ByteArray} (h : GoodN N) : GoodN N.dropLast := ⟨by have := h.1; simp; omega, fun x hx => h.2 x (List.dropLast_subset N hx)⟩
theorem GoodN.take {N : List ByteArray} (h : GoodN N) (k : Nat) : GoodN (N.take k) := ⟨by have := h.1; simp; omega, fun x hx => h.2 x (List.take_subset k N hx)⟩
/-- the one form -/
def frmL (N : List ByteArray) : List UInt8 := 47 :: Lib.join (N.map (·.data.toList)) [47]
/-- a slash ahead of each -/
def accN (N : List ByteArray) : List UInt8 := Lib.joinTail [47] (N.map (·.data.toList))
theorem frm_acc {N : List ByteArray} (h : N ≠ []) : frmL N = accN N := by
  cases N with
  | nil => exact absurd rfl h
  | cons x N =>
    unfold frmL accN
    rw [List.map_cons, Lib.join_cons]
    simp [Lib.joinTail]
theorem frm_nil : frmL [] = [47] := rfl
theorem acc_snoc (N : List ByteArray) (x : ByteArray) : accN (N ++ [x]) = accN N ++ 47 :: x.data.toList := by
  unfold accN
  simp [Lib.joinTail]
end Go.Proofs.YtimjggkdpmgpjaaGreatDoor

namespace Go.Proofs.YtimjggkdpmgpjaaGreatDoor
open Go Go.RowKit Go.Shelf
set_option linter.unusedVariables false
set_option linter.unusedSimpArgs false
/-- Parse told in single things -/
theorem parse_at (s : ByteArray) {N : List ByteArray} {d : Bool} {i : Nat} {z : Int} (hp : prs s.data.toList = (N, d, i, z)) (w : World) : Calls Tryz.prog 28 #[.string s] w fun e w' => ∃ (a : Option Addr) (c : Nat), e = .returned (.tuple #[.agg #[.slice a N.length c, .bool d], .int .i64 (i : Int), .int .i64 z]) ∧ w'.ownsRow w.heap.size 9 1 (.slice a N.length c) N.length (N.map Value.string) ∧ Below w.heap.size w w' := by
  refine (parse_any s w).mono ?_
  rintro e w' ⟨v, he, ho, hb⟩
  rw [hp] at he ho
  obtain ⟨a, c, rfl⟩ := kown_slice ho
  exact ⟨a, c, he, ho, hb⟩
end Go.Proofs.YtimjggkdpmgpjaaGreatDoor
