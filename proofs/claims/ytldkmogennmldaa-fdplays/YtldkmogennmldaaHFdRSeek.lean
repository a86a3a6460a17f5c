/- Descriptors: the document's Seek. -/
import Derived.Test.YtldkmogennmldaaHFdRLay
import Derived.Handy

namespace Go.Proofs.Ytldkmogennmldaa
theorem sgLHFdRSeek : (∀ (α : Type) (a : α) (l r : List α), (a :: l) ++ r = a :: (l ++ r)) ∧ (∀ (α : Type) (l : List α), [] ++ l = l) ∧ (∀ (α : Type) (l : List α), l ++ [] = l) ∧ (∀ (α β : Type) (f : α → Option β) (a : α) (l : List α), (a :: l).filterMap f = match f a with | none => l.filterMap f | some b => b :: l.filterMap f) ∧ (∀ (α β : Type) (f : α → Option β), [].filterMap f = []) ∧ (∀ (α : Type) (l : List α) (i : Nat), l.toArray[i]? = l[i]?) ∧ (∀ (α : Type) (a : α) (l : List α), (a :: l)[0]? = some a) ∧ (∀ (α : Type) (a : α) (l : List α) (i : Nat), (a :: l)[i + 1]? = l[i]?) :=
  ⟨fun _ _ _ _ => List.cons_append, fun _ _ => List.nil_append _, fun _ _ => List.append_nil _, fun _ _ _ _ _ => List.filterMap_cons, fun _ _ _ => List.filterMap_nil, fun _ _ _ => List.getElem?_toArray, fun _ _ _ => List.getElem?_cons_zero, fun _ _ _ _ => List.getElem?_cons_succ⟩
theorem sgPHFdRSeek : (∀ (α : Type) (l : List α) (i : Nat) (a : α), l.toArray.setIfInBounds i a = (l.set i a).toArray) ∧ (∀ (α : Type) (a b : α) (l : List α), (a :: l).set 0 b = b :: l) ∧ (∀ (α : Type) (a b : α) (l : List α) (i : Nat), (a :: l).set (i + 1) b = a :: l.set i b) :=
  ⟨fun _ _ _ _ => List.setIfInBounds_toArray _ _ _, fun _ _ _ _ => List.set_cons_zero, fun _ _ _ _ _ => List.set_cons_succ⟩
end Go.Proofs.Ytldkmogennmldaa
namespace Go.Proofs.Ytldkmogennmldaa
open Go Go.RowKit
set_option linter.unusedSimpArgs false
set_option linter.unusedVariables false
section
variable {g c : Nat} {L : List Ro}
/-- what lay leaves -/
def RLy (w : World) (L2 : List Ro) (a : Option Addr) (n c' : Nat) (w' : World) : Prop := ∃ g', a = some ⟨g', 0, none⟩ ∧ n = L2.length ∧ w.heap.size ≤ g' ∧ IsRo w' g' L2 ∧ Below w.heap.size w w'
theorem rlay_in (hlen : L.length ≤ 64) (k : Nat) (hk : k < 64) (x : Ro) (w : World) (h : IsRo w g L) (V : World) (hV : Below w.heap.size w V) : Calls Try.prog 36 #[.slice (some ⟨g, 0, none⟩) L.length c, .int .i64 (k : Int), .agg (roC x)] V fun e w' => ∃ a n c', e = .returned (.slice a n c') ∧ RLy w (layL L k x) a n c' w' :=
  (rlay_any hlen k hk x V (h.below hV)).mono fun e w' ⟨g', c', h1, h2, h3, h4⟩ => ⟨_, _, c', h1, g', rfl, rfl, Nat.le_trans hV.size h2, h3, hV.trans (h4.mono hV.size)⟩
set_option maxRecDepth 100000 in
set_option maxHeartbeats 8000000 in
theorem rclose_no (hlen : L.length ≤ 64) (n : Int) (hn : ¬ (0 ≤ n ∧ onL L n.toNat = true)) (w : World) (h : IsRo w g L) : Calls Try.prog 29 #[.slice (some ⟨g, 0, none⟩) L.length c, .int .i64 n] w fun e w' => e = .returned (.tuple #[.slice (some ⟨g, 0, none⟩) L.length c, .int .i64 231]) ∧ Below w.heap.size w w' := by
  have hz := ro_zero
  have HG := rget_no (c := c) hlen n hn w h
  have hsx : (roC ro0).size = 4 := rfl
  clear hn h hlen
  go_enter Try.func29, Try.ntmps29
  go_wp2_with fail
  refine HG.mono ?_
  rintro e w1 ⟨rfl, hb⟩
  have u1 : Blk (w1.alloc (.cells (roC ro0) 64)) w1.heap.size 64 (roC ro0) := Blk.new _ _ _
  have u2 := u1.set (roC ro0)
  have hb2 : Below w.heap.size w ((w1.alloc (.cells (roC ro0) 64)).setRow w1.heap.size (roC ro0)) := below_setRow (hb.alloc hb.size _) hb.size _
  have HE : Hid (Below w.heap.size w ((w1.alloc (.cells (roC ro0) 64)).setRow w1.heap.size (roC ro0))) := hb2
  clear hb2 hb HG u2
  go_wp2_with (first
    | (refine wpList_store_row (by rfl) 64 _ _ (by rfl) (w1.heap.size) (roC ro0) (by rfl) (by rfl) 64 (roC ro0) (by exact u1) (ro_size.trans (by rfl)) (by rfl) (ro_all _) ?_; simp only [Act.put, sgPHFdRSeek])
    | fail)
  go_ret2
  exact ⟨rfl, HE.out⟩
set_option maxRecDepth 100000 in
set_option maxHeartbeats 8000000 in
theorem rmove_no (hlen : L.length ≤ 64) (n : Int) (p : Int) (hn : ¬ (0 ≤ n ∧ onL L n.toNat = true)) (w : World) (h : IsRo w g L) : Calls Try.prog 30 #[.slice (some ⟨g, 0, none⟩) L.length c, .int .i64 n, .int .i64 p] w fun e w' => e = .returned (.tuple #[.slice (some ⟨g, 0, none⟩) L.length c, .int .i64 231]) ∧ Below w.heap.size w w' := by
  have hz := ro_zero
  have HG := rget_no (c := c) hlen n hn w h
  have hsx : (roC ro0).size = 4 := rfl
  clear hn h hlen
  go_enter Try.func30, Try.ntmps30
  go_wp2_with fail
  refine HG.mono ?_
  rintro e w1 ⟨rfl, hb⟩
  have u1 : Blk (w1.alloc (.cells (roC ro0) 64)) w1.heap.size 64 (roC ro0) := Blk.new _ _ _
  have u2 := u1.set (roC ro0)
  have hb2 : Below w.heap.size w ((w1.alloc (.cells (roC ro0) 64)).setRow w1.heap.size (roC ro0)) := below_setRow (hb.alloc hb.size _) hb.size _
  have HE : Hid (Below w.heap.size w ((w1.alloc (.cells (roC ro0) 64)).setRow w1.heap.size (roC ro0))) := hb2
  clear hb2 hb HG u2
  go_wp2_with (first
    | (refine wpList_store_row (by rfl) 64 _ _ (by rfl) (w1.heap.size) (roC ro0) (by rfl) (by rfl) 64 (roC ro0) (by exact u1) (ro_size.trans (by rfl)) (by rfl) (ro_all _) ?_; simp only [Act.put, sgPHFdRSeek])
    | fail)
  go_ret2
  exact ⟨rfl, HE.out⟩
set_option maxRecDepth 100000 in
set_option maxHeartbeats 8000000 in
theorem rdup_no (hlen : L.length ≤ 64) (n : Int) (hn : ¬ (0 ≤ n ∧ onL L n.toNat = true)) (w : World) (h : IsRo w g L) : Calls Try.prog 31 #[.slice (some ⟨g, 0, none⟩) L.length c, .int .i64 n] w fun e w' => e = .returned (.tuple #[.slice (some ⟨g, 0, none⟩) L.length c, .int .i64 0, .int .i64 231]) ∧ Below w.heap.size w w' := by
  have hz := ro_zero
  have HG := rget_no (c := c) hlen n hn w h
  have hsx : (roC ro0).size = 4 := rfl
  clear hn h hlen
  go_enter Try.func31, Try.ntmps31
  go_wp2_with fail
  refine HG.mono ?_
  rintro e w1 ⟨rfl, hb⟩
  have u1 : Blk (w1.alloc (.cells (roC ro0) 64)) w1.heap.size 64 (roC ro0) := Blk.new _ _ _
  have u2 := u1.set (roC ro0)
  have hb2 : Below w.heap.size w ((w1.alloc (.cells (roC ro0) 64)).setRow w1.heap.size (roC ro0)) := below_setRow (hb.alloc hb.size _) hb.size _
  have HE : Hid (Below w.heap.size w ((w1.alloc (.cells (roC ro0) 64)).setRow w1.heap.size (roC ro0))) := hb2
  clear hb2 hb HG u2
  go_wp2_with (first
    | (refine wpList_store_row (by rfl) 64 _ _ (by rfl) (w1.heap.size) (roC ro0) (by rfl) (by rfl) 64 (roC ro0) (by exact u1) (ro_size.trans (by rfl)) (by rfl) (ro_all _) ?_; simp only [Act.put, sgPHFdRSeek])
    | fail)
  go_ret3
  exact ⟨rfl, HE.out⟩
set_option maxRecDepth 100000 in
set_option maxHeartbeats 8000000 in
theorem rseek_no (hlen : L.length ≤ 64) (n : Int) (p q z : Int) (hn : ¬ (0 ≤ n ∧ onL L n.toNat = true)) (w : World) (h : IsRo w g L) : Calls Try.prog 32 #[.slice (some ⟨g, 0, none⟩) L.length c, .int .i64 n, .int .i64 p, .int .i64 q, .int .i64 z] w fun e w' => e = .returned (.tuple #[.slice (some ⟨g, 0, none⟩) L.length c, .int .i64 0, .int .i64 231]) ∧ Below w.heap.size w w' := by
  have hz := ro_zero
  have HG := rget_no (c := c) hlen n hn w h
  have hsx : (roC ro0).size = 4 := rfl
  clear hn h hlen
  go_enter Try.func32, Try.ntmps32
  go_wp2_with fail
  refine HG.mono ?_
  rintro e w1 ⟨rfl, hb⟩
  have u1 : Blk (w1.alloc (.cells (roC ro0) 64)) w1.heap.size 64 (roC ro0) := Blk.new _ _ _
  have u2 := u1.set (roC ro0)
  have hb2 : Below w.heap.size w ((w1.alloc (.cells (roC ro0) 64)).setRow w1.heap.size (roC ro0)) := below_setRow (hb.alloc hb.size _) hb.size _
  have HE : Hid (Below w.heap.size w ((w1.alloc (.cells (roC ro0) 64)).setRow w1.heap.size (roC ro0))) := hb2
  clear hb2 hb HG u2
  go_wp2_with (first
    | (refine wpList_store_row (by rfl) 64 _ _ (by rfl) (w1.heap.size) (roC ro0) (by rfl) (by rfl) 64 (roC ro0) (by exact u1) (ro_size.trans (by rfl)) (by rfl) (ro_all _) ?_; simp only [Act.put, sgPHFdRSeek])
    | fail)
  go_ret3
  exact ⟨rfl, HE.out⟩
set_option maxRecDepth 100000 in
set_option maxHeartbeats 8000000 in
theorem rclose_yes (hlen : L.length ≤ 64) (j : Nat) (x : Ro) (hj : L[j]? = some x) (hx : x.on = true) (w : World) (h : IsRo w g L) : Calls Try.prog 29 #[.slice (some ⟨g, 0, none⟩) L.length c, .int .i64 (j : Int)] w fun e w' => ∃ a n c', e = .returned (.tuple #[.slice a n c', .int .i64 0]) ∧ RLy w (layL L j ro0) a n c' w' := by
  have hz := ro_zero
  have hbt : Try.prog.built 64 [] = some (roC ro0) := ro_built0
  have hj64 : j < 64 := by have := (List.getElem?_eq_some_iff.1 hj).1; omega
  have HG := rget_yes (c := c) hlen j x hj hx w h
  have HLY : Hid (∀ V, Below w.heap.size w V → Calls Try.prog 36 #[.slice (some ⟨g, 0, none⟩) L.length c, .int .i64 (j : Int), .agg (roC ro0)] V fun e w' => ∃ a n c', e = .returned (.slice a n c') ∧ RLy w (layL L j ro0) a n c' w') := rlay_in hlen j hj64 ro0 w h
  have hsx : (roC x).size = 4 := rfl
  generalize hC : roC ro0 = C0 at *
  have hs0 : C0.size = 4 := by rw [← hC]; rfl
  have ha0 : C0.all (·.oneCell') = true := by rw [← hC]; exact ro_all _
  clear hj hx h hlen hj64 hC
  go_enter Try.func29, Try.ntmps29
  go_wp2_with fail
  refine HG.mono ?_
  rintro e w1 ⟨rfl, hb⟩
  have u1 : Blk (w1.alloc (.cells C0 64)) w1.heap.size 64 C0 := Blk.new _ _ _
  have u2 := u1.set (roC x)
  have hb2 : Below w.heap.size w ((w1.alloc (.cells C0 64)).setRow w1.heap.size (roC x)) := below_setRow (hb.alloc hb.size _) hb.size _
  have HL2 := HLY.out _ hb2
  clear hb2 hb HG HLY u2
  go_wp2_with (first
    | (refine wpList_store_row (by rfl) 64 _ _ (by rfl) (w1.heap.size) (roC x) (by rfl) (by rfl) 64 C0 (by exact u1) (ro_size.trans (by rfl)) (by rw [hs0]; rfl) (ro_all _) ?_; simp only [Act.put, sgPHFdRSeek])
    | (refine wpList_buildTo (by rfl) 64 #[] (by rfl) _ rfl C0 (by exact hbt) ?_; simp only [Act.put, sgPHFdRSeek])
    | fail)
  refine HL2.mono ?_
  rintro e w3 ⟨a, n, c', rfl, hR⟩
  have HR : Hid (RLy w (layL L j ro0) a n c' w3) := hR
  clear hR HL2
  go_wp2_with fail
  go_ret2
  exact ⟨a, n, c', rfl, HR.out⟩
set_option maxRecDepth 100000 in
set_option maxHeartbeats 8000000 in
theorem rmove_bad (hlen : L.length ≤ 64) (j : Nat) (x : Ro) (hj : L[j]? = some x) (hx : x.on = true) (p : Int) (hp : ¬ (0 ≤ p ∧ p ≤ 1048576)) (w : World) (h : IsRo w g L) : Calls Try.prog 30 #[.slice (some ⟨g, 0, none⟩) L.length c, .int .i64 (j : Int), .int .i64 p] w fun e w' => e = .returned (.tuple #[.slice (some ⟨g, 0, none⟩) L.length c, .int .i64 233]) ∧ Below w.heap.size w w' := by
  have hz := ro_zero
  have HG := rget_yes (c := c) hlen j x hj hx w h
  have hsx : (roC x).size = 4 := rfl
  have hpp : p < 0 ∨ (¬ p < 0 ∧ 1048576 < p) := by omega
  clear hj hx h hlen hp
  go_enter Try.func30, Try.ntmps30
  go_wp2_with fail
  refine HG.mono ?_
  rintro e w1 ⟨rfl, hb⟩
  have u1 : Blk (w1.alloc (.cells (roC ro0) 64)) w1.heap.size 64 (roC ro0) := Blk.new _ _ _
  have u2 := u1.set (roC x)
  have hb2 : Below w.heap.size w ((w1.alloc (.cells (roC ro0) 64)).setRow w1.heap.size (roC x)) := below_setRow (hb.alloc hb.size _) hb.size _
  have HE : Hid (Below w.heap.size w ((w1.alloc (.cells (roC ro0) 64)).setRow w1.heap.size (roC x))) := hb2
  clear hb2 hb HG u2
  rcases hpp with k1 | ⟨k1, k2⟩
  all_goals
    go_wp2_with (first
      | (refine wpList_store_row (by rfl) 64 _ _ (by rfl) (w1.heap.size) (roC x) (by rfl) (by rfl) 64 (roC ro0) (by exact u1) (ro_size.trans (by rfl)) (by rfl) (ro_all _) ?_; simp only [Act.put, sgPHFdRSeek])
      | fail)
    go_ret2
    exact ⟨rfl, HE.out⟩
set_option maxRecDepth 100000 in
set_option maxHeartbeats 8000000 in
theorem rmove_ok (hlen : L.length ≤ 64) (j : Nat) (x : Ro) (hj : L[j]? = some x) (hx : x.on = true) (p : Int) (hp : 0 ≤ p ∧ p ≤ 1048576) (w : World) (h : IsRo w g L) : Calls Try.prog 30 #[.slice (some ⟨g, 0, none⟩) L.length c, .int .i64 (j : Int), .int .i64 p] w fun e w' => ∃ a n c', e = .returned (.tuple #[.slice a n c', .int .i64 0]) ∧ RLy w (layL L j ⟨true, ⟨x.d.i, x.d.g, p⟩⟩) a n c' w' := by
  have hz := ro_zero
  have hj64 : j < 64 := by have := (List.getElem?_eq_some_iff.1 hj).1; omega
  have HG := rget_yes (c := c) hlen j x hj hx w h
  obtain ⟨y, hy⟩ : ∃ y : Ro, y = ⟨true, ⟨x.d.i, x.d.g, p⟩⟩ := ⟨_, rfl⟩
  rw [← hy]
  have HLY : Hid (∀ V, Below w.heap.size w V → Calls Try.prog 36 #[.slice (some ⟨g, 0, none⟩) L.length c, .int .i64 (j : Int), .agg (roC y)] V fun e w' => ∃ a n c', e = .returned (.slice a n c') ∧ RLy w (layL L j y) a n c' w') := rlay_in hlen j hj64 y w h
  have hsx : (roC x).size = 4 := rfl
  have hsy : (roC x).setIfInBounds 3 (.int .i64 p) = roC y := by rw [hy]; show #[Value.bool x.on, _, _, _] = #[_, _, _, _]; rw [hx]
  have k1 : ¬ p < 0 := by omega
  have k2 : ¬ 1048576 < p := by omega
  clear hj hx h hlen hj64 hy hp
  go_enter Try.func30, Try.ntmps30
  go_wp2_with fail
  refine HG.mono ?_
  rintro e w1 ⟨rfl, hb⟩
  have u1 : Blk (w1.alloc (.cells (roC ro0) 64)) w1.heap.size 64 (roC ro0) := Blk.new _ _ _
  have u2 := u1.set (roC x)
  have hb2 : Below w.heap.size w ((w1.alloc (.cells (roC ro0) 64)).setRow w1.heap.size (roC x)) := below_setRow (hb.alloc hb.size _) hb.size _
  have u3 := u2.put 3 (.int .i64 p)
  rw [hsy] at u3
  have f3 := Blk.frozen u2 3
  have c3 := (u2.cell 3).trans rfl
  have hb3 : Below w.heap.size w (((w1.alloc (.cells (roC ro0) 64)).setRow w1.heap.size (roC x)).setCell ⟨w1.heap.size, 3, none⟩ (.int .i64 p)) := hb2.setCell (p := ⟨w1.heap.size, 3, none⟩) hb.size _
  have HL2 := HLY.out _ hb3
  clear hb2 hb HG HLY hb3
  go_wp2_with (first
    | (refine wpList_store_row (by rfl) 64 _ _ (by rfl) (w1.heap.size) (roC x) (by rfl) (by rfl) 64 (roC ro0) (by exact u1) (ro_size.trans (by rfl)) (by rfl) (ro_all _) ?_; simp only [Act.put, sgPHFdRSeek])
    | (refine wpList_load_row (by rfl) 64 _ (by rfl) (w1.heap.size) (by rfl) 64 (roC y) (0, 0) _ (by exact u3) Try.underlying64 (by rfl) (ro_size.trans (by rfl)) ?_; simp only [Act.put, sgPHFdRSeek])
    | fail)
  refine HL2.mono ?_
  rintro e w3 ⟨a, n, c', rfl, hR⟩
  have HR : Hid (RLy w (layL L j y) a n c' w3) := hR
  clear hR HL2
  go_wp2_with fail
  go_ret2
  exact ⟨a, n, c', rfl, HR.out⟩
set_option maxRecDepth 100000 in
set_option maxHeartbeats 8000000 in
theorem rdup_full (hlen : L.length ≤ 64) (hk : LwR L 64) (j : Nat) (x : Ro) (hj : L[j]? = some x) (hx : x.on = true) (w : World) (h : IsRo w g L) : Calls Try.prog 31 #[.slice (some ⟨g, 0, none⟩) L.length c, .int .i64 (j : Int)] w fun e w' => e = .returned (.tuple #[.slice (some ⟨g, 0, none⟩) L.length c, .int .i64 0, .int .i64 230]) ∧ Below w.heap.size w w' := by
  have hz := ro_zero
  have HG := rget_yes (c := c) hlen j x hj hx w h
  have HLW : Hid (∀ V, Below w.heap.size w V → Calls Try.prog 35 #[.slice (some ⟨g, 0, none⟩) L.length c] V fun e w' => e = .returned (.int .i64 (-1)) ∧ w' = V) := fun V hV => rlowest_any (c := c) hlen hk V (h.below hV)
  have hsx : (roC x).size = 4 := rfl
  clear hj hx h hlen hk
  go_enter Try.func31, Try.ntmps31
  go_wp2_with fail
  refine HG.mono ?_
  rintro e w1 ⟨rfl, hb⟩
  have u1 : Blk (w1.alloc (.cells (roC ro0) 64)) w1.heap.size 64 (roC ro0) := Blk.new _ _ _
  have u2 := u1.set (roC x)
  have hb2 : Below w.heap.size w ((w1.alloc (.cells (roC ro0) 64)).setRow w1.heap.size (roC x)) := below_setRow (hb.alloc hb.size _) hb.size _
  have HE : Hid (Below w.heap.size w ((w1.alloc (.cells (roC ro0) 64)).setRow w1.heap.size (roC x))) := hb2
  have HL2 := HLW.out _ hb2
  clear hb2 hb HG u2 HLW
  go_wp2_with (first
    | (refine wpList_store_row (by rfl) 64 _ _ (by rfl) (w1.heap.size) (roC x) (by rfl) (by rfl) 64 (roC ro0) (by exact u1) (ro_size.trans (by rfl)) (by rfl) (ro_all _) ?_; simp only [Act.put, sgPHFdRSeek])
    | fail)
  refine HL2.mono ?_
  rintro e w3 ⟨rfl, hw⟩
  subst hw
  clear HL2
  go_wp2_with fail
  go_ret3
  exact ⟨rfl, HE.out⟩
set_option maxRecDepth 100000 in
set_option maxHeartbeats 8000000 in
theorem rdup_ok (hlen : L.length ≤ 64) (k : Nat) (hk64 : k < 64) (hk : LwR L k) (j : Nat) (x : Ro) (hj : L[j]? = some x) (hx : x.on = true) (w : World) (h : IsRo w g L) : Calls Try.prog 31 #[.slice (some ⟨g, 0, none⟩) L.length c, .int .i64 (j : Int)] w fun e w' => ∃ a n c', e = .returned (.tuple #[.slice a n c', .int .i64 (k : Int), .int .i64 0]) ∧ RLy w (layL L k x) a n c' w' := by
  have hz := ro_zero
  have HG := rget_yes (c := c) hlen j x hj hx w h
  have HLW : Hid (∀ V, Below w.heap.size w V → Calls Try.prog 35 #[.slice (some ⟨g, 0, none⟩) L.length c] V fun e w' => e = .returned (.int .i64 (k : Int)) ∧ w' = V) := fun V hV => by
    have := rlowest_any (c := c) hlen hk V (h.below hV)
    rwa [show lwI k = (k : Int) from if_pos hk64] at this
  have HLY : Hid (∀ V, Below w.heap.size w V → Calls Try.prog 36 #[.slice (some ⟨g, 0, none⟩) L.length c, .int .i64 (k : Int), .agg (roC x)] V fun e w' => ∃ a n c', e = .returned (.slice a n c') ∧ RLy w (layL L k x) a n c' w') := rlay_in hlen k hk64 x w h
  have hsx : (roC x).size = 4 := rfl
  have k1 : ¬ (k : Int) < 0 := by omega
  clear hj hx h hlen hk hk64
  go_enter Try.func31, Try.ntmps31
  go_wp2_with fail
  refine HG.mono ?_
  rintro e w1 ⟨rfl, hb⟩
  have u1 : Blk (w1.alloc (.cells (roC ro0) 64)) w1.heap.size 64 (roC ro0) := Blk.new _ _ _
  have u2 := u1.set (roC x)
  have hb2 : Below w.heap.size w ((w1.alloc (.cells (roC ro0) 64)).setRow w1.heap.size (roC x)) := below_setRow (hb.alloc hb.size _) hb.size _
  have HL2 := HLW.out _ hb2
  have HL3 := HLY.out _ hb2
  clear hb2 hb HG HLW HLY
  go_wp2_with (first
    | (refine wpList_store_row (by rfl) 64 _ _ (by rfl) (w1.heap.size) (roC x) (by rfl) (by rfl) 64 (roC ro0) (by exact u1) (ro_size.trans (by rfl)) (by rfl) (ro_all _) ?_; simp only [Act.put, sgPHFdRSeek])
    | fail)
  refine HL2.mono ?_
  rintro e w3 ⟨rfl, hw⟩
  subst hw
  clear HL2
  go_wp2_with (first
    | (refine wpList_load_row (by rfl) 64 _ (by rfl) (w1.heap.size) (by rfl) 64 (roC x) (0, 0) _ (by exact u2) Try.underlying64 (by rfl) (ro_size.trans (by rfl)) ?_; simp only [Act.put, sgPHFdRSeek])
    | fail)
  refine HL3.mono ?_
  rintro e w4 ⟨a, n, c', rfl, hR⟩
  have HR : Hid (RLy w (layL L k x) a n c' w4) := hR
  clear hR HL3
  go_wp2_with fail
  go_ret3
  exact ⟨a, n, c', rfl, HR.out⟩
theorem rput_bad1 (n : Nat) (a : Option Addr) (i f : Int) (hb : -9223372036854775808 ≤ f ∧ f ≤ 9223372036854775807) (hm : ¬ mayI f) (w : World) : Calls Try.prog 28 #[.slice a n c, .int .i64 i, .int .i64 f] w fun e w' => e = .returned (.tuple #[.slice a n c, .int .i64 0, .int .i64 232]) ∧ w' = w := by
  have HM := rmay_any f hb w
  rw [decide_eq_false hm] at HM
  clear hm hb
  go_enter Try.func28, Try.ntmps28
  go_wp2_with fail
  refine HM.mono ?_
  rintro e w1 ⟨rfl, rfl⟩
  go_wp2_with fail
  go_ret3
  exact ⟨rfl, rfl⟩
theorem rput_bad2 (n : Nat) (a : Option Addr) (i f : Int) (hb : -9223372036854775808 ≤ f ∧ f ≤ 9223372036854775807) (hm : mayI f) (hi : ¬ (1 ≤ i ∧ i ≤ 4096)) (w : World) : Calls Try.prog 28 #[.slice a n c, .int .i64 i, .int .i64 f] w fun e w' => e = .returned (.tuple #[.slice a n c, .int .i64 0, .int .i64 1]) ∧ w' = w := by
  have HM := rmay_any f hb w
  rw [decide_eq_true hm] at HM
  have hii : i < 1 ∨ (¬ i < 1 ∧ 4096 < i) := by omega
  clear hm hb hi
  go_enter Try.func28, Try.ntmps28
  go_wp2_with fail
  refine HM.mono ?_
  rintro e w1 ⟨rfl, rfl⟩
  rcases hii with k1 | ⟨k1, k2⟩
  all_goals
    go_wp2_with fail
    go_ret3
    exact ⟨rfl, rfl⟩
theorem rput_full (hlen : L.length ≤ 64) (hk : LwR L 64) (i f : Int) (hb : -9223372036854775808 ≤ f ∧ f ≤ 9223372036854775807) (hm : mayI f) (hi : 1 ≤ i ∧ i ≤ 4096) (w : World) (h : IsRo w g L) : Calls Try.prog 28 #[.slice (some ⟨g, 0, none⟩) L.length c, .int .i64 i, .int .i64 f] w fun e w' => e = .returned (.tuple #[.slice (some ⟨g, 0, none⟩) L.length c, .int .i64 0, .int .i64 230]) ∧ w' = w := by
  have HM := rmay_any f hb w
  rw [decide_eq_true hm] at HM
  have HL2 : Calls Try.prog 35 #[.slice (some ⟨g, 0, none⟩) L.length c] w fun e w' => e = .returned (.int .i64 (-1)) ∧ w' = w := rlowest_any (c := c) hlen hk w h
  have k1 : ¬ i < 1 := by omega
  have k2 : ¬ 4096 < i := by omega
  clear hm hb hi hlen hk h
  go_enter Try.func28, Try.ntmps28
  go_wp2_with fail
  refine HM.mono ?_
  rintro e w1 ⟨rfl, rfl⟩
  go_wp2_with fail
  refine HL2.mono ?_
  rintro e w1 ⟨rfl, rfl⟩
  go_wp2_with fail
  go_ret3
  exact ⟨rfl, rfl⟩
theorem rput_ok (hlen : L.length ≤ 64) (k : Nat) (hk64 : k < 64) (hk : LwR L k) (i f : Int) (hb : -9223372036854775808 ≤ f ∧ f ≤ 9223372036854775807) (hm : mayI f) (hi : 1 ≤ i ∧ i ≤ 4096) (w : World) (h : IsRo w g L) : Calls Try.prog 28 #[.slice (some ⟨g, 0, none⟩) L.length c, .int .i64 i, .int .i64 f] w fun e w' => ∃ a n c', e = .returned (.tuple #[.slice a n c', .int .i64 (k : Int), .int .i64 0]) ∧ RLy w (layL L k ⟨true, ⟨i, f, 0⟩⟩) a n c' w' := by
  have HM := rmay_any f hb w
  rw [decide_eq_true hm] at HM
  have HL2 : Calls Try.prog 35 #[.slice (some ⟨g, 0, none⟩) L.length c] w fun e w' => e = .returned (.int .i64 (k : Int)) ∧ w' = w := by
    have := rlowest_any (c := c) hlen hk w h
    rwa [show lwI k = (k : Int) from if_pos hk64] at this
  have HLY : Calls Try.prog 36 #[.slice (some ⟨g, 0, none⟩) L.length c, .int .i64 (k : Int), .agg #[.bool true, .int .i64 i, .int .i64 f, .int .i64 0]] w fun e w' => ∃ a n c', e = .returned (.slice a n c') ∧ RLy w (layL L k ⟨true, ⟨i, f, 0⟩⟩) a n c' w' := rlay_in hlen k hk64 ⟨true, ⟨i, f, 0⟩⟩ w h w (Below.refl _ _)
  have k1 : ¬ i < 1 := by omega
  have k2 : ¬ 4096 < i := by omega
  have k3 : ¬ (k : Int) < 0 := by omega
  clear hm hb hi hlen hk h hk64
  go_enter Try.func28, Try.ntmps28
  go_wp2_with fail
  refine HM.mono ?_
  rintro e w1 ⟨rfl, rfl⟩
  go_wp2_with fail
  refine HL2.mono ?_
  rintro e w1 ⟨rfl, rfl⟩
  go_wp2_with fail
  refine HLY.mono ?_
  rintro e w4 ⟨a, n, c', rfl, hR⟩
  have HR : Hid (RLy w1 (layL L k ⟨true, ⟨i, f, 0⟩⟩) a n c' w4) := hR
  clear hR HLY
  go_wp2_with fail
  go_ret3
  exact ⟨a, n, c', rfl, HR.out⟩
end
end Go.Proofs.Ytldkmogennmldaa

namespace Go.Proofs.Ytldkmogennmldaa
open Go Go.RowKit
set_option linter.unusedSimpArgs false
set_option linter.unusedVariables false
def roV (x : Ro) (j : Nat) : Value := if j = 0 then .bool x.on else .int .i64 (dsF x.d (j - 1))
section
variable {g c : Nat} {L : List Ro}
theorem rlay_in2 (hlen : L.length ≤ 64) (k : Nat) (hk : k < 64) (x : Ro) (w : World) (h : IsRo w g L) (V : World) (hV : Below w.heap.size w V) : Calls Try.prog 36 #[.slice (some ⟨g, 0, none⟩) L.length c, .int .i64 (k : Int), .agg (roC x)] V fun e w' => ∃ a n c', e = .returned (.slice a n c') ∧ RLy w (layL L k x) a n c' w' ∧ Below V.heap.size V w' :=
  (rlay_any hlen k hk x V (h.below hV)).mono fun e w' ⟨g', c', h1, h2, h3, h4⟩ => ⟨_, _, c', h1, ⟨g', rfl, rfl, Nat.le_trans hV.size h2, h3, hV.trans (h4.mono hV.size)⟩, h4⟩
set_option maxRecDepth 100000 in
set_option maxHeartbeats 8000000 in
theorem rseek_arg (hlen : L.length ≤ 64) (j : Nat) (x : Ro) (hj : L[j]? = some x) (hx : x.on = true) (p q z : Int) (ha : ¬ (0 ≤ z ∧ z ≤ 1048576) ∨ ¬ (0 ≤ q ∧ q ≤ 2)) (w : World) (h : IsRo w g L) : Calls Try.prog 32 #[.slice (some ⟨g, 0, none⟩) L.length c, .int .i64 (j : Int), .int .i64 p, .int .i64 q, .int .i64 z] w fun e w' => e = .returned (.tuple #[.slice (some ⟨g, 0, none⟩) L.length c, .int .i64 0, .int .i64 1]) ∧ Below w.heap.size w w' := by
  have hz := ro_zero
  have HG := rget_yes (c := c) hlen j x hj hx w h
  have hsx : (roC x).size = 4 := rfl
  have hq : q < 0 ∨ (¬ q < 0 ∧ 2 < q) ∨ (¬ q < 0 ∧ ¬ 2 < q ∧ z < 0) ∨ (¬ q < 0 ∧ ¬ 2 < q ∧ ¬ z < 0 ∧ 1048576 < z) := by omega
  clear hj hx h hlen ha
  go_enter Try.func32, Try.ntmps32
  go_wp2_with fail
  refine HG.mono ?_
  rintro e w1 ⟨rfl, hb⟩
  have u1 : Blk (w1.alloc (.cells (roC ro0) 64)) w1.heap.size 64 (roC ro0) := Blk.new _ _ _
  have u2 := u1.set (roC x)
  have hb2 : Below w.heap.size w ((w1.alloc (.cells (roC ro0) 64)).setRow w1.heap.size (roC x)) := below_setRow (hb.alloc hb.size _) hb.size _
  have HE : Hid (Below w.heap.size w ((w1.alloc (.cells (roC ro0) 64)).setRow w1.heap.size (roC x))) := hb2
  clear hb2 hb HG u2
  rcases hq with k1 | ⟨k1, k2⟩ | ⟨k1, k2, k3⟩ | ⟨k1, k2, k3, k4⟩
  all_goals
    go_wp2_with (first
      | (refine wpList_store_row (by rfl) 64 _ _ (by rfl) (w1.heap.size) (roC x) (by rfl) (by rfl) 64 (roC ro0) (by exact u1) (ro_size.trans (by rfl)) (by rfl) (ro_all _) ?_; simp only [Act.put, sgPHFdRSeek])
      | fail)
    go_ret3
    exact ⟨rfl, HE.out⟩
set_option maxRecDepth 100000 in
set_option maxHeartbeats 8000000 in
theorem rseek_bad (hlen : L.length ≤ 64) (j : Nat) (x : Ro) (hj : L[j]? = some x) (hx : x.on = true) (p q z : Int) (hz1 : 0 ≤ z ∧ z ≤ 1048576) (hq : 0 ≤ q ∧ q ≤ 2) (hA : 0 ≤ x.d.a ∧ x.d.a ≤ 1048576) (ha : p < -(fromI q x.d.a z) ∨ 1048576 - (fromI q x.d.a z) < p) (w : World) (h : IsRo w g L) : Calls Try.prog 32 #[.slice (some ⟨g, 0, none⟩) L.length c, .int .i64 (j : Int), .int .i64 p, .int .i64 q, .int .i64 z] w fun e w' => e = .returned (.tuple #[.slice (some ⟨g, 0, none⟩) L.length c, .int .i64 0, .int .i64 233]) ∧ Below w.heap.size w w' := by
  have hz := ro_zero
  have HG := rget_yes (c := c) hlen j x hj hx w h
  have hsx : (roC x).size = 4 := rfl
  have n1 : ¬ q < 0 := by omega
  have n2 : ¬ 2 < q := by omega
  have n3 : ¬ z < 0 := by omega
  have n4 : ¬ 1048576 < z := by omega
  obtain ⟨hf1, hf2⟩ := from_in q x.d.a z ⟨hA.1, hA.2⟩ ⟨hz1.1, hz1.2⟩
  have h3 : q = 0 ∨ q = 1 ∨ q = 2 := by omega
  have key : p < -(fromI q x.d.a z) ∨ (¬ p < -(fromI q x.d.a z) ∧ 1048576 - (fromI q x.d.a z) < p) := by omega
  obtain ⟨A, hAe⟩ : ∃ A, A = x.d.a := ⟨_, rfl⟩
  rw [← hAe] at hf1 hf2 key
  have HAE : Hid (A = x.d.a) := hAe
  clear hj hx h hlen ha hq hz1 hA hAe
  go_enter Try.func32, Try.ntmps32
  go_wp2_with fail
  refine HG.mono ?_
  rintro e w1 ⟨rfl, hb⟩
  have u1 : Blk (w1.alloc (.cells (roC ro0) 64)) w1.heap.size 64 (roC ro0) := Blk.new _ _ _
  have u2 := u1.set (roC x)
  have hb2 : Below w.heap.size w ((w1.alloc (.cells (roC ro0) 64)).setRow w1.heap.size (roC x)) := below_setRow (hb.alloc hb.size _) hb.size _
  have c3 : ((w1.alloc (.cells (roC ro0) 64)).setRow w1.heap.size (roC x)).cell? ⟨w1.heap.size, 3, none⟩ = some (.int .i64 A) := by rw [HAE.out]; exact (u2.cell 3).trans rfl
  have HE : Hid (Below w.heap.size w ((w1.alloc (.cells (roC ro0) 64)).setRow w1.heap.size (roC x))) := hb2
  clear hb2 hb HG u2
  rcases h3 with rfl | rfl | rfl
  · have e0 : fromI 0 A z = 0 := rfl
    rw [e0] at key
    clear hf1 hf2 e0
    rcases key with k1 | ⟨k1, k2⟩
    all_goals
      go_wp2_with (first
        | (refine wpList_store_row (by rfl) 64 _ _ (by rfl) (w1.heap.size) (roC x) (by rfl) (by rfl) 64 (roC ro0) (by exact u1) (ro_size.trans (by rfl)) (by rfl) (ro_all _) ?_; simp only [Act.put, sgPHFdRSeek])
        | fail)
      go_ret3
      exact ⟨rfl, HE.out⟩
  · have e0 : fromI 1 A z = A := rfl
    rw [e0] at key hf1 hf2
    clear e0
    rcases key with k1 | ⟨k1, k2⟩
    all_goals
      go_wp2_with (first
        | (refine wpList_store_row (by rfl) 64 _ _ (by rfl) (w1.heap.size) (roC x) (by rfl) (by rfl) 64 (roC ro0) (by exact u1) (ro_size.trans (by rfl)) (by rfl) (ro_all _) ?_; simp only [Act.put, sgPHFdRSeek])
        | fail)
      go_ret3
      exact ⟨rfl, HE.out⟩
  · have e0 : fromI 2 A z = z := rfl
    rw [e0] at key hf1 hf2
    clear e0
    rcases key with k1 | ⟨k1, k2⟩
    all_goals
      go_wp2_with (first
        | (refine wpList_store_row (by rfl) 64 _ _ (by rfl) (w1.heap.size) (roC x) (by rfl) (by rfl) 64 (roC ro0) (by exact u1) (ro_size.trans (by rfl)) (by rfl) (ro_all _) ?_; simp only [Act.put, sgPHFdRSeek])
        | fail)
      go_ret3
      exact ⟨rfl, HE.out⟩
set_option maxRecDepth 100000 in
set_option maxHeartbeats 8000000 in
theorem rseek_ok (hlen : L.length ≤ 64) (j : Nat) (x : Ro) (hj : L[j]? = some x) (hx : x.on = true) (p q z : Int) (hz1 : 0 ≤ z ∧ z ≤ 1048576) (hq : 0 ≤ q ∧ q ≤ 2) (hA : 0 ≤ x.d.a ∧ x.d.a ≤ 1048576) (r : Int) (hr : fromI q x.d.a z + p = r) (hr1 : 0 ≤ r ∧ r ≤ 1048576) (w : World) (h : IsRo w g L) : Calls Try.prog 32 #[.slice (some ⟨g, 0, none⟩) L.length c, .int .i64 (j : Int), .int .i64 p, .int .i64 q, .int .i64 z] w fun e w' => ∃ a n c', e = .returned (.tuple #[.slice a n c', .int .i64 r, .int .i64 0]) ∧ RLy w (layL L j ⟨true, ⟨x.d.i, x.d.g, r⟩⟩) a n c' w' := by
  have hz := ro_zero
  have HG := rget_yes (c := c) hlen j x hj hx w h
  have hsx : (roC x).size = 4 := rfl
  have n1 : ¬ q < 0 := by omega
  have n2 : ¬ 2 < q := by omega
  have n3 : ¬ z < 0 := by omega
  have n4 : ¬ 1048576 < z := by omega
  obtain ⟨hf1, hf2⟩ := from_in q x.d.a z ⟨hA.1, hA.2⟩ ⟨hz1.1, hz1.2⟩
  have h3 : q = 0 ∨ q = 1 ∨ q = 2 := by omega
  have key1 : ¬ p < -(fromI q x.d.a z) := by omega
  have key2 : ¬ 1048576 - (fromI q x.d.a z) < p := by omega
  have key3 : fromI q x.d.a z + p = r := hr
  obtain ⟨A, hAe⟩ : ∃ A, A = x.d.a := ⟨_, rfl⟩
  rw [← hAe] at hf1 hf2 key1 key2 key3
  have HAE : Hid (A = x.d.a) := hAe
  have hj64 : j < 64 := by have := (List.getElem?_eq_some_iff.1 hj).1; omega
  obtain ⟨y, hy⟩ : ∃ y : Ro, y = ⟨true, ⟨x.d.i, x.d.g, r⟩⟩ := ⟨_, rfl⟩
  rw [← hy]
  have HYA : Hid (y.d.a = r) := by show y.d.a = r; rw [hy]
  have HLY : Hid (∀ V, Below w.heap.size w V → Calls Try.prog 36 #[.slice (some ⟨g, 0, none⟩) L.length c, .int .i64 (j : Int), .agg (roC y)] V fun e w' => ∃ a n c', e = .returned (.slice a n c') ∧ RLy w (layL L j y) a n c' w' ∧ Below V.heap.size V w') := rlay_in2 hlen j hj64 y w h
  have hsy : (roC x).setIfInBounds 3 (.int .i64 r) = roC y := by rw [hy]; show #[Value.bool x.on, _, _, _] = #[_, _, _, _]; rw [hx]
  have hr2 : 0 ≤ r := hr1.1
  have hr3 : r ≤ 1048576 := hr1.2
  clear hj hx h hlen hj64 hy hz1 hq hA hAe hr hr1
  go_enter Try.func32, Try.ntmps32
  go_wp2_with fail
  refine HG.mono ?_
  rintro e w1 ⟨rfl, hb⟩
  have u1 : Blk (w1.alloc (.cells (roC ro0) 64)) w1.heap.size 64 (roC ro0) := Blk.new _ _ _
  have u2 := u1.set (roC x)
  have hb2 : Below w.heap.size w ((w1.alloc (.cells (roC ro0) 64)).setRow w1.heap.size (roC x)) := below_setRow (hb.alloc hb.size _) hb.size _
  have c3 : ((w1.alloc (.cells (roC ro0) 64)).setRow w1.heap.size (roC x)).cell? ⟨w1.heap.size, 3, none⟩ = some (.int .i64 A) := by rw [HAE.out]; exact (u2.cell 3).trans rfl
  have f3 := Blk.frozen u2 3
  have u3 := u2.put 3 (.int .i64 r)
  rw [hsy] at u3
  have hb3 : Below w.heap.size w (((w1.alloc (.cells (roC ro0) 64)).setRow w1.heap.size (roC x)).setCell ⟨w1.heap.size, 3, none⟩ (.int .i64 r)) := hb2.setCell (p := ⟨w1.heap.size, 3, none⟩) hb.size _
  have HU3 : Hid (Blk (((w1.alloc (.cells (roC ro0) 64)).setRow w1.heap.size (roC x)).setCell ⟨w1.heap.size, 3, none⟩ (.int .i64 r)) w1.heap.size 64 (va 4 (roV y))) := u3
  have HB3 : Hid (Below w.heap.size w (((w1.alloc (.cells (roC ro0) 64)).setRow w1.heap.size (roC x)).setCell ⟨w1.heap.size, 3, none⟩ (.int .i64 r))) := hb3
  clear hb2 hb HG u2 u3 hb3 HAE
  rcases h3 with rfl | rfl | rfl
  · have e0 : fromI 0 A z = 0 := rfl
    rw [e0] at hf1 hf2 key1 key2 key3
    clear e0
    rw [Int.zero_add] at key3
    subst key3
    go_wp2_with (first
      | (refine wpList_store_row (by rfl) 64 _ _ (by rfl) (w1.heap.size) (roC x) (by rfl) (by rfl) 64 (roC ro0) (by exact u1) (ro_size.trans (by rfl)) (by rfl) (ro_all _) ?_; simp only [Act.put, sgPHFdRSeek])
      | fail)
    refine wp_region_partsS (fun W => Blk W w1.heap.size 64 (va 4 (roV y))) [([0, 1], 2, true), ([], 4, true), ([], 5, true), ([], 3, false)] [6, 7, 8] [] (by kernel_rfl) (by kernel_rfl) HU3.out (partsI_yield ?_)
    simp only [sgLHFdRSeek]
    go_wp2_with fail
    refine ⟨rfl, _, .agg (roC y), rfl, fdyields_load (by rfl) 64 _ (by rfl) w1.heap.size 4 (roV y) (by rfl) _ 64 (fun W hW => hW) Try.underlying64 rfl ro_size, partsI_yield ?_⟩
    simp only [Act.put, sgPHFdRSeek]
    simp only [sgLHFdRSeek]
    go_wp2_with fail
    refine ⟨rfl, _, .pointer (some ⟨w1.heap.size, 3, none⟩), rfl, Or.inl ⟨by rfl, fun W hW => by go_simp⟩, partsI_yield ?_⟩
    simp only [Act.put, sgPHFdRSeek]
    simp only [sgLHFdRSeek]
    go_wp2_with fail
    refine ⟨rfl, _, .int .i64 p, rfl, Or.inl ⟨by rfl, fun W hW => by have cc := (Blk.cell hW 3).trans (va_at (roV y) (by decide)); rw [show roV y 3 = .int .i64 y.d.a from rfl, HYA.out] at cc; go_simp⟩, partsI_force ?_⟩
    simp only [Act.put, sgPHFdRSeek]
    simp only [sgLHFdRSeek]
    go_wp2_with fail
    refine (HLY.out _ HB3.out.drew).mono ?_
    rintro e w4 ⟨a, n, c', rfl, hR, hb4⟩
    have HR : Hid (RLy w (layL L j y) a n c' w4 ∧ Blk w4 w1.heap.size 64 (va 4 (roV y))) := ⟨hR, (Blk.drew HU3.out).below hb4 (Blk.drew HU3.out).lt⟩
    clear hR hb4 HLY
    go_wp2_with fail
    refine ⟨rfl, HR.out.2, partsI_last ?_⟩
    simp only [sgLHFdRSeek]
    go_wp2_with fail
    first
      | (go_ret3; exact ⟨a, n, c', rfl, HR.out.1⟩)
      | (refine ⟨rfl, ?_⟩; go_wp2_with fail; go_ret3; exact ⟨a, n, c', rfl, HR.out.1⟩)
      | (trace_state; sorry)
  · have e0 : fromI 1 A z = A := rfl
    rw [e0] at hf1 hf2 key1 key2 key3
    clear e0
    skip
    skip
    go_wp2_with (first
      | (refine wpList_store_row (by rfl) 64 _ _ (by rfl) (w1.heap.size) (roC x) (by rfl) (by rfl) 64 (roC ro0) (by exact u1) (ro_size.trans (by rfl)) (by rfl) (ro_all _) ?_; simp only [Act.put, sgPHFdRSeek])
      | fail)
    refine wp_region_partsS (fun W => Blk W w1.heap.size 64 (va 4 (roV y))) [([0, 1], 2, true), ([], 4, true), ([], 5, true), ([], 3, false)] [6, 7, 8] [] (by kernel_rfl) (by kernel_rfl) HU3.out (partsI_yield ?_)
    simp only [sgLHFdRSeek]
    go_wp2_with fail
    refine ⟨rfl, _, .agg (roC y), rfl, fdyields_load (by rfl) 64 _ (by rfl) w1.heap.size 4 (roV y) (by rfl) _ 64 (fun W hW => hW) Try.underlying64 rfl ro_size, partsI_yield ?_⟩
    simp only [Act.put, sgPHFdRSeek]
    simp only [sgLHFdRSeek]
    go_wp2_with fail
    refine ⟨rfl, _, .pointer (some ⟨w1.heap.size, 3, none⟩), rfl, Or.inl ⟨by rfl, fun W hW => by go_simp⟩, partsI_yield ?_⟩
    simp only [Act.put, sgPHFdRSeek]
    simp only [sgLHFdRSeek]
    go_wp2_with fail
    refine ⟨rfl, _, .int .i64 r, rfl, Or.inl ⟨by rfl, fun W hW => by have cc := (Blk.cell hW 3).trans (va_at (roV y) (by decide)); rw [show roV y 3 = .int .i64 y.d.a from rfl, HYA.out] at cc; go_simp⟩, partsI_force ?_⟩
    simp only [Act.put, sgPHFdRSeek]
    simp only [sgLHFdRSeek]
    go_wp2_with fail
    refine (HLY.out _ HB3.out.drew).mono ?_
    rintro e w4 ⟨a, n, c', rfl, hR, hb4⟩
    have HR : Hid (RLy w (layL L j y) a n c' w4 ∧ Blk w4 w1.heap.size 64 (va 4 (roV y))) := ⟨hR, (Blk.drew HU3.out).below hb4 (Blk.drew HU3.out).lt⟩
    clear hR hb4 HLY
    go_wp2_with fail
    refine ⟨rfl, HR.out.2, partsI_last ?_⟩
    simp only [sgLHFdRSeek]
    go_wp2_with fail
    first
      | (go_ret3; exact ⟨a, n, c', rfl, HR.out.1⟩)
      | (refine ⟨rfl, ?_⟩; go_wp2_with fail; go_ret3; exact ⟨a, n, c', rfl, HR.out.1⟩)
      | (trace_state; sorry)
  · have e0 : fromI 2 A z = z := rfl
    rw [e0] at hf1 hf2 key1 key2 key3
    clear e0
    skip
    skip
    go_wp2_with (first
      | (refine wpList_store_row (by rfl) 64 _ _ (by rfl) (w1.heap.size) (roC x) (by rfl) (by rfl) 64 (roC ro0) (by exact u1) (ro_size.trans (by rfl)) (by rfl) (ro_all _) ?_; simp only [Act.put, sgPHFdRSeek])
      | fail)
    refine wp_region_partsS (fun W => Blk W w1.heap.size 64 (va 4 (roV y))) [([0, 1], 2, true), ([], 4, true), ([], 5, true), ([], 3, false)] [6, 7, 8] [] (by kernel_rfl) (by kernel_rfl) HU3.out (partsI_yield ?_)
    simp only [sgLHFdRSeek]
    go_wp2_with fail
    refine ⟨rfl, _, .agg (roC y), rfl, fdyields_load (by rfl) 64 _ (by rfl) w1.heap.size 4 (roV y) (by rfl) _ 64 (fun W hW => hW) Try.underlying64 rfl ro_size, partsI_yield ?_⟩
    simp only [Act.put, sgPHFdRSeek]
    simp only [sgLHFdRSeek]
    go_wp2_with fail
    refine ⟨rfl, _, .pointer (some ⟨w1.heap.size, 3, none⟩), rfl, Or.inl ⟨by rfl, fun W hW => by go_simp⟩, partsI_yield ?_⟩
    simp only [Act.put, sgPHFdRSeek]
    simp only [sgLHFdRSeek]
    go_wp2_with fail
    refine ⟨rfl, _, .int .i64 r, rfl, Or.inl ⟨by rfl, fun W hW => by have cc := (Blk.cell hW 3).trans (va_at (roV y) (by decide)); rw [show roV y 3 = .int .i64 y.d.a from rfl, HYA.out] at cc; go_simp⟩, partsI_force ?_⟩
    simp only [Act.put, sgPHFdRSeek]
    simp only [sgLHFdRSeek]
    go_wp2_with fail
    refine (HLY.out _ HB3.out.drew).mono ?_
    rintro e w4 ⟨a, n, c', rfl, hR, hb4⟩
    have HR : Hid (RLy w (layL L j y) a n c' w4 ∧ Blk w4 w1.heap.size 64 (va 4 (roV y))) := ⟨hR, (Blk.drew HU3.out).below hb4 (Blk.drew HU3.out).lt⟩
    clear hR hb4 HLY
    go_wp2_with fail
    refine ⟨rfl, HR.out.2, partsI_last ?_⟩
    simp only [sgLHFdRSeek]
    go_wp2_with fail
    first
      | (go_ret3; exact ⟨a, n, c', rfl, HR.out.1⟩)
      | (refine ⟨rfl, ?_⟩; go_wp2_with fail; go_ret3; exact ⟨a, n, c', rfl, HR.out.1⟩)
      | (trace_state; sorry)
end
end Go.Proofs.Ytldkmogennmldaa
