/- signetlaw06.awake: it returns true. -/
import Derived.Test.YtppagdmlfgialaaGreatDoorHNdKit
import Derived.Test.YtppagdmlfgialaaGreatDoorHDkCut
import Derived.BigQuiet
import Derived.Deep.QuietTactic
import Derived.Handy
import Derived.Laws.MakeOwn
import Derived.Laws.OwnMore
import Derived.Test.YtppagdmlfgialaaGreatDoorHSegsP

namespace Go.Proofs.YtppagdmlfgialaaGreatDoor
theorem sgLHSlAwake : (∀ (α : Type) (a : α) (l r : List α), (a :: l) ++ r = a :: (l ++ r)) ∧ (∀ (α : Type) (l : List α), [] ++ l = l) ∧ (∀ (α : Type) (l : List α), l ++ [] = l) ∧ (∀ (α β : Type) (f : α → Option β) (a : α) (l : List α), (a :: l).filterMap f = match f a with | none => l.filterMap f | some b => b :: l.filterMap f) ∧ (∀ (α β : Type) (f : α → Option β), [].filterMap f = []) ∧ (∀ (α : Type) (l : List α) (i : Nat), l.toArray[i]? = l[i]?) ∧ (∀ (α : Type) (a : α) (l : List α), (a :: l)[0]? = some a) ∧ (∀ (α : Type) (a : α) (l : List α) (i : Nat), (a :: l)[i + 1]? = l[i]?) :=
  ⟨fun _ _ _ _ => List.cons_append, fun _ _ => List.nil_append _, fun _ _ => List.append_nil _, fun _ _ _ _ _ => List.filterMap_cons, fun _ _ _ => List.filterMap_nil, fun _ _ _ => List.getElem?_toArray, fun _ _ _ => List.getElem?_cons_zero, fun _ _ _ _ => List.getElem?_cons_succ⟩
theorem sgPHSlAwake : (∀ (α : Type) (l : List α) (i : Nat) (a : α), l.toArray.setIfInBounds i a = (l.set i a).toArray) ∧ (∀ (α : Type) (a b : α) (l : List α), (a :: l).set 0 b = b :: l) ∧ (∀ (α : Type) (a b : α) (l : List α) (i : Nat), (a :: l).set (i + 1) b = a :: l.set i b) :=
  ⟨fun _ _ _ _ => List.setIfInBounds_toArray _ _ _, fun _ _ _ _ => List.set_cons_zero, fun _ _ _ _ _ => List.set_cons_succ⟩
end Go.Proofs.YtppagdmlfgialaaGreatDoor
namespace Go.Proofs.YtppagdmlfgialaaGreatDoor
open Go Go.RowKit
set_option linter.unusedSimpArgs false
set_option linter.unusedVariables false

/-- the register in block r on the disk p: the slots L in the slice v, their places in the map in block m -/
structure RegAt (w : World) (B r m : Nat) (p : Option Addr) (v : Value) (L : List Sl) : Prop where
  rB : B ≤ r
  mB : B ≤ m
  cells : Blk w r 155 #[.pointer p, v, .map (some m)]
  own : w.ownsRow B 43 34 v L.length (slL L)
  map : MapIs slV intV w m L.zipIdx
/-- its blocks -/
def rfoot (r m : Nat) (v : Value) (b : Nat) : Prop := b = r ∨ b = m ∨ v.ownBlock = some b
section
variable {w w' : World} {B r m : Nat} {p : Option Addr} {v : Value} {L : List Sl}
theorem RegAt.foots (h : RegAt w B r m p v L) : ∀ b, rfoot r m v b → B ≤ b ∧ b < w.heap.size := by
  intro b hb
  rcases hb with rfl | rfl | z
  · exact ⟨h.rB, h.cells.lt⟩
  · obtain ⟨es, cl, hg, _⟩ := h.map
    exact ⟨h.mB, (Array.getElem?_eq_some_iff.1 hg).1⟩
  · exact h.own.lt b z
theorem RegAt.kept (h : RegAt w B r m p v L) (hk : ∀ b, rfoot r m v b → w'.heap[b]? = w.heap[b]?) : RegAt w' B r m p v L := by
  refine ⟨h.rB, h.mB, (hk r (.inl rfl)).trans h.cells, own_block h.own fun b hb => hk b (.inr (.inr hb)), ?_⟩
  obtain ⟨es, cl, hg, he⟩ := h.map
  exact ⟨es, cl, (hk m (.inr (.inl rfl))).trans hg, he⟩
theorem RegAt.below (h : RegAt w B r m p v L) (hb : Below w.heap.size w w') : RegAt w' B r m p v L := h.kept fun b hf => hb.block b (h.foots b hf).2
theorem RegAt.mono (h : RegAt w B r m p v L) {B' : Nat} (hB : B' ≤ B) : RegAt w B' r m p v L := ⟨Nat.le_trans hB h.rB, Nat.le_trans hB h.mB, h.cells, kown_mono h.own hB, h.map⟩
theorem RegAt.c (h : RegAt w B r m p v L) (i : Nat) : w.cell? ⟨r, i, none⟩ = #[Value.pointer p, v, .map (some m)][i]? := h.cells.cell i
end
set_option maxHeartbeats 1000000 in
theorem newReg_any (p : Option Addr) (w : World) : Calls Tryz.prog 24 #[.pointer p] w fun e w' => ∃ r m, e = .returned (.pointer (some ⟨r, 0, none⟩)) ∧ RegAt w' w.heap.size r m p (.slice none 0 0) [] ∧ Below w.heap.size w w' := by
  have hmm := @run_makeMap Tryz.prog
  go_enter Tryz.func24, Tryz.ntmps24
  go_wp2_with fail
  go_ret
  have e : (w.alloc (Obj.map #[] 0)).heap.size = w.heap.size + 1 := by simp
  have b1 : Below w.heap.size w (w.alloc (Obj.map #[] 0)) := (Below.refl _ _).alloc (Nat.le_refl _) _
  refine ⟨w.heap.size + 1, w.heap.size, rfl, ⟨by omega, Nat.le_refl _, ?_, World.ownsRow_nil _ _ _ _, ⟨#[], 0, ?_, rfl⟩⟩, b1.alloc (by omega) _⟩
  · rw [← e]
    exact Blk.new _ _ _
  · rw [heap_alloc_old _ _ (by omega)]
    exact heap_alloc_new w _
section
variable {B r m : Nat} {p : Option Addr} {v : Value} {L : List Sl}
set_option maxHeartbeats 1000000 in
theorem regDead_at (b : Bool) (w : World) (h : RegAt w B r m p v L) (hd : Calls Tryz.prog 105 #[.pointer p] w fun e w' => e = .returned (.bool b) ∧ w = w') : Calls Tryz.prog 61 #[.pointer (some ⟨r, 0, none⟩)] w fun e w' => e = .returned (.bool b) ∧ w = w' := by
  have c0 : w.cell? ⟨r, 0, none⟩ = some (.pointer p) := by rw [h.c]; rfl
  have HD : Hid (Calls Tryz.prog 105 #[.pointer p] w fun e w' => e = .returned (.bool b) ∧ w = w') := hd
  clear h hd
  go_enter Tryz.func61, Tryz.ntmps61
  go_wp2_with fail
  refine HD.out.mono ?_
  rintro e _ ⟨rfl, rfl⟩
  go_wp2_with fail
  go_ret
  exact ⟨rfl, rfl⟩
/-- the slot that the register has -/
def lastS (L : List Sl) : Sl := L.getLast?.getD sl0
theorem lastS_at (L : List Sl) (h : 0 < L.length) : L[L.length - 1]? = some (lastS L) := by
  unfold lastS
  rw [List.getLast?_eq_getElem?]
  cases hq : L[L.length - 1]? with
  | none =>
    rw [List.getElem?_eq_none_iff] at hq
    omega
  | some s => rfl
/-- a slot of an own slice -/
theorem own_slot {w : World} {g cap : Nat} (h : w.ownsRow B 43 34 (.slice (some ⟨g, 0, none⟩) L.length cap) L.length (slL L)) (i : Nat) (s : Sl) (hs : L[i]? = some s) : w.rangeAt g (i * 34) ((List.range 34).map (slF s)) := fun j u hu => by
  have hi : i < L.length := by
    rcases Nat.lt_or_ge i L.length with h1 | h1
    · exact h1
    · rw [List.getElem?_eq_none h1] at hs
      cases hs
  have hj : j < 34 := by
    rcases Nat.lt_or_ge j 34 with h1 | h1
    · exact h1
    · rw [List.getElem?_eq_none (by simpa using h1)] at hu
      cases hu
  rw [h.cellAt (i * 34 + j) (by omega), slL_at L i j s hs hj]
  simpa [hj] using hu
/- CUT HERE -/
set_option maxRecDepth 100000 in
set_option maxHeartbeats 2000000 in
theorem regNow_none (w : World) (h : RegAt w B r m p v []) : Calls Tryz.prog 63 #[.pointer (some ⟨r, 0, none⟩)] w fun e w' => e = .returned (.agg (slC sl0)) ∧ Below w.heap.size w w' := by
  have hz := zero_slot
  obtain ⟨a, c, hv⟩ := kown_slice h.own
  have hv : v = .slice a 0 c := hv
  have r0 : Blk (w.alloc (.cells (slC sl0) 43)) w.heap.size 43 (slC sl0) := Blk.new _ _ _
  have c1 : (w.alloc (.cells (slC sl0) 43)).cell? ⟨r, 1, none⟩ = some (.slice a 0 c) := by
    rw [(h.below (below_new1 _ _)).c, hv]
    rfl
  have hb : Below w.heap.size w (w.alloc (.cells (slC sl0) 43)) := below_new1 _ _
  clear h hv
  go_enter Tryz.func63, Tryz.ntmps63
  go_wp2_with (first
    | (refine wpList_store_row (by rfl) 43 _ _ (by rfl) (w.heap.size) (slC sl0) (by rfl) (by rfl) 43 _ r0 (sizeSlot.trans (by rw [slC_size])) (by simp only [slC_size]) (slC_all _) ?_; simp only [Act.put, sgPHSlAwake])
    | fail)
  try simp only [Exit.inBlock, Exit.then]
  refine bodyPost_ret (results_cell_row Tryz.results63 _ _ (w.heap.size) 43 (slC sl0) (0, 0) _ rfl (r0.set _) Tryz.underlying43 rfl (sizeSlot.trans (by rw [slC_size]))) rfl ?_
  exact ⟨rfl, below_setRow hb (Nat.le_refl _) _⟩
set_option maxRecDepth 100000 in
set_option maxHeartbeats 4000000 in
theorem regNow_some (hL : 0 < L.length) (hL2 : L.length ≤ 4000000000000) (w : World) (h : RegAt w B r m p v L) : Calls Tryz.prog 63 #[.pointer (some ⟨r, 0, none⟩)] w fun e w' => e = .returned (.agg (slC (lastS L))) ∧ Below w.heap.size w w' := by
  have hz := zero_slot
  obtain ⟨g0, cap, hv, hg0, hg1⟩ := kown_form h.own hL
  have r0 : Blk (w.alloc (.cells (slC sl0) 43)) w.heap.size 43 (slC sl0) := Blk.new _ _ _
  have H1 : Hid (RegAt (w.alloc (.cells (slC sl0) 43)) B r m p v L) := h.below (below_new1 _ _)
  have c1 : (w.alloc (.cells (slC sl0) 43)).cell? ⟨r, 1, none⟩ = some (.slice (some ⟨g0, 0, none⟩) L.length cap) := by
    rw [H1.out.c, hv]
    rfl
  have HR : Hid ((w.alloc (.cells (slC sl0) 43)).rangeAt g0 ((L.length - 1) * 34) ((List.range 34).map (slF (lastS L)))) := by
    have hown := H1.out.own
    rw [hv] at hown
    exact own_slot hown _ _ (lastS_at L hL)
  have hb : Below w.heap.size w (w.alloc (.cells (slC sl0) 43)) := below_new1 _ _
  clear h hv hg0 hg1
  obtain ⟨n, hn⟩ : ∃ n, n = L.length := ⟨_, rfl⟩
  rw [← hn] at c1 HR hL hL2
  clear hn
  have h1 : ¬ ((n : Int) = 0) := by omega
  have h2 : ((n - 1 : Nat) : Int) = (n : Int) - 1 := by omega
  have h3 : (n : Int) - 1 < (n : Int) := by omega
  have h4 : (0 : Int) ≤ (n : Int) - 1 := by omega
  have h5 : ((n : Int) - 1).toNat = n - 1 := by omega
  have h6 : (1 : Int) ≤ (n : Int) := by omega
  go_enter Tryz.func63, Tryz.ntmps63
  go_wp2_with fail
  have hs : w.heap.size < (w.alloc (.cells (slC sl0) 43)).heap.size := r0.lt
  generalize (w.alloc (.cells (slC sl0) 43)) = w1 at *
  refine wp_region_partsS (fun W => W.cell? ⟨r, 1, none⟩ = some (.slice (some ⟨g0, 0, none⟩) n cap)) [([0, 4], 1, true), ([], 2, true), ([], 3, true), ([], 5, false), ([], 6, false), ([], 7, false), ([], 8, false), ([], 9, false), ([], 10, false), ([], 11, false)] [] [12] (by kernel_rfl) (by kernel_rfl) c1 (partsI_yield ?_)
  simp only [sgLHSlAwake]
  go_wp2_with fail
  refine ⟨rfl, _, .pointer (some ⟨r, 0, none⟩), rfl, Or.inl ⟨by rfl, fun W hW => by go_simp⟩, partsI_yield ?_⟩
  simp only [Act.put, sgPHSlAwake]
  simp only [sgLHSlAwake]
  go_wp2_with fail
  refine ⟨rfl, _, .pointer (some ⟨r, 1, none⟩), rfl, Or.inl ⟨by rfl, fun W hW => by go_simp⟩, partsI_yield ?_⟩
  simp only [Act.put, sgPHSlAwake]
  simp only [sgLHSlAwake]
  go_wp2_with fail
  refine ⟨rfl, _, .slice (some ⟨g0, 0, none⟩) n cap, rfl, Or.inl ⟨by rfl, fun W hW => by go_simp⟩, partsI_force ?_⟩
  simp only [Act.put, sgPHSlAwake]
  simp only [sgLHSlAwake]
  go_wp2_with fail
  refine ⟨rfl, c1, partsI_force ?_⟩
  simp only [sgLHSlAwake]
  go_wp2_with fail
  refine ⟨rfl, c1, partsI_force ?_⟩
  simp only [sgLHSlAwake]
  go_wp2_with fail
  refine ⟨rfl, c1, partsI_force ?_⟩
  simp only [sgLHSlAwake]
  go_wp2_with fail
  refine ⟨rfl, c1, partsI_force ?_⟩
  simp only [sgLHSlAwake]
  go_wp2_with fail
  refine ⟨rfl, c1, partsI_force ?_⟩
  simp only [sgLHSlAwake]
  go_wp2_with fail
  refine ⟨rfl, c1, partsI_force ?_⟩
  simp only [sgLHSlAwake]
  refine wpList_load_blk (by rfl) 43 _ (by rfl) g0 ((n - 1) * 34) 34 (slF (lastS L)) (by rfl) _ HR.out Tryz.underlying43 rfl sizeSlot ?_
  simp only [Act.put, sgPHSlAwake]
  go_wp2_with fail
  refine ⟨rfl, c1, partsI_last ?_⟩
  simp only [sgLHSlAwake]
  refine wpList_store_row (by rfl) 43 _ _ (by rfl) w.heap.size (slC (lastS L)) (by rfl) (by rfl) 43 (slC sl0) r0.drew (sizeSlot.trans (by rw [slC_size])) (by simp only [slC_size]) (slC_all _) ?_
  simp only [Act.put, sgPHSlAwake]
  go_wp2_with fail
  refine ⟨rfl, ?_⟩
  go_wp2_with fail
  try simp only [Exit.inBlock, Exit.then]
  refine bodyPost_ret (results_cell_row Tryz.results63 _ _ (w.heap.size) 43 (slC (lastS L)) (0, 0) _ rfl (r0.drew.set _) Tryz.underlying43 rfl (sizeSlot.trans (by rw [slC_size]))) rfl ?_
  exact ⟨rfl, below_setRow hb.drew (Nat.le_refl _) _⟩
theorem regNow_any (hL2 : L.length ≤ 4000000000000) (w : World) (h : RegAt w B r m p v L) : Calls Tryz.prog 63 #[.pointer (some ⟨r, 0, none⟩)] w fun e w' => e = .returned (.agg (slC (lastS L))) ∧ Below w.heap.size w w' := by
  cases L with
  | nil => exact regNow_none w h
  | cons s L => exact regNow_some (by simp) hL2 w h
end
set_option maxRecDepth 100000 in
set_option maxHeartbeats 2000000 in
theorem follows_any (a b : Sl) (ha : a.1 < 18446744073709551616) (w : World) : Calls Tryz.prog 62 #[.agg (slC a), .agg (slC b)] w fun e w' => e = .returned (.bool (decide (a.1 = b.1 + 1))) ∧ Below w.heap.size w w' := by
  have hb : Below w.heap.size w ((w.alloc (.cells (slC a) 43)).alloc (.cells (slC b) 43)) := below_new2 _ _ _
  have r0 : Blk ((w.alloc (.cells (slC a) 43)).alloc (.cells (slC b) 43)) w.heap.size 43 (slC a) := (Blk.new _ _ _).alloc _
  have r1 : Blk ((w.alloc (.cells (slC a) 43)).alloc (.cells (slC b) 43)) (w.heap.size + 1) 43 (slC b) := Blk.new1 _ _ _ _
  have x0 : ((w.alloc (.cells (slC a) 43)).alloc (.cells (slC b) 43)).cell? ⟨w.heap.size, 0, none⟩ = some (.int .u64 (a.1 : Int)) := by
    rw [r0.cell]
    exact va_at (slF a) (by decide)
  have x1 : ((w.alloc (.cells (slC a) 43)).alloc (.cells (slC b) 43)).cell? ⟨w.heap.size + 1, 0, none⟩ = some (.int .u64 (b.1 : Int)) := by
    rw [r1.cell]
    exact va_at (slF b) (by decide)
  obtain ⟨ac, hac⟩ : ∃ ac, ac = a.1 := ⟨_, rfl⟩
  obtain ⟨bc, hbc⟩ : ∃ bc, bc = b.1 := ⟨_, rfl⟩
  rw [← hac] at x0 ha
  rw [← hbc] at x1
  rw [← hac, ← hbc]
  generalize slC a = ca at *
  generalize slC b = cb at *
  clear r0 r1 hac hbc
  by_cases h0 : ac = 0
  · have h1 : (ac : Int) = 0 := by omega
    rw [decide_eq_false (by omega)]
    rw [h1] at x0
    go_enter Tryz.func62, Tryz.ntmps62
    go_wp2_with fail
    go_ret
    exact ⟨rfl, hb⟩
  · have h1 : ¬ (ac : Int) = 0 := by omega
    have h2 : (0 : Int) ≤ (ac : Int) - 1 := by omega
    have h3 : (1 : Int) ≤ (ac : Int) := by omega
    have h4 : (ac : Int) - 1 < 18446744073709551616 := by omega
    have hd : decide (ac = bc + 1) = decide ((ac : Int) - 1 = (bc : Int)) := decide_eq_decide.2 (by omega)
    rw [hd]
    go_enter Tryz.func62, Tryz.ntmps62
    go_wp2_with fail
    go_ret
    refine ⟨?_, hb⟩
    have e : (((ac : Int) != 0) && ((ac : Int) - 1 == (bc : Int))) = decide ((ac : Int) - 1 = (bc : Int)) := by
      rw [show ((ac : Int) != 0) = true by simpa using h1, Bool.true_and, Bool.eq_iff_iff]
      simp
    rw [← e]
    rfl
section
variable {B r m : Nat} {p : Option Addr} {v : Value} {L : List Sl}
end
end Go.Proofs.YtppagdmlfgialaaGreatDoor

namespace Go.Proofs.YtppagdmlfgialaaGreatDoor
open Go Go.RowKit
set_option linter.unusedSimpArgs false
set_option linter.unusedVariables false

theorem findIn_zip (s : Sl) : ∀ (L : List Sl) (k : Nat), (findIn s (L.zipIdx k)).isSome = decide (s ∈ L)
  | [], k => by simp [findIn]
  | x :: L, k => by
    rw [List.zipIdx_cons]
    unfold findIn
    by_cases h : s = x
    · subst h
      simp
    · rw [if_neg h, findIn_zip s L (k + 1)]
      simp [h]
theorem findIn_zip_none (s : Sl) (L : List Sl) (k : Nat) (h : s ∉ L) : findIn s (L.zipIdx k) = none := by
  have := findIn_zip s L k
  rw [decide_eq_false h] at this
  exact Option.not_isSome_iff_eq_none.1 (by rw [this]; simp)
theorem zipIdx_snoc (L : List Sl) (s : Sl) : (L ++ [s]).zipIdx = L.zipIdx ++ [(s, L.length)] := by
  rw [List.zipIdx_append]
  simp
section
variable {B r m : Nat} {p : Option Addr} {v : Value} {L : List Sl}
end
end Go.Proofs.YtppagdmlfgialaaGreatDoor

namespace Go.Proofs.YtppagdmlfgialaaGreatDoor
open Go Go.RowKit
set_option linter.unusedSimpArgs false
set_option linter.unusedVariables false

section
variable {B r m : Nat} {p : Option Addr} {v : Value} {L : List Sl}
set_option maxRecDepth 100000 in
set_option maxHeartbeats 4000000 in
theorem regWrite_not (hL2 : L.length ≤ 4000000000000) (s : Sl) (hs64 : s.1 < 18446744073709551616) (hs : s.2.1 ≠ 0) (hfol : s.1 = (lastS L).1 + 1) (w : World) (h : RegAt w B r m p v L) (hd : ∀ w', Below w.heap.size w w' → Calls Tryz.prog 105 #[.pointer p] w' fun e w'' => e = .returned (.bool false) ∧ w' = w'') (T : World → World → Prop) (er : Int) (hE : ∀ w0, Below w.heap.size w w0 → Calls Tryz.prog 64 #[.pointer p] w0 fun e w' => e = .returned (.tuple #[.bool false, .int .i64 er]) ∧ T w0 w') : Calls Tryz.prog 29 #[.pointer (some ⟨r, 0, none⟩), .agg (slC s)] w fun e w' => e = .returned (.int .i64 er) ∧ ∃ w1, Below w.heap.size w w1 ∧ T w1 w' := by
  have hz := zero_slot
  have HB1 : Hid (Below w.heap.size w (w.alloc (.cells (slC s) 43))) := below_new1 _ _
  have HR1 : Hid (RegAt (w.alloc (.cells (slC s) 43)) B r m p v L) := h.below HB1.out
  have HD : Hid (Calls Tryz.prog 61 #[.pointer (some ⟨r, 0, none⟩)] (w.alloc (.cells (slC s) 43)) fun e w' => e = .returned (.bool false) ∧ (w.alloc (.cells (slC s) 43)) = w') := regDead_at false _ HR1.out (hd _ HB1.out)
  have r0 : Blk (w.alloc (.cells (slC s) 43)) w.heap.size 43 (slC s) := Blk.new _ _ _
  have hrw : r < w.heap.size := h.cells.lt
  have x1 : (w.alloc (.cells (slC s) 43)).cell? ⟨w.heap.size, 1, none⟩ = some (.int .u32 (s.2.1 : Int)) := by
    rw [r0.cell]
    exact va_at (slF s) (by decide)
  clear h hd
  have HN : Hid (∀ w, RegAt w B r m p v L → Calls Tryz.prog 63 #[.pointer (some ⟨r, 0, none⟩)] w fun e w' => e = .returned (.agg (slC (lastS L))) ∧ Below w.heap.size w w') := fun w hw => regNow_any hL2 w hw
  have HF : Hid (∀ w, Calls Tryz.prog 62 #[.agg (slC s), .agg (slC (lastS L))] w fun e w' => e = .returned (.bool true) ∧ Below w.heap.size w w') := fun w => by
    have := follows_any s (lastS L) hs64 w
    rw [decide_eq_true hfol] at this
    exact this
  have hs0 : ¬ (s.2.1 : Int) = 0 := by omega
  have d0 : decide ((s.2.1 : Int) = 0) = false := decide_eq_false hs0
  have HE : Hid (∀ w0, Below w.heap.size w w0 → Calls Tryz.prog 64 #[.pointer p] w0 fun e w' => e = .returned (.tuple #[.bool false, .int .i64 er]) ∧ T w0 w') := hE
  clear hfol hs hE
  go_enter Tryz.func29, Tryz.ntmps29
  go_wp2_with fail
  refine HD.out.mono ?_
  rintro e _ ⟨rfl, rfl⟩
  go_wp2_with fail
  have r0d : Blk (w.alloc (.cells (slC s) 43)).drew w.heap.size 43 (slC s) := r0
  have HRd : Hid (RegAt (w.alloc (.cells (slC s) 43)).drew B r m p v L) := HR1.out.below (Below.refl _ _).drew
  have HB1d : Hid (Below w.heap.size w (w.alloc (.cells (slC s) 43)).drew) := HB1.out.drew
  clear HD HR1 HB1 x1
  generalize hw1 : (w.alloc (.cells (slC s) 43)) = w1 at *
  clear hw1
  refine wp_region_partsS (fun W => Blk W w.heap.size 43 (slC s)) [([1], 0, true), ([], 2, false), ([], 3, false)] [4] [] (by kernel_rfl) (by kernel_rfl) r0 (partsI_yield ?_)
  simp only [sgLHSlAwake]
  go_wp2_with fail
  refine ⟨rfl, _, .agg (slC s), rfl, kyields_load (by rfl) 43 _ (by rfl) w.heap.size 34 (slF s) (by rfl) _ 43 (fun W hW => hW) Tryz.underlying43 rfl sizeSlot, partsI_force ?_⟩
  simp only [Act.put, sgPHSlAwake]
  simp only [sgLHSlAwake]
  go_wp2_with fail
  refine (HN.out _ HRd.out).mono ?_
  rintro e w2 ⟨rfl, hb2⟩
  have r2 := r0d.below hb2 r0d.lt
  have HR2 : Hid (RegAt w2 B r m p v L) := HRd.out.below hb2
  have HB2 : Hid (Below w.heap.size w w2) := HB1d.out.trans (hb2.mono HB1d.out.size)
  clear hb2 HN HRd HB1d r0d
  go_wp2_with fail
  refine ⟨rfl, r2, partsI_force ?_⟩
  simp only [sgLHSlAwake]
  go_wp2_with fail
  refine (HF.out _).mono ?_
  rintro e w3 ⟨rfl, hb3⟩
  have r3 := r2.below hb3 r2.lt
  have HR3 : Hid (RegAt w3 B r m p v L) := HR2.out.below hb3
  have HB3 : Hid (Below w.heap.size w w3) := HB2.out.trans (hb3.mono HB2.out.size)
  clear hb3 HF HR2 HB2 r2
  go_wp2_with fail
  refine ⟨rfl, r3, partsI_last ?_⟩
  simp only [sgLHSlAwake]
  go_wp2_with fail
  refine ⟨rfl, ?_⟩
  have c0 : w3.cell? ⟨r, 0, none⟩ = some (.pointer p) := by
    rw [HR3.out.c]
    rfl
  go_wp2_with fail
  refine (HE.out _ HB3.out).mono ?_
  rintro e w4 ⟨rfl, ht4⟩
  go_wp2_with fail
  go_ret
  exact ⟨rfl, w3, HB3.out, ht4⟩
set_option maxRecDepth 100000 in
set_option maxHeartbeats 8000000 in
theorem regWrite_go (hL2 : L.length < 2199023255552) (s : Sl) (hs64 : s.1 < 18446744073709551616) (hs : s.2.1 ≠ 0) (hfol : s.1 = (lastS L).1 + 1) (hnew : s ∉ L) (w : World) (hB : B ≤ w.heap.size) (h : RegAt w B r m p v L) (hd : ∀ w', Below w.heap.size w w' → Calls Tryz.prog 105 #[.pointer p] w' fun e w'' => e = .returned (.bool false) ∧ w' = w'') (T : World → World → Prop) (S : Nat → Prop) (hS : ∀ b, S b → b < w.heap.size ∧ ¬ rfoot r m v b) (hT : ∀ w0 w', T w0 w' → Turns S w0 w') (er : Int) (hE : ∀ w0, Below w.heap.size w w0 → Calls Tryz.prog 64 #[.pointer p] w0 fun e w' => e = .returned (.tuple #[.bool true, .int .i64 er]) ∧ T w0 w') : Calls Tryz.prog 29 #[.pointer (some ⟨r, 0, none⟩), .agg (slC s)] w fun e w' => e = .returned (.int .i64 er) ∧ ∃ w1 w2 v', Below w.heap.size w w1 ∧ T w1 w2 ∧ RegAt w' B r m p v' (L ++ [s]) ∧ Turns (rfoot r m v) w2 w' ∧ (v'.ownBlock = v.ownBlock ∨ ∃ b, v'.ownBlock = some b ∧ w2.heap.size ≤ b) := by
  obtain ⟨i0, hi, hz0, hz1, hz2⟩ := info_parts infoSlot
  have h0 := h.own.lt
  have hz := zero_slot
  have HB1 : Hid (Below w.heap.size w (w.alloc (.cells (slC s) 43))) := below_new1 _ _
  have HR1 : Hid (RegAt (w.alloc (.cells (slC s) 43)) B r m p v L) := h.below HB1.out
  have HD : Hid (Calls Tryz.prog 61 #[.pointer (some ⟨r, 0, none⟩)] (w.alloc (.cells (slC s) 43)) fun e w' => e = .returned (.bool false) ∧ (w.alloc (.cells (slC s) 43)) = w') := regDead_at false _ HR1.out (hd _ HB1.out)
  have r0 : Blk (w.alloc (.cells (slC s) 43)) w.heap.size 43 (slC s) := Blk.new _ _ _
  have hrw : r < w.heap.size := h.cells.lt
  have x1 : (w.alloc (.cells (slC s) 43)).cell? ⟨w.heap.size, 1, none⟩ = some (.int .u32 (s.2.1 : Int)) := by
    rw [r0.cell]
    exact va_at (slF s) (by decide)
  clear h hd
  have HN : Hid (∀ w, RegAt w B r m p v L → Calls Tryz.prog 63 #[.pointer (some ⟨r, 0, none⟩)] w fun e w' => e = .returned (.agg (slC (lastS L))) ∧ Below w.heap.size w w') := fun w hw => regNow_any (by omega) w hw
  have HF : Hid (∀ w, Calls Tryz.prog 62 #[.agg (slC s), .agg (slC (lastS L))] w fun e w' => e = .returned (.bool true) ∧ Below w.heap.size w w') := fun w => by
    have := follows_any s (lastS L) hs64 w
    rw [decide_eq_true hfol] at this
    exact this
  have hs0 : ¬ (s.2.1 : Int) = 0 := by omega
  have d0 : decide ((s.2.1 : Int) = 0) = false := decide_eq_false hs0
  have HE : Hid (∀ w0, Below w.heap.size w w0 → Calls Tryz.prog 64 #[.pointer p] w0 fun e w' => e = .returned (.tuple #[.bool true, .int .i64 er]) ∧ T w0 w') := hE
  have HS : Hid (∀ b, S b → b < w.heap.size ∧ ¬ rfoot r m v b) := hS
  have HTT : Hid (∀ w0 w', T w0 w' → Turns S w0 w') := hT
  have HNW : Hid (s ∉ L) := hnew
  have HBW : Hid (B ≤ w.heap.size) := hB
  have h0own : Hid (∀ b, v.ownBlock = some b → B ≤ b ∧ b < w.heap.size) := h0
  clear hfol hs hE hS hT hnew hB h0
  go_enter Tryz.func29, Tryz.ntmps29
  go_wp2_with fail
  refine HD.out.mono ?_
  rintro e _ ⟨rfl, rfl⟩
  go_wp2_with fail
  have r0d : Blk (w.alloc (.cells (slC s) 43)).drew w.heap.size 43 (slC s) := r0
  have HRd : Hid (RegAt (w.alloc (.cells (slC s) 43)).drew B r m p v L) := HR1.out.below (Below.refl _ _).drew
  have HB1d : Hid (Below w.heap.size w (w.alloc (.cells (slC s) 43)).drew) := HB1.out.drew
  clear HD HR1 HB1 x1
  generalize hw1 : (w.alloc (.cells (slC s) 43)) = w1 at *
  clear hw1
  refine wp_region_partsS (fun W => Blk W w.heap.size 43 (slC s)) [([1], 0, true), ([], 2, false), ([], 3, false)] [4] [] (by kernel_rfl) (by kernel_rfl) r0 (partsI_yield ?_)
  simp only [sgLHSlAwake]
  go_wp2_with fail
  refine ⟨rfl, _, .agg (slC s), rfl, kyields_load (by rfl) 43 _ (by rfl) w.heap.size 34 (slF s) (by rfl) _ 43 (fun W hW => hW) Tryz.underlying43 rfl sizeSlot, partsI_force ?_⟩
  simp only [Act.put, sgPHSlAwake]
  simp only [sgLHSlAwake]
  go_wp2_with fail
  refine (HN.out _ HRd.out).mono ?_
  rintro e w2 ⟨rfl, hb2⟩
  have r2 := r0d.below hb2 r0d.lt
  have HR2 : Hid (RegAt w2 B r m p v L) := HRd.out.below hb2
  have HB2 : Hid (Below w.heap.size w w2) := HB1d.out.trans (hb2.mono HB1d.out.size)
  clear hb2 HN HRd HB1d r0d
  go_wp2_with fail
  refine ⟨rfl, r2, partsI_force ?_⟩
  simp only [sgLHSlAwake]
  go_wp2_with fail
  refine (HF.out _).mono ?_
  rintro e w3 ⟨rfl, hb3⟩
  have r3 := r2.below hb3 r2.lt
  have HR3 : Hid (RegAt w3 B r m p v L) := HR2.out.below hb3
  have HB3 : Hid (Below w.heap.size w w3) := HB2.out.trans (hb3.mono HB2.out.size)
  clear hb3 HF HR2 HB2 r2
  go_wp2_with fail
  refine ⟨rfl, r3, partsI_last ?_⟩
  simp only [sgLHSlAwake]
  go_wp2_with fail
  refine ⟨rfl, ?_⟩
  have c0 : w3.cell? ⟨r, 0, none⟩ = some (.pointer p) := by
    rw [HR3.out.c]
    rfl
  go_wp2_with fail
  refine (HE.out _ HB3.out).mono ?_
  rintro e w4 ⟨rfl, ht4⟩
  have HR4 : Hid (RegAt w4 B r m p v L) := HR3.out.kept fun b hb => (HTT.out _ _ ht4).block b (HR3.out.foots b hb).2 fun hs => (HS.out b hs).2 hb
  have r4 : Blk w4 w.heap.size 43 (slC s) := ((HTT.out _ _ ht4).block _ r3.lt fun hs => by have := (HS.out _ hs).1; omega).trans r3
  have HT4 : Hid (T w3 w4) := ht4
  have hsz4 : w3.heap.size ≤ w4.heap.size := (HTT.out _ _ ht4).size
  have HSZ4 : Hid (w.heap.size ≤ w4.heap.size) := Nat.le_trans HB3.out.size hsz4
  obtain ⟨va0, vc0, hv⟩ := kown_slice HR4.out.own
  have HV : Hid (v = .slice va0 L.length vc0) := hv
  have c1 : w4.cell? ⟨r, 1, none⟩ = some (.slice va0 L.length vc0) := by
    rw [HR4.out.c, ← hv]
    rfl
  have c2 : w4.cell? ⟨r, 2, none⟩ = some (.map (some m)) := by
    rw [HR4.out.c]
    rfl
  obtain ⟨w5, hup, hmap5, hk5⟩ := run_update_is Tryz.underlying152 slot_key (HR4.out.below (Below.refl _ _).drew).map s L.length (findIn_zip_none s L 0 HNW.out)
  have hup : (Instr.mapUpdate 152 (.map (some m)) (.agg (slC s)) (.int .i64 (L.length : Int))).run Tryz.prog w4.drew = .ok () w5 := hup
  have HM5 : Hid (MapIs slV intV w5 m (L.zipIdx ++ [(s, L.length)])) := hmap5
  have HK5 : Hid (Keeps m w4 w5) := ⟨⟨hk5.1.os, hk5.1.tape, hk5.1.output, hk5.1.size, hk5.1.block⟩, hk5.2⟩
  clear hv ht4 hmap5 hk5 c0 hsz4
  go_wp2_with fail
  refine wp_region_partsS (fun W => W.cell? ⟨r, 1, none⟩ = some (.slice va0 L.length vc0) ∧ W.cell? ⟨r, 2, none⟩ = some (.map (some m)) ∧ Blk W w.heap.size 43 (slC s)) [([0, 5], 1, true), ([], 2, true), ([], 3, true), ([], 4, true), ([], 6, false), ([], 7, false), ([], 8, false), ([], 9, false)] [] [10] (by kernel_rfl) (by kernel_rfl) ⟨c1, c2, r4⟩ (partsI_yield ?_)
  simp only [sgLHSlAwake]
  go_wp2_with fail
  refine ⟨rfl, _, .pointer (some ⟨r, 0, none⟩), rfl, Or.inl ⟨by rfl, fun W hW => by go_simp⟩, partsI_yield ?_⟩
  simp only [Act.put, sgPHSlAwake]
  simp only [sgLHSlAwake]
  go_wp2_with fail
  refine ⟨rfl, _, .pointer (some ⟨r, 2, none⟩), rfl, Or.inl ⟨by rfl, fun W hW => by go_simp⟩, partsI_yield ?_⟩
  simp only [Act.put, sgPHSlAwake]
  simp only [sgLHSlAwake]
  go_wp2_with fail
  refine ⟨rfl, _, .map (some m), rfl, Or.inl ⟨by rfl, fun W hW => by obtain ⟨hWa, hWb, hWc⟩ := hW; go_simp⟩, partsI_yield ?_⟩
  simp only [Act.put, sgPHSlAwake]
  simp only [sgLHSlAwake]
  go_wp2_with fail
  refine ⟨rfl, _, .agg (slC s), rfl, kyields_load (by rfl) 43 _ (by rfl) w.heap.size 34 (slF s) (by rfl) _ 43 (fun W hW => hW.2.2) Tryz.underlying43 rfl sizeSlot, partsI_force ?_⟩
  simp only [Act.put, sgPHSlAwake]
  simp only [sgLHSlAwake]
  go_wp2_with fail
  refine ⟨rfl, ⟨c1, c2, r4⟩, partsI_force ?_⟩
  simp only [sgLHSlAwake]
  go_wp2_with fail
  refine ⟨rfl, ⟨c1, c2, r4⟩, partsI_force ?_⟩
  simp only [sgLHSlAwake]
  go_wp2_with fail
  refine ⟨rfl, ⟨c1, c2, r4⟩, partsI_force ?_⟩
  simp only [sgLHSlAwake]
  go_wp2_with fail
  refine ⟨rfl, ⟨c1, c2, r4⟩, partsI_last ?_⟩
  simp only [sgLHSlAwake]
  go_wp2_with fail
  refine ⟨rfl, ?_⟩
  have d1 : w5.cell? ⟨r, 1, none⟩ = some (.slice va0 L.length vc0) := by
    have hblk := HK5.out.2 r (fun e => by obtain ⟨es, cl, hg, _⟩ := HR4.out.map; exact map_blk hg HR4.out.cells e.symm) HR4.out.cells.lt
    rw [← c1]
    simp [World.cell?, hblk]
  have HR5 : Hid (Blk w5 r 155 #[.pointer p, v, .map (some m)]) := (HK5.out.2 r (fun e => by obtain ⟨es, cl, hg, _⟩ := HR4.out.map; exact map_blk hg HR4.out.cells e.symm) HR4.out.cells.lt).trans HR4.out.cells
  have HO5 : Hid (w5.ownsRow B 43 34 v L.length (slL L)) := own_block HR4.out.own fun b hb => HK5.out.2 b (fun e => by obtain ⟨es, cl, hg, _⟩ := HR4.out.map; exact own_map HR4.out.own hg (e ▸ hb)) (HR4.out.own.lt b hb).2
  have r5 : Blk w5 w.heap.size 43 (slC s) := (HK5.out.2 _ (fun e => by obtain ⟨es, cl, hg, _⟩ := HR4.out.map; exact map_blk hg r4 e.symm) r4.lt).trans r4
  have hsz5 : w4.heap.size ≤ w5.heap.size := HK5.out.1.size
  clear c1 c2 r4 hup
  go_wp2_with fail
  refine wp_region_partsS (fun W => W.cell? ⟨r, 1, none⟩ = some (.slice va0 L.length vc0) ∧ Blk W w.heap.size 43 (slC s)) [([0, 1], 2, true), ([], 3, true), ([], 4, true), ([], 5, false), ([], 6, false), ([], 7, false), ([], 8, false), ([], 9, false)] [] [10] (by kernel_rfl) (by kernel_rfl) ⟨d1, r5⟩ (partsI_yield ?_)
  simp only [sgLHSlAwake]
  go_wp2_with fail
  refine ⟨rfl, _, .pointer (some ⟨r, 0, none⟩), rfl, Or.inl ⟨by rfl, fun W hW => by go_simp⟩, partsI_yield ?_⟩
  simp only [Act.put, sgPHSlAwake]
  simp only [sgLHSlAwake]
  go_wp2_with fail
  refine ⟨rfl, _, .pointer (some ⟨r, 1, none⟩), rfl, Or.inl ⟨by rfl, fun W hW => by go_simp⟩, partsI_yield ?_⟩
  simp only [Act.put, sgPHSlAwake]
  simp only [sgLHSlAwake]
  go_wp2_with fail
  refine ⟨rfl, _, .slice va0 L.length vc0, rfl, Or.inl ⟨by rfl, fun W hW => by obtain ⟨hWa, hWb⟩ := hW; go_simp⟩, partsI_force ?_⟩
  simp only [Act.put, sgPHSlAwake]
  simp only [sgLHSlAwake]
  refine wpList_load_rowg (by rfl) 43 _ (by rfl) w.heap.size (by rfl) 43 (slC s) (0, 0) _ r5.drew Tryz.underlying43 (by rfl) (sizeSlot.trans (by rw [slC_size])) ?_
  simp only [Act.put, sgPHSlAwake]
  go_wp2_with fail
  refine ⟨rfl, ⟨d1, r5.drew⟩, partsI_force ?_⟩
  simp only [sgLHSlAwake]
  refine wpList_build1 rfl 153 43 _ rfl (slC s) rfl i0 (slV sl0) 34 Tryz.underlying153 hi hz0 hz1 (slC_size _) (by decide) (by decide) ?_
  simp only [Act.put, sgPHSlAwake]
  go_wp2_with fail
  have r6 : Blk (w5.drew.alloc (.cells (slC s) 43)) w.heap.size 43 (slC s) := r5.drew.alloc _
  have d6 : (w5.drew.alloc (.cells (slC s) 43)).cell? ⟨r, 1, none⟩ = some (.slice va0 L.length vc0) := by
    rw [← d1, (HR5.out.drew.alloc _).cell, HR5.out.cell]
  refine ⟨rfl, ⟨d6, r6⟩, partsI_force ?_⟩
  simp only [sgLHSlAwake]
  have HOWN : Hid ((w5.drew.alloc (.cells (slC s) 43)).ownsRow B 43 34 (.slice va0 L.length vc0) L.length (slL L)) := by
    rw [← HV.out]
    exact World.ownsRow.alloc (w := w5.drew) HO5.out _
  have HC : Hid (∀ j u, (slC s).toList[j]? = some u → (w5.drew.alloc (.cells (slC s) 43)).cell? ((⟨w5.drew.heap.size, 0, none⟩ : Addr).add j) = some u) := cells_new w5.drew _ _
  have HBB : Hid (B ≤ (w5.drew.alloc (.cells (slC s) 43)).heap.size) := by
    have h1 := HSZ4.out
    have h2 := HBW.out
    show B ≤ _
    rw [show (w5.drew.alloc (.cells (slC s) 43)).heap.size = w5.heap.size + 1 by simp]
    omega
  refine wpList_append_own_at rfl _ _ 153 rfl B 43 i0 (slV sl0) 34 48 Tryz.underlying153 hi hz0 hz1 hz2 (slC_size _) (by decide) _ _ _ rfl HOWN.out ⟨w5.drew.heap.size, 0, none⟩ 1 1 (slC s).toList rfl (by rw [Array.length_toList, slC_size]) HC.out (slC_one s) (by unfold maxLen; omega) (by omega) HBB.out ?_
  intro v' w6 hrow hgr hsb
  obtain ⟨xa, xc, hxe⟩ := kown_slice hrow
  subst hxe
  have hap : (Value.slice va0 L.length vc0).ownBlock ≠ some r := by
    rw [← HV.out]
    exact own_ne HO5.out HR5.out (by decide)
  have hbo : (Value.slice va0 L.length vc0).ownBlock ≠ some w.heap.size := by
    rw [← HV.out]
    exact fun e => by
      have := (h0own.out _ e).2
      omega
  have b6 : ∀ z, z < w5.heap.size → (Value.slice va0 L.length vc0).ownBlock ≠ some z → w6.heap[z]? = w5.heap[z]? := fun z hz1 hz2 => by
    rw [hgr.block z (show z < (w5.drew.alloc _).heap.size by simp; omega) (fun e => hz2 e.symm)]
    exact (heap_alloc_old _ _ hz1)
  have HB6 : Hid (Blk w6 r 155 #[.pointer p, v, .map (some m)]) := (b6 r HR5.out.lt hap).trans HR5.out
  have d7 : w6.cell? ⟨r, 1, none⟩ = some (.slice va0 L.length vc0) := by
    rw [HB6.out.cell, ← HV.out]
    rfl
  have f7 : w6.frozen? ⟨r, 1, none⟩ = false := HB6.out.frozen 1
  have r7 : Blk w6 w.heap.size 43 (slC s) := (b6 _ r5.lt hbo).trans r5
  go_wp2_with fail
  refine ⟨rfl, ⟨d7, r7⟩, partsI_force ?_⟩
  simp only [sgLHSlAwake]
  go_wp2_with fail
  refine ⟨rfl, ⟨d7, r7⟩, partsI_force ?_⟩
  simp only [sgLHSlAwake]
  go_wp2_with fail
  refine ⟨rfl, ⟨d7, r7⟩, partsI_last ?_⟩
  simp only [sgLHSlAwake]
  go_wp2_with fail
  refine ⟨rfl, ?_⟩
  have hsz6 : w5.heap.size + 1 ≤ w6.heap.size := by
    have := hgr.size
    rw [show (w5.drew.alloc (.cells (slC s) 43)).heap.size = w5.heap.size + 1 by simp] at this
    exact this
  have hsb : (Value.slice xa (L.length + 1) xc).ownBlock = (Value.slice va0 L.length vc0).ownBlock ∨ (Value.slice xa (L.length + 1) xc).ownBlock = some (w5.heap.size + 1) := by
    rw [show (w5.drew.alloc (.cells (slC s) 43)).heap.size = w5.heap.size + 1 by simp] at hsb
    exact hsb
  have hvr : (Value.slice xa (L.length + 1) xc).ownBlock ≠ some r := own_ne hrow HB6.out (by decide)
  have HM6 : Hid (MapIs slV intV w6 m (L ++ [s]).zipIdx) := by
    rw [zipIdx_snoc]
    obtain ⟨es, cl, hg, he⟩ := HM5.out
    exact ⟨es, cl, (b6 m (Array.getElem?_eq_some_iff.1 hg).1 (by rw [← HV.out]; exact own_map HO5.out hg)).trans hg, he⟩
  have hmr : m ≠ r := by
    obtain ⟨es, cl, hg, he⟩ := HM6.out
    exact map_blk hg HB6.out
  have HRF : Hid (RegAt (w6.setCell ⟨r, 1, none⟩ (.slice xa (L.length + 1) xc)) B r m p (.slice xa (L.length + 1) xc) (L ++ [s])) := by
    refine ⟨HR4.out.rB, HR4.out.mB, HB6.out.put 1 _, ?_, ?_⟩
    · rw [slL_snoc, List.length_append]
      exact own_block hrow fun z hz => Deep.blk_setCell_other w6 ⟨r, 1, none⟩ _ z fun e => hvr (by rw [← (show z = r from e)]; exact hz)
    · obtain ⟨es, cl, hg, he⟩ := HM6.out
      exact ⟨es, cl, (Deep.blk_setCell_other w6 ⟨r, 1, none⟩ _ m hmr).trans hg, he⟩
  have HTF : Hid (Turns (rfoot r m v) w4 (w6.setCell ⟨r, 1, none⟩ (.slice xa (L.length + 1) xc))) := by
    refine ⟨hgr.os.trans HK5.out.1.os, hgr.tape.trans HK5.out.1.tape, hgr.output.trans HK5.out.1.output, by rw [Deep.nblk_setCell]; omega, fun z hz hf => ?_⟩
    rw [Deep.blk_setCell_other w6 ⟨r, 1, none⟩ _ z fun e => hf (.inl e), b6 z (by omega) fun e => hf (.inr (.inr (by rw [HV.out]; exact e)))]
    exact HK5.out.2 z (fun e => hf (.inr (.inl e))) hz
  have HVB : Hid ((Value.slice xa (L.length + 1) xc).ownBlock = v.ownBlock ∨ ∃ b, (Value.slice xa (L.length + 1) xc).ownBlock = some b ∧ w4.heap.size ≤ b) := by
    rw [HV.out]
    rcases hsb with e | e
    · exact .inl e
    · exact .inr ⟨_, e, by omega⟩
  clear hsb hgr hrow b6 HM6 hap hbo hvr
  go_wp2_with fail
  go_ret
  exact ⟨rfl, w3, w4, _, HB3.out, HT4.out, HRF.out, HTF.out, HVB.out⟩
end
end Go.Proofs.YtppagdmlfgialaaGreatDoor

namespace Go.Proofs.YtppagdmlfgialaaGreatDoor
open Go Go.RowKit
set_option linter.unusedSimpArgs false
set_option linter.unusedVariables false

structure RD (w : World) (B g N : Nat) (F : Nat → Nat) (k lg : Nat) (q : QD) (C : List (Int × Bool)) (r m : Nat) (v : Value) (L : List Sl) : Prop where
  d : DiskQ w B g N F k lg q
  c : CutsAt w B q.cu C
  reg : RegAt w B r m (some ⟨g, 0, none⟩) v L
  ap : ∀ b, rfoot r m v b → ¬ foot g N q b
section
variable {w w' : World} {B g N k lg r m : Nat} {F : Nat → Nat} {q : QD} {C : List (Int × Bool)} {v : Value} {L : List Sl}
theorem RD.below (h : RD w B g N F k lg q C r m v L) (hb : Below w.heap.size w w') : RD w' B g N F k lg q C r m v L := ⟨h.d.below hb, kown_below h.c hb, h.reg.below hb, h.ap⟩
theorem RD.cutsR (h : RD w B g N F k lg q C r m v L) : ∀ b, q.cu.ownBlock = some b → ¬ rfoot r m v b := by
  intro b hb hf
  obtain ⟨es, cl, hg, he⟩ := h.reg.map
  rcases hf with rfl | rfl | z
  · exact own_ne h.c h.reg.cells (by decide) hb
  · exact own_map h.c hg hb
  · exact own_own h.c h.reg.own (by decide) hb z
theorem RD.doD (h : RD w B g N F k lg q C r m v L) {F' : Nat → Nat} {k' lg' : Nat} {q' : QD} (hd : DiskQ w' B g N F' k' lg' q') (hc : q'.cu = q.cu) (hm : Moved g N q q' w w') : RD w' B g N F' k' lg' q' C r m v L := by
  refine ⟨hd, ?_, h.reg.kept fun b hb => hm.1.block b (h.reg.foots b hb).2 (h.ap b hb), fun b hb hf => ?_⟩
  · rw [hc]
    exact h.d.cutsKept h.c hm
  · rcases hm.2 b hf with e | e
    · exact h.ap b hb e
    · have := (h.reg.foots b hb).2
      omega
theorem RD.doR (h : RD w B g N F k lg q C r m v L) {v' : Value} {L' : List Sl} (hr : RegAt w' B r m (some ⟨g, 0, none⟩) v' L') (hT : Turns (rfoot r m v) w w') (hv : v'.ownBlock = v.ownBlock ∨ ∃ b, v'.ownBlock = some b ∧ w.heap.size ≤ b) : RD w' B g N F k lg q C r m v' L' := by
  refine ⟨h.d.kept fun b hb => hT.block b (h.d.foots b hb).2 fun e => h.ap b e hb, own_block h.c fun b hb => hT.block b (h.c.lt b hb).2 (h.cutsR b hb), hr, fun b hb hf => ?_⟩
  rcases hb with rfl | rfl | z
  · exact h.ap _ (.inl rfl) hf
  · exact h.ap _ (.inr (.inl rfl)) hf
  · rcases hv with e | ⟨x, e, hx⟩
    · exact h.ap b (.inr (.inr (by rw [← e]; exact z))) hf
    · rw [e] at z
      injection z with z
      subst z
      have := (h.d.foots _ hf).2
      omega
/-- all blocks of the two, but the cuts' -/
def rdfoot (g N : Nat) (q : QD) (r m : Nat) (v : Value) (b : Nat) : Prop := foot g N q b ∨ rfoot r m v b
def RDMoved (g N : Nat) (q : QD) (r m : Nat) (v : Value) (q' : QD) (v' : Value) (w w' : World) : Prop := Turns (rdfoot g N q r m v) w w' ∧ ∀ b, rdfoot g N q' r m v' b → rdfoot g N q r m v b ∨ w.heap.size ≤ b
theorem RD.rdfoots (h : RD w B g N F k lg q C r m v L) : ∀ b, rdfoot g N q r m v b → B ≤ b ∧ b < w.heap.size := fun b hb => by
  rcases hb with e | e
  · exact h.d.foots b e
  · exact h.reg.foots b e
theorem RDMoved.of_below {w w' : World} (h : Below w.heap.size w w') : RDMoved g N q r m v q v w w' := ⟨.of_below h, fun _ => .inl⟩
theorem RDMoved.of_d {w w' : World} {q' : QD} (h : Moved g N q q' w w') : RDMoved g N q r m v q' v w w' := ⟨h.1.mono fun b hb => .inl hb, fun b hb => by
  rcases hb with e | e
  · rcases h.2 b e with z | z
    · exact .inl (.inl z)
    · exact .inr z
  · exact .inl (.inr e)⟩
theorem RDMoved.of_r {w w' : World} {v' : Value} (hT : Turns (rfoot r m v) w w') (hv : v'.ownBlock = v.ownBlock ∨ ∃ b, v'.ownBlock = some b ∧ w.heap.size ≤ b) : RDMoved g N q r m v q v' w w' := ⟨hT.mono fun b hb => .inr hb, fun b hb => by
  rcases hb with e | e | e | e
  · exact .inl (.inl e)
  · exact .inl (.inr (.inl e))
  · exact .inl (.inr (.inr (.inl e)))
  · rcases hv with z | ⟨x, z, hx⟩
    · exact .inl (.inr (.inr (.inr (by rw [← z]; exact e))))
    · rw [z] at e
      injection e with e
      exact .inr (by omega)⟩
theorem RDMoved.trans {w w1 w2 : World} {q1 q2 : QD} {v1 v2 : Value} (h : RDMoved g N q r m v q1 v1 w w1) (k : RDMoved g N q1 r m v1 q2 v2 w1 w2) : RDMoved g N q r m v q2 v2 w w2 :=
  ⟨h.1.trans k.1 h.2, fun b hb => by
    rcases k.2 b hb with z | z
    · exact h.2 b z
    · exact .inr (Nat.le_trans h.1.size z)⟩
theorem RD.low (h : RD w B g N F k lg q C r m v L) {q' : QD} {v' : Value} (hB : B ≤ w.heap.size) (hm : RDMoved g N q r m v q' v' w w') : Below B w w' := hm.1.below hB fun b hb => (h.rdfoots b hb).1
/-- a block beside the two stays -/
theorem RDMoved.blk {w w' : World} {q' : QD} {v' : Value} (hm : RDMoved g N q r m v q' v' w w') {b t : Nat} {cs : Array Value} (hb : Blk w b t cs) (hn : ¬ rdfoot g N q r m v b) : Blk w' b t cs ∧ ¬ rdfoot g N q' r m v' b := ⟨(hm.1.block b hb.lt hn).trans hb, fun e => by
  rcases hm.2 b e with z | z
  · exact hn z
  · have := hb.lt
    omega⟩
theorem RD.new_ne (h : RD w B g N F k lg q C r m v L) {b : Nat} (hb : w.heap.size ≤ b) : ¬ rdfoot g N q r m v b := fun e => by
  have := (h.rdfoots b e).2
  omega
theorem RD.pw (h : RD w B g N F k lg q C r m v L) (b : Bool) (hb : q.dd = b) : ∀ w', Below w.heap.size w w' → Calls Tryz.prog 105 #[.pointer (some ⟨g, 0, none⟩)] w' fun e w'' => e = .returned (.bool b) ∧ w' = w'' := fun w' hw => by
  subst hb
  exact dead_c w' (h.d.below hw)
end
section
variable {B g N k lg r m : Nat} {F : Nat → Nat} {q : QD} {C : List (Int × Bool)} {v : Value} {L : List Sl}
/-- the event comes -/
theorem rdWrite_go (hC : C.length ≤ 64) {mm : Nat} (hq : QuietC q.cu false q mm) (hm : mm < 4611686018427387904) (hlg : lg < 137438953472) (hL : L.length < 2199023255552) (s : Sl) (hs64 : s.1 < 18446744073709551616) (hs : s.2.1 ≠ 0) (hfol : s.1 = (lastS L).1 + 1) (hnew : s ∉ L) (w : World) (hB : B ≤ w.heap.size) (h : RD w B g N F k lg q C r m v L) :
    Calls Tryz.prog 29 #[.pointer (some ⟨r, 0, none⟩), .agg (slC s)] w fun e w' => e = .returned (.int .i64 (if (ahB q C || bhB q C) = true then 4 else 0)) ∧ ∃ q' lg' v', RD w' B g N F k lg' q' C r m v' (if ahB q C = true then L else L ++ [s]) ∧ QuietC q.cu (ahB q C || bhB q C) q' (mm + 1) ∧ q'.ev = q.ev + 1 ∧ lg' ≤ lg + 1 ∧ RDMoved g N q r m v q' v' w w' := by
  have hE : ∀ w0, Below w.heap.size w w0 → Calls Tryz.prog 64 #[.pointer (some ⟨g, 0, none⟩)] w0 fun e w' => e = .returned (.tuple #[.bool (!ahB q C), .int .i64 (if (ahB q C || bhB q C) = true then 4 else 0)]) ∧ ∃ q' lg', DiskQ w' B g N F k lg' q' ∧ QuietC q.cu (ahB q C || bhB q C) q' (mm + 1) ∧ Moved g N q q' w0 w' ∧ q'.ev = q.ev + 1 ∧ lg' ≤ lg + 1 := fun w0 hb0 => event_c C hC hq hm hlg w0 (Nat.le_trans hB hb0.size) (h.d.below hb0) (kown_below h.c hb0)
  cases ha : ahB q C with
  | true =>
    rw [ha] at hE
    refine (regWrite_not (by omega) s hs64 hs hfol w h.reg (h.pw false hq.dd) _ _ hE).mono ?_
    rintro e w' ⟨rfl, w1, hb1, q', lg', h2, h3, h4, h5, h6⟩
    have h1 := h.below hb1
    exact ⟨rfl, q', lg', v, h1.doD h2 h3.cu h4, h3, h5, h6, RDMoved.trans (.of_below hb1) (.of_d h4)⟩
  | false =>
    rw [ha] at hE
    refine (regWrite_go hL s hs64 hs hfol hnew w hB h.reg (h.pw false hq.dd) _ (foot g N q) (fun b hb => ⟨(h.d.foots b hb).2, fun e => h.ap b e hb⟩) (fun w0 w' ⟨q', lg', _, _, h4, _⟩ => h4.1) _ hE).mono ?_
    rintro e w' ⟨rfl, w1, w2, v', hb1, ⟨q', lg', h2, h3, h4, h5, h6⟩, hr, hT, hv⟩
    have h1 := h.below hb1
    have h7 := h1.doD h2 h3.cu h4
    exact ⟨rfl, q', lg', v', h7.doR hr hT hv, h3, h5, h6, RDMoved.trans (.of_below hb1) (RDMoved.trans (.of_d h4) (.of_r hT hv))⟩
end
end Go.Proofs.YtppagdmlfgialaaGreatDoor

namespace Go.Proofs.YtppagdmlfgialaaGreatDoor
open Go Go.RowKit
set_option linter.unusedSimpArgs false
set_option linter.unusedVariables false

/-- a new register on a quiet disk -/
theorem RD.new {w1 w2 : World} {B g N k lg r m : Nat} {F : Nat → Nat} {q : QD} {j : Nat} (hd : DiskQ w1 B g N F k lg q) (hq : Quiet q j) (hB : B ≤ w1.heap.size) (hr : RegAt w2 w1.heap.size r m (some ⟨g, 0, none⟩) (.slice none 0 0) []) (hb : Below w1.heap.size w1 w2) : RD w2 B g N F k lg q [] r m (.slice none 0 0) [] := by
  refine ⟨hd.below hb, ?_, hr.mono hB, fun b h1 h2 => ?_⟩
  · rw [hq.cu]
    exact World.ownsRow_nil _ _ _ _
  · have := (hd.foots b h2).2
    have := (hr.foots b h1).1
    omega
theorem ahB_nil (q : QD) : ahB q [] = false := rfl
theorem bhB_nil (q : QD) : bhB q [] = false := rfl
end Go.Proofs.YtppagdmlfgialaaGreatDoor
