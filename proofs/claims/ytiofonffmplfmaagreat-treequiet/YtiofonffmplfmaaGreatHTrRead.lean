/- Trees: trees and positions in the memory; root, beneath; a node that is read through a cache. -/
import Derived.Test.YtiofonffmplfmaaGreatHNdAwake
import Derived.Lib.SlBytesConst
import Derived.ArgAppend
import Derived.Handy
import Derived.Test.YtiofonffmplfmaaGreatHNdBlock
import Derived.Deep.DeepCutAuto
import Derived.Deep.Cut

namespace Go.Proofs.YtiofonffmplfmaaGreat
theorem sgLHTrRead : (∀ (α : Type) (a : α) (l r : List α), (a :: l) ++ r = a :: (l ++ r)) ∧ (∀ (α : Type) (l : List α), [] ++ l = l) ∧ (∀ (α : Type) (l : List α), l ++ [] = l) ∧ (∀ (α β : Type) (f : α → Option β) (a : α) (l : List α), (a :: l).filterMap f = match f a with | none => l.filterMap f | some b => b :: l.filterMap f) ∧ (∀ (α β : Type) (f : α → Option β), [].filterMap f = []) ∧ (∀ (α : Type) (l : List α) (i : Nat), l.toArray[i]? = l[i]?) ∧ (∀ (α : Type) (a : α) (l : List α), (a :: l)[0]? = some a) ∧ (∀ (α : Type) (a : α) (l : List α) (i : Nat), (a :: l)[i + 1]? = l[i]?) :=
  ⟨fun _ _ _ _ => List.cons_append, fun _ _ => List.nil_append _, fun _ _ => List.append_nil _, fun _ _ _ _ _ => List.filterMap_cons, fun _ _ _ => List.filterMap_nil, fun _ _ _ => List.getElem?_toArray, fun _ _ _ => List.getElem?_cons_zero, fun _ _ _ _ => List.getElem?_cons_succ⟩
theorem sgPHTrRead : (∀ (α : Type) (l : List α) (i : Nat) (a : α), l.toArray.setIfInBounds i a = (l.set i a).toArray) ∧ (∀ (α : Type) (a b : α) (l : List α), (a :: l).set 0 b = b :: l) ∧ (∀ (α : Type) (a b : α) (l : List α) (i : Nat), (a :: l).set (i + 1) b = a :: l.set i b) :=
  ⟨fun _ _ _ _ => List.setIfInBounds_toArray _ _ _, fun _ _ _ _ => List.set_cons_zero, fun _ _ _ _ _ => List.set_cons_succ⟩
end Go.Proofs.YtiofonffmplfmaaGreat
namespace Go.Proofs.YtiofonffmplfmaaGreat
open Go Go.RowKit
set_option linter.unusedSimpArgs false
set_option linter.unusedVariables false

theorem cells_mark (w : World) (cs : Array Value) (t : TypeId) (fr : Nat × Nat) (o : Obj) : ∀ j u, cs.toList[j]? = some u → ((w.alloc (.cells cs t fr)).alloc o).cell? ((⟨w.heap.size, 0, none⟩ : Addr).add j) = some u := fun j u hu => by
  have hb : ((w.alloc (.cells cs t fr)).alloc o).heap[w.heap.size]? = some (.cells cs t fr) := by
    rw [heap_alloc_old _ _ (by simp), heap_alloc_new]
  rw [Addr.add_mid, Nat.zero_add, cell_of_row _ _ j cs t fr hb]
  simpa using hu
theorem below_grown_none {w w' : World} (h : w.grownBy w' none) : Below w.heap.size w w' := (Below.refl _ _).grown h (Nat.le_refl _) (fun k hk => by cases hk)
theorem ndSize256 : (Tryz.prog.info? 49).map (·.size) = some 256 := by kernel_rfl
set_option maxRecDepth 100000 in
set_option maxHeartbeats 4000000 in
theorem refBlock_level (l : Int) (hl : l < 1 ∨ 6 < l) (K : Nat → Rf) (w : World) : Calls Tryz.prog 64 #[.agg (ndC l K)] w fun e w' => e = .returned (.tuple #[bkV fun _ => 0, .int .i64 1]) ∧ Below w.heap.size w w' := by
  unfold bkV
  have hz := zero_256
  have r0 : Blk ((w.alloc (.cells (ndC l K) 160)).alloc (.cells (va 256 (iv .u8 fun _ => 0)) 49)) w.heap.size 160 (va 133 (ndF l K)) := (Blk.new _ _ _).alloc _
  have r1 : Blk ((w.alloc (.cells (ndC l K) 160)).alloc (.cells (va 256 (iv .u8 fun _ => 0)) 49)) (w.heap.size + 1) 49 (va 256 (iv .u8 fun _ => 0)) := Blk.new1 _ _ _ _
  have hb : Below w.heap.size w ((w.alloc (.cells (ndC l K) 160)).alloc (.cells (va 256 (iv .u8 fun _ => 0)) 49)) := below_new2 _ _ _
  have hsz : ((w.alloc (.cells (ndC l K) 160)).alloc (.cells (va 256 (iv .u8 fun _ => 0)) 49)).heap.size = w.heap.size + 2 := by simp
  have x0 : ((w.alloc (.cells (ndC l K) 160)).alloc (.cells (va 256 (iv .u8 fun _ => 0)) 49)).cell? ⟨w.heap.size, 0, none⟩ = some (.int .i64 l) := by
    rw [r0.cell]
    exact va_at (ndF l K) (by decide)
  rcases hl with hl | hl
  · go_enter Tryz.func64, Tryz.ntmps64
    go_wp2_with (first
      | (refine wpList_store_row (by rfl) 49 _ _ (by rfl) (w.heap.size + 1) (va 256 (iv .u8 (fun _ => 0))) (by rfl) (by rfl) 49 (_) (by exact r1) (ndSize256.trans (by rw [va_size])) (by simp only [va_size]) (iv_one _ _ _) ?_; simp only [Act.put, sgPHTrRead])
      | fail)
    try simp only [Exit.inBlock, Exit.then]
    refine bodyPost_ret (results_row2 Tryz.results64 _ _ (w.heap.size + 1) 49 (va 256 (iv .u8 (fun _ => 0))) (0, 0) _ rfl (r1.set _) Tryz.underlying49 rfl (ndSize256.trans (by rw [va_size]))) rfl ?_
    exact ⟨rfl, below_setRow hb (by omega) _⟩
  · go_enter Tryz.func64, Tryz.ntmps64
    go_wp2_with (first
      | (refine wpList_store_row (by rfl) 49 _ _ (by rfl) (w.heap.size + 1) (va 256 (iv .u8 (fun _ => 0))) (by rfl) (by rfl) 49 (_) (by exact r1) (ndSize256.trans (by rw [va_size])) (by simp only [va_size]) (iv_one _ _ _) ?_; simp only [Act.put, sgPHTrRead])
      | fail)
    try simp only [Exit.inBlock, Exit.then]
    refine bodyPost_ret (results_row2 Tryz.results64 _ _ (w.heap.size + 1) 49 (va 256 (iv .u8 (fun _ => 0))) (0, 0) _ rfl (r1.set _) Tryz.underlying49 rfl (ndSize256.trans (by rw [va_size]))) rfl ?_
    exact ⟨rfl, below_setRow hb (by omega) _⟩
theorem head_cells (l : Nat) (K : Nat → Rf) : byL (nodeB l K) (8 + 36 * 0) = [Value.int .u8 110, .int .u8 111, .int .u8 100, .int .u8 101, .int .u8 (l : Int), .int .u8 0, .int .u8 0, .int .u8 0] := by rfl
theorem kid_cells (l : Nat) (K : Nat → Rf) (k : Nat) (hk : k < 4) : byL (nodeB l K) (8 + 36 * (k + 1)) = byL (nodeB l K) (8 + 36 * k) ++ byL (encR (K k)) 36 := by
  rw [show 8 + 36 * (k + 1) = 8 + 36 * k + 36 by omega, byL_add]
  congr 1
  exact byL_congr fun j hj => nodeB_kid l K k j hk hj
set_option maxRecDepth 100000 in
set_option maxHeartbeats 4000000 in
theorem refBlock_in (l : Nat) (h1 : 1 ≤ l) (h6 : l ≤ 6) (K : Nat → Rf) (hK : ∀ i, i < 4 → okD (K i).2) (hN : ∀ i, i < 4 → (K i).1 < 4294967296) (X : Nat → Nat) (Y : Int) (HXY : Hid ((X, Y) = if ndOk l K then (nodeB l K, (0 : Int)) else (fun _ => 0, 1))) (w : World) : Calls Tryz.prog 64 #[.agg (ndC (l : Int) K)] w fun e w' => e = .returned (.tuple #[bkV X, .int .i64 Y]) ∧ Below w.heap.size w w' := by
  unfold bkV
  obtain ⟨i0, hi, hz0, hz1, hz2⟩ := info_parts infoU8k
  have hz := zero_256
  have r0 : Blk ((w.alloc (.cells (ndC (l : Int) K) 160)).alloc (.cells (va 256 (iv .u8 fun _ => 0)) 49)) w.heap.size 160 (va 133 (ndF (l : Int) K)) := (Blk.new _ _ _).alloc _
  have r1 : Blk ((w.alloc (.cells (ndC (l : Int) K) 160)).alloc (.cells (va 256 (iv .u8 fun _ => 0)) 49)) (w.heap.size + 1) 49 (va 256 (iv .u8 fun _ => 0)) := Blk.new1 _ _ _ _
  have hb : Below w.heap.size w ((w.alloc (.cells (ndC (l : Int) K) 160)).alloc (.cells (va 256 (iv .u8 fun _ => 0)) 49)) := below_new2 _ _ _
  have hsz : ((w.alloc (.cells (ndC (l : Int) K) 160)).alloc (.cells (va 256 (iv .u8 fun _ => 0)) 49)).heap.size = w.heap.size + 2 := by simp
  have x0 : ((w.alloc (.cells (ndC (l : Int) K) 160)).alloc (.cells (va 256 (iv .u8 fun _ => 0)) 49)).cell? ⟨w.heap.size, 0, none⟩ = some (.int .i64 (l : Int)) := by
    rw [r0.cell]
    exact va_at (ndF (l : Int) K) (by decide)
  have e8 : (l : Int) % 256 = l := by omega
  have q0 : Blk ((((w.alloc (.cells (ndC (l : Int) K) 160)).alloc (.cells (va 256 (iv .u8 fun _ => 0)) 49)).alloc (.cells #[.int .u8 110, .int .u8 111, .int .u8 100, .int .u8 101] 5 (4, 5))).alloc (.cells #[.int .u8 (l : Int), .int .u8 0, .int .u8 0, .int .u8 0] 5)) w.heap.size 160 (va 133 (ndF (l : Int) K)) := (r0.alloc _).alloc _
  have q1 : Blk ((((w.alloc (.cells (ndC (l : Int) K) 160)).alloc (.cells (va 256 (iv .u8 fun _ => 0)) 49)).alloc (.cells #[.int .u8 110, .int .u8 111, .int .u8 100, .int .u8 101] 5 (4, 5))).alloc (.cells #[.int .u8 (l : Int), .int .u8 0, .int .u8 0, .int .u8 0] 5)) (w.heap.size + 1) 49 (va 256 (iv .u8 fun _ => 0)) := (r1.alloc _).alloc _
  have hb4 : Below w.heap.size w ((((w.alloc (.cells (ndC (l : Int) K) 160)).alloc (.cells (va 256 (iv .u8 fun _ => 0)) 49)).alloc (.cells #[.int .u8 110, .int .u8 111, .int .u8 100, .int .u8 101] 5 (4, 5))).alloc (.cells #[.int .u8 (l : Int), .int .u8 0, .int .u8 0, .int .u8 0] 5)) := (hb.alloc (by rw [hsz]; omega) _).alloc (by simp; omega) _
  have hs4 : ((((w.alloc (.cells (ndC (l : Int) K) 160)).alloc (.cells (va 256 (iv .u8 fun _ => 0)) 49)).alloc (.cells #[.int .u8 110, .int .u8 111, .int .u8 100, .int .u8 101] 5 (4, 5))).alloc (.cells #[.int .u8 (l : Int), .int .u8 0, .int .u8 0, .int .u8 0] 5)).heap.size = w.heap.size + 4 := by simp
  have HO4 : Hid (∀ j u, [Value.int .u8 110, .int .u8 111, .int .u8 100, .int .u8 101][j]? = some u → ((((w.alloc (.cells (ndC (l : Int) K) 160)).alloc (.cells (va 256 (iv .u8 fun _ => 0)) 49)).alloc (.cells #[.int .u8 110, .int .u8 111, .int .u8 100, .int .u8 101] 5 (4, 5))).alloc (.cells #[.int .u8 (l : Int), .int .u8 0, .int .u8 0, .int .u8 0] 5)).cell? ((⟨w.heap.size + 2, 0, none⟩ : Addr).add j) = some u) := fun j u hu => by
    have := cells_mark ((w.alloc (.cells (ndC (l : Int) K) 160)).alloc (.cells (va 256 (iv .u8 fun _ => 0)) 49)) #[.int .u8 110, .int .u8 111, .int .u8 100, .int .u8 101] 5 (4, 5) (.cells #[.int .u8 (l : Int), .int .u8 0, .int .u8 0, .int .u8 0] 5) j u hu
    rwa [hsz] at this
  have HC4 : Hid (∀ j u, [Value.int .u8 (l : Int), .int .u8 0, .int .u8 0, .int .u8 0][j]? = some u → ((((w.alloc (.cells (ndC (l : Int) K) 160)).alloc (.cells (va 256 (iv .u8 fun _ => 0)) 49)).alloc (.cells #[.int .u8 110, .int .u8 111, .int .u8 100, .int .u8 101] 5 (4, 5))).alloc (.cells #[.int .u8 (l : Int), .int .u8 0, .int .u8 0, .int .u8 0] 5)).cell? ((⟨w.heap.size + 3, 0, none⟩ : Addr).add j) = some u) := fun j u hu => by
    have := cells_new (((w.alloc (.cells (ndC (l : Int) K) 160)).alloc (.cells (va 256 (iv .u8 fun _ => 0)) 49)).alloc (.cells #[.int .u8 110, .int .u8 111, .int .u8 100, .int .u8 101] 5 (4, 5))) #[.int .u8 (l : Int), .int .u8 0, .int .u8 0, .int .u8 0] 5 j u hu
    rwa [show (((w.alloc (.cells (ndC (l : Int) K) 160)).alloc (.cells (va 256 (iv .u8 fun _ => 0)) 49)).alloc (.cells #[.int .u8 110, .int .u8 111, .int .u8 100, .int .u8 101] 5 (4, 5))).heap.size = w.heap.size + 3 by simp] at this
  have kc : (convert 165 165 (.slice (some ⟨w.heap.size + 2, 0, none⟩) 4 4)).run Tryz.prog (((w.alloc (.cells (ndC (l : Int) K) 160)).alloc (.cells (va 256 (iv .u8 fun _ => 0)) 49)).alloc (.cells #[.int .u8 110, .int .u8 111, .int .u8 100, .int .u8 101] 5)) = .ok (.slice (some ⟨w.heap.size + 2, 0, none⟩) 4 4) (((w.alloc (.cells (ndC (l : Int) K) 160)).alloc (.cells (va 256 (iv .u8 fun _ => 0)) 49)).alloc (.cells #[.int .u8 110, .int .u8 111, .int .u8 100, .int .u8 101] 5 (4, 5))) := by
    have := Lib.run_convert_bytes_const (P := Tryz.prog) ((w.alloc (.cells (ndC (l : Int) K) 160)).alloc (.cells (va 256 (iv .u8 fun _ => 0)) 49)) 165 5 #[.int .u8 110, .int .u8 111, .int .u8 100, .int .u8 101] 4 4 Tryz.underlying165 Tryz.underlying5
    rw [hsz] at this
    exact this
  go_enter Tryz.func64, Tryz.ntmps64
  go_wp2_with (first
    | (at_builtin; refine wpList_append_grows _ rfl _ _ 165 rfl 5 i0 (.int .u8 0) 1 1 Tryz.underlying165 hi hz0 hz1 hz2 rfl (by decide) (some ⟨w.heap.size + 2, 0, none⟩) 4 4 [.int .u8 110, .int .u8 111, .int .u8 100, .int .u8 101] rfl (fun h => by cases h) rfl (fun b hb j u hu => by injection hb with hb; subst hb; exact HO4.out j u hu) ⟨w.heap.size + 3, 0, none⟩ 4 4 [.int .u8 (l : Int), .int .u8 0, .int .u8 0, .int .u8 0] rfl rfl HC4.out (fun u hu => by simp at hu; rcases hu with rfl | rfl <;> rfl) (by decide) (by unfold maxLen; omega) (by omega) ?_)
    | go_in)
  intro v5 w5 ho5 hg5
  have hb5 : Below w.heap.size w w5 := hb4.grown hg5 (by omega) (fun k hk => by cases hk)
  have t0 : Blk w5 w.heap.size 160 (va 133 (ndF (l : Int) K)) := q0.below (below_grown_none hg5) q0.lt
  have t1 : Blk w5 (w.heap.size + 1) 49 (va 256 (iv .u8 fun _ => 0)) := q1.below (below_grown_none hg5) q1.lt
  have hs5 : w.heap.size + 4 ≤ w5.heap.size := by have := (below_grown_none hg5).size; omega
  have ho6 : w5.ownsRow (w.heap.size + 4) 5 1 v5 (8 + 36 * 0) (byL (nodeB l K) (8 + 36 * 0)) := by
    rw [head_cells]
    exact ho5
  clear q0 q1 r0 r1 hb hb4 HO4 HC4 x0 ho5 hg5 hs4 hsz kc
  obtain ⟨a5, c5, hv5⟩ := kown_slice ho6
  subst hv5
  go_wp2_with fail
  go_loopw [4, 5] (fun v i wr => ∃ (k : Nat) (a : Option Addr) (c : Nat), k ≤ 4 ∧ i = .int .i64 (k : Int) ∧ v = .slice a (8 + 36 * k) c ∧ wr.ownsRow (w.heap.size + 4) 5 1 v (8 + 36 * k) (byL (nodeB l K) (8 + 36 * k)) ∧ (∀ i, i < k → rOk (K i) = true) ∧ Blk wr w.heap.size 160 (va 133 (ndF (l : Int) K)) ∧ Blk wr (w.heap.size + 1) 49 (va 256 (iv .u8 fun _ => 0)) ∧ Below w.heap.size w wr ∧ w.heap.size + 4 ≤ wr.heap.size) (fun _ i _ => 4 - (intOf i).toNat)
  case atStart => exact ⟨0, a5, c5, by omega, rfl, rfl, ho6, fun i hi => absurd hi (by omega), t0, t1, hb5, hs5⟩
  case round =>
    clear t0 t1 hb5 hs5 ho6
    obtain ⟨k, a, c, hk, rfl, rfl, hown, hR, p0, p1, hb, hs⟩ := hrel
    by_cases hlt : k < 4
    · have k1 : (k : Int) < 4 := by omega
      have HKD : Hid (wr.rangeAt w.heap.size (1 + k * 33) ((List.range 33).map (rfF (K k).1 (K k).2))) := fun j v hv => by
        refine p0.range (1 + k * 33) 33 (by omega) j v ?_
        rw [← hv]
        congr 1
        refine List.map_congr_left fun i hi => ?_
        exact ndF_at _ K k i (by simpa using hi)
      have HRT : Hid (∀ w, Calls Tryz.prog 33 #[.agg (va 33 (rfF (K k).1 (K k).2))] w fun e w' => e = .returned (.bool (rOk (K k))) ∧ Below w.heap.size w w') := rright_any (K k)
      have HEN : Hid (∀ w, Calls Tryz.prog 81 #[.agg (va 33 (rfF (K k).1 (K k).2))] w fun e w' => ∃ g c, e = .returned (.slice (some ⟨g, 0, none⟩) 36 c) ∧ w'.ownsRow (w.heap.size + 1) 5 1 (.slice (some ⟨g, 0, none⟩) 36 c) 36 (byL (encR (K k)) 36) ∧ Below w.heap.size w w') := refEncR_any (K k) (hN k hlt)
      have HRK : Hid (∀ b, rOk (K k) = b → b = true → ∀ i, i < k + 1 → rOk (K i) = true) := fun b h1 h2 i hi => by
        rcases Nat.lt_or_ge i k with h | h
        · exact hR i h
        · rw [show i = k by omega, h1, h2]
      have HRF : Hid (rOk (K k) = false → ndOk l K = false) := fun h => by
        have : ((List.range 4).all fun i => rOk (K i)) = false := by
          rw [List.all_eq_false]
          exact ⟨k, by simpa using hlt, by simp [h]⟩
        unfold ndOk
        rw [this, Bool.and_false]
      have HKC : Hid (byL (nodeB l K) (8 + 36 * (k + 1)) = byL (nodeB l K) (8 + 36 * k) ++ byL (encR (K k)) 36) := kid_cells l K k hlt
      have HOW : Hid (wr.ownsRow (w.heap.size + 4) 5 1 (.slice a (8 + 36 * k) c) (8 + 36 * k) (byL (nodeB l K) (8 + 36 * k))) := hown
      clear hown
      generalize hrb : rOk (K k) = b at *
      go_wp2_with (first
        | (refine wpList_load_blk (by rfl) 31 _ (by rfl) (w.heap.size) (1 + k * 33) 33 (rfF (K k).1 (K k).2) (by rfl) _ (by exact HKD.out) Tryz.underlying31 rfl sizeRref ?_; simp only [Act.put, sgPHTrRead])
        | fail)
      refine (HRT.out wr).mono ?_
      rintro e w6 ⟨rfl, hb6⟩
      have hs6 := hb6.size
      have m0 : Blk w6 w.heap.size 160 (va 133 (ndF (l : Int) K)) := p0.below hb6 (by omega)
      have m1 : Blk w6 (w.heap.size + 1) 49 (va 256 (iv .u8 fun _ => 0)) := p1.below hb6 (by omega)
      have HO6 : Hid (w6.ownsRow (w.heap.size + 4) 5 1 (.slice a (8 + 36 * k) c) (8 + 36 * k) (byL (nodeB l K) (8 + 36 * k))) := kown_below HOW.out hb6
      have hb7 : Below w.heap.size w w6 := hb.trans (hb6.mono (by omega))
      clear HKD p0 p1 HOW hb HRT hb6
      cases b
      · go_wp2_with (first
          | (refine wpList_store_row (by rfl) 49 _ _ (by rfl) (w.heap.size + 1) (va 256 (iv .u8 (fun _ => 0))) (by rfl) (by rfl) 49 (_) (by exact m1) (ndSize256.trans (by rw [va_size])) (by simp only [va_size]) (iv_one _ _ _) ?_; simp only [Act.put, sgPHTrRead])
          | fail)
        try simp only [Exit.inBlock, Exit.then]
        refine bodyPost_ret (results_row2 Tryz.results64 _ _ (w.heap.size + 1) 49 (va 256 (iv .u8 (fun _ => 0))) (0, 0) _ rfl (m1.set _) Tryz.underlying49 rfl (ndSize256.trans (by rw [va_size]))) rfl ?_
        have e : ndOk (l : Int) K = false := HRF.out (by first | rfl | trivial)
        refine ⟨?_, below_setRow hb7 (by omega) _⟩
        have hxy := HXY.out
        rw [e] at hxy
        injection hxy with hx hy
        subst hx hy
        rfl
      · have HKD : Hid (w6.rangeAt w.heap.size (1 + k * 33) ((List.range 33).map (rfF (K k).1 (K k).2))) := fun j v hv => by
          refine m0.range (1 + k * 33) 33 (by omega) j v ?_
          rw [← hv]
          congr 1
          refine List.map_congr_left fun i hi => ?_
          exact ndF_at _ K k i (by simpa using hi)
        go_wp2_with (first
          | (refine wpList_load_blk (by rfl) 31 _ (by rfl) (w.heap.size) (1 + k * 33) 33 (rfF (K k).1 (K k).2) (by rfl) _ (by exact HKD.out) Tryz.underlying31 rfl sizeRref ?_; simp only [Act.put, sgPHTrRead])
          | fail)
        refine (HEN.out w6).mono ?_
        rintro e w7 ⟨ge, ce, rfl, hoe, hb8⟩
        have hs8 := hb8.size
        have n0 : Blk w7 w.heap.size 160 (va 133 (ndF (l : Int) K)) := m0.below hb8 (by omega)
        have n1 : Blk w7 (w.heap.size + 1) 49 (va 256 (iv .u8 fun _ => 0)) := m1.below hb8 (by omega)
        have HO7 : Hid (w7.ownsRow (w.heap.size + 4) 5 1 (.slice a (8 + 36 * k) c) (8 + 36 * k) (byL (nodeB l K) (8 + 36 * k))) := kown_below HO6.out hb8
        have hb9 : Below w.heap.size w w7 := hb7.trans (hb8.mono (by omega))
        have HC : Hid (∀ j u, (byL (encR (K k)) 36)[j]? = some u → w7.cell? ((⟨ge, 0, none⟩ : Addr).add j) = some u) := fun j u hu => by
          have hj : j < 36 := by
            rcases Nat.lt_or_ge j 36 with h1 | h1
            · exact h1
            · rw [List.getElem?_eq_none (by rw [byL_length]; exact h1)] at hu
              cases hu
          rw [Addr.add_mid, Nat.zero_add, hoe.cellAt j (by omega)]
          exact hu
        have HL : Hid (∀ k', (Value.slice a (8 + 36 * k) c).ownBlock = some k' → (w.heap.size + 4) ≤ k') := fun k' hk' => (HO7.out.lt k' hk').1
        clear HKD m0 m1 HO6 hb7 hb8 hoe HEN
        go_wp2_with (first
          | (at_builtin; refine wpList_append_own_at rfl _ _ 165 rfl (w.heap.size + 4) 5 i0 (.int .u8 0) 1 1 Tryz.underlying165 hi hz0 hz1 hz2 rfl (by decide) _ _ _ rfl HO7.out ⟨ge, 0, none⟩ 36 ce (byL (encR (K k)) 36) rfl (by rw [byL_length]) HC.out (mem_iv_one _ _ _) (by unfold maxLen; omega) (by omega) (by omega) ?_)
          | go_in)
        intro v8 w8 ho8 hg8 _
        rw [← HKC.out, show 8 + 36 * k + 36 = 8 + 36 * (k + 1) by omega] at ho8
        have hb10 : Below w.heap.size w w8 := hb9.grown hg8 (by omega) (fun k' hk' => by have := HL.out k' hk'; omega)
        have hbB : Below (w.heap.size + 4) w7 w8 := (Below.refl _ _).grown hg8 (by omega) (fun k' hk' => HL.out k' hk')
        have o0 : Blk w8 w.heap.size 160 (va 133 (ndF (l : Int) K)) := n0.below hbB (by omega)
        have o1 : Blk w8 (w.heap.size + 1) 49 (va 256 (iv .u8 fun _ => 0)) := n1.below hbB (by omega)
        have hs10 := hbB.size
        obtain ⟨a8, c8, hv8⟩ := kown_slice ho8
        subst hv8
        have HO8 : Hid (w8.ownsRow (w.heap.size + 4) 5 1 (.slice a8 (8 + 36 * (k + 1)) c8) (8 + 36 * (k + 1)) (byL (nodeB l K) (8 + 36 * (k + 1)))) := ho8
        clear ho8 hg8 HO7 HC HL n0 n1 hb9 hbB
        go_wp2_with fail
        refine ⟨⟨_, _, _, _, _, _, _, _, _, _, _, _, _, _, _, _, _, _, _, _, _, ⟨k + 1, a8, c8, by omega, by simp, rfl, HO8.out, HRK.out true rfl rfl, o0, o1, hb10, by omega⟩, rfl⟩, ?_⟩
        simp [intOf]
        try omega
    · have e : k = 4 := by omega
      subst e
      have HO : Hid (ndOk l K = true) := by
        show ndOk l K = true
        unfold ndOk
        rw [Bool.and_eq_true, Bool.and_eq_true, decide_eq_true_eq, decide_eq_true_eq, List.all_eq_true]
        exact ⟨⟨by omega, by omega⟩, fun i hi => hR i (by simpa using hi)⟩
      have hxy := HXY.out
      rw [HO.out] at hxy
      injection hxy with hx hy
      clear HXY HO hR
      obtain ⟨gv, cv, hv, hgv, hgv2⟩ := kown_form hown (by omega)
      rw [hv] at hown ⊢
      clear hv
      have HOW : Hid (wr.ownsRow (w.heap.size + 4) 5 1 (.slice (some ⟨gv, 0, none⟩) (8 + 36 * 4) cv) (8 + 36 * 4) (byL (nodeB l K) (8 + 36 * 4))) := hown
      have z0 : Blk (wr.alloc (.cells (va 256 (iv .u8 fun _ => 0)) 49)) wr.heap.size 49 (va 256 (iv .u8 fun _ => 0)) := Blk.new _ _ _
      have z1 : Blk ((wr.alloc (.cells (va 256 (iv .u8 fun _ => 0)) 49)).setRow wr.heap.size (va 256 (iv .u8 fun _ => 0))) wr.heap.size 49 (va 256 (iv .u8 fun _ => 0)) := z0.set _
      have bz : Below wr.heap.size wr ((wr.alloc (.cells (va 256 (iv .u8 fun _ => 0)) 49)).setRow wr.heap.size (va 256 (iv .u8 fun _ => 0))) := below_setRow (below_new1 _ _) (Nat.le_refl _) _
      have k4 : ¬ (((4 : Nat) : Int) < 4) := by omega
      clear hown
      go_wp2_with (first
        | (refine wpList_store_row (by rfl) 49 _ _ (by rfl) (wr.heap.size) (va 256 (iv .u8 (fun _ => 0))) (by rfl) (by rfl) 49 (_) (by exact z0) (ndSize256.trans (by rw [va_size])) (by simp only [va_size]) (iv_one _ _ _) ?_; simp only [Act.put, sgPHTrRead])
        | fail)
      clear z0
      generalize ((wr.alloc (.cells (va 256 (iv .u8 fun _ => 0)) 49)).setRow wr.heap.size (va 256 (iv .u8 fun _ => 0))) = wz at *
      generalize wr = wo at *
      go_loopw [7] (fun i wx => ∃ c : Nat, c ≤ 152 ∧ i = .int .i64 (c : Int) ∧ Blk wx wo.heap.size 49 (va 256 (iv .u8 fun j => if j < c then nodeB l K j else 0)) ∧ Below wo.heap.size wo wx) (fun i _ => 152 - (intOf i).toNat)
      case atStart => exact ⟨0, by omega, rfl, z1, bz⟩
      case round =>
        clear z1 bz
        obtain ⟨c, hc, rfl, hx2, hbx⟩ := hrel
        have hw := HOW.out
        have ho9 := kown_below hw (hbx)
        by_cases hlt2 : c < 152
        · have c1 : (c : Int) < 152 := by omega
          have c0 : (0 : Int) ≤ (c : Int) := by omega
          have y0 : wr.cell? ⟨gv, c, none⟩ = some (.int .u8 ((nodeB l K c : Nat) : Int)) := by
            rw [ho9.cellAt c (by omega), byL_at _ _ _ (by omega)]
          have f1 : wr.frozen? ⟨wo.heap.size, c, none⟩ = false := hx2.frozen c
          have y1 : ∃ z, wr.cell? ⟨wo.heap.size, c, none⟩ = some z := ⟨_, hx2.cv (by omega)⟩
          obtain ⟨z, y1⟩ := y1
          have HB2 : Hid (Blk (wr.setCell ⟨wo.heap.size, c, none⟩ (.int .u8 ((nodeB l K c : Nat) : Int))) wo.heap.size 49 (va 256 (iv .u8 fun j => if j < c + 1 then nodeB l K j else 0))) := by
            have := hx2.put c (.int .u8 ((nodeB l K c : Nat) : Int))
            rw [va_set] at this
            have e : va 256 (upd (iv .u8 (fun j => if j < c then nodeB l K j else 0)) c (.int .u8 ((nodeB l K c : Nat) : Int))) = va 256 (iv .u8 fun j => if j < c + 1 then nodeB l K j else 0) := va_congr fun j hj => by
              show (if j = c then Value.int .u8 ((nodeB l K c : Nat) : Int) else Value.int .u8 (((if j < c then nodeB l K j else 0 : Nat)) : Int)) = Value.int .u8 (((if j < c + 1 then nodeB l K j else 0 : Nat)) : Int)
              by_cases h : j = c
              · subst h
                rw [if_pos rfl, if_pos (by omega)]
              · rw [if_neg h]
                by_cases h2 : j < c
                · rw [if_pos h2, if_pos (by omega)]
                · rw [if_neg h2, if_neg (by omega)]
            rw [e] at this
            exact this
          have hbb : Below wo.heap.size wo (wr.setCell ⟨wo.heap.size, c, none⟩ (.int .u8 ((nodeB l K c : Nat) : Int))) := hbx.setCell (Nat.le_refl _) _
          generalize nodeB l K c = nb at *
          clear hx2 hbx ho9 hw HOW
          go_wp2_with fail
          refine ⟨⟨c + 1, by omega, by simp, HB2.out, hbb⟩, ?_⟩
          simp [intOf]
          try omega
        · have e : va 256 (iv .u8 (fun j => if j < c then nodeB l K j else 0)) = va 256 (iv .u8 (nodeB l K)) := va_congr fun j hj => by
            show Value.int .u8 (((if j < c then nodeB l K j else 0 : Nat)) : Int) = Value.int .u8 ((nodeB l K j : Nat) : Int)
            by_cases h2 : j < c
            · rw [if_pos h2]
            · rw [if_neg h2]
              congr 2
              unfold nodeB
              rw [if_neg (by omega), if_neg (by omega)]
          rw [e] at hx2
          have g1 : Blk wr (w.heap.size + 1) 49 (va 256 (iv .u8 fun _ => 0)) := p1.below hbx (by omega)
          have hbf : Below w.heap.size w wr := hb.trans (hbx.mono (by omega))
          have k5 : ¬ (c : Int) < 152 := by omega
          clear hw ho9 HOW e
          go_wp2_with (first
            | (refine wpList_load_rowg (by rfl) 49 _ (by rfl) (wo.heap.size) (by rfl) 49 (va 256 (iv .u8 (nodeB l K))) (0, 0) _ (by exact hx2) Tryz.underlying49 (by rfl) (ndSize256.trans (by rw [va_size])) ?_; simp only [Act.put, sgPHTrRead])
            | (refine wpList_store_row (by rfl) 49 _ _ (by rfl) (w.heap.size + 1) (va 256 (iv .u8 (nodeB l K))) (by rfl) (by rfl) 49 (_) (by exact g1) (ndSize256.trans (by rw [va_size])) (by simp only [va_size]) (iv_one _ _ _) ?_; simp only [Act.put, sgPHTrRead])
            | fail)
          try simp only [Exit.inBlock, Exit.then]
          refine bodyPost_ret (results_row2 Tryz.results64 _ _ (w.heap.size + 1) 49 (va 256 (iv .u8 (nodeB l K))) (0, 0) _ rfl (g1.set _) Tryz.underlying49 rfl (ndSize256.trans (by rw [va_size]))) rfl ?_
          refine ⟨?_, below_setRow hbf (by omega) _⟩
          subst hx hy
          rfl
theorem refBlock_any (l : Int) (K : Nat → Rf) (hK : ∀ i, i < 4 → okD (K i).2) (hN : ∀ i, i < 4 → (K i).1 < 4294967296) (w : World) : Calls Tryz.prog 64 #[.agg (ndC l K)] w fun e w' => e = .returned (.tuple #[bkV (blkF l K), .int .i64 (if ndOk l K then 0 else 1)]) ∧ Below w.heap.size w w' := by
  by_cases h : l < 1 ∨ 6 < l
  · have e : ndOk l K = false := by
      unfold ndOk
      rcases h with h | h
      · rw [decide_eq_false (p := 1 ≤ l) (by omega), Bool.false_and, Bool.false_and]
      · rw [decide_eq_false (p := l ≤ 6) (by omega), Bool.and_false, Bool.false_and]
    unfold blkF
    rw [e]
    exact refBlock_level l h K w
  · obtain ⟨n, rfl⟩ : ∃ n : Nat, l = (n : Int) := ⟨l.toNat, by omega⟩
    refine refBlock_in n (by omega) (by omega) K hK hN (blkF n K) (if ndOk n K then 0 else 1) ?_ w
    show (_, _) = _
    unfold blkF
    cases ndOk n K
    · rfl
    · rfl
end Go.Proofs.YtiofonffmplfmaaGreat

namespace Go.Proofs.YtiofonffmplfmaaGreat
open Go Go.RowKit
set_option linter.unusedSimpArgs false
set_option linter.unusedVariables false

theorem decK_lt (f : Nat → Nat) (i : Nat) : (decK f i).1 < 4294967296 := by
  unfold decK
  split
  · exact at4_lt _ _
  · decide
end Go.Proofs.YtiofonffmplfmaaGreat

namespace Go.Proofs.YtiofonffmplfmaaGreat
open Go Go.RowKit
set_option linter.unusedSimpArgs false
set_option linter.unusedVariables false

/-- a tree's cells -/
def trF (h : Int) (R : Rf) : Nat → Value := fun i => if i = 0 then .int .i64 h else rfF R.1 R.2 (i - 1)
def trC (h : Int) (R : Rf) : Array Value := va 34 (trF h R)
/-- a position's cells -/
def poF (l p : Int) (R : Rf) : Nat → Value := fun i => if i = 0 then .int .i64 l else if i = 1 then .int .i64 p else rfF R.1 R.2 (i - 2)
def poC (l p : Int) (R : Rf) : Array Value := va 35 (poF l p R)
theorem trC_size (h : Int) (R : Rf) : (trC h R).size = 34 := va_size _ _
theorem poC_size (l p : Int) (R : Rf) : (poC l p R).size = 35 := va_size _ _
theorem trC_all (h : Int) (R : Rf) : (trC h R).all (·.oneCell') = true := va_one fun i _ => by
  unfold trF
  split
  · rfl
  · exact rfF_one _ _ _
theorem poC_all (l p : Int) (R : Rf) : (poC l p R).all (·.oneCell') = true := va_one fun i _ => by
  unfold poF
  split
  · rfl
  · split
    · rfl
    · exact rfF_one _ _ _
theorem sizeTr : (Tryz.prog.info? 45).map (·.size) = some 34 := by kernel_rfl
theorem sizePo : (Tryz.prog.info? 73).map (·.size) = some 35 := by kernel_rfl
theorem tsizeRef : (Tryz.prog.info? 43).map (·.size) = some 33 := by kernel_rfl
theorem zero_po (w : World) : (zeroValue 73).run Tryz.prog w = .ok (.agg (poC 0 0 rf0)) w := zero_of (by kernel_rfl) w
theorem built_po2 (l : Int) (R : Rf) : Tryz.prog.built 73 [(0, .int .i64 l), (2, .agg (rfC R))] = some (poC l 0 R) := by kernel_rfl
theorem built_po3 (l p : Int) (R : Rf) : Tryz.prog.built 73 [(0, .int .i64 l), (1, .int .i64 p), (2, .agg (rfC R))] = some (poC l p R) := by kernel_rfl
theorem tr_range {w : World} {b t : Nat} {h : Int} {R : Rf} (H : Blk w b t (trC h R)) : w.rangeAt b 1 ((List.range 33).map (rfF R.1 R.2)) := by
  have := Blk.range (n := 34) (f := trF h R) H 1 33 (by decide)
  rw [show ((List.range 33).map fun j => trF h R (1 + j)) = (List.range 33).map (rfF R.1 R.2) from List.map_congr_left fun j hj => ?_] at this
  · exact this
  · unfold trF
    rw [if_neg (by omega), show 1 + j - 1 = j by omega]
theorem po_range {w : World} {b t : Nat} {l p : Int} {R : Rf} (H : Blk w b t (poC l p R)) : w.rangeAt b 2 ((List.range 33).map (rfF R.1 R.2)) := by
  have := Blk.range (n := 35) (f := poF l p R) H 2 33 (by decide)
  rw [show ((List.range 33).map fun j => poF l p R (2 + j)) = (List.range 33).map (rfF R.1 R.2) from List.map_congr_left fun j hj => ?_] at this
  · exact this
  · unfold poF
    rw [if_neg (by omega), if_neg (by omega), show 2 + j - 2 = j by omega]
theorem nd_range {w : World} {b t : Nat} {l : Int} {K : Nat → Rf} (H : Blk w b t (ndC l K)) (i : Nat) (hi : i < 4) : w.rangeAt b (1 + i * 33) ((List.range 33).map (rfF (K i).1 (K i).2)) := by
  have := Blk.range (n := 133) (f := ndF l K) H (1 + i * 33) 33 (by omega)
  rw [show ((List.range 33).map fun j => ndF l K (1 + i * 33 + j)) = (List.range 33).map (rfF (K i).1 (K i).2) from List.map_congr_left fun j hj => ?_] at this
  · exact this
  · have hj := List.mem_range.1 hj
    unfold ndF kdF
    rw [if_neg (by omega), show (1 + i * 33 + j - 1) / 33 = i by omega, show (1 + i * 33 + j - 1) % 33 = j by omega]
theorem tr_build2 {P : Program} {ops : Array Oper} {rest : List Oper} {o : Oper} {a : Act} {w : World} {Q : Exit → Act → World → Prop} (hg : o.guard = none) (t : TypeId) (i j : Nat) (x y : Operand) (ho : o.op = .build t #[(i, x), (j, y)]) (vx vy : Value) (hx : a.eval x = vx) (hy : a.eval y = vy)
    (cells : Array Value) (hf : P.built t [(i, vx), (j, vy)] = some cells) (h : wpList P ops Q rest (a.put o.dst (.agg cells)) w) : wpList P ops Q (o :: rest) a w := by
  refine wpList_buildTo hg t _ ho o.dst rfl cells ?_ h
  have e : (Array.map (fun (x : Nat × Operand) => match x with | (i, x) => (i, a.eval x)) #[(i, x), (j, y)]).toList = [(i, vx), (j, vy)] := by simp [hx, hy]
  rw [e]
  exact hf
theorem tr_build3 {P : Program} {ops : Array Oper} {rest : List Oper} {o : Oper} {a : Act} {w : World} {Q : Exit → Act → World → Prop} (hg : o.guard = none) (t : TypeId) (i j k : Nat) (x y z : Operand) (ho : o.op = .build t #[(i, x), (j, y), (k, z)]) (vx vy vz : Value) (hx : a.eval x = vx) (hy : a.eval y = vy) (hz : a.eval z = vz)
    (cells : Array Value) (hf : P.built t [(i, vx), (j, vy), (k, vz)] = some cells) (h : wpList P ops Q rest (a.put o.dst (.agg cells)) w) : wpList P ops Q (o :: rest) a w := by
  refine wpList_buildTo hg t _ ho o.dst rfl cells ?_ h
  have e : (Array.map (fun (x : Nat × Operand) => match x with | (i, x) => (i, a.eval x)) #[(i, x), (j, y), (k, z)]).toList = [(i, vx), (j, vy), (k, vz)] := by simp [hx, hy, hz]
  rw [e]
  exact hf
set_option maxRecDepth 100000 in
set_option maxHeartbeats 4000000 in
theorem root_any (h : Int) (R : Rf) (w : World) : Calls Tryz.prog 29 #[.agg (trC h R)] w fun x w' => x = .returned (.agg (poC h 0 R)) ∧ Below w.heap.size w w' := by
  have hz := zero_po
  have hb1 : Below w.heap.size w ((w.alloc (.cells (trC h R) 45)).alloc (.cells (poC 0 0 rf0) 73)) := below_new2 _ _ _
  have t1 : Blk ((w.alloc (.cells (trC h R) 45)).alloc (.cells (poC 0 0 rf0) 73)) w.heap.size 45 (trC h R) := (Blk.new _ _ _).alloc _
  have p1 : Blk ((w.alloc (.cells (trC h R) 45)).alloc (.cells (poC 0 0 rf0) 73)) (w.heap.size + 1) 73 (poC 0 0 rf0) := Blk.new1 _ _ _ _
  have z1 : ((w.alloc (.cells (trC h R) 45)).alloc (.cells (poC 0 0 rf0) 73)).cell? ⟨w.heap.size, 0, none⟩ = some (.int .i64 h) := (t1.cell 0).trans (va_at (trF h R) (by decide))
  have HR : Hid (((w.alloc (.cells (trC h R) 45)).alloc (.cells (poC 0 0 rf0) 73)).rangeAt w.heap.size 1 ((List.range 33).map (rfF R.1 R.2))) := tr_range t1
  have HB : Hid (Tryz.prog.built 73 [(0, .int .i64 h), (2, .agg (rfC R))] = some (poC h 0 R)) := built_po2 h R
  go_enter Tryz.func29, Tryz.ntmps29
  go_wp2_with (first
    | (refine wpList_load_blk (by rfl) 43 _ (by rfl) (w.heap.size) (1) 33 (rfF R.1 R.2) (by rfl) _ (by exact HR.out) Tryz.underlying43 rfl tsizeRef ?_; simp only [Act.put, sgPHTrRead])
    | (refine tr_build2 (by rfl) 73 0 2 _ _ (by rfl) (.int .i64 h) (.agg (rfC R)) (by rfl) (by rfl) (poC h 0 R) (by exact HB.out) ?_; simp only [Act.put, sgPHTrRead])
    | (refine wpList_store_row (by rfl) 73 _ _ (by rfl) (w.heap.size + 1) (poC h 0 R) (by rfl) (by rfl) 73 (_) (by exact p1) (sizePo.trans (by rw [poC_size])) (by simp only [poC_size]) (poC_all _ _ _) ?_; simp only [Act.put, sgPHTrRead])
    | fail)
  try simp only [Exit.inBlock, Exit.then]
  refine bodyPost_ret (results_cell_row Tryz.results29 _ _ (w.heap.size + 1) 73 (poC h 0 R) (0, 0) _ rfl (p1.set _) Tryz.underlying73 rfl (sizePo.trans (by rw [poC_size]))) rfl ?_
  exact ⟨rfl, below_setRow hb1 (by omega) _⟩
set_option maxRecDepth 100000 in
set_option maxHeartbeats 4000000 in
theorem beneath_any (l p n : Int) (R : Rf) (K : Nat → Rf) (i : Nat) (hi : i < 4) (hl : -1000 ≤ l ∧ l ≤ 1000) (hp : 0 ≤ p ∧ p ≤ 1099511627776) (w : World) : Calls Tryz.prog 52 #[.agg (poC l p R), .agg (ndC n K), .int .i64 (i : Int)] w fun x w' => x = .returned (.agg (poC (l - 1) (p * 4 + (i : Int)) (K i))) ∧ Below w.heap.size w w' := by
  have hz := zero_po
  have hb1 : Below w.heap.size w (((w.alloc (.cells (poC l p R) 73)).alloc (.cells (ndC n K) 142)).alloc (.cells (poC 0 0 rf0) 73)) := below_new3 _ _ _ _
  have t1 : Blk (((w.alloc (.cells (poC l p R) 73)).alloc (.cells (ndC n K) 142)).alloc (.cells (poC 0 0 rf0) 73)) w.heap.size 73 (poC l p R) := ((Blk.new _ _ _).alloc _).alloc _
  have n1 : Blk (((w.alloc (.cells (poC l p R) 73)).alloc (.cells (ndC n K) 142)).alloc (.cells (poC 0 0 rf0) 73)) (w.heap.size + 1) 142 (ndC n K) := (Blk.new1 _ _ _ _).alloc _
  have p1 : Blk (((w.alloc (.cells (poC l p R) 73)).alloc (.cells (ndC n K) 142)).alloc (.cells (poC 0 0 rf0) 73)) (w.heap.size + 2) 73 (poC 0 0 rf0) := Blk.new2 _ _ _ _ _
  have HB : Hid (Tryz.prog.built 73 [(0, .int .i64 (l - 1)), (1, .int .i64 (p * 4 + (i : Int))), (2, .agg (rfC (K i)))] = some (poC (l - 1) (p * 4 + (i : Int)) (K i))) := built_po3 _ _ _
  have hS : Blk (((w.alloc (.cells (poC l p R) 73)).alloc (.cells (ndC n K) 142)).alloc (.cells (poC 0 0 rf0) 73)).drew w.heap.size 73 (poC l p R) ∧ Blk (((w.alloc (.cells (poC l p R) 73)).alloc (.cells (ndC n K) 142)).alloc (.cells (poC 0 0 rf0) 73)).drew (w.heap.size + 1) 142 (ndC n K) := ⟨t1, n1⟩
  have HRN : Hid ((((w.alloc (.cells (poC l p R) 73)).alloc (.cells (ndC n K) 142)).alloc (.cells (poC 0 0 rf0) 73)).drew.rangeAt (w.heap.size + 1) (1 + i * 33) ((List.range 33).map (rfF (K i).1 (K i).2))) := nd_range hS.2 i hi
  obtain ⟨hl1, hl2⟩ := hl
  obtain ⟨hp1, hp2⟩ := hp
  have hi1 : (i : Int) < 4 := by omega
  have hi0 : (0 : Int) ≤ (i : Int) := by omega
  go_enter Tryz.func52, Tryz.ntmps52
  go_wp2_with fail
  refine wp_region_partsS (fun W => Blk W w.heap.size 73 (poC l p R) ∧ Blk W (w.heap.size + 1) 142 (ndC n K)) [([6, 8], 0, true), ([], 1, true), ([], 2, true), ([], 3, true), ([], 4, true), ([], 5, true), ([], 7, true), ([], 9, false), ([10], 11, true), ([], 12, false)] [] [13] (by kernel_rfl) (by kernel_rfl) hS (partsI_yield ?_)
  simp only [sgLHTrRead]
  go_wp2_with fail
  refine ⟨rfl, _, .pointer (some ⟨w.heap.size, 0, none⟩), rfl, Or.inl ⟨by rfl, fun W hW => by go_simp⟩, partsI_yield ?_⟩
  simp only [Act.put, sgPHTrRead]
  simp only [sgLHTrRead]
  go_wp2_with fail
  refine ⟨rfl, _, .int .i64 l, rfl, Or.inl ⟨by rfl, fun W hW => by have hW1 : W.cell? ⟨w.heap.size, 0, none⟩ = some (.int .i64 l) := (hW.1.cell 0).trans (va_at _ (by decide)); go_simp⟩, partsI_yield ?_⟩
  simp only [Act.put, sgPHTrRead]
  simp only [sgLHTrRead]
  go_wp2_with fail
  refine ⟨rfl, _, .int .i64 (l - 1), rfl, Or.inl ⟨by rfl, fun W hW => by go_simp; rw [IntKind.wrap_i64]; omega⟩, partsI_yield ?_⟩
  simp only [Act.put, sgPHTrRead]
  simp only [sgLHTrRead]
  go_wp2_with fail
  refine ⟨rfl, _, .pointer (some ⟨w.heap.size, 1, none⟩), rfl, Or.inl ⟨by rfl, fun W hW => by go_simp⟩, partsI_yield ?_⟩
  simp only [Act.put, sgPHTrRead]
  simp only [sgLHTrRead]
  go_wp2_with fail
  refine ⟨rfl, _, .int .i64 p, rfl, Or.inl ⟨by rfl, fun W hW => by have hW1 : W.cell? ⟨w.heap.size, 1, none⟩ = some (.int .i64 p) := (hW.1.cell 1).trans (va_at _ (by decide)); go_simp⟩, partsI_yield ?_⟩
  simp only [Act.put, sgPHTrRead]
  simp only [sgLHTrRead]
  go_wp2_with fail
  refine ⟨rfl, _, .int .i64 (p * 4), rfl, Or.inl ⟨by rfl, fun W hW => by go_simp; rw [IntKind.wrap_i64]; omega⟩, partsI_yield ?_⟩
  simp only [Act.put, sgPHTrRead]
  simp only [sgLHTrRead]
  go_wp2_with fail
  refine ⟨rfl, _, .int .i64 (p * 4 + (i : Int)), rfl, Or.inl ⟨by rfl, fun W hW => by go_simp; rw [IntKind.wrap_i64]; omega⟩, partsI_force ?_⟩
  simp only [Act.put, sgPHTrRead]
  simp only [sgLHTrRead]
  go_wp2_with fail
  refine ⟨rfl, hS, partsI_yield ?_⟩
  simp only [sgLHTrRead]
  go_wp2_with fail
  refine ⟨rfl, _, .agg (rfC (K i)), rfl, kyields_load_at (by rfl) 43 _ (by rfl) (w.heap.size + 1) (1 + i * 33) 33 (rfF (K i).1 (K i).2) (by rfl) _ (fun W hW => nd_range hW.2 i hi) Tryz.underlying43 rfl tsizeRef, partsI_force ?_⟩
  simp only [Act.put, sgPHTrRead]
  simp only [sgLHTrRead]
  refine tr_build3 (by rfl) 73 0 1 2 _ _ _ (by rfl) (.int .i64 (l - 1)) (.int .i64 (p * 4 + (i : Int))) (.agg (rfC (K i))) (by rfl) (by rfl) (by rfl) (poC (l - 1) (p * 4 + (i : Int)) (K i)) (by exact HB.out) ?_
  simp only [Act.put, sgPHTrRead]
  go_wp2_with fail
  refine ⟨rfl, hS, partsI_last ?_⟩
  simp only [sgLHTrRead]
  refine wpList_store_row (by rfl) 73 _ _ (by rfl) (w.heap.size + 2) (poC (l - 1) (p * 4 + (i : Int)) (K i)) (by rfl) (by rfl) 73 _ p1.drew (sizePo.trans (by rw [poC_size])) (by simp only [poC_size]) (poC_all _ _ _) ?_
  simp only [Act.put, sgPHTrRead]
  go_wp2_with fail
  refine ⟨rfl, ?_⟩
  go_wp2_with fail
  try simp only [Exit.inBlock, Exit.then]
  refine bodyPost_ret (results_cell_row Tryz.results52 _ _ (w.heap.size + 2) 73 (poC (l - 1) (p * 4 + (i : Int)) (K i)) (0, 0) _ rfl (p1.drew.set _) Tryz.underlying73 rfl (sizePo.trans (by rw [poC_size]))) rfl ?_
  exact ⟨rfl, below_setRow hb1.drew (by omega) _⟩
end Go.Proofs.YtiofonffmplfmaaGreat
