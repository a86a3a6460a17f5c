/- The document's reference in a text: the contract of signetref07.Decode. -/
import Derived.Test.YtiofonffmplfmaaGreatHNdAwake
import Derived.Lib.SlBytesConst
import Derived.ArgAppend
import Derived.Handy

namespace Go.Proofs.YtiofonffmplfmaaGreat
open Go Go.RowKit
set_option linter.unusedSimpArgs false
set_option linter.unusedVariables false

theorem cells_mark (w : World) (cs : Array Value) (t : TypeId) (fr : Nat × Nat) (o : Obj) : ∀ j u, cs.toList[j]? = some u → ((w.alloc (.cells cs t fr)).alloc o).cell? ((⟨w.heap.size, 0, none⟩ : Addr).add j) = some u := fun j u hu => by
  have hb : ((w.alloc (.cells cs t fr)).alloc o).heap[w.heap.size]? = some (.cells cs t fr) := by
    rw [heap_alloc_old _ _ (by simp), heap_alloc_new]
  rw [Addr.add_mid, Nat.zero_add, cell_of_row _ _ j cs t fr hb]
  simpa using hu
theorem below_grown_none {w w' : World} (h : w.grownBy w' none) : Below w.heap.size w w' := (Below.refl _ _).grown h (Nat.le_refl _) (fun k hk => by cases hk)
theorem ndSize256 : (Tryz.prog.info? 49).map (·.size) = some 256 := by kernel_rfl
set_option maxRecDepth 100000 in
set_option maxHeartbeats 4000000 in
theorem refBlock_level (l : Int) (hl : l < 1 ∨ 6 < l) (K : Nat → Rf) (w : World) : Calls Tryz.prog 64 #[.agg (ndC l K)] w fun e w' => e = .returned (.tuple #[bkV fun _ => 0, .int .i64 1]) ∧ Below w.heap.size w w' := by
  unfold bkV
  have hz := zero_256
  have r0 : Blk ((w.alloc (.cells (ndC l K) 160)).alloc (.cells (va 256 (iv .u8 fun _ => 0)) 49)) w.heap.size 160 (va 133 (ndF l K)) := (Blk.new _ _ _).alloc _
  have r1 : Blk ((w.alloc (.cells (ndC l K) 160)).alloc (.cells (va 256 (iv .u8 fun _ => 0)) 49)) (w.heap.size + 1) 49 (va 256 (iv .u8 fun _ => 0)) := Blk.new1 _ _ _ _
  have hb : Below w.heap.size w ((w.alloc (.cells (ndC l K) 160)).alloc (.cells (va 256 (iv .u8 fun _ => 0)) 49)) := below_new2 _ _ _
  have hsz : ((w.alloc (.cells (ndC l K) 160)).alloc (.cells (va 256 (iv .u8 fun _ => 0)) 49)).heap.size = w.heap.size + 2 := by simp
  have x0 : ((w.alloc (.cells (ndC l K) 160)).alloc (.cells (va 256 (iv .u8 fun _ => 0)) 49)).cell? ⟨w.heap.size, 0, none⟩ = some (.int .i64 l) := by
    rw [r0.cell]
    exact va_at (ndF l K) (by decide)
  rcases hl with hl | hl
  · go_enter Tryz.func64, Tryz.ntmps64
    go_wp2_with (first
      | (refine wpList_store_row (by rfl) 49 _ _ (by rfl) (w.heap.size + 1) (va 256 (iv .u8 (fun _ => 0))) (by rfl) (by rfl) 49 (_) (by exact r1) (ndSize256.trans (by rw [va_size])) (by simp only [va_size]) (iv_one _ _ _) ?_; simp only [Act.put, List.setIfInBounds_toArray, List.set_cons_zero, List.set_cons_succ])
      | fail)
    try simp only [Exit.inBlock, Exit.then]
    refine bodyPost_ret (results_row2 Tryz.results64 _ _ (w.heap.size + 1) 49 (va 256 (iv .u8 (fun _ => 0))) (0, 0) _ rfl (r1.set _) Tryz.underlying49 rfl (ndSize256.trans (by rw [va_size]))) rfl ?_
    exact ⟨rfl, below_setRow hb (by omega) _⟩
  · go_enter Tryz.func64, Tryz.ntmps64
    go_wp2_with (first
      | (refine wpList_store_row (by rfl) 49 _ _ (by rfl) (w.heap.size + 1) (va 256 (iv .u8 (fun _ => 0))) (by rfl) (by rfl) 49 (_) (by exact r1) (ndSize256.trans (by rw [va_size])) (by simp only [va_size]) (iv_one _ _ _) ?_; simp only [Act.put, List.setIfInBounds_toArray, List.set_cons_zero, List.set_cons_succ])
      | fail)
    try simp only [Exit.inBlock, Exit.then]
    refine bodyPost_ret (results_row2 Tryz.results64 _ _ (w.heap.size + 1) 49 (va 256 (iv .u8 (fun _ => 0))) (0, 0) _ rfl (r1.set _) Tryz.underlying49 rfl (ndSize256.trans (by rw [va_size]))) rfl ?_
    exact ⟨rfl, below_setRow hb (by omega) _⟩
theorem head_cells (l : Nat) (K : Nat → Rf) : byL (nodeB l K) (8 + 36 * 0) = [Value.int .u8 110, .int .u8 111, .int .u8 100, .int .u8 101, .int .u8 (l : Int), .int .u8 0, .int .u8 0, .int .u8 0] := by rfl
theorem kid_cells (l : Nat) (K : Nat → Rf) (k : Nat) (hk : k < 4) : byL (nodeB l K) (8 + 36 * (k + 1)) = byL (nodeB l K) (8 + 36 * k) ++ byL (encR (K k)) 36 := by
  rw [show 8 + 36 * (k + 1) = 8 + 36 * k + 36 by omega, byL_add]
  congr 1
  exact byL_congr fun j hj => nodeB_kid l K k j hk hj
set_option maxRecDepth 100000 in
set_option maxHeartbeats 4000000 in
theorem refBlock_in (l : Nat) (h1 : 1 ≤ l) (h6 : l ≤ 6) (K : Nat → Rf) (hK : ∀ i, i < 4 → okD (K i).2) (hN : ∀ i, i < 4 → (K i).1 < 4294967296) (X : Nat → Nat) (Y : Int) (HXY : Hid ((X, Y) = if ndOk l K then (nodeB l K, (0 : Int)) else (fun _ => 0, 1))) (w : World) : Calls Tryz.prog 64 #[.agg (ndC (l : Int) K)] w fun e w' => e = .returned (.tuple #[bkV X, .int .i64 Y]) ∧ Below w.heap.size w w' := by
  unfold bkV
  obtain ⟨i0, hi, hz0, hz1, hz2⟩ := info_parts infoU8k
  have hz := zero_256
  have r0 : Blk ((w.alloc (.cells (ndC (l : Int) K) 160)).alloc (.cells (va 256 (iv .u8 fun _ => 0)) 49)) w.heap.size 160 (va 133 (ndF (l : Int) K)) := (Blk.new _ _ _).alloc _
  have r1 : Blk ((w.alloc (.cells (ndC (l : Int) K) 160)).alloc (.cells (va 256 (iv .u8 fun _ => 0)) 49)) (w.heap.size + 1) 49 (va 256 (iv .u8 fun _ => 0)) := Blk.new1 _ _ _ _
  have hb : Below w.heap.size w ((w.alloc (.cells (ndC (l : Int) K) 160)).alloc (.cells (va 256 (iv .u8 fun _ => 0)) 49)) := below_new2 _ _ _
  have hsz : ((w.alloc (.cells (ndC (l : Int) K) 160)).alloc (.cells (va 256 (iv .u8 fun _ => 0)) 49)).heap.size = w.heap.size + 2 := by simp
  have x0 : ((w.alloc (.cells (ndC (l : Int) K) 160)).alloc (.cells (va 256 (iv .u8 fun _ => 0)) 49)).cell? ⟨w.heap.size, 0, none⟩ = some (.int .i64 (l : Int)) := by
    rw [r0.cell]
    exact va_at (ndF (l : Int) K) (by decide)
  have e8 : (l : Int) % 256 = l := by omega
  have q0 : Blk ((((w.alloc (.cells (ndC (l : Int) K) 160)).alloc (.cells (va 256 (iv .u8 fun _ => 0)) 49)).alloc (.cells #[.int .u8 110, .int .u8 111, .int .u8 100, .int .u8 101] 5 (4, 5))).alloc (.cells #[.int .u8 (l : Int), .int .u8 0, .int .u8 0, .int .u8 0] 5)) w.heap.size 160 (va 133 (ndF (l : Int) K)) := (r0.alloc _).alloc _
  have q1 : Blk ((((w.alloc (.cells (ndC (l : Int) K) 160)).alloc (.cells (va 256 (iv .u8 fun _ => 0)) 49)).alloc (.cells #[.int .u8 110, .int .u8 111, .int .u8 100, .int .u8 101] 5 (4, 5))).alloc (.cells #[.int .u8 (l : Int), .int .u8 0, .int .u8 0, .int .u8 0] 5)) (w.heap.size + 1) 49 (va 256 (iv .u8 fun _ => 0)) := (r1.alloc _).alloc _
  have hb4 : Below w.heap.size w ((((w.alloc (.cells (ndC (l : Int) K) 160)).alloc (.cells (va 256 (iv .u8 fun _ => 0)) 49)).alloc (.cells #[.int .u8 110, .int .u8 111, .int .u8 100, .int .u8 101] 5 (4, 5))).alloc (.cells #[.int .u8 (l : Int), .int .u8 0, .int .u8 0, .int .u8 0] 5)) := (hb.alloc (by rw [hsz]; omega) _).alloc (by simp; omega) _
  have hs4 : ((((w.alloc (.cells (ndC (l : Int) K) 160)).alloc (.cells (va 256 (iv .u8 fun _ => 0)) 49)).alloc (.cells #[.int .u8 110, .int .u8 111, .int .u8 100, .int .u8 101] 5 (4, 5))).alloc (.cells #[.int .u8 (l : Int), .int .u8 0, .int .u8 0, .int .u8 0] 5)).heap.size = w.heap.size + 4 := by simp
  have HO4 : Hid (∀ j u, [Value.int .u8 110, .int .u8 111, .int .u8 100, .int .u8 101][j]? = some u → ((((w.alloc (.cells (ndC (l : Int) K) 160)).alloc (.cells (va 256 (iv .u8 fun _ => 0)) 49)).alloc (.cells #[.int .u8 110, .int .u8 111, .int .u8 100, .int .u8 101] 5 (4, 5))).alloc (.cells #[.int .u8 (l : Int), .int .u8 0, .int .u8 0, .int .u8 0] 5)).cell? ((⟨w.heap.size + 2, 0, none⟩ : Addr).add j) = some u) := fun j u hu => by
    have := cells_mark ((w.alloc (.cells (ndC (l : Int) K) 160)).alloc (.cells (va 256 (iv .u8 fun _ => 0)) 49)) #[.int .u8 110, .int .u8 111, .int .u8 100, .int .u8 101] 5 (4, 5) (.cells #[.int .u8 (l : Int), .int .u8 0, .int .u8 0, .int .u8 0] 5) j u hu
    rwa [hsz] at this
  have HC4 : Hid (∀ j u, [Value.int .u8 (l : Int), .int .u8 0, .int .u8 0, .int .u8 0][j]? = some u → ((((w.alloc (.cells (ndC (l : Int) K) 160)).alloc (.cells (va 256 (iv .u8 fun _ => 0)) 49)).alloc (.cells #[.int .u8 110, .int .u8 111, .int .u8 100, .int .u8 101] 5 (4, 5))).alloc (.cells #[.int .u8 (l : Int), .int .u8 0, .int .u8 0, .int .u8 0] 5)).cell? ((⟨w.heap.size + 3, 0, none⟩ : Addr).add j) = some u) := fun j u hu => by
    have := cells_new (((w.alloc (.cells (ndC (l : Int) K) 160)).alloc (.cells (va 256 (iv .u8 fun _ => 0)) 49)).alloc (.cells #[.int .u8 110, .int .u8 111, .int .u8 100, .int .u8 101] 5 (4, 5))) #[.int .u8 (l : Int), .int .u8 0, .int .u8 0, .int .u8 0] 5 j u hu
    rwa [show (((w.alloc (.cells (ndC (l : Int) K) 160)).alloc (.cells (va 256 (iv .u8 fun _ => 0)) 49)).alloc (.cells #[.int .u8 110, .int .u8 111, .int .u8 100, .int .u8 101] 5 (4, 5))).heap.size = w.heap.size + 3 by simp] at this
  have kc : (convert 165 165 (.slice (some ⟨w.heap.size + 2, 0, none⟩) 4 4)).run Tryz.prog (((w.alloc (.cells (ndC (l : Int) K) 160)).alloc (.cells (va 256 (iv .u8 fun _ => 0)) 49)).alloc (.cells #[.int .u8 110, .int .u8 111, .int .u8 100, .int .u8 101] 5)) = .ok (.slice (some ⟨w.heap.size + 2, 0, none⟩) 4 4) (((w.alloc (.cells (ndC (l : Int) K) 160)).alloc (.cells (va 256 (iv .u8 fun _ => 0)) 49)).alloc (.cells #[.int .u8 110, .int .u8 111, .int .u8 100, .int .u8 101] 5 (4, 5))) := by
    have := Lib.run_convert_bytes_const (P := Tryz.prog) ((w.alloc (.cells (ndC (l : Int) K) 160)).alloc (.cells (va 256 (iv .u8 fun _ => 0)) 49)) 165 5 #[.int .u8 110, .int .u8 111, .int .u8 100, .int .u8 101] 4 4 Tryz.underlying165 Tryz.underlying5
    rw [hsz] at this
    exact this
  go_enter Tryz.func64, Tryz.ntmps64
  go_wp2_with (first
    | (at_builtin; refine wpList_append_grows _ rfl _ _ 165 rfl 5 i0 (.int .u8 0) 1 1 Tryz.underlying165 hi hz0 hz1 hz2 rfl (by decide) (some ⟨w.heap.size + 2, 0, none⟩) 4 4 [.int .u8 110, .int .u8 111, .int .u8 100, .int .u8 101] rfl (fun h => by cases h) rfl (fun b hb j u hu => by injection hb with hb; subst hb; exact HO4.out j u hu) ⟨w.heap.size + 3, 0, none⟩ 4 4 [.int .u8 (l : Int), .int .u8 0, .int .u8 0, .int .u8 0] rfl rfl HC4.out (fun u hu => by simp at hu; rcases hu with rfl | rfl <;> rfl) (by decide) (by unfold maxLen; omega) (by omega) ?_)
    | go_in)
  intro v5 w5 ho5 hg5
  have hb5 : Below w.heap.size w w5 := hb4.grown hg5 (by omega) (fun k hk => by cases hk)
  have t0 : Blk w5 w.heap.size 160 (va 133 (ndF (l : Int) K)) := q0.below (below_grown_none hg5) q0.lt
  have t1 : Blk w5 (w.heap.size + 1) 49 (va 256 (iv .u8 fun _ => 0)) := q1.below (below_grown_none hg5) q1.lt
  have hs5 : w.heap.size + 4 ≤ w5.heap.size := by have := (below_grown_none hg5).size; omega
  have ho6 : w5.ownsRow (w.heap.size + 4) 5 1 v5 (8 + 36 * 0) (byL (nodeB l K) (8 + 36 * 0)) := by
    rw [head_cells]
    exact ho5
  clear q0 q1 r0 r1 hb hb4 HO4 HC4 x0 ho5 hg5 hs4 hsz kc
  obtain ⟨a5, c5, hv5⟩ := kown_slice ho6
  subst hv5
  go_wp2_with fail
  go_loopw [4, 5] (fun v i wr => ∃ (k : Nat) (a : Option Addr) (c : Nat), k ≤ 4 ∧ i = .int .i64 (k : Int) ∧ v = .slice a (8 + 36 * k) c ∧ wr.ownsRow (w.heap.size + 4) 5 1 v (8 + 36 * k) (byL (nodeB l K) (8 + 36 * k)) ∧ (∀ i, i < k → rOk (K i) = true) ∧ Blk wr w.heap.size 160 (va 133 (ndF (l : Int) K)) ∧ Blk wr (w.heap.size + 1) 49 (va 256 (iv .u8 fun _ => 0)) ∧ Below w.heap.size w wr ∧ w.heap.size + 4 ≤ wr.heap.size) (fun _ i _ => 4 - (intOf i).toNat)
  case atStart => exact ⟨0, a5, c5, by omega, rfl, rfl, ho6, fun i hi => absurd hi (by omega), t0, t1, hb5, hs5⟩
  case round =>
    clear t0 t1 hb5 hs5 ho6
    obtain ⟨k, a, c, hk, rfl, rfl, hown, hR, p0, p1, hb, hs⟩ := hrel
    by_cases hlt : k < 4
    · have k1 : (k : Int) < 4 := by omega
      have HKD : Hid (wr.rangeAt w.heap.size (1 + k * 33) ((List.range 33).map (rfF (K k).1 (K k).2))) := fun j v hv => by
        refine p0.range (1 + k * 33) 33 (by omega) j v ?_
        rw [← hv]
        congr 1
        refine List.map_congr_left fun i hi => ?_
        exact ndF_at _ K k i (by simpa using hi)
      have HRT : Hid (∀ w, Calls Tryz.prog 33 #[.agg (va 33 (rfF (K k).1 (K k).2))] w fun e w' => e = .returned (.bool (rOk (K k))) ∧ Below w.heap.size w w') := rright_any (K k)
      have HEN : Hid (∀ w, Calls Tryz.prog 81 #[.agg (va 33 (rfF (K k).1 (K k).2))] w fun e w' => ∃ g c, e = .returned (.slice (some ⟨g, 0, none⟩) 36 c) ∧ w'.ownsRow (w.heap.size + 1) 5 1 (.slice (some ⟨g, 0, none⟩) 36 c) 36 (byL (encR (K k)) 36) ∧ Below w.heap.size w w') := refEncR_any (K k) (hN k hlt)
      have HRK : Hid (∀ b, rOk (K k) = b → b = true → ∀ i, i < k + 1 → rOk (K i) = true) := fun b h1 h2 i hi => by
        rcases Nat.lt_or_ge i k with h | h
        · exact hR i h
        · rw [show i = k by omega, h1, h2]
      have HRF : Hid (rOk (K k) = false → ndOk l K = false) := fun h => by
        have : ((List.range 4).all fun i => rOk (K i)) = false := by
          rw [List.all_eq_false]
          exact ⟨k, by simpa using hlt, by simp [h]⟩
        unfold ndOk
        rw [this, Bool.and_false]
      have HKC : Hid (byL (nodeB l K) (8 + 36 * (k + 1)) = byL (nodeB l K) (8 + 36 * k) ++ byL (encR (K k)) 36) := kid_cells l K k hlt
      have HOW : Hid (wr.ownsRow (w.heap.size + 4) 5 1 (.slice a (8 + 36 * k) c) (8 + 36 * k) (byL (nodeB l K) (8 + 36 * k))) := hown
      clear hown
      generalize hrb : rOk (K k) = b at *
      go_wp2_with (first
        | (refine wpList_load_blk (by rfl) 31 _ (by rfl) (w.heap.size) (1 + k * 33) 33 (rfF (K k).1 (K k).2) (by rfl) _ (by exact HKD.out) Tryz.underlying31 rfl sizeRref ?_; simp only [Act.put, List.setIfInBounds_toArray, List.set_cons_zero, List.set_cons_succ])
        | fail)
      refine (HRT.out wr).mono ?_
      rintro e w6 ⟨rfl, hb6⟩
      have hs6 := hb6.size
      have m0 : Blk w6 w.heap.size 160 (va 133 (ndF (l : Int) K)) := p0.below hb6 (by omega)
      have m1 : Blk w6 (w.heap.size + 1) 49 (va 256 (iv .u8 fun _ => 0)) := p1.below hb6 (by omega)
      have HO6 : Hid (w6.ownsRow (w.heap.size + 4) 5 1 (.slice a (8 + 36 * k) c) (8 + 36 * k) (byL (nodeB l K) (8 + 36 * k))) := kown_below HOW.out hb6
      have hb7 : Below w.heap.size w w6 := hb.trans (hb6.mono (by omega))
      clear HKD p0 p1 HOW hb HRT hb6
      cases b
      · go_wp2_with (first
          | (refine wpList_store_row (by rfl) 49 _ _ (by rfl) (w.heap.size + 1) (va 256 (iv .u8 (fun _ => 0))) (by rfl) (by rfl) 49 (_) (by exact m1) (ndSize256.trans (by rw [va_size])) (by simp only [va_size]) (iv_one _ _ _) ?_; simp only [Act.put, List.setIfInBounds_toArray, List.set_cons_zero, List.set_cons_succ])
          | fail)
        try simp only [Exit.inBlock, Exit.then]
        refine bodyPost_ret (results_row2 Tryz.results64 _ _ (w.heap.size + 1) 49 (va 256 (iv .u8 (fun _ => 0))) (0, 0) _ rfl (m1.set _) Tryz.underlying49 rfl (ndSize256.trans (by rw [va_size]))) rfl ?_
        have e : ndOk (l : Int) K = false := HRF.out (by first | rfl | trivial)
        refine ⟨?_, below_setRow hb7 (by omega) _⟩
        have hxy := HXY.out
        rw [e] at hxy
        injection hxy with hx hy
        subst hx hy
        rfl
      · have HKD : Hid (w6.rangeAt w.heap.size (1 + k * 33) ((List.range 33).map (rfF (K k).1 (K k).2))) := fun j v hv => by
          refine m0.range (1 + k * 33) 33 (by omega) j v ?_
          rw [← hv]
          congr 1
          refine List.map_congr_left fun i hi => ?_
          exact ndF_at _ K k i (by simpa using hi)
        go_wp2_with (first
          | (refine wpList_load_blk (by rfl) 31 _ (by rfl) (w.heap.size) (1 + k * 33) 33 (rfF (K k).1 (K k).2) (by rfl) _ (by exact HKD.out) Tryz.underlying31 rfl sizeRref ?_; simp only [Act.put, List.setIfInBounds_toArray, List.set_cons_zero, List.set_cons_succ])
          | fail)
        refine (HEN.out w6).mono ?_
        rintro e w7 ⟨ge, ce, rfl, hoe, hb8⟩
        have hs8 := hb8.size
        have n0 : Blk w7 w.heap.size 160 (va 133 (ndF (l : Int) K)) := m0.below hb8 (by omega)
        have n1 : Blk w7 (w.heap.size + 1) 49 (va 256 (iv .u8 fun _ => 0)) := m1.below hb8 (by omega)
        have HO7 : Hid (w7.ownsRow (w.heap.size + 4) 5 1 (.slice a (8 + 36 * k) c) (8 + 36 * k) (byL (nodeB l K) (8 + 36 * k))) := kown_below HO6.out hb8
        have hb9 : Below w.heap.size w w7 := hb7.trans (hb8.mono (by omega))
        have HC : Hid (∀ j u, (byL (encR (K k)) 36)[j]? = some u → w7.cell? ((⟨ge, 0, none⟩ : Addr).add j) = some u) := fun j u hu => by
          have hj : j < 36 := by
            rcases Nat.lt_or_ge j 36 with h1 | h1
            · exact h1
            · rw [List.getElem?_eq_none (by rw [byL_length]; exact h1)] at hu
              cases hu
          rw [Addr.add_mid, Nat.zero_add, hoe.cellAt j (by omega)]
          exact hu
        have HL : Hid (∀ k', (Value.slice a (8 + 36 * k) c).ownBlock = some k' → (w.heap.size + 4) ≤ k') := fun k' hk' => (HO7.out.lt k' hk').1
        clear HKD m0 m1 HO6 hb7 hb8 hoe HEN
        go_wp2_with (first
          | (at_builtin; refine wpList_append_own_at rfl _ _ 165 rfl (w.heap.size + 4) 5 i0 (.int .u8 0) 1 1 Tryz.underlying165 hi hz0 hz1 hz2 rfl (by decide) _ _ _ rfl HO7.out ⟨ge, 0, none⟩ 36 ce (byL (encR (K k)) 36) rfl (by rw [byL_length]) HC.out (mem_iv_one _ _ _) (by unfold maxLen; omega) (by omega) (by omega) ?_)
          | go_in)
        intro v8 w8 ho8 hg8 _
        rw [← HKC.out, show 8 + 36 * k + 36 = 8 + 36 * (k + 1) by omega] at ho8
        have hb10 : Below w.heap.size w w8 := hb9.grown hg8 (by omega) (fun k' hk' => by have := HL.out k' hk'; omega)
        have hbB : Below (w.heap.size + 4) w7 w8 := (Below.refl _ _).grown hg8 (by omega) (fun k' hk' => HL.out k' hk')
        have o0 : Blk w8 w.heap.size 160 (va 133 (ndF (l : Int) K)) := n0.below hbB (by omega)
        have o1 : Blk w8 (w.heap.size + 1) 49 (va 256 (iv .u8 fun _ => 0)) := n1.below hbB (by omega)
        have hs10 := hbB.size
        obtain ⟨a8, c8, hv8⟩ := kown_slice ho8
        subst hv8
        have HO8 : Hid (w8.ownsRow (w.heap.size + 4) 5 1 (.slice a8 (8 + 36 * (k + 1)) c8) (8 + 36 * (k + 1)) (byL (nodeB l K) (8 + 36 * (k + 1)))) := ho8
        clear ho8 hg8 HO7 HC HL n0 n1 hb9 hbB
        go_wp2_with fail
        refine ⟨⟨_, _, _, _, _, _, _, _, _, _, _, _, _, _, _, _, _, _, _, _, _, ⟨k + 1, a8, c8, by omega, by simp, rfl, HO8.out, HRK.out true rfl rfl, o0, o1, hb10, by omega⟩, rfl⟩, ?_⟩
        simp [intOf]
        try omega
    · have e : k = 4 := by omega
      subst e
      have HO : Hid (ndOk l K = true) := by
        show ndOk l K = true
        unfold ndOk
        rw [Bool.and_eq_true, Bool.and_eq_true, decide_eq_true_eq, decide_eq_true_eq, List.all_eq_true]
        exact ⟨⟨by omega, by omega⟩, fun i hi => hR i (by simpa using hi)⟩
      have hxy := HXY.out
      rw [HO.out] at hxy
      injection hxy with hx hy
      clear HXY HO hR
      obtain ⟨gv, cv, hv, hgv, hgv2⟩ := kown_form hown (by omega)
      rw [hv] at hown ⊢
      clear hv
      have HOW : Hid (wr.ownsRow (w.heap.size + 4) 5 1 (.slice (some ⟨gv, 0, none⟩) (8 + 36 * 4) cv) (8 + 36 * 4) (byL (nodeB l K) (8 + 36 * 4))) := hown
      have z0 : Blk (wr.alloc (.cells (va 256 (iv .u8 fun _ => 0)) 49)) wr.heap.size 49 (va 256 (iv .u8 fun _ => 0)) := Blk.new _ _ _
      have z1 : Blk ((wr.alloc (.cells (va 256 (iv .u8 fun _ => 0)) 49)).setRow wr.heap.size (va 256 (iv .u8 fun _ => 0))) wr.heap.size 49 (va 256 (iv .u8 fun _ => 0)) := z0.set _
      have bz : Below wr.heap.size wr ((wr.alloc (.cells (va 256 (iv .u8 fun _ => 0)) 49)).setRow wr.heap.size (va 256 (iv .u8 fun _ => 0))) := below_setRow (below_new1 _ _) (Nat.le_refl _) _
      have k4 : ¬ (((4 : Nat) : Int) < 4) := by omega
      clear hown
      go_wp2_with (first
        | (refine wpList_store_row (by rfl) 49 _ _ (by rfl) (wr.heap.size) (va 256 (iv .u8 (fun _ => 0))) (by rfl) (by rfl) 49 (_) (by exact z0) (ndSize256.trans (by rw [va_size])) (by simp only [va_size]) (iv_one _ _ _) ?_; simp only [Act.put, List.setIfInBounds_toArray, List.set_cons_zero, List.set_cons_succ])
        | fail)
      clear z0
      generalize ((wr.alloc (.cells (va 256 (iv .u8 fun _ => 0)) 49)).setRow wr.heap.size (va 256 (iv .u8 fun _ => 0))) = wz at *
      generalize wr = wo at *
      go_loopw [7] (fun i wx => ∃ c : Nat, c ≤ 152 ∧ i = .int .i64 (c : Int) ∧ Blk wx wo.heap.size 49 (va 256 (iv .u8 fun j => if j < c then nodeB l K j else 0)) ∧ Below wo.heap.size wo wx) (fun i _ => 152 - (intOf i).toNat)
      case atStart => exact ⟨0, by omega, rfl, z1, bz⟩
      case round =>
        clear z1 bz
        obtain ⟨c, hc, rfl, hx2, hbx⟩ := hrel
        have hw := HOW.out
        have ho9 := kown_below hw (hbx)
        by_cases hlt2 : c < 152
        · have c1 : (c : Int) < 152 := by omega
          have c0 : (0 : Int) ≤ (c : Int) := by omega
          have y0 : wr.cell? ⟨gv, c, none⟩ = some (.int .u8 ((nodeB l K c : Nat) : Int)) := by
            rw [ho9.cellAt c (by omega), byL_at _ _ _ (by omega)]
          have f1 : wr.frozen? ⟨wo.heap.size, c, none⟩ = false := hx2.frozen c
          have y1 : ∃ z, wr.cell? ⟨wo.heap.size, c, none⟩ = some z := ⟨_, hx2.cv (by omega)⟩
          obtain ⟨z, y1⟩ := y1
          have HB2 : Hid (Blk (wr.setCell ⟨wo.heap.size, c, none⟩ (.int .u8 ((nodeB l K c : Nat) : Int))) wo.heap.size 49 (va 256 (iv .u8 fun j => if j < c + 1 then nodeB l K j else 0))) := by
            have := hx2.put c (.int .u8 ((nodeB l K c : Nat) : Int))
            rw [va_set] at this
            have e : va 256 (upd (iv .u8 (fun j => if j < c then nodeB l K j else 0)) c (.int .u8 ((nodeB l K c : Nat) : Int))) = va 256 (iv .u8 fun j => if j < c + 1 then nodeB l K j else 0) := va_congr fun j hj => by
              show (if j = c then Value.int .u8 ((nodeB l K c : Nat) : Int) else Value.int .u8 (((if j < c then nodeB l K j else 0 : Nat)) : Int)) = Value.int .u8 (((if j < c + 1 then nodeB l K j else 0 : Nat)) : Int)
              by_cases h : j = c
              · subst h
                rw [if_pos rfl, if_pos (by omega)]
              · rw [if_neg h]
                by_cases h2 : j < c
                · rw [if_pos h2, if_pos (by omega)]
                · rw [if_neg h2, if_neg (by omega)]
            rw [e] at this
            exact this
          have hbb : Below wo.heap.size wo (wr.setCell ⟨wo.heap.size, c, none⟩ (.int .u8 ((nodeB l K c : Nat) : Int))) := hbx.setCell (Nat.le_refl _) _
          generalize nodeB l K c = nb at *
          clear hx2 hbx ho9 hw HOW
          go_wp2_with fail
          refine ⟨⟨c + 1, by omega, by simp, HB2.out, hbb⟩, ?_⟩
          simp [intOf]
          try omega
        · have e : va 256 (iv .u8 (fun j => if j < c then nodeB l K j else 0)) = va 256 (iv .u8 (nodeB l K)) := va_congr fun j hj => by
            show Value.int .u8 (((if j < c then nodeB l K j else 0 : Nat)) : Int) = Value.int .u8 ((nodeB l K j : Nat) : Int)
            by_cases h2 : j < c
            · rw [if_pos h2]
            · rw [if_neg h2]
              congr 2
              unfold nodeB
              rw [if_neg (by omega), if_neg (by omega)]
          rw [e] at hx2
          have g1 : Blk wr (w.heap.size + 1) 49 (va 256 (iv .u8 fun _ => 0)) := p1.below hbx (by omega)
          have hbf : Below w.heap.size w wr := hb.trans (hbx.mono (by omega))
          have k5 : ¬ (c : Int) < 152 := by omega
          clear hw ho9 HOW e
          go_wp2_with (first
            | (refine wpList_load_rowg (by rfl) 49 _ (by rfl) (wo.heap.size) (by rfl) 49 (va 256 (iv .u8 (nodeB l K))) (0, 0) _ (by exact hx2) Tryz.underlying49 (by rfl) (ndSize256.trans (by rw [va_size])) ?_; simp only [Act.put, List.setIfInBounds_toArray, List.set_cons_zero, List.set_cons_succ])
            | (refine wpList_store_row (by rfl) 49 _ _ (by rfl) (w.heap.size + 1) (va 256 (iv .u8 (nodeB l K))) (by rfl) (by rfl) 49 (_) (by exact g1) (ndSize256.trans (by rw [va_size])) (by simp only [va_size]) (iv_one _ _ _) ?_; simp only [Act.put, List.setIfInBounds_toArray, List.set_cons_zero, List.set_cons_succ])
            | fail)
          try simp only [Exit.inBlock, Exit.then]
          refine bodyPost_ret (results_row2 Tryz.results64 _ _ (w.heap.size + 1) 49 (va 256 (iv .u8 (nodeB l K))) (0, 0) _ rfl (g1.set _) Tryz.underlying49 rfl (ndSize256.trans (by rw [va_size]))) rfl ?_
          refine ⟨?_, below_setRow hbf (by omega) _⟩
          subst hx hy
          rfl
theorem refBlock_any (l : Int) (K : Nat → Rf) (hK : ∀ i, i < 4 → okD (K i).2) (hN : ∀ i, i < 4 → (K i).1 < 4294967296) (w : World) : Calls Tryz.prog 64 #[.agg (ndC l K)] w fun e w' => e = .returned (.tuple #[bkV (blkF l K), .int .i64 (if ndOk l K then 0 else 1)]) ∧ Below w.heap.size w w' := by
  by_cases h : l < 1 ∨ 6 < l
  · have e : ndOk l K = false := by
      unfold ndOk
      rcases h with h | h
      · rw [decide_eq_false (p := 1 ≤ l) (by omega), Bool.false_and, Bool.false_and]
      · rw [decide_eq_false (p := l ≤ 6) (by omega), Bool.and_false, Bool.false_and]
    unfold blkF
    rw [e]
    exact refBlock_level l h K w
  · obtain ⟨n, rfl⟩ : ∃ n : Nat, l = (n : Int) := ⟨l.toNat, by omega⟩
    refine refBlock_in n (by omega) (by omega) K hK hN (blkF n K) (if ndOk n K then 0 else 1) ?_ w
    show (_, _) = _
    unfold blkF
    cases ndOk n K
    · rfl
    · rfl
end Go.Proofs.YtiofonffmplfmaaGreat

namespace Go.Proofs.YtiofonffmplfmaaGreat
open Go Go.RowKit
set_option linter.unusedSimpArgs false
set_option linter.unusedVariables false

theorem rfC_set (n k z : Nat) (hk : k < 32) (f : Nat → Nat) : (rfC (n, sumD f)).setIfInBounds (1 + k) (.int .u8 (z : Int)) = rfC (n, sumD fun j => if j = k then z else f j) := by
  unfold rfC
  rw [va_set]
  refine va_congr fun i hi => ?_
  unfold upd
  by_cases h : i = 1 + k
  · subst h
    rw [if_pos rfl]
    unfold rfF
    rw [if_neg (by omega), show dF (n, sumD fun j => if j = k then z else f j).2 (1 + k - 1) = z by
      show dF (sumD fun j => if j = k then z else f j) (1 + k - 1) = z
      rw [dF_sumD _ _ (by omega), if_pos (by omega)]]
  · rw [if_neg h]
    unfold rfF
    by_cases h0 : i = 0
    · rw [if_pos h0, if_pos h0]
    · rw [if_neg h0, if_neg h0]
      have e : dF (n, sumD fun j => if j = k then z else f j).2 (i - 1) = dF (n, sumD f).2 (i - 1) := by
        show dF (sumD fun j => if j = k then z else f j) (i - 1) = dF (sumD f) (i - 1)
        rw [dF_sumD _ _ (by omega), dF_sumD _ _ (by omega), if_neg (by omega)]
      rw [e]
theorem nd_zero_sum : Vector.replicate 32 0 = sumD fun _ => 0 := dF_inj fun i hi => by
  rw [dF_sumD _ _ hi]
  unfold dF
  simp [hi]
theorem up_step (t : Nat → Nat) (c : Nat) : (fun j => if j = c then t c else if j < c then t j else 0) = fun j => if j < c + 1 then t j else 0 := by
  funext j
  by_cases h : j = c
  · subst h
    rw [if_pos rfl, if_pos (by omega)]
  · rw [if_neg h]
    by_cases h2 : j < c
    · rw [if_pos h2, if_pos (by omega)]
    · rw [if_neg h2, if_neg (by omega)]
set_option maxRecDepth 100000 in
set_option maxHeartbeats 4000000 in
theorem refDecR_good (s : ByteArray) (a : Nat) (hs : s.size ≤ maxLen) (h : a + 36 ≤ s.size) (w : World) : Calls Tryz.prog 90 #[.string s, .int .i64 (a : Int)] w fun e w' => e = .returned (.tuple #[.agg (rfC (if rOk (decR s a) then decR s a else rf0)), .bool (rOk (decR s a))]) ∧ Below w.heap.size w w' := by
  have HT : Hid (∀ w, Calls Tryz.prog 99 #[.string s, .int .i64 (a : Int), .int .i64 4] w fun e w' => e = .returned (.tuple #[.int .u64 (at4 s a : Int), .bool true]) ∧ Below w.heap.size w w') := fun w => refTake32_yes s a hs (by omega) w
  unfold maxLen at hs
  have hz := zero_rref
  have r0 : Blk (w.alloc (.cells (rfC rf0) 31)) w.heap.size 31 (rfC rf0) := Blk.new _ _ _
  have hb : Below w.heap.size w (w.alloc (.cells (rfC rf0) 31)) := below_new1 _ _
  have hsz : (w.alloc (.cells (rfC rf0) 31)).heap.size = w.heap.size + 1 := by simp
  have HDS : Hid (∀ c, ¬ c < 32 → decR s a = (at4 s a, sumD fun j => if j < c then tbyte s (a + 4 + j) else 0)) := fun c hc => by
    unfold decR
    have e : (sumD fun i => tbyte s (a + 4 + i)) = sumD fun j => if j < c then tbyte s (a + 4 + j) else 0 := dF_inj fun i hi => by
      rw [dF_sumD _ _ hi, dF_sumD _ _ hi, if_pos (by omega)]
    rw [e]
  have h9 : ¬ (s.size : Int) - (a : Int) < 36 := by omega
  have h8 : (a : Int) ≤ (s.size : Int) := by omega
  have hn := at4_lt s a
  have HBT : Hid (Tryz.prog.built 31 [(0, .int .u32 (at4 s a : Int))] = some (rfC (at4 s a, sumD fun _ => 0))) := by
    have := built_rref1 (at4 s a)
    rw [nd_zero_sum] at this
    exact this
  have HR : Hid (∀ w, Calls Tryz.prog 33 #[.agg (rfC (decR s a))] w fun e w' => e = .returned (.bool (rOk (decR s a))) ∧ Below w.heap.size w w') := rright_any (decR s a)
  generalize decR s a = X at *
  generalize rOk X = b at *
  generalize at4 s a = n4 at *
  have e4 : (n4 : Int) % 4294967296 = (n4 : Int) := by omega
  go_enter Tryz.func90, Tryz.ntmps90
  go_wp2_with fail
  generalize (w.alloc (.cells (rfC rf0) 31)) = w1 at *
  refine (HT.out w1).mono ?_
  rintro e w2 ⟨rfl, hb2⟩
  have hs2 := hb2.size
  have b0 : Blk (w2.alloc (.cells (rfC rf0) 31)) w2.heap.size 31 (rfC rf0) := Blk.new _ _ _
  have r4 : Blk ((w2.alloc (.cells (rfC rf0) 31)).setRow w2.heap.size (rfC (n4, sumD fun _ => 0))) w.heap.size 31 (rfC rf0) := ((r0.below hb2 (by omega)).alloc _).other _ (by omega)
  have b4 : Blk ((w2.alloc (.cells (rfC rf0) 31)).setRow w2.heap.size (rfC (n4, sumD fun _ => 0))) w2.heap.size 31 (rfC (n4, sumD fun _ => 0)) := b0.set _
  have hb4 : Below w.heap.size w ((w2.alloc (.cells (rfC rf0) 31)).setRow w2.heap.size (rfC (n4, sumD fun _ => 0))) := below_setRow ((hb.trans (hb2.mono (by omega))).alloc (by omega) _) (by omega) _
  have hs4 : ((w2.alloc (.cells (rfC rf0) 31)).setRow w2.heap.size (rfC (n4, sumD fun _ => 0))).heap.size = w2.heap.size + 1 := by simp
  clear r0 hb hb2 HT
  go_wp2_with (first
    | (refine nd_build1 (by rfl) 31 _ (by rfl) (.int .u32 (n4 : Int)) (by rfl) (rfC (n4, sumD fun _ => 0)) (by exact HBT.out) ?_; simp only [Act.put, List.setIfInBounds_toArray, List.set_cons_zero, List.set_cons_succ])
    | (refine wpList_store_row (by rfl) 31 _ _ (by rfl) (w2.heap.size) (rfC (n4, sumD fun _ => 0)) (by rfl) (by rfl) 31 (_) (by exact b0) (sizeRref.trans (by rw [rfC_size])) (by simp only [rfC_size]) (rfC_all _) ?_; simp only [Act.put, List.setIfInBounds_toArray, List.set_cons_zero, List.set_cons_succ])
    | fail)
  clear b0 HBT
  generalize ((w2.alloc (.cells (rfC rf0) 31)).setRow w2.heap.size (rfC (n4, sumD fun _ => 0))) = w4 at *
  go_loopw [9] (fun i wx => ∃ c : Nat, c ≤ 32 ∧ i = .int .i64 (c : Int) ∧ Blk wx w2.heap.size 31 (rfC (n4, sumD fun j => if j < c then tbyte s (a + 4 + j) else 0)) ∧ Blk wx w.heap.size 31 (rfC rf0) ∧ Below w.heap.size w wx ∧ w2.heap.size + 1 ≤ wx.heap.size) (fun i _ => 32 - (intOf i).toNat)
  case atStart => exact ⟨0, by omega, rfl, b4, r4, hb4, by omega⟩
  case round =>
    clear b4 r4 hb4 hs4
    obtain ⟨c, hc, rfl, hx, hq, hb, hsw⟩ := hrel
    by_cases hlt : c < 32
    · have c0 : (0 : Int) ≤ (c : Int) := by omega
      have c1 : (c : Int) < 32 := by omega
      have c2 : (0 : Int) ≤ (a : Int) + 4 + (c : Int) := by omega
      have c3 : (a : Int) + 4 + (c : Int) < (s.size : Int) := by omega
      have c4 : ((a : Int) + 4 + (c : Int)).toNat = a + 4 + c := by omega
      have c5 : a + 4 + c < s.size := by omega
      have hxx := (tbyte_get s (a + 4 + c) c5).symm
      have f0 : wr.frozen? ⟨w2.heap.size, 1 + c, none⟩ = false := hx.frozen (1 + c)
      have y0 : ∃ z, wr.cell? ⟨w2.heap.size, 1 + c, none⟩ = some z := ⟨_, by rw [hx.cell]; exact va_at (rfF _ _) (by omega)⟩
      obtain ⟨z, y0⟩ := y0
      have HB2 : Hid (Blk (wr.setCell ⟨w2.heap.size, 1 + c, none⟩ (.int .u8 ((tbyte s (a + 4 + c) : Nat) : Int))) w2.heap.size 31 (rfC (n4, sumD fun j => if j < c + 1 then tbyte s (a + 4 + j) else 0))) := by
        have := hx.put (1 + c) (.int .u8 ((tbyte s (a + 4 + c) : Nat) : Int))
        rw [rfC_set _ c _ hlt, up_step (fun j => tbyte s (a + 4 + j)) c] at this
        exact this
      have HC2 : Hid (Blk (wr.setCell ⟨w2.heap.size, 1 + c, none⟩ (.int .u8 ((tbyte s (a + 4 + c) : Nat) : Int))) w.heap.size 31 (rfC rf0)) := hq.put_other _ _ (by omega)
      have hbb : Below w.heap.size w (wr.setCell ⟨w2.heap.size, 1 + c, none⟩ (.int .u8 ((tbyte s (a + 4 + c) : Nat) : Int))) := hb.setCell (by show w.heap.size ≤ w2.heap.size; omega) _
      have hsb : (wr.setCell ⟨w2.heap.size, 1 + c, none⟩ (.int .u8 ((tbyte s (a + 4 + c) : Nat) : Int))).heap.size = wr.heap.size := World.size_setCell _ _ _
      clear hx hq hb
      go_wp2_with fail
      refine ⟨⟨c + 1, by omega, by simp, HB2.out, HC2.out, hbb, by omega⟩, ?_⟩
      simp [intOf]
      try omega
    · have e := HDS.out c hlt
      rw [← e] at hx
      clear e HDS
      have k5 : ¬ (c : Int) < 32 := by omega
      go_wp2_with (first
        | (refine wpList_load_rowg (by rfl) 31 _ (by rfl) (w2.heap.size) (by rfl) 31 (rfC X) (0, 0) _ (by exact hx) Tryz.underlying31 (by rfl) (sizeRref.trans (by rw [rfC_size])) ?_; simp only [Act.put, List.setIfInBounds_toArray, List.set_cons_zero, List.set_cons_succ])
        | fail)
      refine (HR.out wr).mono ?_
      rintro e w5 ⟨rfl, hb5⟩
      have r5 : Blk w5 w2.heap.size 31 (rfC X) := hx.below hb5 (by omega)
      have q5 : Blk w5 w.heap.size 31 (rfC rf0) := hq.below hb5 (by omega)
      have hb6 : Below w.heap.size w w5 := hb.trans (hb5.mono (by omega))
      clear hx hq hb hb5
      cases b
      · go_wp2_with (first
          | (refine wpList_store_row (by rfl) 31 _ _ (by rfl) (w.heap.size) (rfC rf0) (by rfl) (by rfl) 31 (_) (by exact q5) (sizeRref.trans (by rw [rfC_size])) (by simp only [rfC_size]) (rfC_all _) ?_; simp only [Act.put, List.setIfInBounds_toArray, List.set_cons_zero, List.set_cons_succ])
          | fail)
        try simp only [Exit.inBlock, Exit.then]
        refine bodyPost_ret (results_row2 Tryz.results90 _ _ (w.heap.size) 31 (rfC rf0) (0, 0) _ rfl (q5.set _) Tryz.underlying31 rfl (sizeRref.trans (by rw [rfC_size]))) rfl ?_
        exact ⟨rfl, below_setRow hb6 (Nat.le_refl _) _⟩
      · go_wp2_with (first
          | (refine wpList_load_rowg (by rfl) 31 _ (by rfl) (w2.heap.size) (by rfl) 31 (rfC X) (0, 0) _ (by exact r5) Tryz.underlying31 (by rfl) (sizeRref.trans (by rw [rfC_size])) ?_; simp only [Act.put, List.setIfInBounds_toArray, List.set_cons_zero, List.set_cons_succ])
          | (refine wpList_store_row (by rfl) 31 _ _ (by rfl) (w.heap.size) (rfC X) (by rfl) (by rfl) 31 (_) (by exact q5) (sizeRref.trans (by rw [rfC_size])) (by simp only [rfC_size]) (rfC_all _) ?_; simp only [Act.put, List.setIfInBounds_toArray, List.set_cons_zero, List.set_cons_succ])
          | fail)
        try simp only [Exit.inBlock, Exit.then]
        refine bodyPost_ret (results_row2 Tryz.results90 _ _ (w.heap.size) 31 (rfC X) (0, 0) _ rfl (q5.set _) Tryz.underlying31 rfl (sizeRref.trans (by rw [rfC_size]))) rfl ?_
        exact ⟨rfl, below_setRow hb6 (Nat.le_refl _) _⟩
end Go.Proofs.YtiofonffmplfmaaGreat
