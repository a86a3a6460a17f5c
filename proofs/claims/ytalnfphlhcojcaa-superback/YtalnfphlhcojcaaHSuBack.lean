/- Roots there and back: what Encode lays, Decode takes. -/
import Derived.Test.YtalnfphlhcojcaaHSuDec
import Derived.Test.YtalnfphlhcojcaaHNdRef
import Derived.BigQuiet
import Derived.Deep.QuietTactic
import Derived.Handy

namespace Go.Proofs.Ytalnfphlhcojcaa
open Go Go.RowKit
set_option linter.unusedSimpArgs false
set_option linter.unusedVariables false
set_option maxRecDepth 20000
set_option maxRecDepth 100000 in
set_option maxHeartbeats 4000000 in
theorem sdecode_no (f : Nat → Nat) (hf : ∀ i, f i < 256) (hc : sck (prR f) = false) (w : World) : Calls Try.prog 11 #[bkV f] w fun e w' => e = .returned (.tuple #[.agg (suC su0), .int .i64 200]) ∧ Below w.heap.size w w' := by
  have hz := zero_sup
  have hz2 := zero_bk
  have HP : Hid (∀ w, Calls Try.prog 31 #[bkV f] w fun e w' => e = .returned (.agg (suC (prB f))) ∧ Below w.heap.size w w') := sparts_any f hf
  have HE : Hid (∀ w, Calls Try.prog 7 #[.agg (suC (prB f))] w fun e w' => e = .returned (.tuple #[bkV (fun _ => 0), .int .i64 200]) ∧ Below w.heap.size w w') := sencode_no (prB f) (prB_w f hf) (by rw [prB_sck]; exact hc)
  obtain ⟨Z, hZ⟩ : ∃ Z : Nat → Nat, Z = fun _ => 0 := ⟨_, rfl⟩
  have HE2 : Hid (∀ w, Calls Try.prog 7 #[.agg (suC (prB f))] w fun e w' => e = .returned (.tuple #[bkV Z, .int .i64 200]) ∧ Below w.heap.size w w') := by rw [hZ]; exact HE
  clear HE hZ
  have HE := HE2
  clear HE2
  generalize prB f = X at *
  generalize Z = G at *
  unfold bkV at *
  have r0 : Blk ((w.alloc (.cells (va 256 (iv .u8 f)) 33)).alloc (.cells (suC su0) 31)) w.heap.size 33 (va 256 (iv .u8 f)) := (Blk.new _ _ _).alloc _
  have r1 : Blk ((w.alloc (.cells (va 256 (iv .u8 f)) 33)).alloc (.cells (suC su0) 31)) (w.heap.size + 1) 31 (suC su0) := Blk.new1 _ _ _ _
  have hb : Below w.heap.size w ((w.alloc (.cells (va 256 (iv .u8 f)) 33)).alloc (.cells (suC su0) 31)) := below_new2 _ _ _
  go_enter Try.func11, Try.ntmps11
  go_wp2_with (first | (refine wpList_load_rowg (by rfl) 33 _ (by rfl) (w.heap.size) (by rfl) 33 (va 256 (iv .u8 (f))) (0, 0) _ (by exact r0) Try.underlying33 (by rfl) (sizeBk.trans (by rw [va_size])) ?_; simp only [Act.put, List.setIfInBounds_toArray, List.set_cons_zero, List.set_cons_succ]) | fail)
  generalize ((w.alloc (.cells (va 256 (iv .u8 f)) 33)).alloc (.cells (suC su0) 31)) = W at *
  refine (HP.out _).mono ?_
  rintro e w1 ⟨rfl, hb1⟩
  have q0 := r0.below hb1 r0.lt
  have q1 := r1.below hb1 r1.lt
  have hb2 : Below w.heap.size w w1 := hb.trans (hb1.mono hb.size)
  have l1 : w.heap.size + 1 < w1.heap.size := q1.lt
  clear r0 r1 hb hb1 HP
  have s0 : Blk (w1.alloc (.cells (suC su0) 31)) w1.heap.size 31 (suC su0) := Blk.new _ _ _
  have t0 : Blk ((w1.alloc (.cells (suC su0) 31)).setRow w1.heap.size (suC X)) w.heap.size 33 (va 256 (iv .u8 f)) := (q0.alloc _).other _ (by omega)
  have t1 : Blk ((w1.alloc (.cells (suC su0) 31)).setRow w1.heap.size (suC X)) (w.heap.size + 1) 31 (suC su0) := (q1.alloc _).other _ (by omega)
  have t2 : Blk ((w1.alloc (.cells (suC su0) 31)).setRow w1.heap.size (suC X)) w1.heap.size 31 (suC X) := s0.set _
  have hb5 : Below w.heap.size w ((w1.alloc (.cells (suC su0) 31)).setRow w1.heap.size (suC X)) := below_setRow (hb2.alloc hb2.size _) (by omega) _
  clear q0 q1 hb2
  go_wp2_with (first | (refine wpList_store_row (by rfl) 31 _ _ (by rfl) (w1.heap.size) (suC (X)) (by rfl) (by rfl) 31 (_) (by exact s0) (sizeSup.trans (by rw [suC_size])) (by simp only [suC_size]) (suC_all _) ?_; simp only [Act.put, List.setIfInBounds_toArray, List.set_cons_zero, List.set_cons_succ]) | (refine wpList_load_rowg (by rfl) 31 _ (by rfl) (w1.heap.size) (by rfl) 31 (suC (X)) (0, 0) _ (by exact t2) Try.underlying31 (by rfl) (sizeSup.trans (by rw [suC_size])) ?_; simp only [Act.put, List.setIfInBounds_toArray, List.set_cons_zero, List.set_cons_succ]) | fail)
  clear s0
  generalize ((w1.alloc (.cells (suC su0) 31)).setRow w1.heap.size (suC X)) = v1 at *
  generalize w1.heap.size = g at *
  refine (HE.out _).mono ?_
  rintro e u1 ⟨rfl, hb6⟩
  have p0 := t0.below hb6 t0.lt
  have p1 := t1.below hb6 t1.lt
  have p2 := t2.below hb6 t2.lt
  have hb7 : Below w.heap.size w u1 := hb5.trans (hb6.mono hb5.size)
  have l2 : g < u1.heap.size := p2.lt
  clear t0 t1 t2 hb5 hb6 HE
  have s1 : Blk (u1.alloc (.cells (va 256 (iv .u8 fun _ => 0)) 33)) u1.heap.size 33 (va 256 (iv .u8 fun _ => 0)) := Blk.new _ _ _
  have a0 : Blk ((u1.alloc (.cells (va 256 (iv .u8 fun _ => 0)) 33)).setRow u1.heap.size (va 256 (iv .u8 G))) w.heap.size 33 (va 256 (iv .u8 f)) := (p0.alloc _).other _ (by omega)
  have a1 : Blk ((u1.alloc (.cells (va 256 (iv .u8 fun _ => 0)) 33)).setRow u1.heap.size (va 256 (iv .u8 G))) (w.heap.size + 1) 31 (suC su0) := (p1.alloc _).other _ (by omega)
  have a2 : Blk ((u1.alloc (.cells (va 256 (iv .u8 fun _ => 0)) 33)).setRow u1.heap.size (va 256 (iv .u8 G))) g 31 (suC X) := (p2.alloc _).other _ (by omega)
  have a3 : Blk ((u1.alloc (.cells (va 256 (iv .u8 fun _ => 0)) 33)).setRow u1.heap.size (va 256 (iv .u8 G))) u1.heap.size 33 (va 256 (iv .u8 G)) := s1.set _
  have hb8 : Below w.heap.size w ((u1.alloc (.cells (va 256 (iv .u8 fun _ => 0)) 33)).setRow u1.heap.size (va 256 (iv .u8 G))) := below_setRow (hb7.alloc hb7.size _) (by omega) _
  clear p0 p1 p2 hb7
  go_wp2_with (first | (refine wpList_store_row (by rfl) 33 _ _ (by rfl) (u1.heap.size) (va 256 (iv .u8 (G))) (by rfl) (by rfl) 33 (_) (by exact s1) (sizeBk.trans (by rw [va_size])) (by simp only [va_size]) (iv_one _ _ _) ?_; simp only [Act.put, List.setIfInBounds_toArray, List.set_cons_zero, List.set_cons_succ]) | (refine wpList_load_rowg (by rfl) 33 _ (by rfl) (u1.heap.size) (by rfl) 33 (va 256 (iv .u8 (G))) (0, 0) _ (by exact a3) Try.underlying33 (by rfl) (sizeBk.trans (by rw [va_size])) ?_; simp only [Act.put, List.setIfInBounds_toArray, List.set_cons_zero, List.set_cons_succ]) | (refine wpList_load_rowg (by rfl) 33 _ (by rfl) (w.heap.size) (by rfl) 33 (va 256 (iv .u8 (f))) (0, 0) _ (by exact a0) Try.underlying33 (by rfl) (sizeBk.trans (by rw [va_size])) ?_; simp only [Act.put, List.setIfInBounds_toArray, List.set_cons_zero, List.set_cons_succ]) | (refine wpList_buildTo (by rfl) 31 _ (by rfl) _ rfl (suC su0) (by exact built_sup0) ?_; simp only [Act.put, List.setIfInBounds_toArray, List.set_cons_zero, List.set_cons_succ]) | (refine wpList_store_row (by rfl) 31 _ _ (by rfl) (w.heap.size + 1) (suC (su0)) (by rfl) (by rfl) 31 (_) (by exact a1) (sizeSup.trans (by rw [suC_size])) (by simp only [suC_size]) (suC_all _) ?_; simp only [Act.put, List.setIfInBounds_toArray, List.set_cons_zero, List.set_cons_succ]) | (refine wpList_load_rowg (by rfl) 31 _ (by rfl) (g) (by rfl) 31 (suC (X)) (0, 0) _ (by exact a2) Try.underlying31 (by rfl) (sizeSup.trans (by rw [suC_size])) ?_; simp only [Act.put, List.setIfInBounds_toArray, List.set_cons_zero, List.set_cons_succ]) | (refine wpList_store_row (by rfl) 31 _ _ (by rfl) (w.heap.size + 1) (suC (X)) (by rfl) (by rfl) 31 (_) (by exact a1) (sizeSup.trans (by rw [suC_size])) (by simp only [suC_size]) (suC_all _) ?_; simp only [Act.put, List.setIfInBounds_toArray, List.set_cons_zero, List.set_cons_succ]) | fail)
  try simp only [Exit.inBlock, Exit.then]
  refine bodyPost_ret (results_row2 Try.results11 _ _ (w.heap.size + 1) 31 (suC su0) (0, 0) _ rfl (a1.set _) Try.underlying31 rfl (sizeSup.trans (by rw [suC_size]))) rfl ?_
  exact ⟨rfl, below_setRow hb8 (Nat.le_succ _) _⟩
set_option maxRecDepth 100000 in
set_option maxHeartbeats 4000000 in
theorem sdecode_un (f : Nat → Nat) (hf : ∀ i, f i < 256) (hc : sck (prR f) = true) (hs : ¬ bkSame (suB (prR f)) f) (w : World) : Calls Try.prog 11 #[bkV f] w fun e w' => e = .returned (.tuple #[.agg (suC su0), .int .i64 200]) ∧ Below w.heap.size w w' := by
  have hz := zero_sup
  have hz2 := zero_bk
  have HP : Hid (∀ w, Calls Try.prog 31 #[bkV f] w fun e w' => e = .returned (.agg (suC (prB f))) ∧ Below w.heap.size w w') := sparts_any f hf
  rw [prB_eq f hc] at HP
  have HE : Hid (∀ w, Calls Try.prog 7 #[.agg (suC (prR f))] w fun e w' => e = .returned (.tuple #[bkV (suB (prR f)), .int .i64 0]) ∧ Below w.heap.size w w') := sencode_ok (prR f) (prR_w f hf) hc
  have hq : ∀ W, (Op.equalIn 10000 33 (bkV (suB (prR f))) (bkV f)).run Try.prog W = .ok false W := fun W => by
    have := eq_bk 33 Try.underlying33 (suB (prR f)) f W
    rw [decide_eq_false hs] at this
    exact this
  clear hs hc
  generalize hG : suB (prR f) = G0 at *
  clear hG
  generalize prR f = X at *
  generalize G0 = G at *
  unfold bkV at *
  have r0 : Blk ((w.alloc (.cells (va 256 (iv .u8 f)) 33)).alloc (.cells (suC su0) 31)) w.heap.size 33 (va 256 (iv .u8 f)) := (Blk.new _ _ _).alloc _
  have r1 : Blk ((w.alloc (.cells (va 256 (iv .u8 f)) 33)).alloc (.cells (suC su0) 31)) (w.heap.size + 1) 31 (suC su0) := Blk.new1 _ _ _ _
  have hb : Below w.heap.size w ((w.alloc (.cells (va 256 (iv .u8 f)) 33)).alloc (.cells (suC su0) 31)) := below_new2 _ _ _
  go_enter Try.func11, Try.ntmps11
  go_wp2_with (first | (refine wpList_load_rowg (by rfl) 33 _ (by rfl) (w.heap.size) (by rfl) 33 (va 256 (iv .u8 (f))) (0, 0) _ (by exact r0) Try.underlying33 (by rfl) (sizeBk.trans (by rw [va_size])) ?_; simp only [Act.put, List.setIfInBounds_toArray, List.set_cons_zero, List.set_cons_succ]) | fail)
  generalize ((w.alloc (.cells (va 256 (iv .u8 f)) 33)).alloc (.cells (suC su0) 31)) = W at *
  refine (HP.out _).mono ?_
  rintro e w1 ⟨rfl, hb1⟩
  have q0 := r0.below hb1 r0.lt
  have q1 := r1.below hb1 r1.lt
  have hb2 : Below w.heap.size w w1 := hb.trans (hb1.mono hb.size)
  have l1 : w.heap.size + 1 < w1.heap.size := q1.lt
  clear r0 r1 hb hb1 HP
  have s0 : Blk (w1.alloc (.cells (suC su0) 31)) w1.heap.size 31 (suC su0) := Blk.new _ _ _
  have t0 : Blk ((w1.alloc (.cells (suC su0) 31)).setRow w1.heap.size (suC X)) w.heap.size 33 (va 256 (iv .u8 f)) := (q0.alloc _).other _ (by omega)
  have t1 : Blk ((w1.alloc (.cells (suC su0) 31)).setRow w1.heap.size (suC X)) (w.heap.size + 1) 31 (suC su0) := (q1.alloc _).other _ (by omega)
  have t2 : Blk ((w1.alloc (.cells (suC su0) 31)).setRow w1.heap.size (suC X)) w1.heap.size 31 (suC X) := s0.set _
  have hb5 : Below w.heap.size w ((w1.alloc (.cells (suC su0) 31)).setRow w1.heap.size (suC X)) := below_setRow (hb2.alloc hb2.size _) (by omega) _
  clear q0 q1 hb2
  go_wp2_with (first | (refine wpList_store_row (by rfl) 31 _ _ (by rfl) (w1.heap.size) (suC (X)) (by rfl) (by rfl) 31 (_) (by exact s0) (sizeSup.trans (by rw [suC_size])) (by simp only [suC_size]) (suC_all _) ?_; simp only [Act.put, List.setIfInBounds_toArray, List.set_cons_zero, List.set_cons_succ]) | (refine wpList_load_rowg (by rfl) 31 _ (by rfl) (w1.heap.size) (by rfl) 31 (suC (X)) (0, 0) _ (by exact t2) Try.underlying31 (by rfl) (sizeSup.trans (by rw [suC_size])) ?_; simp only [Act.put, List.setIfInBounds_toArray, List.set_cons_zero, List.set_cons_succ]) | fail)
  clear s0
  generalize ((w1.alloc (.cells (suC su0) 31)).setRow w1.heap.size (suC X)) = v1 at *
  generalize w1.heap.size = g at *
  refine (HE.out _).mono ?_
  rintro e u1 ⟨rfl, hb6⟩
  have p0 := t0.below hb6 t0.lt
  have p1 := t1.below hb6 t1.lt
  have p2 := t2.below hb6 t2.lt
  have hb7 : Below w.heap.size w u1 := hb5.trans (hb6.mono hb5.size)
  have l2 : g < u1.heap.size := p2.lt
  clear t0 t1 t2 hb5 hb6 HE
  have s1 : Blk (u1.alloc (.cells (va 256 (iv .u8 fun _ => 0)) 33)) u1.heap.size 33 (va 256 (iv .u8 fun _ => 0)) := Blk.new _ _ _
  have a0 : Blk ((u1.alloc (.cells (va 256 (iv .u8 fun _ => 0)) 33)).setRow u1.heap.size (va 256 (iv .u8 G))) w.heap.size 33 (va 256 (iv .u8 f)) := (p0.alloc _).other _ (by omega)
  have a1 : Blk ((u1.alloc (.cells (va 256 (iv .u8 fun _ => 0)) 33)).setRow u1.heap.size (va 256 (iv .u8 G))) (w.heap.size + 1) 31 (suC su0) := (p1.alloc _).other _ (by omega)
  have a2 : Blk ((u1.alloc (.cells (va 256 (iv .u8 fun _ => 0)) 33)).setRow u1.heap.size (va 256 (iv .u8 G))) g 31 (suC X) := (p2.alloc _).other _ (by omega)
  have a3 : Blk ((u1.alloc (.cells (va 256 (iv .u8 fun _ => 0)) 33)).setRow u1.heap.size (va 256 (iv .u8 G))) u1.heap.size 33 (va 256 (iv .u8 G)) := s1.set _
  have hb8 : Below w.heap.size w ((u1.alloc (.cells (va 256 (iv .u8 fun _ => 0)) 33)).setRow u1.heap.size (va 256 (iv .u8 G))) := below_setRow (hb7.alloc hb7.size _) (by omega) _
  clear p0 p1 p2 hb7
  go_wp2_with (first | (refine wpList_store_row (by rfl) 33 _ _ (by rfl) (u1.heap.size) (va 256 (iv .u8 (G))) (by rfl) (by rfl) 33 (_) (by exact s1) (sizeBk.trans (by rw [va_size])) (by simp only [va_size]) (iv_one _ _ _) ?_; simp only [Act.put, List.setIfInBounds_toArray, List.set_cons_zero, List.set_cons_succ]) | (refine wpList_load_rowg (by rfl) 33 _ (by rfl) (u1.heap.size) (by rfl) 33 (va 256 (iv .u8 (G))) (0, 0) _ (by exact a3) Try.underlying33 (by rfl) (sizeBk.trans (by rw [va_size])) ?_; simp only [Act.put, List.setIfInBounds_toArray, List.set_cons_zero, List.set_cons_succ]) | (refine wpList_load_rowg (by rfl) 33 _ (by rfl) (w.heap.size) (by rfl) 33 (va 256 (iv .u8 (f))) (0, 0) _ (by exact a0) Try.underlying33 (by rfl) (sizeBk.trans (by rw [va_size])) ?_; simp only [Act.put, List.setIfInBounds_toArray, List.set_cons_zero, List.set_cons_succ]) | (refine wpList_buildTo (by rfl) 31 _ (by rfl) _ rfl (suC su0) (by exact built_sup0) ?_; simp only [Act.put, List.setIfInBounds_toArray, List.set_cons_zero, List.set_cons_succ]) | (refine wpList_store_row (by rfl) 31 _ _ (by rfl) (w.heap.size + 1) (suC (su0)) (by rfl) (by rfl) 31 (_) (by exact a1) (sizeSup.trans (by rw [suC_size])) (by simp only [suC_size]) (suC_all _) ?_; simp only [Act.put, List.setIfInBounds_toArray, List.set_cons_zero, List.set_cons_succ]) | (refine wpList_load_rowg (by rfl) 31 _ (by rfl) (g) (by rfl) 31 (suC (X)) (0, 0) _ (by exact a2) Try.underlying31 (by rfl) (sizeSup.trans (by rw [suC_size])) ?_; simp only [Act.put, List.setIfInBounds_toArray, List.set_cons_zero, List.set_cons_succ]) | (refine wpList_store_row (by rfl) 31 _ _ (by rfl) (w.heap.size + 1) (suC (X)) (by rfl) (by rfl) 31 (_) (by exact a1) (sizeSup.trans (by rw [suC_size])) (by simp only [suC_size]) (suC_all _) ?_; simp only [Act.put, List.setIfInBounds_toArray, List.set_cons_zero, List.set_cons_succ]) | fail)
  try simp only [Exit.inBlock, Exit.then]
  refine bodyPost_ret (results_row2 Try.results11 _ _ (w.heap.size + 1) 31 (suC su0) (0, 0) _ rfl (a1.set _) Try.underlying31 rfl (sizeSup.trans (by rw [suC_size]))) rfl ?_
  exact ⟨rfl, below_setRow hb8 (Nat.le_succ _) _⟩
set_option maxRecDepth 100000 in
set_option maxHeartbeats 4000000 in
theorem sdecode_ok (f : Nat → Nat) (hf : ∀ i, f i < 256) (hc : sck (prR f) = true) (hs : bkSame (suB (prR f)) f) (w : World) : Calls Try.prog 11 #[bkV f] w fun e w' => e = .returned (.tuple #[.agg (suC (prR f)), .int .i64 0]) ∧ Below w.heap.size w w' := by
  have hz := zero_sup
  have hz2 := zero_bk
  have HP : Hid (∀ w, Calls Try.prog 31 #[bkV f] w fun e w' => e = .returned (.agg (suC (prB f))) ∧ Below w.heap.size w w') := sparts_any f hf
  rw [prB_eq f hc] at HP
  have HE : Hid (∀ w, Calls Try.prog 7 #[.agg (suC (prR f))] w fun e w' => e = .returned (.tuple #[bkV (suB (prR f)), .int .i64 0]) ∧ Below w.heap.size w w') := sencode_ok (prR f) (prR_w f hf) hc
  have hq : ∀ W, (Op.equalIn 10000 33 (bkV (suB (prR f))) (bkV f)).run Try.prog W = .ok true W := fun W => by
    have := eq_bk 33 Try.underlying33 (suB (prR f)) f W
    rw [decide_eq_true hs] at this
    exact this
  clear hs hc
  generalize hG : suB (prR f) = G0 at *
  clear hG
  generalize prR f = X at *
  generalize G0 = G at *
  unfold bkV at *
  have r0 : Blk ((w.alloc (.cells (va 256 (iv .u8 f)) 33)).alloc (.cells (suC su0) 31)) w.heap.size 33 (va 256 (iv .u8 f)) := (Blk.new _ _ _).alloc _
  have r1 : Blk ((w.alloc (.cells (va 256 (iv .u8 f)) 33)).alloc (.cells (suC su0) 31)) (w.heap.size + 1) 31 (suC su0) := Blk.new1 _ _ _ _
  have hb : Below w.heap.size w ((w.alloc (.cells (va 256 (iv .u8 f)) 33)).alloc (.cells (suC su0) 31)) := below_new2 _ _ _
  go_enter Try.func11, Try.ntmps11
  go_wp2_with (first | (refine wpList_load_rowg (by rfl) 33 _ (by rfl) (w.heap.size) (by rfl) 33 (va 256 (iv .u8 (f))) (0, 0) _ (by exact r0) Try.underlying33 (by rfl) (sizeBk.trans (by rw [va_size])) ?_; simp only [Act.put, List.setIfInBounds_toArray, List.set_cons_zero, List.set_cons_succ]) | fail)
  generalize ((w.alloc (.cells (va 256 (iv .u8 f)) 33)).alloc (.cells (suC su0) 31)) = W at *
  refine (HP.out _).mono ?_
  rintro e w1 ⟨rfl, hb1⟩
  have q0 := r0.below hb1 r0.lt
  have q1 := r1.below hb1 r1.lt
  have hb2 : Below w.heap.size w w1 := hb.trans (hb1.mono hb.size)
  have l1 : w.heap.size + 1 < w1.heap.size := q1.lt
  clear r0 r1 hb hb1 HP
  have s0 : Blk (w1.alloc (.cells (suC su0) 31)) w1.heap.size 31 (suC su0) := Blk.new _ _ _
  have t0 : Blk ((w1.alloc (.cells (suC su0) 31)).setRow w1.heap.size (suC X)) w.heap.size 33 (va 256 (iv .u8 f)) := (q0.alloc _).other _ (by omega)
  have t1 : Blk ((w1.alloc (.cells (suC su0) 31)).setRow w1.heap.size (suC X)) (w.heap.size + 1) 31 (suC su0) := (q1.alloc _).other _ (by omega)
  have t2 : Blk ((w1.alloc (.cells (suC su0) 31)).setRow w1.heap.size (suC X)) w1.heap.size 31 (suC X) := s0.set _
  have hb5 : Below w.heap.size w ((w1.alloc (.cells (suC su0) 31)).setRow w1.heap.size (suC X)) := below_setRow (hb2.alloc hb2.size _) (by omega) _
  clear q0 q1 hb2
  go_wp2_with (first | (refine wpList_store_row (by rfl) 31 _ _ (by rfl) (w1.heap.size) (suC (X)) (by rfl) (by rfl) 31 (_) (by exact s0) (sizeSup.trans (by rw [suC_size])) (by simp only [suC_size]) (suC_all _) ?_; simp only [Act.put, List.setIfInBounds_toArray, List.set_cons_zero, List.set_cons_succ]) | (refine wpList_load_rowg (by rfl) 31 _ (by rfl) (w1.heap.size) (by rfl) 31 (suC (X)) (0, 0) _ (by exact t2) Try.underlying31 (by rfl) (sizeSup.trans (by rw [suC_size])) ?_; simp only [Act.put, List.setIfInBounds_toArray, List.set_cons_zero, List.set_cons_succ]) | fail)
  clear s0
  generalize ((w1.alloc (.cells (suC su0) 31)).setRow w1.heap.size (suC X)) = v1 at *
  generalize w1.heap.size = g at *
  refine (HE.out _).mono ?_
  rintro e u1 ⟨rfl, hb6⟩
  have p0 := t0.below hb6 t0.lt
  have p1 := t1.below hb6 t1.lt
  have p2 := t2.below hb6 t2.lt
  have hb7 : Below w.heap.size w u1 := hb5.trans (hb6.mono hb5.size)
  have l2 : g < u1.heap.size := p2.lt
  clear t0 t1 t2 hb5 hb6 HE
  have s1 : Blk (u1.alloc (.cells (va 256 (iv .u8 fun _ => 0)) 33)) u1.heap.size 33 (va 256 (iv .u8 fun _ => 0)) := Blk.new _ _ _
  have a0 : Blk ((u1.alloc (.cells (va 256 (iv .u8 fun _ => 0)) 33)).setRow u1.heap.size (va 256 (iv .u8 G))) w.heap.size 33 (va 256 (iv .u8 f)) := (p0.alloc _).other _ (by omega)
  have a1 : Blk ((u1.alloc (.cells (va 256 (iv .u8 fun _ => 0)) 33)).setRow u1.heap.size (va 256 (iv .u8 G))) (w.heap.size + 1) 31 (suC su0) := (p1.alloc _).other _ (by omega)
  have a2 : Blk ((u1.alloc (.cells (va 256 (iv .u8 fun _ => 0)) 33)).setRow u1.heap.size (va 256 (iv .u8 G))) g 31 (suC X) := (p2.alloc _).other _ (by omega)
  have a3 : Blk ((u1.alloc (.cells (va 256 (iv .u8 fun _ => 0)) 33)).setRow u1.heap.size (va 256 (iv .u8 G))) u1.heap.size 33 (va 256 (iv .u8 G)) := s1.set _
  have hb8 : Below w.heap.size w ((u1.alloc (.cells (va 256 (iv .u8 fun _ => 0)) 33)).setRow u1.heap.size (va 256 (iv .u8 G))) := below_setRow (hb7.alloc hb7.size _) (by omega) _
  clear p0 p1 p2 hb7
  go_wp2_with (first | (refine wpList_store_row (by rfl) 33 _ _ (by rfl) (u1.heap.size) (va 256 (iv .u8 (G))) (by rfl) (by rfl) 33 (_) (by exact s1) (sizeBk.trans (by rw [va_size])) (by simp only [va_size]) (iv_one _ _ _) ?_; simp only [Act.put, List.setIfInBounds_toArray, List.set_cons_zero, List.set_cons_succ]) | (refine wpList_load_rowg (by rfl) 33 _ (by rfl) (u1.heap.size) (by rfl) 33 (va 256 (iv .u8 (G))) (0, 0) _ (by exact a3) Try.underlying33 (by rfl) (sizeBk.trans (by rw [va_size])) ?_; simp only [Act.put, List.setIfInBounds_toArray, List.set_cons_zero, List.set_cons_succ]) | (refine wpList_load_rowg (by rfl) 33 _ (by rfl) (w.heap.size) (by rfl) 33 (va 256 (iv .u8 (f))) (0, 0) _ (by exact a0) Try.underlying33 (by rfl) (sizeBk.trans (by rw [va_size])) ?_; simp only [Act.put, List.setIfInBounds_toArray, List.set_cons_zero, List.set_cons_succ]) | (refine wpList_buildTo (by rfl) 31 _ (by rfl) _ rfl (suC su0) (by exact built_sup0) ?_; simp only [Act.put, List.setIfInBounds_toArray, List.set_cons_zero, List.set_cons_succ]) | (refine wpList_store_row (by rfl) 31 _ _ (by rfl) (w.heap.size + 1) (suC (su0)) (by rfl) (by rfl) 31 (_) (by exact a1) (sizeSup.trans (by rw [suC_size])) (by simp only [suC_size]) (suC_all _) ?_; simp only [Act.put, List.setIfInBounds_toArray, List.set_cons_zero, List.set_cons_succ]) | (refine wpList_load_rowg (by rfl) 31 _ (by rfl) (g) (by rfl) 31 (suC (X)) (0, 0) _ (by exact a2) Try.underlying31 (by rfl) (sizeSup.trans (by rw [suC_size])) ?_; simp only [Act.put, List.setIfInBounds_toArray, List.set_cons_zero, List.set_cons_succ]) | (refine wpList_store_row (by rfl) 31 _ _ (by rfl) (w.heap.size + 1) (suC (X)) (by rfl) (by rfl) 31 (_) (by exact a1) (sizeSup.trans (by rw [suC_size])) (by simp only [suC_size]) (suC_all _) ?_; simp only [Act.put, List.setIfInBounds_toArray, List.set_cons_zero, List.set_cons_succ]) | fail)
  try simp only [Exit.inBlock, Exit.then]
  refine bodyPost_ret (results_row2 Try.results11 _ _ (w.heap.size + 1) 31 (suC X) (0, 0) _ rfl (a1.set _) Try.underlying31 rfl (sizeSup.trans (by rw [suC_size]))) rfl ?_
  exact ⟨rfl, below_setRow hb8 (Nat.le_succ _) _⟩
theorem sdecode_any (f : Nat → Nat) (hf : ∀ i, f i < 256) (w : World) : Calls Try.prog 11 #[bkV f] w fun e w' => e = .returned (.tuple #[.agg (suC (sdV f)), .int .i64 (sdE f)]) ∧ Below w.heap.size w w' := by
  by_cases hc : sck (prR f) = true
  · by_cases hs : bkSame (suB (prR f)) f
    · have e : sdOk f = true := by unfold sdOk; rw [hc, decide_eq_true hs]; rfl
      unfold sdV sdE
      rw [if_pos e, if_pos e]
      exact sdecode_ok f hf hc hs w
    · have e : ¬ sdOk f = true := by unfold sdOk; rw [hc, decide_eq_false hs]; simp
      unfold sdV sdE
      rw [if_neg e, if_neg e]
      exact sdecode_un f hf hc hs w
  · have hc' : sck (prR f) = false := Bool.eq_false_iff.2 hc
    have e : ¬ sdOk f = true := by unfold sdOk; rw [hc']; simp
    unfold sdV sdE
    rw [if_neg e, if_neg e]
    exact sdecode_no f hf hc' w
/-- does a root fit a slot (of the counter c, its root at a) on so many blocks? -/
def fitS (x : Sup) (c a : Nat) (b : Int) : Bool := sck x && (decide (x.b = b) && (decide (x.c = c) && (onD a b && (decide (a ≠ x.tr.1) && decide (a ≠ x.mr.1)))))
set_option maxRecDepth 100000 in
set_option maxHeartbeats 4000000 in
theorem sfits_any (x : Sup) (hx : SuW x) (c a : Nat) (d : Vector Nat 32) (ha : a < 4294967296) (b : Int) (hb1 : -9223372036854775808 ≤ b ∧ b ≤ 9223372036854775807) (w : World) : Calls Try.prog 17 #[.agg (suC x), .agg (slC (c, a, d)), .int .i64 b] w fun e w' => e = .returned (.bool (fitS x c a b)) ∧ Below w.heap.size w w' := by
  have HC : Hid (∀ w, Calls Try.prog 10 #[.agg (suC x)] w fun e w' => e = .returned (.int .i64 (scE x)) ∧ Below w.heap.size w w') := scheck_any x hx
  have HO : Hid (sck x = true → x.b = b → ∀ w : World, Calls Try.prog 36 #[.int .u32 (a : Int), .int .i64 b] w fun e w' => e = .returned (.bool (onD a b)) ∧ w' = w) := fun h1 h2 => onDisk_any a b ha (by have := (sck_all x h1).1.1; omega) hb1.2
  have HR : Hid (fitS x c a b = (sck x && (decide (x.b = b) && (decide (x.c = c) && (onD a b && (decide (a ≠ x.tr.1) && decide (a ≠ x.mr.1))))))) := rfl
  have HX : Hid (scE x = if sck x = true then 0 else 200) := rfl
  generalize scE x = EX at *
  generalize fitS x c a b = B at *
  generalize onD a b = OD at *
  generalize sck x = CK at *
  clear hx hb1
  have r0 : Blk ((w.alloc (.cells (suC x) 31)).alloc (.cells (slC (c, a, d)) 55)) w.heap.size 31 (suC x) := (Blk.new _ _ _).alloc _
  have r1 : Blk ((w.alloc (.cells (suC x) 31)).alloc (.cells (slC (c, a, d)) 55)) (w.heap.size + 1) 55 (slC (c, a, d)) := Blk.new1 _ _ _ _
  have hb : Below w.heap.size w ((w.alloc (.cells (suC x) 31)).alloc (.cells (slC (c, a, d)) 55)) := below_new2 _ _ _
  go_enter Try.func17, Try.ntmps17
  go_wp2_with (first | (refine wpList_load_rowg (by rfl) 31 _ (by rfl) (w.heap.size) (by rfl) 31 (suC (x)) (0, 0) _ (by exact r0) Try.underlying31 (by rfl) (sizeSup.trans (by rw [suC_size])) ?_; simp only [Act.put, List.setIfInBounds_toArray, List.set_cons_zero, List.set_cons_succ]) | fail)
  generalize ((w.alloc (.cells (suC x) 31)).alloc (.cells (slC (c, a, d)) 55)) = W at *
  refine (HC.out _).mono ?_
  rintro e w1 ⟨rfl, hb1⟩
  have q0 := r0.below hb1 r0.lt
  have q1 := r1.below hb1 r1.lt
  have HB : Hid (Below w.heap.size w w1) := hb.trans (hb1.mono hb.size)
  clear r0 r1 hb hb1 HC
  have c0 := sup_c0 q0
  have c1 := sup_c1 q0
  have c3 := sup_c3 q0
  have c38 := sup_c38 q0
  have s0 : w1.cell? ⟨w.heap.size + 1, 0, none⟩ = some (.int .u64 ((c : Nat) : Int)) := by rw [q1.cell]; rfl
  have s1 : w1.cell? ⟨w.heap.size + 1, 1, none⟩ = some (.int .u32 ((a : Nat) : Int)) := by rw [q1.cell]; rfl
  clear q0 q1
  generalize x.b = xb at *
  generalize x.c = xc at *
  generalize x.tr.1 = n1 at *
  generalize x.mr.1 = n2 at *
  cases CK
  · have e : EX = 200 := HX.out
    subst e
    go_wp2_with fail
    go_ret
    exact ⟨by rw [HR.out]; simp, HB.out⟩
  · have e : EX = 0 := HX.out
    subst e
    by_cases h1 : xb = b
    · subst h1
      have HO' : Hid (∀ w : World, Calls Try.prog 36 #[.int .u32 (a : Int), .int .i64 xb] w fun e w' => e = .returned (.bool OD) ∧ w' = w) := HO.out rfl rfl
      clear HO
      by_cases h2 : xc = c
      · subst h2
        go_wp2_with fail
        refine (HO'.out _).mono ?_
        rintro e w2 ⟨rfl, rfl⟩
        cases OD
        · go_wp2_with fail
          go_ret
          exact ⟨by rw [HR.out]; simp, HB.out⟩
        · by_cases h3 : a = n1
          · subst h3
            go_wp2_with fail
            go_ret
            exact ⟨by rw [HR.out]; simp, HB.out⟩
          · have h3' : ¬ (a : Int) = (n1 : Int) := by omega
            by_cases h4 : a = n2
            · subst h4
              go_wp2_with fail
              go_ret
              exact ⟨by rw [HR.out]; simp, HB.out⟩
            · have h4' : ¬ (a : Int) = (n2 : Int) := by omega
              go_wp2_with fail
              go_ret
              exact ⟨by rw [HR.out]; simp [h3, h4]; try omega, HB.out⟩
      · have h2' : ¬ (xc : Int) = (c : Int) := by omega
        go_wp2_with fail
        go_ret
        exact ⟨by rw [HR.out]; simp [h2], HB.out⟩
    · go_wp2_with fail
      go_ret
      exact ⟨by rw [HR.out]; simp [h1], HB.out⟩
set_option maxRecDepth 100000 in
set_option maxHeartbeats 4000000 in
theorem awake20_any (w : World) : Calls Try.prog 6 #[] w fun e w' => e = .returned (.bool true) ∧ w' = w := by
  have H : Hid (∀ w : World, Calls Try.prog 14 #[.int .i64 8192] w fun e w' => e = .returned (.tuple #[.int .i64 8, .int .i64 0]) ∧ w' = w) := mapLeaves_any 8192
  go_enter Try.func6, Try.ntmps6
  go_wp2_with fail
  refine (H.out _).mono ?_
  rintro e w2 ⟨rfl, rfl⟩
  go_wp2_with fail
  go_ret
  exact ⟨rfl, rfl⟩
end Go.Proofs.Ytalnfphlhcojcaa

namespace Go.Proofs.Ytalnfphlhcojcaa
open Go Go.RowKit
set_option linter.unusedSimpArgs false
set_option linter.unusedVariables false
theorem su_le4 (n : Nat) (h : n < 4294967296) : le4 (dig n 0) (dig n 1) (dig n 2) (dig n 3) = n := by
  have := le4_digs n
  unfold dig
  simp only [Nat.pow_zero, Nat.pow_succ, Nat.one_mul, Nat.div_one]
  rw [show 256 * 256 = 65536 by decide, show 65536 * 256 = 16777216 by decide, this]
  omega
theorem su_le8 (n : Nat) (h : n < 18446744073709551616) : le8 (dig n 0) (dig n 1) (dig n 2) (dig n 3) (dig n 4) (dig n 5) (dig n 6) (dig n 7) = n := by
  have := le8_digs n h
  unfold dig
  simp only [Nat.pow_zero, Nat.pow_succ, Nat.one_mul, Nat.div_one]
  exact this
theorem su_decR (s : ByteArray) (a : Nat) (r : Rf) (hr : r.1 < 4294967296) (h : ∀ j, j < 36 → tbyte s (a + j) = encR r j) : decR s a = r := by
  obtain ⟨n, d⟩ := r
  unfold decR at4
  have e : ∀ j, j < 4 → tbyte s (a + j) = dig n j := fun j hj => by
    rw [h j (by omega)]
    unfold encR
    rw [if_pos hj]
  have e0 : tbyte s a = dig n 0 := e 0 (by decide)
  rw [e0, e 1 (by decide), e 2 (by decide), e 3 (by decide), su_le4 n hr]
  have e2 : (sumD fun i => tbyte s (a + 4 + i)) = d := dF_inj fun i hi => by
    rw [dF_sumD _ i hi]
    have := h (4 + i) (by omega)
    rw [show a + (4 + i) = a + 4 + i by omega] at this
    rw [this]
    unfold encR
    rw [if_neg (by omega), show 4 + i - 4 = i by omega]
  rw [e2]
theorem le4f_same {f g : Nat → Nat} (h : bkSame f g) (o : Nat) (ho : o + 4 ≤ 256) : le4f f o = le4f g o := by
  unfold le4f
  rw [h o (by omega), h (o + 1) (by omega), h (o + 2) (by omega), h (o + 3) (by omega)]
theorem le8f_same {f g : Nat → Nat} (h : bkSame f g) (o : Nat) (ho : o + 8 ≤ 256) : le8f f o = le8f g o := by
  unfold le8f
  rw [h o (by omega), h (o + 1) (by omega), h (o + 2) (by omega), h (o + 3) (by omega), h (o + 4) (by omega), h (o + 5) (by omega), h (o + 6) (by omega), h (o + 7) (by omega)]
theorem prR_same {f g : Nat → Nat} (h : bkSame f g) : prR f = prR g := by
  have hs : strN f 256 = strN g 256 := strN_congr fun j hj => h j hj
  unfold prR
  rw [le4f_same h 8 (by decide), le8f_same h 16 (by decide), le4f_same h 24 (by decide), le4f_same h 28 (by decide), le4f_same h 68 (by decide), le4f_same h 108 (by decide), hs]
theorem prR_suB (x : Sup) (hx : SuW x) (hc : sck x = true) : prR (suB x) = x := by
  have k := sck_all x hc
  have e1 : decR (strN (suB x) 256) 32 = x.tr := su_decR _ _ _ hx.ta fun j hj => by
    rw [strN_at _ _ _ (by omega) (suB_lt x hx _)]
    unfold suB
    rw [if_neg (by omega), if_neg (by omega), if_neg (by omega), if_neg (by omega), if_neg (by omega), if_neg (by omega), if_pos (by omega), show 32 + j - 32 = j by omega]
  have e2 : decR (strN (suB x) 256) 72 = x.mr := su_decR _ _ _ hx.ma fun j hj => by
    rw [strN_at _ _ _ (by omega) (suB_lt x hx _)]
    unfold suB
    rw [if_neg (by omega), if_neg (by omega), if_neg (by omega), if_neg (by omega), if_neg (by omega), if_neg (by omega), if_neg (by omega), if_neg (by omega), if_pos (by omega), show 72 + j - 72 = j by omega]
  have a1 : le4f (suB x) 8 = x.b.toNat := su_le4 x.b.toNat (by omega)
  have a2 : le8f (suB x) 16 = x.c := su_le8 x.c hx.c
  have a3 : le4f (suB x) 24 = x.th.toNat := su_le4 x.th.toNat (by omega)
  have a4 : le4f (suB x) 28 = x.n.toNat := su_le4 x.n.toNat (by omega)
  have a5 : le4f (suB x) 68 = x.mh.toNat := su_le4 x.mh.toNat (by omega)
  have a6 : le4f (suB x) 108 = x.u.toNat := su_le4 x.u.toNat (by omega)
  unfold prR
  rw [e1, e2, a1, a2, a3, a4, a5, a6, show ((x.b.toNat : Nat) : Int) = x.b by omega, show ((x.th.toNat : Nat) : Int) = x.th by omega, show ((x.n.toNat : Nat) : Int) = x.n by omega, show ((x.mh.toNat : Nat) : Int) = x.mh by omega, show ((x.u.toNat : Nat) : Int) = x.u by omega]
theorem sd_back (x : Sup) (hx : SuW x) (hc : sck x = true) : sdV (suB x) = x ∧ sdE (suB x) = 0 := by
  have e := prR_suB x hx hc
  have h : sdOk (suB x) = true := by
    unfold sdOk
    rw [e, hc, decide_eq_true (fun _ _ => rfl)]
    rfl
  unfold sdV sdE
  rw [if_pos h, if_pos h, e]
  exact ⟨rfl, rfl⟩
theorem suB_inj (x o : Sup) (hx : SuW x) (ho : SuW o) (hc : sck x = true) (hd : sck o = true) : bkSame (suB x) (suB o) ↔ x = o := by
  constructor
  · intro h
    have := prR_same h
    rwa [prR_suB x hx hc, prR_suB o ho hd] at this
  · rintro rfl _ _
    rfl
/-- what Encode answers, in one line -/
def seF (x : Sup) : Nat → Nat := if sck x = true then suB x else fun _ => 0
theorem senc_any (x : Sup) (hx : SuW x) (w : World) : Calls Try.prog 7 #[.agg (suC x)] w fun e w' => e = .returned (.tuple #[bkV (seF x), .int .i64 (scE x)]) ∧ Below w.heap.size w w' := by
  unfold seF scE
  by_cases h : sck x = true
  · rw [if_pos h, if_pos h]
    exact sencode_ok x hx h w
  · rw [if_neg h, if_neg h]
    exact sencode_no x hx (Bool.eq_false_iff.2 h) w
theorem seF_lt (x : Sup) (hx : SuW x) (j : Nat) : seF x j < 256 := by
  unfold seF
  split
  · exact suB_lt x hx j
  · exact Nat.zero_lt_succ _
end Go.Proofs.Ytalnfphlhcojcaa
