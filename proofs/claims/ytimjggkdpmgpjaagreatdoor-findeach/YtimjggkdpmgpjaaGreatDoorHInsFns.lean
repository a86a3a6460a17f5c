/- Inodes as they change: small functions. -/
import Derived.Test.YtimjggkdpmgpjaaGreatDoorHNdKit
import Derived.Test.YtimjggkdpmgpjaaGreatDoorHMathCount
import Derived.Handy
import Derived.BigQuiet
import Derived.Deep.QuietTactic

namespace Go.Proofs.YtimjggkdpmgpjaaGreatDoor
theorem sgLHInsFns : (∀ (α : Type) (a : α) (l r : List α), (a :: l) ++ r = a :: (l ++ r)) ∧ (∀ (α : Type) (l : List α), [] ++ l = l) ∧ (∀ (α : Type) (l : List α), l ++ [] = l) ∧ (∀ (α β : Type) (f : α → Option β) (a : α) (l : List α), (a :: l).filterMap f = match f a with | none => l.filterMap f | some b => b :: l.filterMap f) ∧ (∀ (α β : Type) (f : α → Option β), [].filterMap f = []) ∧ (∀ (α : Type) (l : List α) (i : Nat), l.toArray[i]? = l[i]?) ∧ (∀ (α : Type) (a : α) (l : List α), (a :: l)[0]? = some a) ∧ (∀ (α : Type) (a : α) (l : List α) (i : Nat), (a :: l)[i + 1]? = l[i]?) :=
  ⟨fun _ _ _ _ => List.cons_append, fun _ _ => List.nil_append _, fun _ _ => List.append_nil _, fun _ _ _ _ _ => List.filterMap_cons, fun _ _ _ => List.filterMap_nil, fun _ _ _ => List.getElem?_toArray, fun _ _ _ => List.getElem?_cons_zero, fun _ _ _ _ => List.getElem?_cons_succ⟩
theorem sgPHInsFns : (∀ (α : Type) (l : List α) (i : Nat) (a : α), l.toArray.setIfInBounds i a = (l.set i a).toArray) ∧ (∀ (α : Type) (a b : α) (l : List α), (a :: l).set 0 b = b :: l) ∧ (∀ (α : Type) (a b : α) (l : List α) (i : Nat), (a :: l).set (i + 1) b = a :: l.set i b) :=
  ⟨fun _ _ _ _ => List.setIfInBounds_toArray _ _ _, fun _ _ _ _ => List.set_cons_zero, fun _ _ _ _ _ => List.set_cons_succ⟩
end Go.Proofs.YtimjggkdpmgpjaaGreatDoor
namespace Go.Proofs.YtimjggkdpmgpjaaGreatDoor
open Go Go.RowKit
set_option linter.unusedSimpArgs false
set_option linter.unusedVariables false

set_option maxRecDepth 100000 in
set_option maxHeartbeats 4000000 in
theorem none_any (r : Rf) (w : World) : Calls Tryz.prog 42 #[.agg (rfC r)] w fun e w' => e = .returned (.bool (decide (r = rf0))) ∧ Below w.heap.size w w' := by
  have r0 : Blk (w.alloc (.cells (rfC r) 74)) w.heap.size 74 (rfC r) := Blk.new _ _ _
  have hb : Below w.heap.size w (w.alloc (.cells (rfC r) 74)) := below_new1 _ _
  have hz := zero_ref
  have hq : ∀ W, (Op.equalIn 10000 74 (.agg (rfC r)) (.agg (rfC rf0))).run Tryz.prog W = .ok (decide (r = rf0)) W := eq_ref 9997 r rf0
  obtain ⟨b, hbd⟩ : ∃ b, b = decide (r = rf0) := ⟨_, rfl⟩
  rw [← hbd] at hq ⊢
  clear hbd
  go_enter Tryz.func42, Tryz.ntmps42
  go_wp2_with (first
    | (refine wpList_load_rowg (by rfl) 74 _ (by rfl) (w.heap.size) (by rfl) 74 (rfC r) (0, 0) _ (by exact r0) Tryz.underlying74 (by rfl) (slSizeRef.trans (by rw [rfC_size])) ?_; simp only [Act.put, sgPHInsFns])
    | fail)
  go_ret
  exact ⟨rfl, hb⟩
set_option maxRecDepth 100000 in
set_option maxHeartbeats 4000000 in
theorem right_any (r : Rf) (w : World) : Calls Tryz.prog 196 #[.agg (rfC r)] w fun e w' => e = .returned (.bool (rOk r)) ∧ Below w.heap.size w w' := by
  have r0 : Blk (w.alloc (.cells (rfC r) 74)) w.heap.size 74 (rfC r) := Blk.new _ _ _
  have hb : Below w.heap.size w (w.alloc (.cells (rfC r) 74)) := below_new1 _ _
  have hsz : (w.alloc (.cells (rfC r) 74)).heap.size = w.heap.size + 1 := by simp
  have hn : Hid (∀ w, Calls Tryz.prog 42 #[.agg (rfC r)] w fun e w' => e = .returned (.bool (decide (r = rf0))) ∧ Below w.heap.size w w') := none_any r
  have hx : (w.alloc (.cells (rfC r) 74)).cell? ⟨w.heap.size, 0, none⟩ = some (.int .u32 (r.1 : Int)) := by
    rw [r0.cell]
    exact va_at (rfF r.1 r.2) (by decide)
  have HO : Hid (rOk r = (decide (r = rf0) || decide (r.1 ≠ 0))) := rfl
  obtain ⟨b, hbd⟩ : ∃ b, b = decide (r = rf0) := ⟨_, rfl⟩
  obtain ⟨n, hnd⟩ : ∃ n, n = r.1 := ⟨_, rfl⟩
  rw [← hbd] at hn HO
  rw [← hnd] at hx HO
  clear hbd hnd
  go_enter Tryz.func196, Tryz.ntmps196
  go_wp2_with (first
    | (refine wpList_load_rowg (by rfl) 74 _ (by rfl) (w.heap.size) (by rfl) 74 (rfC r) (0, 0) _ (by exact r0) Tryz.underlying74 (by rfl) (slSizeRef.trans (by rw [rfC_size])) ?_; simp only [Act.put, sgPHInsFns])
    | fail)
  generalize (w.alloc (.cells (rfC r) 74)) = w1 at *
  refine (hn.out w1).mono ?_
  rintro e w2 ⟨rfl, hb2⟩
  have r2 : Blk w2 w.heap.size 74 (rfC r) := r0.below hb2 (by omega)
  have hx2 : w2.cell? ⟨w.heap.size, 0, none⟩ = some (.int .u32 (n : Int)) := by
    rw [← hx, r2.cell, r0.cell]
  have hb3 : Below w.heap.size w w2 := hb.trans (hb2.mono (by omega))
  clear hn hx r0 hb hb2 r2
  cases b
  · go_wp2_with fail
    go_ret
    refine ⟨?_, hb3⟩
    rw [HO.out]
    by_cases h0 : n = 0
    · subst h0
      rfl
    · have : ¬ (n : Int) = 0 := by omega
      simp [h0, this]
  · go_wp2_with fail
    go_ret
    refine ⟨?_, hb3⟩
    rw [HO.out]
    rfl
theorem enc_lo (r : Rf) (hr : okD r.2) : strN (dig r.1) 4 ++ strN (dF r.2) 32 = strN (encR r) 36 := by
  have e := strN_append (encR r) 4 32 fun j hj => encR_lt r hr j hj
  have e1 : strN (encR r) 4 = strN (dig r.1) 4 := strN_congr fun j hj => by
    unfold encR
    rw [if_pos hj]
  have e2 : strN (fun j => encR r (4 + j)) 32 = strN (dF r.2) 32 := strN_congr fun j hj => by
    unfold encR
    rw [if_neg (by omega), show 4 + j - 4 = j by omega]
  rw [e1, e2] at e
  exact e
set_option maxRecDepth 100000 in
set_option maxHeartbeats 4000000 in
theorem encR_any (r : Rf) (hr : okD r.2) (w : World) : Calls Tryz.prog 174 #[.agg (rfC r)] w fun e w' => e = .returned (.string (strN (encR r) 36)) ∧ Below w.heap.size w w' := by
  have r0 : Blk (w.alloc (.cells (rfC r) 74)) w.heap.size 74 (rfC r) := Blk.new _ _ _
  have hb : Below w.heap.size w (w.alloc (.cells (rfC r) 74)) := below_new1 _ _
  have hx : (w.alloc (.cells (rfC r) 74)).cell? ⟨w.heap.size, 0, none⟩ = some (.int .u32 (r.1 : Int)) := by
    rw [r0.cell]
    exact va_at (rfF r.1 r.2) (by decide)
  have hsz : (w.alloc (.cells (rfC r) 74)).heap.size = w.heap.size + 1 := by simp
  go_enter Tryz.func174, Tryz.ntmps174
  go_wp2_with fail
  generalize (w.alloc (.cells (rfC r) 74)) = w1 at *
  refine (bytes32_va r.1 w1).mono ?_
  rintro e w2 ⟨rfl, hb2⟩
  have hs2 := hb2.size
  have r2 : Blk w2 w.heap.size 74 (rfC r) := r0.below hb2 (by omega)
  have hb3 : Below w.heap.size w w2 := hb.trans (hb2.mono (by omega))
  have z4 : (Tryz.prog.info? 192).map (·.size) = some 4 := by kernel_rfl
  clear r0 hb hx hb2
  have r3 : Blk (w2.alloc (.cells (va 4 (iv .u8 fun _ => 0)) 192)) w.heap.size 74 (rfC r) := r2.alloc _
  have q3 : Blk (w2.alloc (.cells (va 4 (iv .u8 fun _ => 0)) 192)) w2.heap.size 192 (va 4 (iv .u8 fun _ => 0)) := Blk.new _ _ _
  have hb4 : Below w.heap.size w (w2.alloc (.cells (va 4 (iv .u8 fun _ => 0)) 192)) := hb3.alloc (by omega) _
  have hz : ∀ w, (zeroValue 192).run Tryz.prog w = .ok (.agg (va 4 (iv .u8 fun _ => 0))) w := zero_of (by kernel_rfl)
  go_wp2_with (first
    | (refine wpList_store_row (by rfl) 192 _ _ (by rfl) (w2.heap.size) (va 4 (iv .u8 (dig r.1))) (by rfl) (by rfl) 192 (va 4 (iv .u8 fun _ => 0)) (by exact q3) (z4.trans (by rw [va_size])) (by simp only [va_size]) (iv_one _ _ _) ?_; simp only [Act.put, sgPHInsFns])
    | fail)
  have r5 : Blk ((w2.alloc (.cells (va 4 (iv .u8 fun _ => 0)) 192)).setRow w2.heap.size (va 4 (iv .u8 (dig r.1)))) w.heap.size 74 (va 33 (rfF r.1 r.2)) := r3.other _ (by omega)
  have q5 : Blk ((w2.alloc (.cells (va 4 (iv .u8 fun _ => 0)) 192)).setRow w2.heap.size (va 4 (iv .u8 (dig r.1)))) w2.heap.size 192 (va 4 (iv .u8 (dig r.1))) := q3.set _
  have hb5 : Below w.heap.size w ((w2.alloc (.cells (va 4 (iv .u8 fun _ => 0)) 192)).setRow w2.heap.size (va 4 (iv .u8 (dig r.1)))) := below_setRow hb4 (by omega) _
  clear r3 q3 hb4 r2 hb3
  generalize ((w2.alloc (.cells (va 4 (iv .u8 fun _ => 0)) 192)).setRow w2.heap.size (va 4 (iv .u8 (dig r.1)))) = w5 at *
  have hc1 : ∀ W, Blk W w2.heap.size 192 (va 4 (iv .u8 (dig r.1))) → (convert 190 9 (.slice (some ⟨w2.heap.size, 0, none⟩) 4 4)).run Tryz.prog W = .ok (.string (strN (dig r.1) 4)) W := fun W hW => by
    have := run_bytes_text (P := Tryz.prog) W 190 5 9 Tryz.underlying190 Tryz.underlying5 Tryz.underlying9 hW 0 4 4 (by omega)
    rwa [show (fun j => dig r.1 (0 + j)) = dig r.1 by funext j; rw [Nat.zero_add]] at this
  have hc2 : ∀ W, Blk W w.heap.size 74 (va 33 (rfF r.1 r.2)) → (convert 190 9 (.slice (some ⟨w.heap.size, 1, none⟩) 32 32)).run Tryz.prog W = .ok (.string (strN (dF r.2) 32)) W := fun W hW => by
    exact run_convert_bytes_arg W 190 5 Tryz.underlying190 Tryz.underlying5 w.heap.size 1 32 32 _ (by simp) (fun i hi => by
      rw [hW.cv (i := 1 + i) (by omega)]
      unfold rfF
      rw [if_neg (by omega), show 1 + i - 1 = i by omega]
      simp [List.getD_eq_getElem?_getD, hi]) 9 Tryz.underlying9
  have h1 := hc1 w5.drew q5.drew
  have h2 := hc2 w5.drew r5.drew
  have he := enc_lo r hr
  have z1 : (strN (dig r.1) 4).size = 4 := strN_size _ _
  have z2 : (strN (dF r.2) 32).size = 32 := strN_size _ _
  generalize strN (dig r.1) 4 = t1 at *
  generalize strN (dF r.2) 32 = t2 at *
  clear hc1 hc2 q5 r5
  refine wp_region_partsS (fun W => W = w5.drew) [([], 0, true), ([], 1, true), ([], 2, false), ([], 3, false), ([], 4, false), ([], 5, false)] [] [6] (by kernel_rfl) (by kernel_rfl) rfl (partsI_yield ?_)
  simp only [sgLHInsFns]
  go_wp2_with fail
  refine ⟨rfl, _, .slice (some ⟨w2.heap.size, 0, none⟩) 4 4, rfl, Or.inl ⟨by rfl, fun W hW => by go_simp⟩, partsI_yield ?_⟩
  simp only [Act.put, sgPHInsFns]
  simp only [sgLHInsFns]
  go_wp2_with fail
  refine ⟨rfl, _, .string t1, rfl, Or.inl ⟨by rfl, fun W hW => by rw [hW]; go_simp⟩, partsI_force ?_⟩
  simp only [Act.put, sgPHInsFns]
  simp only [sgLHInsFns]
  go_wp2_with fail
  refine ⟨rfl, rfl, partsI_force ?_⟩
  simp only [sgLHInsFns]
  go_wp2_with fail
  refine ⟨rfl, rfl, partsI_force ?_⟩
  simp only [sgLHInsFns]
  go_wp2_with fail
  refine ⟨rfl, rfl, partsI_force ?_⟩
  simp only [sgLHInsFns]
  go_wp2_with fail
  refine ⟨rfl, rfl, partsI_last ?_⟩
  simp only [sgLHInsFns]
  go_wp2_with fail
  refine ⟨rfl, ?_⟩
  go_wp2_with fail
  go_ret
  exact ⟨rfl, hb5.drew⟩
/-- the reference that stands in a text -/
def decR (s : ByteArray) (a : Nat) : Rf := (at4 s a, sumD fun i => tbyte s (a + 4 + i))
theorem decR_cells (n : Nat) (f : Nat → Nat) : (splice ((rfC rf0).setIfInBounds 0 (.int .u32 (n : Int))).toList 1 (byL f 32)).toArray = rfC (n, sumD f) := by
  unfold rfC
  rw [va_set, va_toList]
  refine Eq.trans (by rfl) ((splice_va 33 1 32 _ (fun j => Value.int .u8 ((f j : Nat) : Int)) (by decide)).trans ?_)
  refine va_congr fun i hi => ?_
  by_cases h2 : 1 ≤ i ∧ i < 1 + 32
  · have e1 : rfF (n, sumD f).1 (n, sumD f).2 i = .int .u8 ((f (i - 1) : Nat) : Int) := by
      unfold rfF
      rw [if_neg (by omega), show dF (n, sumD f).2 (i - 1) = f (i - 1) from dF_sumD f _ (by omega)]
    rw [e1]
    unfold overF
    rw [if_pos h2]
  · unfold overF upd
    rw [if_neg h2]
    have h0 : i = 0 := by omega
    subst h0
    rfl
set_option maxRecDepth 100000 in
set_option maxHeartbeats 4000000 in
theorem decodeR_good (s : ByteArray) (a : Nat) (hs : s.size ≤ maxLen) (h : a + 36 ≤ s.size) (w : World) : Calls Tryz.prog 173 #[.string s, .int .i64 (a : Int)] w fun e w' => e = .returned (.tuple #[.agg (rfC (if rOk (decR s a) then decR s a else rf0)), .bool (rOk (decR s a))]) ∧ Below w.heap.size w w' := by
  have hT : Hid (∀ w : World, Calls Tryz.prog 188 #[.string s, .int .i64 (a : Int)] w fun e w' => e = .returned (.tuple #[.int .u32 (at4 s a : Int), .bool true]) ∧ Below w.heap.size w w') := fun w => take32_yes s a hs (by omega) w
  unfold maxLen at hs
  have hz := zero_ref
  have r0 : Blk ((w.alloc (.cells (rfC rf0) 74)).alloc (.cells (rfC rf0) 74)) w.heap.size 74 (rfC rf0) := (Blk.new _ _ _).alloc _
  have r1 : Blk ((w.alloc (.cells (rfC rf0) 74)).alloc (.cells (rfC rf0) 74)) (w.heap.size + 1) 74 (rfC rf0) := Blk.new1 _ _ _ _
  have hb : Below w.heap.size w ((w.alloc (.cells (rfC rf0) 74)).alloc (.cells (rfC rf0) 74)) := below_new2 _ _ _
  have hsz : ((w.alloc (.cells (rfC rf0) 74)).alloc (.cells (rfC rf0) 74)).heap.size = w.heap.size + 2 := by simp
  have HDC : Hid ((splice ((rfC rf0).setIfInBounds 0 (.int .u32 ((at4 s a : Nat) : Int))).toList 1 (byL (tbyte (s.extract (a + 4) s.size)) 32)).toArray = rfC (decR s a)) := by
    rw [byL_congr (f := tbyte (s.extract (a + 4) s.size)) (g := fun i => tbyte s (a + 4 + i)) fun i hi => tbyte_extract s (a + 4) s.size i (Nat.le_refl _) (by omega)]
    exact decR_cells _ _
  have HS : (s.extract (a + 4) s.size).size = s.size - (a + 4) := extract_size s (a + 4) s.size (Nat.le_refl _)
  obtain ⟨X, hX⟩ : ∃ X, X = decR s a := ⟨_, rfl⟩
  obtain ⟨n4, hn4⟩ : ∃ n4, n4 = at4 s a := ⟨_, rfl⟩
  rw [← hX] at HDC
  rw [← hX]
  rw [← hn4] at HDC hT
  clear hX hn4
  have HR : Hid (∀ w, Calls Tryz.prog 196 #[.agg (rfC X)] w fun e w' => e = .returned (.bool (rOk X)) ∧ Below w.heap.size w w') := right_any X
  generalize rOk X = b at *
  go_enter Tryz.func173, Tryz.ntmps173
  go_wp2_with fail
  generalize ((w.alloc (.cells (rfC rf0) 74)).alloc (.cells (rfC rf0) 74)) = w0 at *
  refine (hT.out w0).mono ?_
  rintro e w1 ⟨rfl, hb1⟩
  have hs1 := hb1.size
  have r0' : Blk w1 w.heap.size 74 (rfC rf0) := r0.below hb1 (by omega)
  have r1' : Blk w1 (w.heap.size + 1) 74 (rfC rf0) := r1.below hb1 (by omega)
  have hb' : Below w.heap.size w w1 := hb.trans (hb1.mono (by omega))
  have f1 : w1.frozen? ⟨w.heap.size + 1, 0, none⟩ = false := r1'.frozen 0
  have d1 : w1.cell? ⟨w.heap.size + 1, 0, none⟩ = some (.int .u32 0) := by
    rw [r1'.cell]
    exact va_at (rfF rf0.1 rf0.2) (by decide)
  clear r0 r1 hb hb1 hT
  go_wp2_with fail
  have r2 : Blk (w1.setCell ⟨w.heap.size + 1, 0, none⟩ (.int .u32 (n4 : Int))) (w.heap.size + 1) 74 ((rfC rf0).setIfInBounds 0 (.int .u32 (n4 : Int))) := r1'.put 0 _
  have q2 : Blk (w1.setCell ⟨w.heap.size + 1, 0, none⟩ (.int .u32 (n4 : Int))) w.heap.size 74 (rfC rf0) := r0'.put_other _ _ (by omega)
  have hb2 : Below w.heap.size w (w1.setCell ⟨w.heap.size + 1, 0, none⟩ (.int .u32 (n4 : Int))) := hb'.setCell (by show w.heap.size ≤ w.heap.size + 1; omega) _
  have hs2 : (w1.setCell ⟨w.heap.size + 1, 0, none⟩ (.int .u32 (n4 : Int))).heap.size = w1.heap.size := World.size_setCell _ _ _
  clear r1' r0' hb' f1 d1
  generalize (w1.setCell ⟨w.heap.size + 1, 0, none⟩ (.int .u32 (n4 : Int))) = w2 at *
  have z1 : (a : Int) + 4 ≤ (s.size : Int) := by omega
  refine wp_region_partsS (fun _ => True) [([2, 3], 0, true), ([], 1, true), ([], 4, false), ([], 5, false)] [] [6] (by kernel_rfl) (by kernel_rfl) trivial (partsI_yield ?_)
  simp only [sgLHInsFns]
  go_wp2_with fail
  refine ⟨rfl, _, .pointer (some ⟨w.heap.size + 1, 1, none⟩), rfl, Or.inl ⟨by rfl, fun W hW => by go_simp⟩, partsI_yield ?_⟩
  simp only [Act.put, sgPHInsFns]
  simp only [sgLHInsFns]
  go_wp2_with fail
  refine ⟨rfl, _, .slice (some ⟨w.heap.size + 1, 1, none⟩) 32 32, rfl, Or.inl ⟨by rfl, fun W hW => by go_simp⟩, partsI_force ?_⟩
  simp only [Act.put, sgPHInsFns]
  simp only [sgLHInsFns]
  go_wp2_with fail
  refine ⟨rfl, trivial, partsI_force ?_⟩
  simp only [sgLHInsFns]
  go_wp2_with fail
  refine ⟨rfl, trivial, partsI_last ?_⟩
  simp only [sgLHInsFns]
  refine wpList_copy_text rfl _ _ 190 9 rfl 5 Tryz.underlying190 ksizeU8 (w.heap.size + 1) 1 32 32 (s.extract (a + 4) s.size) rfl rfl ((rfC rf0).setIfInBounds 0 (.int .u32 (n4 : Int))) 74 r2.drew 32 (by rw [HS]; show 32 = min (s.size - (a + 4)) 32; omega) (by rw [Array.size_setIfInBounds, rfC_size]; omega) ?_
  rw [HDC.out]
  simp only [Act.put, sgPHInsFns]
  go_wp2_with fail
  refine ⟨rfl, ?_⟩
  have r4 : Blk (w2.drew.setRow (w.heap.size + 1) (rfC X)) (w.heap.size + 1) 74 (rfC X) := r2.drew.set _
  have q4 : Blk (w2.drew.setRow (w.heap.size + 1) (rfC X)) w.heap.size 74 (rfC rf0) := q2.drew.other _ (by omega)
  have hb4 : Below w.heap.size w (w2.drew.setRow (w.heap.size + 1) (rfC X)) := below_setRow hb2.drew (by omega) _
  have hs4 : (w2.drew.setRow (w.heap.size + 1) (rfC X)).heap.size = w2.heap.size := by simp
  clear HDC r2 q2 hb2 HS
  generalize (w2.drew.setRow (w.heap.size + 1) (rfC X)) = w4 at *
  go_wp2_with (first
    | (refine wpList_load_rowg (by rfl) 74 _ (by rfl) (w.heap.size + 1) (by rfl) 74 (rfC X) (0, 0) _ (by exact r4) Tryz.underlying74 (by rfl) (slSizeRef.trans (by rw [rfC_size])) ?_; simp only [Act.put, sgPHInsFns])
    | fail)
  refine (HR.out w4).mono ?_
  rintro e w5 ⟨rfl, hb5⟩
  have r5 : Blk w5 (w.heap.size + 1) 74 (rfC X) := r4.below hb5 (by omega)
  have q5 : Blk w5 w.heap.size 74 (rfC rf0) := q4.below hb5 (by omega)
  have hb6 : Below w.heap.size w w5 := hb4.trans (hb5.mono (by omega))
  clear r4 q4 hb4 hb5 hs4
  cases b
  · go_wp2_with (first
      | (refine wpList_store_row (by rfl) 74 _ _ (by rfl) (w.heap.size) (rfC rf0) (by rfl) (by rfl) 74 (_) (by exact q5) (slSizeRef.trans (by rw [rfC_size])) (by simp only [rfC_size]) (rfC_all _) ?_; simp only [Act.put, sgPHInsFns])
      | fail)
    try simp only [Exit.inBlock, Exit.then]
    refine bodyPost_ret (results_row2 Tryz.results173 _ _ (w.heap.size) 74 (rfC rf0) (0, 0) _ rfl (q5.set _) Tryz.underlying74 rfl (slSizeRef.trans (by rw [rfC_size]))) rfl ?_
    exact ⟨rfl, below_setRow hb6 (Nat.le_refl _) _⟩
  · go_wp2_with (first
      | (refine wpList_load_rowg (by rfl) 74 _ (by rfl) (w.heap.size + 1) (by rfl) 74 (rfC X) (0, 0) _ (by exact r5) Tryz.underlying74 (by rfl) (slSizeRef.trans (by rw [rfC_size])) ?_; simp only [Act.put, sgPHInsFns])
      | (refine wpList_store_row (by rfl) 74 _ _ (by rfl) (w.heap.size) (rfC X) (by rfl) (by rfl) 74 (_) (by exact q5) (slSizeRef.trans (by rw [rfC_size])) (by simp only [rfC_size]) (rfC_all _) ?_; simp only [Act.put, sgPHInsFns])
      | fail)
    try simp only [Exit.inBlock, Exit.then]
    refine bodyPost_ret (results_row2 Tryz.results173 _ _ (w.heap.size) 74 (rfC X) (0, 0) _ rfl (q5.set _) Tryz.underlying74 rfl (slSizeRef.trans (by rw [rfC_size]))) rfl ?_
    exact ⟨rfl, below_setRow hb6 (Nat.le_refl _) _⟩
end Go.Proofs.YtimjggkdpmgpjaaGreatDoor

namespace Go.Proofs.YtimjggkdpmgpjaaGreatDoor
open Go Go.RowKit
set_option linter.unusedSimpArgs false
set_option linter.unusedVariables false
/-- an inode: kind, links, size, stamp, the height and root of its tree -/
structure Ino where
  k : Int
  l : Int
  s : Int
  t : Nat
  h : Int
  r : Rf
  deriving DecidableEq
def in0 : Ino := ⟨0, 0, 0, 0, 0, rf0⟩
def tiF (h : Int) (r : Rf) : Nat → Value := fun i => if i = 0 then .int .i64 h else rfF r.1 r.2 (i - 1)
def tiC (h : Int) (r : Rf) : Array Value := va 34 (tiF h r)
def inF (x : Ino) : Nat → Value := fun i => if i = 0 then .int .i64 x.k else if i = 1 then .int .i64 x.l else if i = 2 then .int .i64 x.s else if i = 3 then .int .u64 ((x.t : Nat) : Int) else tiF x.h x.r (i - 4)
theorem tiF_one (h : Int) (r : Rf) (i : Nat) : (tiF h r i).oneCell' = true := by
  unfold tiF
  split
  · rfl
  · exact rfF_one _ _ _
theorem inF_one (x : Ino) (i : Nat) : (inF x i).oneCell' = true := by
  unfold inF
  split
  · rfl
  · split
    · rfl
    · split
      · rfl
      · split
        · rfl
        · exact tiF_one _ _ _
end Go.Proofs.YtimjggkdpmgpjaaGreatDoor

namespace Go.Proofs.YtimjggkdpmgpjaaGreatDoor
open Go Go.RowKit
set_option linter.unusedSimpArgs false
set_option linter.unusedVariables false
/-- the least height of a tree whose leaves hold a things each, for n things -/
def hL (a n : Int) : Int := if n ≤ a then 0 else if n ≤ 4 * a then 1 else if n ≤ 16 * a then 2 else if n ≤ 64 * a then 3 else if n ≤ 256 * a then 4 else if n ≤ 1024 * a then 5 else 6
theorem hL_lt (a n : Int) : 0 ≤ hL a n ∧ hL a n ≤ 6 := by
  unfold hL
  split
  · decide
  · split
    · decide
    · split
      · decide
      · split
        · decide
        · split
          · decide
          · split <;> decide
set_option maxHeartbeats 4000000 in
theorem least4 (n : Int) (h0 : -9223372036854775808 ≤ n) (hn : n ≤ 16384) (w : World) : Calls Tryz.prog 69 #[.int .i64 4, .int .i64 n] w fun e w' => e = .returned (.int .i64 (hL 4 n)) ∧ w' = w := by
  by_cases c0 : n ≤ 4
  · have HE : Hid (hL 4 n = 0) := by show hL 4 n = 0; unfold hL; rw [if_pos (by omega)]
    have s0 : ¬ ((4 : Int) < n) := by omega
    clear hn c0
    rw [HE.out]
    clear HE
    go_enter Tryz.func69, Tryz.ntmps69
    go_wp2
    go_rounds 1
    go_returns
    exact ⟨by simp, rfl⟩
  · skip
    by_cases c1 : n ≤ 16
    · have HE : Hid (hL 4 n = 1) := by show hL 4 n = 1; unfold hL; rw [if_neg (by omega)]; rw [if_pos (by omega)]
      have s0 : ¬ ((16 : Int) < n) := by omega
      have g0 : (4 : Int) < n := by omega
      clear hn c0 c1
      rw [HE.out]
      clear HE
      go_enter Tryz.func69, Tryz.ntmps69
      go_wp2
      go_rounds 2
      go_returns
      exact ⟨by simp, rfl⟩
    · skip
      by_cases c2 : n ≤ 64
      · have HE : Hid (hL 4 n = 2) := by show hL 4 n = 2; unfold hL; rw [if_neg (by omega)]; rw [if_neg (by omega)]; rw [if_pos (by omega)]
        have s0 : ¬ ((64 : Int) < n) := by omega
        have g0 : (4 : Int) < n := by omega
        have g1 : (16 : Int) < n := by omega
        clear hn c0 c1 c2
        rw [HE.out]
        clear HE
        go_enter Tryz.func69, Tryz.ntmps69
        go_wp2
        go_rounds 3
        go_returns
        exact ⟨by simp, rfl⟩
      · skip
        by_cases c3 : n ≤ 256
        · have HE : Hid (hL 4 n = 3) := by show hL 4 n = 3; unfold hL; rw [if_neg (by omega)]; rw [if_neg (by omega)]; rw [if_neg (by omega)]; rw [if_pos (by omega)]
          have s0 : ¬ ((256 : Int) < n) := by omega
          have g0 : (4 : Int) < n := by omega
          have g1 : (16 : Int) < n := by omega
          have g2 : (64 : Int) < n := by omega
          clear hn c0 c1 c2 c3
          rw [HE.out]
          clear HE
          go_enter Tryz.func69, Tryz.ntmps69
          go_wp2
          go_rounds 4
          go_returns
          exact ⟨by simp, rfl⟩
        · skip
          by_cases c4 : n ≤ 1024
          · have HE : Hid (hL 4 n = 4) := by show hL 4 n = 4; unfold hL; rw [if_neg (by omega)]; rw [if_neg (by omega)]; rw [if_neg (by omega)]; rw [if_neg (by omega)]; rw [if_pos (by omega)]
            have s0 : ¬ ((1024 : Int) < n) := by omega
            have g0 : (4 : Int) < n := by omega
            have g1 : (16 : Int) < n := by omega
            have g2 : (64 : Int) < n := by omega
            have g3 : (256 : Int) < n := by omega
            clear hn c0 c1 c2 c3 c4
            rw [HE.out]
            clear HE
            go_enter Tryz.func69, Tryz.ntmps69
            go_wp2
            go_rounds 5
            go_returns
            exact ⟨by simp, rfl⟩
          · skip
            by_cases c5 : n ≤ 4096
            · have HE : Hid (hL 4 n = 5) := by show hL 4 n = 5; unfold hL; rw [if_neg (by omega)]; rw [if_neg (by omega)]; rw [if_neg (by omega)]; rw [if_neg (by omega)]; rw [if_neg (by omega)]; rw [if_pos (by omega)]
              have s0 : ¬ ((4096 : Int) < n) := by omega
              have g0 : (4 : Int) < n := by omega
              have g1 : (16 : Int) < n := by omega
              have g2 : (64 : Int) < n := by omega
              have g3 : (256 : Int) < n := by omega
              have g4 : (1024 : Int) < n := by omega
              clear hn c0 c1 c2 c3 c4 c5
              rw [HE.out]
              clear HE
              go_enter Tryz.func69, Tryz.ntmps69
              go_wp2
              go_rounds 6
              go_returns
              exact ⟨by simp, rfl⟩
            · skip
              have HE : Hid (hL 4 n = 6) := by show hL 4 n = 6; unfold hL; rw [if_neg (by omega)]; rw [if_neg (by omega)]; rw [if_neg (by omega)]; rw [if_neg (by omega)]; rw [if_neg (by omega)]; rw [if_neg (by omega)]
              have s0 : ¬ ((16384 : Int) < n) := by omega
              have g0 : (4 : Int) < n := by omega
              have g1 : (16 : Int) < n := by omega
              have g2 : (64 : Int) < n := by omega
              have g3 : (256 : Int) < n := by omega
              have g4 : (1024 : Int) < n := by omega
              have g5 : (4096 : Int) < n := by omega
              clear hn c0 c1 c2 c3 c4 c5
              rw [HE.out]
              clear HE
              go_enter Tryz.func69, Tryz.ntmps69
              go_wp2
              go_rounds 7
              go_returns
              exact ⟨by simp, rfl⟩
end Go.Proofs.YtimjggkdpmgpjaaGreatDoor

namespace Go.Proofs.YtimjggkdpmgpjaaGreatDoor
open Go Go.RowKit
set_option linter.unusedSimpArgs false
set_option linter.unusedVariables false
set_option maxRecDepth 20000
def lnk (x : Ino) : Bool := if x.k = 1 then decide (1 ≤ x.l) && decide (x.l ≤ 1000) else if x.k = 2 then decide (x.l = 1) else false
def siz (x : Ino) : Bool := if x.k = 2 ∧ ¬ x.s.tmod 64 = 0 then false else decide (0 ≤ x.s) && decide (x.s ≤ 1048576)
def tre (x : Ino) : Bool := if x.h ≠ hL 256 x.s ∨ 8192 ≤ x.r.1 then false else decide (x.r = rf0) || (decide (x.r.1 ≠ 0) && decide (x.s ≠ 0))
def chk (x : Ino) : Bool := decide (x = in0) || (lnk x && (siz x && tre x))
end Go.Proofs.YtimjggkdpmgpjaaGreatDoor

namespace Go.Proofs.YtimjggkdpmgpjaaGreatDoor
open Go Go.RowKit
set_option linter.unusedSimpArgs false
set_option linter.unusedVariables false
set_option maxRecDepth 20000
theorem tdiv_nn (a b : Int) (h : 0 ≤ a) : a.tdiv b = a / b := Int.tdiv_eq_ediv_of_nonneg h
theorem tmod_nn (a b : Int) (h : 0 ≤ a) : a.tmod b = a % b := Int.tmod_eq_emod_of_nonneg h
set_option maxHeartbeats 4000000 in
theorem table_any (n : Int) (hn : -9223372036854775808 ≤ n ∧ n ≤ 9223372036854775807) (w : World) : Calls Tryz.prog 41 #[.int .i64 n] w fun e w' => e = .returned (if 0 ≤ n ∧ n ≤ 4096 then .tuple #[.int .i64 (hL 4 n), .int .i64 0] else .tuple #[.int .i64 0, .int .i64 141]) ∧ w' = w := by
  by_cases h1 : 0 ≤ n
  · by_cases h2 : n ≤ 4096
    · rw [if_pos ⟨h1, h2⟩]
      have HL : Hid (∀ w : World, Calls Tryz.prog 69 #[.int .i64 4, .int .i64 n] w fun e w' => e = .returned (.int .i64 (hL 4 n)) ∧ w' = w) := least4 n hn.1 (by omega)
      generalize hL 4 n = H at *
      have h3 : ¬ n < 0 := by omega
      have h4 : ¬ 4096 < n := by omega
      go_enter Tryz.func41, Tryz.ntmps41
      go_wp2_with fail
      refine (HL.out _).mono ?_
      intro e w2 hw2
      obtain ⟨he2, hb2⟩ := hw2
      subst he2 hb2
      go_wp2_with fail
      go_ret2
      exact ⟨rfl, rfl⟩
    · rw [if_neg fun h => h2 h.2]
      have h3 : ¬ n < 0 := by omega
      have h4 : 4096 < n := by omega
      clear h1 h2
      go_enter Tryz.func41, Tryz.ntmps41
      go_wp2_with fail
      go_ret2
      exact ⟨rfl, rfl⟩
  · rw [if_neg fun h => h1 h.1]
    have h3 : n < 0 := by omega
    clear h1
    go_enter Tryz.func41, Tryz.ntmps41
    go_wp2_with fail
    go_ret2
    exact ⟨rfl, rfl⟩
set_option maxHeartbeats 4000000 in
theorem leavesN_any (n : Int) (hn : -9223372036854775808 ≤ n ∧ n ≤ 9223372036854775807) (w : World) : Calls Tryz.prog 84 #[.int .i64 n] w fun e w' => e = .returned (if 0 ≤ n ∧ n ≤ 1048576 then .tuple #[.int .i64 ((n + 255) / 256), .int .i64 0] else .tuple #[.int .i64 0, .int .i64 1]) ∧ w' = w := by
  by_cases h1 : 0 ≤ n
  · by_cases h2 : n ≤ 1048576
    · rw [if_pos ⟨h1, h2⟩]
      have HE : Hid ((n + 256 - 1) / 256 = (n + 255) / 256) := by show (n + 256 - 1) / 256 = (n + 255) / 256; congr 1; omega
      have h3 : ¬ n < 0 := by omega
      have h4 : ¬ 1048576 < n := by omega
      go_enter Tryz.func84, Tryz.ntmps84
      go_wp2_with fail
      go_ret2
      exact ⟨by rw [← HE.out]; rfl, rfl⟩
    · rw [if_neg fun h => h2 h.2]
      have h3 : ¬ n < 0 := by omega
      have h4 : 1048576 < n := by omega
      clear h1 h2
      go_enter Tryz.func84, Tryz.ntmps84
      go_wp2_with fail
      go_ret2
      exact ⟨rfl, rfl⟩
  · rw [if_neg fun h => h1 h.1]
    have h3 : n < 0 := by omega
    clear h1
    go_enter Tryz.func84, Tryz.ntmps84
    go_wp2_with fail
    go_ret2
    exact ⟨rfl, rfl⟩
set_option maxHeartbeats 4000000 in
theorem place_any (n : Int) (hn : -9223372036854775808 ≤ n ∧ n ≤ 9223372036854775807) (w : World) : Calls Tryz.prog 75 #[.int .i64 n] w fun e w' => e = .returned (if 1 ≤ n ∧ n ≤ 4096 then .tuple #[.int .i64 ((n - 1) / 4), .int .i64 ((n - 1) % 4), .int .i64 0] else .tuple #[.int .i64 0, .int .i64 0, .int .i64 141]) ∧ w' = w := by
  by_cases h1 : 1 ≤ n
  · by_cases h2 : n ≤ 4096
    · rw [if_pos ⟨h1, h2⟩]
      have HE : Hid ((n - 1).tdiv 4 = (n - 1) / 4 ∧ (n - 1).tmod 4 = (n - 1) % 4) := ⟨tdiv_nn _ _ (by omega), tmod_nn _ _ (by omega)⟩
      have h3 : ¬ n < 1 := by omega
      have h4 : ¬ 4096 < n := by omega
      go_enter Tryz.func75, Tryz.ntmps75
      go_wp2_with fail
      go_ret3
      exact ⟨by first | rfl | (rw [← HE.out.1, ← HE.out.2]; rfl), rfl⟩
    · rw [if_neg fun h => h2 h.2]
      have h3 : ¬ n < 1 := by omega
      have h4 : 4096 < n := by omega
      clear h1 h2
      go_enter Tryz.func75, Tryz.ntmps75
      go_wp2_with fail
      go_ret3
      exact ⟨rfl, rfl⟩
  · rw [if_neg fun h => h1 h.1]
    have h3 : n < 1 := by omega
    clear h1
    go_enter Tryz.func75, Tryz.ntmps75
    go_wp2_with fail
    go_ret3
    exact ⟨rfl, rfl⟩
end Go.Proofs.YtimjggkdpmgpjaaGreatDoor

namespace Go.Proofs.YtimjggkdpmgpjaaGreatDoor
open Go Go.RowKit
set_option linter.unusedSimpArgs false
set_option linter.unusedVariables false

theorem wpList_load_blkI {P : Program} {ops : Array Oper} {rest : List Oper} {op : Oper} {a : Act} {w : World} {Q : Exit → Act → World → Prop} (hw : Region.wanted op (yielded ops a.tmps) = true) (ty : TypeId) (x : Operand) (ho : op.op = .load ty x)
    (b o n : Nat) (f : Nat → Value) (hx : a.eval x = .pointer (some ⟨b, o, none⟩)) (d : TypeDesc) (hc : w.rangeAt b o ((List.range n).map f))
    (hu : P.underlying ty = some d) (hd : d.isRow = true) (hi : (P.info? ty).map (·.size) = some n)
    (h : wpList P ops Q rest (a.put op.dst (.agg (va n f))) w) : wpList P ops Q (op :: rest) a w :=
  wpList_step fun K hK => by
    rw [if_pos hw]
    exact wp_load_mid ty x ho b o hx _ d hc hu hd (hi.trans (by simp)) (hK _ _ h)
/-- an inode as it is committed, and as it is now -/
structure Hd where
  o : Ino
  n : Int
  k : Int
  l : Int
  s : Int
  t : Nat
  left : Int
  set : Bool
def hd00 : Hd := ⟨in0, 0, 0, 0, 0, 0, 0, false⟩
def nwF (x : Hd) : Nat → Value := fun i => if i = 0 then .int .i64 x.n else if i = 1 then .int .i64 x.k else if i = 2 then .int .i64 x.l else if i = 3 then .int .i64 x.s else .int .u64 ((x.t : Nat) : Int)
def hdF (x : Hd) : Nat → Value := fun i => if i < 38 then inF x.o i else if i < 43 then nwF x (i - 38) else if i = 43 then .int .i64 x.left else .bool x.set
def hdC (x : Hd) : Array Value := va 45 (hdF x)
theorem hdC_size (x : Hd) : (hdC x).size = 45 := va_size _ _
theorem hdF_one (x : Hd) (i : Nat) : (hdF x i).oneCell' = true := by
  unfold hdF
  split
  · exact inF_one _ _
  · split
    · unfold nwF
      split
      · rfl
      · split
        · rfl
        · split
          · rfl
          · split <;> rfl
    · split <;> rfl
theorem hdC_all (x : Hd) : (hdC x).all (·.oneCell') = true := va_one fun i _ => hdF_one _ _
/-- four of them -/
def ftF (q : Nat → Hd) : Nat → Value := fun i => hdF (q (i / 45)) (i % 45)
def ftC (q : Nat → Hd) : Array Value := va 180 (ftF q)
theorem ftC_size (q : Nat → Hd) : (ftC q).size = 180 := va_size _ _
theorem ftC_all (q : Nat → Hd) : (ftC q).all (·.oneCell') = true := va_one fun i _ => hdF_one _ _
def ft00 : Nat → Hd := fun _ => hd00
theorem sizeHd : (Tryz.prog.info? 140).map (·.size) = some 45 := by kernel_rfl
theorem sizeFt : (Tryz.prog.info? 183).map (·.size) = some 180 := by kernel_rfl
theorem zero_hd (w : World) : (zeroValue 140).run Tryz.prog w = .ok (.agg (hdC hd00)) w := zero_of (by kernel_rfl) w
theorem zero_ft (w : World) : (zeroValue 183).run Tryz.prog w = .ok (.agg (ftC ft00)) w := zero_of (by kernel_rfl) w
/-- Inodes in the memory -/
def ixF (cp : Option Addr) (h : Int) (R : Rf) (high top : Int) (mf ml mc : Nat) : Nat → Value := fun i => if i = 0 then .pointer cp else if i < 35 then tiF h R (i - 1) else if i = 35 then .int .i64 high else if i = 36 then .int .i64 top else if i = 37 then .map (some mf) else if i = 38 then .map (some ml) else .map (some mc)
def ixC (cp : Option Addr) (h : Int) (R : Rf) (high top : Int) (mf ml mc : Nat) : Array Value := va 40 (ixF cp h R high top mf ml mc)
theorem built_ix (cp : Option Addr) (h : Int) (R : Rf) (a b : Int) (mf ml mc : Nat) : Tryz.prog.built 136 [(0, .pointer cp), (1, .agg (tiC h R)), (2, .int .i64 a), (3, .int .i64 b), (4, .map (some mf)), (5, .map (some ml)), (6, .map (some mc))] = some (ixC cp h R a b mf ml mc) := by kernel_rfl
section
variable {w : World} {x : Nat} {cp : Option Addr} {h : Int} {R : Rf} {high top : Int} {mf ml mc : Nat}
theorem ix_c35 (H : Blk w x 136 (ixC cp h R high top mf ml mc)) : w.cell? ⟨x, 35, none⟩ = some (.int .i64 high) := H.cv (n := 40) (by decide)
theorem ix_c36 (H : Blk w x 136 (ixC cp h R high top mf ml mc)) : w.cell? ⟨x, 36, none⟩ = some (.int .i64 top) := H.cv (n := 40) (by decide)
theorem ix_c37 (H : Blk w x 136 (ixC cp h R high top mf ml mc)) : w.cell? ⟨x, 37, none⟩ = some (.map (some mf)) := H.cv (n := 40) (by decide)
theorem ix_c38 (H : Blk w x 136 (ixC cp h R high top mf ml mc)) : w.cell? ⟨x, 38, none⟩ = some (.map (some ml)) := H.cv (n := 40) (by decide)
theorem ix_c39 (H : Blk w x 136 (ixC cp h R high top mf ml mc)) : w.cell? ⟨x, 39, none⟩ = some (.map (some mc)) := H.cv (n := 40) (by decide)
theorem ix_top (top' : Int) : (ixC cp h R high top mf ml mc).setIfInBounds 36 (.int .i64 top') = ixC cp h R high top' mf ml mc := by
  unfold ixC
  rw [va_set]
  refine va_congr fun i hi => ?_
  unfold upd ixF
  by_cases e : i = 36
  · subst e
    rfl
  · rw [if_neg e]
    by_cases e0 : i = 0
    · rw [if_pos e0, if_pos e0]
    · rw [if_neg e0, if_neg e0]
      by_cases e1 : i < 35
      · rw [if_pos e1, if_pos e1]
      · rw [if_neg e1, if_neg e1]
        by_cases e2 : i = 35
        · rw [if_pos e2, if_pos e2]
        · rw [if_neg e2, if_neg e2, if_neg e, if_neg e]
end
theorem mapLt {α β : Type} {K : α → Value} {V : β → Value} {w : World} {r : Nat} {l : List (α × β)} (h : MapIs K V w r l) : r < w.heap.size := by
  obtain ⟨es, clock, hg, _⟩ := h
  exact (Array.getElem?_eq_some_iff.1 hg).1
/-- positions as keys -/
def pkV (p : Int × Int × Int) : Value := .agg #[.int .i64 p.1, .int .i64 p.2.1, .int .i64 p.2.2]
def ftV (q : Nat → Hd) : Value := .agg (ftC q)
theorem eq_pk (d : Nat) (a b : Int × Int × Int) (w : World) : (Op.equalIn (d + 1 + 1) 188 (pkV a) (pkV b)).run Tryz.prog w = .ok (decide (a = b)) w := by
  unfold pkV
  have h1 : ∀ x y : Int, (Op.equalIn (d + 1) 3 (.int .i64 x) (.int .i64 y)).run Tryz.prog w = .ok (x == y) w := fun x y => by simp [Op.equalIn, run_underlying Tryz.underlying3]
  have p1 : ∀ x y z : Int, (part 3 #[.int .i64 x, .int .i64 y, .int .i64 z] 0).run Tryz.prog w = .ok (.int .i64 x) w := fun x y z => by simp [part, isAgg, run_underlying Tryz.underlying3]
  have p2 : ∀ x y z : Int, (part 3 #[.int .i64 x, .int .i64 y, .int .i64 z] 1).run Tryz.prog w = .ok (.int .i64 y) w := fun x y z => by simp [part, isAgg, run_underlying Tryz.underlying3]
  have p3 : ∀ x y z : Int, (part 3 #[.int .i64 x, .int .i64 y, .int .i64 z] 2).run Tryz.prog w = .ok (.int .i64 z) w := fun x y z => by simp [part, isAgg, run_underlying Tryz.underlying3]
  rw [Op.equalIn]
  simp only [Sem.run_bind, run_underlying Tryz.underlying188, Result.andThen_ok]
  simp [Op.eqFields, p1, p2, p3, h1]
  obtain ⟨a1, a2, a3⟩ := a
  obtain ⟨b1, b2, b3⟩ := b
  by_cases ha : a1 = b1
  · subst ha
    by_cases hb : a2 = b2
    · subst hb
      by_cases hc : a3 = b3
      · subst hc
        simp
      · simp [hc]
    · simp [hb]
  · simp [ha]
theorem chk_pk (d : Nat) (e : Bool) (a : Int × Int × Int) (w : World) : (Instr.checkKey e (d + 1 + 1) 188 (pkV a)).run Tryz.prog w = .ok () w := by
  unfold pkV
  have h1 : ∀ x : Int, (Instr.checkKey e (d + 1) 3 (.int .i64 x)).run Tryz.prog w = .ok () w := fun x => by simp [Instr.checkKey, run_underlying Tryz.underlying3]
  have p1 : ∀ x y z : Int, (part 3 #[.int .i64 x, .int .i64 y, .int .i64 z] 0).run Tryz.prog w = .ok (.int .i64 x) w := fun x y z => by simp [part, isAgg, run_underlying Tryz.underlying3]
  have p2 : ∀ x y z : Int, (part 3 #[.int .i64 x, .int .i64 y, .int .i64 z] 1).run Tryz.prog w = .ok (.int .i64 y) w := fun x y z => by simp [part, isAgg, run_underlying Tryz.underlying3]
  have p3 : ∀ x y z : Int, (part 3 #[.int .i64 x, .int .i64 y, .int .i64 z] 2).run Tryz.prog w = .ok (.int .i64 z) w := fun x y z => by simp [part, isAgg, run_underlying Tryz.underlying3]
  rw [Instr.checkKey]
  simp only [Sem.run_bind, run_underlying Tryz.underlying188, Result.andThen_ok]
  simp [p1, p2, p3, h1]
theorem pk_key : KeyOf Tryz.prog 188 pkV where
  desc := ⟨_, Tryz.underlying188, (fun k h => by cases h), (fun h => by cases h), (fun h => by cases h)⟩
  eq a b w := eq_pk 9998 a b w
  chk e a w := chk_pk 9998 e a w
end Go.Proofs.YtimjggkdpmgpjaaGreatDoor

namespace Go.Proofs.YtimjggkdpmgpjaaGreatDoor
open Go Go.RowKit
set_option linter.unusedSimpArgs false
set_option linter.unusedVariables false
theorem leafAt_any (n p : Int) (w : World) : Calls Tryz.prog 76 #[.int .i64 n, .int .i64 p] w fun e w' => e = .returned (pkV (n, 0, p)) ∧ Below w.heap.size w w' := by
  unfold pkV
  have hb : Below w.heap.size w (w.alloc (.cells #[.int .i64 n, .int .i64 0, .int .i64 p] 188)) := below_new1 w _
  go_enter Tryz.func76, Tryz.ntmps76
  have hk : Blk (w.alloc (.cells #[.int .i64 n, .int .i64 0, .int .i64 p] 188)) w.heap.size 188 #[.int .i64 n, .int .i64 0, .int .i64 p] := Blk.new _ _ _
  go_wp2_with fail
  try simp only [Exit.inBlock, Exit.then]
  refine bodyPost_ret (results_cell_row Tryz.results76 _ _ (w.heap.size) 188 _ (0, 0) _ rfl hk Tryz.underlying188 rfl (by kernel_rfl)) rfl ?_
  exact ⟨rfl, hb⟩
theorem leavesTo_any (n : Int) (h0 : 0 ≤ n) (h1 : n ≤ 4096) (w : World) : Calls Tryz.prog 71 #[.int .i64 n] w fun e w' => e = .returned (.int .i64 ((n + 3) / 4)) ∧ w' = w := by
  have e1 : (n + 4 - 1).tdiv 4 = (n + 3) / 4 := by
    rw [show n + 4 - 1 = n + 3 by omega]
    exact Int.tdiv_eq_ediv_of_nonneg (by omega)
  have e2 : (n + 3).tdiv 4 = (n + 3) / 4 := Int.tdiv_eq_ediv_of_nonneg (by omega)
  go_enter Tryz.func71, Tryz.ntmps71
  go_wp2_with fail
  go_ret
  exact ⟨rfl, rfl⟩
theorem numberAt_any (l p : Int) (h0 : 0 ≤ l) (h1 : l ≤ 4096) (h2 : 0 ≤ p) (h3 : p ≤ 4) (w : World) : Calls Tryz.prog 74 #[.int .i64 l, .int .i64 p] w fun e w' => e = .returned (.int .i64 (l * 4 + p + 1)) ∧ w' = w := by
  go_enter Tryz.func74, Tryz.ntmps74
  go_wp2_with fail
  go_ret
  exact ⟨rfl, rfl⟩
theorem hd_c39 {w : World} {b t : Nat} {x : Hd} (H : Blk w b t (hdC x)) : w.cell? ⟨b, 39, none⟩ = some (.int .i64 x.k) := H.cv (n := 45) (by decide)
theorem inUse_any (x : Hd) (w : World) : Calls Tryz.prog 73 #[.agg (hdC x)] w fun e w' => e = .returned (.bool (x.k != 0)) ∧ Below w.heap.size w w' := by
  have hb : Below w.heap.size w (w.alloc (.cells (hdC x) 140)) := below_new1 w _
  have c := hd_c39 (Blk.new w 140 (hdC x))
  go_enter Tryz.func73, Tryz.ntmps73
  go_wp2_with fail
  go_ret
  exact ⟨rfl, hb⟩
theorem wrong_ok (x : Nat) (n : Int) (h1 : 1 ≤ n) (h2 : n ≤ 4096) (w : World) : Calls Tryz.prog 83 #[.pointer (some ⟨x, 0, none⟩), .int .i64 n] w fun e w' => e = .returned (.int .i64 0) ∧ w' = w := by
  have HP := place_any n ⟨by omega, by omega⟩ w
  rw [if_pos ⟨h1, h2⟩] at HP
  go_enter Tryz.func83, Tryz.ntmps83
  go_wp2_with fail
  refine HP.mono ?_
  rintro e w1 ⟨rfl, rfl⟩
  go_wp2_with fail
  go_ret
  exact ⟨rfl, rfl⟩
end Go.Proofs.YtimjggkdpmgpjaaGreatDoor
