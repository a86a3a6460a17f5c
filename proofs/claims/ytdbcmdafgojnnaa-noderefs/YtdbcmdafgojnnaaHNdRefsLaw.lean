/- The statement NodeRefs: its walk. -/
import Derived.Test.YtdbcmdafgojnnaaHNdRefDec
import Derived.Handy

namespace Go.Proofs.Ytdbcmdafgojnnaa
open Go Go.RowKit
set_option linter.unusedSimpArgs false
set_option linter.unusedVariables false

/-- what the statement has laid down -/
def RS (w : World) (g1 g2 g3 : Nat) (r X Y : Rf) (W : World) : Prop := Blk W w.heap.size 48 (rfC r) ∧ Blk W g1 48 (rfC X) ∧ Blk W g2 70 (rfC X) ∧ Blk W g3 48 (rfC Y) ∧ Below w.heap.size w W
theorem RS.below {w : World} {g1 g2 g3 : Nat} {r X Y : Rf} {W W' : World} (h : RS w g1 g2 g3 r X Y W) (hb : Below W.heap.size W W') : RS w g1 g2 g3 r X Y W' :=
  ⟨h.1.below hb h.1.lt, h.2.1.below hb h.2.1.lt, h.2.2.1.below hb h.2.2.1.lt, h.2.2.2.1.below hb h.2.2.2.1.lt, h.2.2.2.2.trans (hb.mono h.2.2.2.2.size)⟩
theorem decode_same (s : ByteArray) (hs : s.size ≤ maxLen) (i : Int) (hi : -9223372036854775808 ≤ i ∧ i ≤ 9223372036854775807) : ∃ (X : Rf) (b : Bool), (∀ w, Calls Try.prog 24 #[.string s, .int .i64 i] w fun e w' => e = .returned (.tuple #[.agg (rfC X), .bool b]) ∧ Below w.heap.size w w') ∧ ∀ w, Calls Try.prog 25 #[.string s, .int .i64 i] w fun e w' => e = .returned (.tuple #[.agg (rfC X), .bool b]) ∧ Below w.heap.size w w' := by
  by_cases h : i < 0 ∨ (0 ≤ i ∧ (s.size : Int) - 36 < i)
  · exact ⟨rf0, false, decodeR_bad s i hi hs h, refDecR_bad s i hi hs h⟩
  · obtain ⟨a, rfl⟩ : ∃ a : Nat, i = (a : Int) := ⟨i.toNat, by omega⟩
    exact ⟨_, _, decodeR_good s a hs (by omega), refDecR_good s a hs (by omega)⟩
theorem decode_enc (r : Rf) (hn : r.1 < 4294967296) (hr : okD r.2) (w : World) : Calls Try.prog 24 #[.string (strN (encR r) 36), .int .i64 0] w fun e w' => e = .returned (.tuple #[.agg (rfC (if rOk r then r else rf0)), .bool (rOk r)]) ∧ Below w.heap.size w w' := by
  have hz : (strN (encR r) 36).size = 36 := strN_size _ _
  have := decodeR_good (strN (encR r) 36) 0 (by rw [hz]; unfold maxLen; decide) (by omega) w
  rw [decR_of (strN (encR r) 36) 0 r hn fun j hj => by rw [Nat.zero_add]; exact strN_at _ _ j hj (encR_lt r hr j hj)] at this
  exact this
set_option maxRecDepth 100000 in
set_option maxHeartbeats 4000000 in
theorem nodeRefs_yes (r : Rf) (hn : r.1 < 4294967296) (hr : okD r.2) (hO : rOk r = true) (s : ByteArray) (i : Int) (X : Rf) (b : Bool)
    (HD : Hid (∀ w, Calls Try.prog 24 #[.string s, .int .i64 i] w fun e w' => e = .returned (.tuple #[.agg (rfC X), .bool b]) ∧ Below w.heap.size w w'))
    (HRD : Hid (∀ w, Calls Try.prog 25 #[.string s, .int .i64 i] w fun e w' => e = .returned (.tuple #[.agg (rfC X), .bool b]) ∧ Below w.heap.size w w')) (w : World) :
    Calls Try.prog 4 #[.agg (rfC r), .string s, .int .i64 i] w fun e w' => e = .returned (.bool true) ∧ Below w.heap.size w w' := by
  have hz := zero_ref
  have hzr := zero_rref
  have HE : Hid (∀ w, Calls Try.prog 26 #[.agg (rfC r)] w fun e w' => e = .returned (.string (strN (encR r) 36)) ∧ Below w.heap.size w w') := encR_any r hr
  have HB : Hid (∀ w, Calls Try.prog 24 #[.string (strN (encR r) 36), .int .i64 0] w fun e w' => e = .returned (.tuple #[.agg (rfC r), .bool true]) ∧ Below w.heap.size w w') := fun w => by
    have := decode_enc r hn hr w
    rw [hO] at this
    exact this
  have HN : Hid (∀ w, Calls Try.prog 28 #[.agg (rfC r)] w fun e w' => e = .returned (.bool (decide (r = rf0))) ∧ Below w.heap.size w w') := none_any r
  have HRN : Hid (∀ w, Calls Try.prog 29 #[.agg (rfC r)] w fun e w' => e = .returned (.bool (decide (r = rf0))) ∧ Below w.heap.size w w') := rnone_any r
  have HRR : Hid (∀ w, Calls Try.prog 33 #[.agg (rfC r)] w fun e w' => e = .returned (.bool true) ∧ Below w.heap.size w w') := fun w => by
    have := rright_any r w
    rw [hO] at this
    exact this
  have HRE : Hid (∀ w, Calls Try.prog 31 #[.agg (rfC r)] w fun e w' => ∃ g c, e = .returned (.slice (some ⟨g, 0, none⟩) 36 c) ∧ w'.ownsRow (w.heap.size + 1) 5 1 (.slice (some ⟨g, 0, none⟩) 36 c) 36 (byL (encR r) 36) ∧ Below w.heap.size w w') := refEncR_any r hn
  have heX : ∀ W, (Op.equalIn 10000 48 (.agg (rfC X)) (.agg (rfC X))).run Try.prog W = .ok true W := fun W => by
    rw [show (10000 : Nat) = 9997 + 1 + 1 + 1 from rfl, eq_ref 9997 X X W, decide_eq_true rfl]
  have heY : ∀ W, (Op.equalIn 10000 48 (.agg (rfC r)) (.agg (rfC r))).run Try.prog W = .ok true W := fun W => by
    rw [show (10000 : Nat) = 9997 + 1 + 1 + 1 from rfl, eq_ref 9997 _ _ W, decide_eq_true rfl]
  generalize decide (r = rf0) = bn at *
  have a0 : Blk (w.alloc (.cells (rfC r) 48)) w.heap.size 48 (rfC r) := Blk.new _ _ _
  have hb0 : Below w.heap.size w (w.alloc (.cells (rfC r) 48)) := below_new1 _ _
  have hs0 : (w.alloc (.cells (rfC r) 48)).heap.size = w.heap.size + 1 := by simp
  go_enter Try.func4, Try.ntmps4
  go_wp2_with fail
  generalize (w.alloc (.cells (rfC r) 48)) = w0 at *
  refine (HD.out w0).mono ?_
  rintro e w1 ⟨rfl, hb1⟩
  have hs1 := hb1.size
  have c0 : Blk (w1.alloc (.cells (rfC rf0) 48)) w1.heap.size 48 (rfC rf0) := Blk.new _ _ _
  have a1 : Blk ((w1.alloc (.cells (rfC rf0) 48)).setRow w1.heap.size (rfC X)) w.heap.size 48 (rfC r) := ((a0.below hb1 (by omega)).alloc _).other _ (by omega)
  have c1 : Blk ((w1.alloc (.cells (rfC rf0) 48)).setRow w1.heap.size (rfC X)) w1.heap.size 48 (rfC X) := c0.set _
  have hb2 : Below w.heap.size w ((w1.alloc (.cells (rfC rf0) 48)).setRow w1.heap.size (rfC X)) := below_setRow ((hb0.trans (hb1.mono (by omega))).alloc (by omega) _) (by omega) _
  have hs2 : ((w1.alloc (.cells (rfC rf0) 48)).setRow w1.heap.size (rfC X)).heap.size = w1.heap.size + 1 := by simp
  clear a0 hb0 hb1 HD
  go_wp2_with (first
    | (refine wpList_store_row (by rfl) 48 _ _ (by rfl) (w1.heap.size) (rfC X) (by rfl) (by rfl) 48 (_) (by exact c0) (slSizeRef.trans (by rw [rfC_size])) (by simp only [rfC_size]) (rfC_all _) ?_; simp only [Act.put, List.setIfInBounds_toArray, List.set_cons_zero, List.set_cons_succ])
    | fail)
  clear c0
  generalize ((w1.alloc (.cells (rfC rf0) 48)).setRow w1.heap.size (rfC X)) = w3 at *
  refine (HRD.out w3).mono ?_
  rintro e w4 ⟨rfl, hb3⟩
  have hs3 := hb3.size
  have c0 : Blk (w4.alloc (.cells (rfC rf0) 70)) w4.heap.size 70 (rfC rf0) := Blk.new _ _ _
  have a2 : Blk ((w4.alloc (.cells (rfC rf0) 70)).setRow w4.heap.size (rfC X)) w.heap.size 48 (rfC r) := ((a1.below hb3 (by omega)).alloc _).other _ (by omega)
  have c2 : Blk ((w4.alloc (.cells (rfC rf0) 70)).setRow w4.heap.size (rfC X)) w1.heap.size 48 (rfC X) := ((c1.below hb3 (by omega)).alloc _).other _ (by omega)
  have d2 : Blk ((w4.alloc (.cells (rfC rf0) 70)).setRow w4.heap.size (rfC X)) w4.heap.size 70 (rfC X) := c0.set _
  have hb4 : Below w.heap.size w ((w4.alloc (.cells (rfC rf0) 70)).setRow w4.heap.size (rfC X)) := below_setRow ((hb2.trans (hb3.mono (by omega))).alloc (by omega) _) (by omega) _
  have hs4 : ((w4.alloc (.cells (rfC rf0) 70)).setRow w4.heap.size (rfC X)).heap.size = w4.heap.size + 1 := by simp
  clear a1 c1 hb2 hb3 HRD
  go_wp2_with (first
    | (refine wpList_store_row (by rfl) 70 _ _ (by rfl) (w4.heap.size) (rfC X) (by rfl) (by rfl) 70 (_) (by exact c0) (sizeRref.trans (by rw [rfC_size])) (by simp only [rfC_size]) (rfC_all _) ?_; simp only [Act.put, List.setIfInBounds_toArray, List.set_cons_zero, List.set_cons_succ])
    | (refine wpList_load_rowg (by rfl) 48 _ (by rfl) (w.heap.size) (by rfl) 48 (rfC r) (0, 0) _ (by exact a2) Try.underlying48 (by rfl) (slSizeRef.trans (by rw [rfC_size])) ?_; simp only [Act.put, List.setIfInBounds_toArray, List.set_cons_zero, List.set_cons_succ])
    | fail)
  clear c0
  generalize ((w4.alloc (.cells (rfC rf0) 70)).setRow w4.heap.size (rfC X)) = w6 at *
  refine (HE.out w6).mono ?_
  rintro e w7 ⟨rfl, hb5⟩
  have hs5 := hb5.size
  have a3 : Blk w7 w.heap.size 48 (rfC r) := a2.below hb5 (by omega)
  have c3 : Blk w7 w1.heap.size 48 (rfC X) := c2.below hb5 (by omega)
  have d3 : Blk w7 w4.heap.size 70 (rfC X) := d2.below hb5 (by omega)
  have hb6 : Below w.heap.size w w7 := hb4.trans (hb5.mono (by omega))
  clear a2 c2 d2 hb4 hb5 HE
  go_wp2_with fail
  refine (HB.out w7).mono ?_
  rintro e w8 ⟨rfl, hb7⟩
  have hs7 := hb7.size
  have c0 : Blk (w8.alloc (.cells (rfC rf0) 48)) w8.heap.size 48 (rfC rf0) := Blk.new _ _ _
  have HS : Hid (RS w w1.heap.size w4.heap.size w8.heap.size r X r ((w8.alloc (.cells (rfC rf0) 48)).setRow w8.heap.size (rfC r)).drew) := ⟨(((a3.below hb7 (by omega)).alloc _).other _ (by omega)).drew, (((c3.below hb7 (by omega)).alloc _).other _ (by omega)).drew, (((d3.below hb7 (by omega)).alloc _).other _ (by omega)).drew, (c0.set _).drew, (below_setRow ((hb6.trans (hb7.mono (by omega))).alloc (by omega) _) (by omega) _).drew⟩
  clear a3 c3 d3 hb6 hb7 HB
  go_wp2_with (first
    | (refine wpList_store_row (by rfl) 48 _ _ (by rfl) (w8.heap.size) (rfC r) (by rfl) (by rfl) 48 (_) (by exact c0) (slSizeRef.trans (by rw [rfC_size])) (by simp only [rfC_size]) (rfC_all _) ?_; simp only [Act.put, List.setIfInBounds_toArray, List.set_cons_zero, List.set_cons_succ])
    | fail)
  clear c0
  generalize ((w8.alloc (.cells (rfC rf0) 48)).setRow w8.heap.size (rfC r)) = w9 at *
  have k0 := HS.out
  clear HS
  refine wp_region_partsS (RS w w1.heap.size w4.heap.size w8.heap.size r X r) [([], 0, false), ([1], 2, true), ([], 4, true), ([], 3, false), ([], 5, false), ([], 6, false), ([], 7, false), ([8, 9, 10], 11, true), ([], 12, false), ([], 13, false), ([], 14, false), ([], 15, false), ([16, 17], 18, true), ([], 19, true), ([], 20, false), ([], 21, false), ([22, 23, 24, 25], 26, false), ([27, 28, 29], 30, true), ([], 31, false), ([], 32, false), ([], 33, false), ([34, 35, 36, 37, 38], 39, true), ([], 40, false), ([], 41, false), ([42, 43, 44, 45], 46, true), ([], 47, true), ([], 48, false)] [49, 50, 51] [52] (by kernel_rfl) (by kernel_rfl) k0 (partsI_force ?_)
  simp only [List.cons_append, List.nil_append, List.append_nil, List.filterMap_cons, List.filterMap_nil, List.getElem?_toArray, List.getElem?_cons_zero, List.getElem?_cons_succ]
  go_wp2_with fail
  refine (awake7_any _).mono ?_
  rintro e v0 ⟨rfl, hv0⟩
  have k1 : RS w w1.heap.size w4.heap.size w8.heap.size r X r v0 := k0.below hv0
  clear hv0 k0
  go_wp2_with fail
  refine ⟨rfl, k1, partsI_yield ?_⟩
  simp only [List.cons_append, List.nil_append, List.append_nil, List.filterMap_cons, List.filterMap_nil, List.getElem?_toArray, List.getElem?_cons_zero, List.getElem?_cons_succ]
  go_wp2_with fail
  refine ⟨rfl, _, .agg (rfC r), rfl, kyields_load (by rfl) 48 _ (by rfl) (w.heap.size) 33 (rfF r.1 r.2) (by rfl) _ 48 (fun W hW => hW.1) Try.underlying48 rfl slSizeRef, partsI_yield ?_⟩
  simp only [Act.put, List.setIfInBounds_toArray, List.set_cons_zero, List.set_cons_succ]
  simp only [List.cons_append, List.nil_append, List.append_nil, List.filterMap_cons, List.filterMap_nil, List.getElem?_toArray, List.getElem?_cons_zero, List.getElem?_cons_succ]
  go_wp2_with fail
  refine ⟨rfl, _, .agg (rfC r), rfl, kyields_load (by rfl) 48 _ (by rfl) (w.heap.size) 33 (rfF r.1 r.2) (by rfl) _ 48 (fun W hW => hW.1) Try.underlying48 rfl slSizeRef, partsI_force ?_⟩
  simp only [Act.put, List.setIfInBounds_toArray, List.set_cons_zero, List.set_cons_succ]
  simp only [List.cons_append, List.nil_append, List.append_nil, List.filterMap_cons, List.filterMap_nil, List.getElem?_toArray, List.getElem?_cons_zero, List.getElem?_cons_succ]
  go_wp2_with fail
  refine (HN.out _).mono ?_
  rintro e v1 ⟨rfl, hv1⟩
  have k2 : RS w w1.heap.size w4.heap.size w8.heap.size r X r v1 := k1.below hv1
  clear hv1 k1
  go_wp2_with fail
  refine ⟨rfl, k2, partsI_force ?_⟩
  simp only [List.cons_append, List.nil_append, List.append_nil, List.filterMap_cons, List.filterMap_nil, List.getElem?_toArray, List.getElem?_cons_zero, List.getElem?_cons_succ]
  go_wp2_with fail
  refine (refRef_any r _).mono ?_
  rintro e v2 ⟨rfl, hv2⟩
  have k3 : RS w w1.heap.size w4.heap.size w8.heap.size r X r v2 := k2.below hv2
  clear hv2 k2
  go_wp2_with fail
  refine ⟨rfl, k3, partsI_force ?_⟩
  simp only [List.cons_append, List.nil_append, List.append_nil, List.filterMap_cons, List.filterMap_nil, List.getElem?_toArray, List.getElem?_cons_zero, List.getElem?_cons_succ]
  go_wp2_with fail
  refine (HRN.out _).mono ?_
  rintro e v3 ⟨rfl, hv3⟩
  have k4 : RS w w1.heap.size w4.heap.size w8.heap.size r X r v3 := k3.below hv3
  clear hv3 k3
  go_wp2_with fail
  refine ⟨rfl, k4, partsI_force ?_⟩
  simp only [List.cons_append, List.nil_append, List.append_nil, List.filterMap_cons, List.filterMap_nil, List.getElem?_toArray, List.getElem?_cons_zero, List.getElem?_cons_succ]
  go_wp2_with fail
  refine ⟨rfl, k4, partsI_yield ?_⟩
  simp only [List.cons_append, List.nil_append, List.append_nil, List.filterMap_cons, List.filterMap_nil, List.getElem?_toArray, List.getElem?_cons_zero, List.getElem?_cons_succ]
  go_wp2_with fail
  refine ⟨rfl, _, .agg (rfC r), rfl, kyields_load (by rfl) 48 _ (by rfl) (w.heap.size) 33 (rfF r.1 r.2) (by rfl) _ 48 (fun W hW => hW.1) Try.underlying48 rfl slSizeRef, partsI_force ?_⟩
  simp only [Act.put, List.setIfInBounds_toArray, List.set_cons_zero, List.set_cons_succ]
  simp only [List.cons_append, List.nil_append, List.append_nil, List.filterMap_cons, List.filterMap_nil, List.getElem?_toArray, List.getElem?_cons_zero, List.getElem?_cons_succ]
  go_wp2_with fail
  refine (refRef_any r _).mono ?_
  rintro e v4 ⟨rfl, hv4⟩
  have k5 : RS w w1.heap.size w4.heap.size w8.heap.size r X r v4 := k4.below hv4
  clear hv4 k4
  go_wp2_with fail
  refine ⟨rfl, k5, partsI_force ?_⟩
  simp only [List.cons_append, List.nil_append, List.append_nil, List.filterMap_cons, List.filterMap_nil, List.getElem?_toArray, List.getElem?_cons_zero, List.getElem?_cons_succ]
  go_wp2_with fail
  refine (HRE.out _).mono ?_
  rintro e v5 ⟨ge, ce, rfl, hoe, hv5⟩
  have k6 : RS w w1.heap.size w4.heap.size w8.heap.size r X r v5 := k5.below hv5
  have hc := run_own_text (P := Try.prog) v5 77 5 9 Try.underlying77 Try.underlying5 Try.underlying9 hoe
  clear hv5 k5 hoe
  go_wp2_with fail
  refine ⟨rfl, k6, partsI_force ?_⟩
  simp only [List.cons_append, List.nil_append, List.append_nil, List.filterMap_cons, List.filterMap_nil, List.getElem?_toArray, List.getElem?_cons_zero, List.getElem?_cons_succ]
  go_wp2_with fail
  refine ⟨rfl, k6, partsI_force ?_⟩
  simp only [List.cons_append, List.nil_append, List.append_nil, List.filterMap_cons, List.filterMap_nil, List.getElem?_toArray, List.getElem?_cons_zero, List.getElem?_cons_succ]
  clear hc
  go_wp2_with fail
  refine ⟨rfl, k6, partsI_yield ?_⟩
  simp only [List.cons_append, List.nil_append, List.append_nil, List.filterMap_cons, List.filterMap_nil, List.getElem?_toArray, List.getElem?_cons_zero, List.getElem?_cons_succ]
  go_wp2_with fail
  refine ⟨rfl, _, .agg (rfC X), rfl, kyields_load (by rfl) 48 _ (by rfl) (w1.heap.size) 33 (rfF X.1 X.2) (by rfl) _ 48 (fun W hW => hW.2.1) Try.underlying48 rfl slSizeRef, partsI_yield ?_⟩
  simp only [Act.put, List.setIfInBounds_toArray, List.set_cons_zero, List.set_cons_succ]
  simp only [List.cons_append, List.nil_append, List.append_nil, List.filterMap_cons, List.filterMap_nil, List.getElem?_toArray, List.getElem?_cons_zero, List.getElem?_cons_succ]
  go_wp2_with fail
  refine ⟨rfl, _, .agg (rfC X), rfl, kyields_load (by rfl) 70 _ (by rfl) (w4.heap.size) 33 (rfF X.1 X.2) (by rfl) _ 70 (fun W hW => hW.2.2.1) Try.underlying70 rfl sizeRref, partsI_force ?_⟩
  simp only [Act.put, List.setIfInBounds_toArray, List.set_cons_zero, List.set_cons_succ]
  simp only [List.cons_append, List.nil_append, List.append_nil, List.filterMap_cons, List.filterMap_nil, List.getElem?_toArray, List.getElem?_cons_zero, List.getElem?_cons_succ]
  go_wp2_with fail
  refine (refPlain_any X _).mono ?_
  rintro e v6 ⟨rfl, hv6⟩
  have k7 : RS w w1.heap.size w4.heap.size w8.heap.size r X r v6 := k6.below hv6
  clear hv6 k6
  go_wp2_with fail
  refine ⟨rfl, k7, partsI_force ?_⟩
  simp only [List.cons_append, List.nil_append, List.append_nil, List.filterMap_cons, List.filterMap_nil, List.getElem?_toArray, List.getElem?_cons_zero, List.getElem?_cons_succ]
  go_wp2_with fail
  refine ⟨rfl, k7, partsI_force ?_⟩
  simp only [List.cons_append, List.nil_append, List.append_nil, List.filterMap_cons, List.filterMap_nil, List.getElem?_toArray, List.getElem?_cons_zero, List.getElem?_cons_succ]
  go_wp2_with fail
  refine ⟨rfl, k7, partsI_yield ?_⟩
  simp only [List.cons_append, List.nil_append, List.append_nil, List.filterMap_cons, List.filterMap_nil, List.getElem?_toArray, List.getElem?_cons_zero, List.getElem?_cons_succ]
  go_wp2_with fail
  refine ⟨rfl, _, .agg (rfC r), rfl, kyields_load (by rfl) 48 _ (by rfl) (w.heap.size) 33 (rfF r.1 r.2) (by rfl) _ 48 (fun W hW => hW.1) Try.underlying48 rfl slSizeRef, partsI_force ?_⟩
  simp only [Act.put, List.setIfInBounds_toArray, List.set_cons_zero, List.set_cons_succ]
  simp only [List.cons_append, List.nil_append, List.append_nil, List.filterMap_cons, List.filterMap_nil, List.getElem?_toArray, List.getElem?_cons_zero, List.getElem?_cons_succ]
  go_wp2_with fail
  refine (refRef_any r _).mono ?_
  rintro e v7 ⟨rfl, hv7⟩
  have k8 : RS w w1.heap.size w4.heap.size w8.heap.size r X r v7 := k7.below hv7
  clear hv7 k7
  go_wp2_with fail
  refine ⟨rfl, k8, partsI_force ?_⟩
  simp only [List.cons_append, List.nil_append, List.append_nil, List.filterMap_cons, List.filterMap_nil, List.getElem?_toArray, List.getElem?_cons_zero, List.getElem?_cons_succ]
  go_wp2_with fail
  refine (HRR.out _).mono ?_
  rintro e v8 ⟨rfl, hv8⟩
  have k9 : RS w w1.heap.size w4.heap.size w8.heap.size r X r v8 := k8.below hv8
  clear hv8 k8
  go_wp2_with fail
  refine ⟨rfl, k9, partsI_force ?_⟩
  simp only [List.cons_append, List.nil_append, List.append_nil, List.filterMap_cons, List.filterMap_nil, List.getElem?_toArray, List.getElem?_cons_zero, List.getElem?_cons_succ]
  go_wp2_with fail
  refine ⟨rfl, k9, partsI_yield ?_⟩
  simp only [List.cons_append, List.nil_append, List.append_nil, List.filterMap_cons, List.filterMap_nil, List.getElem?_toArray, List.getElem?_cons_zero, List.getElem?_cons_succ]
  go_wp2_with fail
  refine ⟨rfl, _, undef, rfl, Or.inr ⟨by rfl, rfl⟩, partsI_force ?_⟩
  simp only [Act.put, List.setIfInBounds_toArray, List.set_cons_zero, List.set_cons_succ]
  simp only [List.cons_append, List.nil_append, List.append_nil, List.filterMap_cons, List.filterMap_nil, List.getElem?_toArray, List.getElem?_cons_zero, List.getElem?_cons_succ]
  go_wp2_with fail
  refine ⟨rfl, k9, partsI_force ?_⟩
  simp only [List.cons_append, List.nil_append, List.append_nil, List.filterMap_cons, List.filterMap_nil, List.getElem?_toArray, List.getElem?_cons_zero, List.getElem?_cons_succ]
  go_wp2_with fail
  refine ⟨rfl, k9, partsI_yield ?_⟩
  simp only [List.cons_append, List.nil_append, List.append_nil, List.filterMap_cons, List.filterMap_nil, List.getElem?_toArray, List.getElem?_cons_zero, List.getElem?_cons_succ]
  go_wp2_with fail
  refine ⟨rfl, _, .agg (rfC r), rfl, kyields_load (by rfl) 48 _ (by rfl) (w8.heap.size) 33 (rfF r.1 r.2) (by rfl) _ 48 (fun W hW => hW.2.2.2.1) Try.underlying48 rfl slSizeRef, partsI_yield ?_⟩
  simp only [Act.put, List.setIfInBounds_toArray, List.set_cons_zero, List.set_cons_succ]
  simp only [List.cons_append, List.nil_append, List.append_nil, List.filterMap_cons, List.filterMap_nil, List.getElem?_toArray, List.getElem?_cons_zero, List.getElem?_cons_succ]
  go_wp2_with fail
  refine ⟨rfl, _, .agg (rfC r), rfl, kyields_load (by rfl) 48 _ (by rfl) (w.heap.size) 33 (rfF r.1 r.2) (by rfl) _ 48 (fun W hW => hW.1) Try.underlying48 rfl slSizeRef, partsI_force ?_⟩
  simp only [Act.put, List.setIfInBounds_toArray, List.set_cons_zero, List.set_cons_succ]
  simp only [List.cons_append, List.nil_append, List.append_nil, List.filterMap_cons, List.filterMap_nil, List.getElem?_toArray, List.getElem?_cons_zero, List.getElem?_cons_succ]
  go_wp2_with fail
  refine ⟨rfl, k9, partsI_last ?_⟩
  simp only [List.cons_append, List.nil_append, List.append_nil, List.filterMap_cons, List.filterMap_nil, List.getElem?_toArray, List.getElem?_cons_zero, List.getElem?_cons_succ]
  go_wp2_with fail
  refine ⟨rfl, ?_⟩
  go_wp2_with fail
  go_ret
  exact ⟨rfl, k9.2.2.2.2⟩
set_option maxRecDepth 100000 in
set_option maxHeartbeats 4000000 in
theorem nodeRefs_no (r : Rf) (hn : r.1 < 4294967296) (hr : okD r.2) (hO : rOk r = false) (s : ByteArray) (i : Int) (X : Rf) (b : Bool)
    (HD : Hid (∀ w, Calls Try.prog 24 #[.string s, .int .i64 i] w fun e w' => e = .returned (.tuple #[.agg (rfC X), .bool b]) ∧ Below w.heap.size w w'))
    (HRD : Hid (∀ w, Calls Try.prog 25 #[.string s, .int .i64 i] w fun e w' => e = .returned (.tuple #[.agg (rfC X), .bool b]) ∧ Below w.heap.size w w')) (w : World) :
    Calls Try.prog 4 #[.agg (rfC r), .string s, .int .i64 i] w fun e w' => e = .returned (.bool true) ∧ Below w.heap.size w w' := by
  have hz := zero_ref
  have hzr := zero_rref
  have HE : Hid (∀ w, Calls Try.prog 26 #[.agg (rfC r)] w fun e w' => e = .returned (.string (strN (encR r) 36)) ∧ Below w.heap.size w w') := encR_any r hr
  have HB : Hid (∀ w, Calls Try.prog 24 #[.string (strN (encR r) 36), .int .i64 0] w fun e w' => e = .returned (.tuple #[.agg (rfC rf0), .bool false]) ∧ Below w.heap.size w w') := fun w => by
    have := decode_enc r hn hr w
    rw [hO] at this
    exact this
  have HN : Hid (∀ w, Calls Try.prog 28 #[.agg (rfC r)] w fun e w' => e = .returned (.bool (decide (r = rf0))) ∧ Below w.heap.size w w') := none_any r
  have HRN : Hid (∀ w, Calls Try.prog 29 #[.agg (rfC r)] w fun e w' => e = .returned (.bool (decide (r = rf0))) ∧ Below w.heap.size w w') := rnone_any r
  have HRR : Hid (∀ w, Calls Try.prog 33 #[.agg (rfC r)] w fun e w' => e = .returned (.bool false) ∧ Below w.heap.size w w') := fun w => by
    have := rright_any r w
    rw [hO] at this
    exact this
  have HRE : Hid (∀ w, Calls Try.prog 31 #[.agg (rfC r)] w fun e w' => ∃ g c, e = .returned (.slice (some ⟨g, 0, none⟩) 36 c) ∧ w'.ownsRow (w.heap.size + 1) 5 1 (.slice (some ⟨g, 0, none⟩) 36 c) 36 (byL (encR r) 36) ∧ Below w.heap.size w w') := refEncR_any r hn
  have heX : ∀ W, (Op.equalIn 10000 48 (.agg (rfC X)) (.agg (rfC X))).run Try.prog W = .ok true W := fun W => by
    rw [show (10000 : Nat) = 9997 + 1 + 1 + 1 from rfl, eq_ref 9997 X X W, decide_eq_true rfl]
  have heY : ∀ W, (Op.equalIn 10000 48 (.agg (rfC rf0)) (.agg (rfC rf0))).run Try.prog W = .ok true W := fun W => by
    rw [show (10000 : Nat) = 9997 + 1 + 1 + 1 from rfl, eq_ref 9997 _ _ W, decide_eq_true rfl]
  generalize decide (r = rf0) = bn at *
  have a0 : Blk (w.alloc (.cells (rfC r) 48)) w.heap.size 48 (rfC r) := Blk.new _ _ _
  have hb0 : Below w.heap.size w (w.alloc (.cells (rfC r) 48)) := below_new1 _ _
  have hs0 : (w.alloc (.cells (rfC r) 48)).heap.size = w.heap.size + 1 := by simp
  go_enter Try.func4, Try.ntmps4
  go_wp2_with fail
  generalize (w.alloc (.cells (rfC r) 48)) = w0 at *
  refine (HD.out w0).mono ?_
  rintro e w1 ⟨rfl, hb1⟩
  have hs1 := hb1.size
  have c0 : Blk (w1.alloc (.cells (rfC rf0) 48)) w1.heap.size 48 (rfC rf0) := Blk.new _ _ _
  have a1 : Blk ((w1.alloc (.cells (rfC rf0) 48)).setRow w1.heap.size (rfC X)) w.heap.size 48 (rfC r) := ((a0.below hb1 (by omega)).alloc _).other _ (by omega)
  have c1 : Blk ((w1.alloc (.cells (rfC rf0) 48)).setRow w1.heap.size (rfC X)) w1.heap.size 48 (rfC X) := c0.set _
  have hb2 : Below w.heap.size w ((w1.alloc (.cells (rfC rf0) 48)).setRow w1.heap.size (rfC X)) := below_setRow ((hb0.trans (hb1.mono (by omega))).alloc (by omega) _) (by omega) _
  have hs2 : ((w1.alloc (.cells (rfC rf0) 48)).setRow w1.heap.size (rfC X)).heap.size = w1.heap.size + 1 := by simp
  clear a0 hb0 hb1 HD
  go_wp2_with (first
    | (refine wpList_store_row (by rfl) 48 _ _ (by rfl) (w1.heap.size) (rfC X) (by rfl) (by rfl) 48 (_) (by exact c0) (slSizeRef.trans (by rw [rfC_size])) (by simp only [rfC_size]) (rfC_all _) ?_; simp only [Act.put, List.setIfInBounds_toArray, List.set_cons_zero, List.set_cons_succ])
    | fail)
  clear c0
  generalize ((w1.alloc (.cells (rfC rf0) 48)).setRow w1.heap.size (rfC X)) = w3 at *
  refine (HRD.out w3).mono ?_
  rintro e w4 ⟨rfl, hb3⟩
  have hs3 := hb3.size
  have c0 : Blk (w4.alloc (.cells (rfC rf0) 70)) w4.heap.size 70 (rfC rf0) := Blk.new _ _ _
  have a2 : Blk ((w4.alloc (.cells (rfC rf0) 70)).setRow w4.heap.size (rfC X)) w.heap.size 48 (rfC r) := ((a1.below hb3 (by omega)).alloc _).other _ (by omega)
  have c2 : Blk ((w4.alloc (.cells (rfC rf0) 70)).setRow w4.heap.size (rfC X)) w1.heap.size 48 (rfC X) := ((c1.below hb3 (by omega)).alloc _).other _ (by omega)
  have d2 : Blk ((w4.alloc (.cells (rfC rf0) 70)).setRow w4.heap.size (rfC X)) w4.heap.size 70 (rfC X) := c0.set _
  have hb4 : Below w.heap.size w ((w4.alloc (.cells (rfC rf0) 70)).setRow w4.heap.size (rfC X)) := below_setRow ((hb2.trans (hb3.mono (by omega))).alloc (by omega) _) (by omega) _
  have hs4 : ((w4.alloc (.cells (rfC rf0) 70)).setRow w4.heap.size (rfC X)).heap.size = w4.heap.size + 1 := by simp
  clear a1 c1 hb2 hb3 HRD
  go_wp2_with (first
    | (refine wpList_store_row (by rfl) 70 _ _ (by rfl) (w4.heap.size) (rfC X) (by rfl) (by rfl) 70 (_) (by exact c0) (sizeRref.trans (by rw [rfC_size])) (by simp only [rfC_size]) (rfC_all _) ?_; simp only [Act.put, List.setIfInBounds_toArray, List.set_cons_zero, List.set_cons_succ])
    | (refine wpList_load_rowg (by rfl) 48 _ (by rfl) (w.heap.size) (by rfl) 48 (rfC r) (0, 0) _ (by exact a2) Try.underlying48 (by rfl) (slSizeRef.trans (by rw [rfC_size])) ?_; simp only [Act.put, List.setIfInBounds_toArray, List.set_cons_zero, List.set_cons_succ])
    | fail)
  clear c0
  generalize ((w4.alloc (.cells (rfC rf0) 70)).setRow w4.heap.size (rfC X)) = w6 at *
  refine (HE.out w6).mono ?_
  rintro e w7 ⟨rfl, hb5⟩
  have hs5 := hb5.size
  have a3 : Blk w7 w.heap.size 48 (rfC r) := a2.below hb5 (by omega)
  have c3 : Blk w7 w1.heap.size 48 (rfC X) := c2.below hb5 (by omega)
  have d3 : Blk w7 w4.heap.size 70 (rfC X) := d2.below hb5 (by omega)
  have hb6 : Below w.heap.size w w7 := hb4.trans (hb5.mono (by omega))
  clear a2 c2 d2 hb4 hb5 HE
  go_wp2_with fail
  refine (HB.out w7).mono ?_
  rintro e w8 ⟨rfl, hb7⟩
  have hs7 := hb7.size
  have c0 : Blk (w8.alloc (.cells (rfC rf0) 48)) w8.heap.size 48 (rfC rf0) := Blk.new _ _ _
  have HS : Hid (RS w w1.heap.size w4.heap.size w8.heap.size r X rf0 ((w8.alloc (.cells (rfC rf0) 48)).setRow w8.heap.size (rfC rf0)).drew) := ⟨(((a3.below hb7 (by omega)).alloc _).other _ (by omega)).drew, (((c3.below hb7 (by omega)).alloc _).other _ (by omega)).drew, (((d3.below hb7 (by omega)).alloc _).other _ (by omega)).drew, (c0.set _).drew, (below_setRow ((hb6.trans (hb7.mono (by omega))).alloc (by omega) _) (by omega) _).drew⟩
  clear a3 c3 d3 hb6 hb7 HB
  go_wp2_with (first
    | (refine wpList_store_row (by rfl) 48 _ _ (by rfl) (w8.heap.size) (rfC rf0) (by rfl) (by rfl) 48 (_) (by exact c0) (slSizeRef.trans (by rw [rfC_size])) (by simp only [rfC_size]) (rfC_all _) ?_; simp only [Act.put, List.setIfInBounds_toArray, List.set_cons_zero, List.set_cons_succ])
    | fail)
  clear c0
  generalize ((w8.alloc (.cells (rfC rf0) 48)).setRow w8.heap.size (rfC rf0)) = w9 at *
  have k0 := HS.out
  clear HS
  refine wp_region_partsS (RS w w1.heap.size w4.heap.size w8.heap.size r X rf0) [([], 0, false), ([1], 2, true), ([], 4, true), ([], 3, false), ([], 5, false), ([], 6, false), ([], 7, false), ([8, 9, 10], 11, true), ([], 12, false), ([], 13, false), ([], 14, false), ([], 15, false), ([16, 17], 18, true), ([], 19, true), ([], 20, false), ([], 21, false), ([22, 23, 24, 25], 26, false), ([27, 28, 29], 30, true), ([], 31, false), ([], 32, false), ([], 33, false), ([34, 35, 36, 37, 38], 39, true), ([], 40, false), ([], 41, false), ([42, 43, 44, 45], 46, true), ([], 47, true), ([], 48, true)] [49, 50, 51] [52] (by kernel_rfl) (by kernel_rfl) k0 (partsI_force ?_)
  simp only [List.cons_append, List.nil_append, List.append_nil, List.filterMap_cons, List.filterMap_nil, List.getElem?_toArray, List.getElem?_cons_zero, List.getElem?_cons_succ]
  go_wp2_with fail
  refine (awake7_any _).mono ?_
  rintro e v0 ⟨rfl, hv0⟩
  have k1 : RS w w1.heap.size w4.heap.size w8.heap.size r X rf0 v0 := k0.below hv0
  clear hv0 k0
  go_wp2_with fail
  refine ⟨rfl, k1, partsI_yield ?_⟩
  simp only [List.cons_append, List.nil_append, List.append_nil, List.filterMap_cons, List.filterMap_nil, List.getElem?_toArray, List.getElem?_cons_zero, List.getElem?_cons_succ]
  go_wp2_with fail
  refine ⟨rfl, _, .agg (rfC r), rfl, kyields_load (by rfl) 48 _ (by rfl) (w.heap.size) 33 (rfF r.1 r.2) (by rfl) _ 48 (fun W hW => hW.1) Try.underlying48 rfl slSizeRef, partsI_yield ?_⟩
  simp only [Act.put, List.setIfInBounds_toArray, List.set_cons_zero, List.set_cons_succ]
  simp only [List.cons_append, List.nil_append, List.append_nil, List.filterMap_cons, List.filterMap_nil, List.getElem?_toArray, List.getElem?_cons_zero, List.getElem?_cons_succ]
  go_wp2_with fail
  refine ⟨rfl, _, .agg (rfC r), rfl, kyields_load (by rfl) 48 _ (by rfl) (w.heap.size) 33 (rfF r.1 r.2) (by rfl) _ 48 (fun W hW => hW.1) Try.underlying48 rfl slSizeRef, partsI_force ?_⟩
  simp only [Act.put, List.setIfInBounds_toArray, List.set_cons_zero, List.set_cons_succ]
  simp only [List.cons_append, List.nil_append, List.append_nil, List.filterMap_cons, List.filterMap_nil, List.getElem?_toArray, List.getElem?_cons_zero, List.getElem?_cons_succ]
  go_wp2_with fail
  refine (HN.out _).mono ?_
  rintro e v1 ⟨rfl, hv1⟩
  have k2 : RS w w1.heap.size w4.heap.size w8.heap.size r X rf0 v1 := k1.below hv1
  clear hv1 k1
  go_wp2_with fail
  refine ⟨rfl, k2, partsI_force ?_⟩
  simp only [List.cons_append, List.nil_append, List.append_nil, List.filterMap_cons, List.filterMap_nil, List.getElem?_toArray, List.getElem?_cons_zero, List.getElem?_cons_succ]
  go_wp2_with fail
  refine (refRef_any r _).mono ?_
  rintro e v2 ⟨rfl, hv2⟩
  have k3 : RS w w1.heap.size w4.heap.size w8.heap.size r X rf0 v2 := k2.below hv2
  clear hv2 k2
  go_wp2_with fail
  refine ⟨rfl, k3, partsI_force ?_⟩
  simp only [List.cons_append, List.nil_append, List.append_nil, List.filterMap_cons, List.filterMap_nil, List.getElem?_toArray, List.getElem?_cons_zero, List.getElem?_cons_succ]
  go_wp2_with fail
  refine (HRN.out _).mono ?_
  rintro e v3 ⟨rfl, hv3⟩
  have k4 : RS w w1.heap.size w4.heap.size w8.heap.size r X rf0 v3 := k3.below hv3
  clear hv3 k3
  go_wp2_with fail
  refine ⟨rfl, k4, partsI_force ?_⟩
  simp only [List.cons_append, List.nil_append, List.append_nil, List.filterMap_cons, List.filterMap_nil, List.getElem?_toArray, List.getElem?_cons_zero, List.getElem?_cons_succ]
  go_wp2_with fail
  refine ⟨rfl, k4, partsI_yield ?_⟩
  simp only [List.cons_append, List.nil_append, List.append_nil, List.filterMap_cons, List.filterMap_nil, List.getElem?_toArray, List.getElem?_cons_zero, List.getElem?_cons_succ]
  go_wp2_with fail
  refine ⟨rfl, _, .agg (rfC r), rfl, kyields_load (by rfl) 48 _ (by rfl) (w.heap.size) 33 (rfF r.1 r.2) (by rfl) _ 48 (fun W hW => hW.1) Try.underlying48 rfl slSizeRef, partsI_force ?_⟩
  simp only [Act.put, List.setIfInBounds_toArray, List.set_cons_zero, List.set_cons_succ]
  simp only [List.cons_append, List.nil_append, List.append_nil, List.filterMap_cons, List.filterMap_nil, List.getElem?_toArray, List.getElem?_cons_zero, List.getElem?_cons_succ]
  go_wp2_with fail
  refine (refRef_any r _).mono ?_
  rintro e v4 ⟨rfl, hv4⟩
  have k5 : RS w w1.heap.size w4.heap.size w8.heap.size r X rf0 v4 := k4.below hv4
  clear hv4 k4
  go_wp2_with fail
  refine ⟨rfl, k5, partsI_force ?_⟩
  simp only [List.cons_append, List.nil_append, List.append_nil, List.filterMap_cons, List.filterMap_nil, List.getElem?_toArray, List.getElem?_cons_zero, List.getElem?_cons_succ]
  go_wp2_with fail
  refine (HRE.out _).mono ?_
  rintro e v5 ⟨ge, ce, rfl, hoe, hv5⟩
  have k6 : RS w w1.heap.size w4.heap.size w8.heap.size r X rf0 v5 := k5.below hv5
  have hc := run_own_text (P := Try.prog) v5 77 5 9 Try.underlying77 Try.underlying5 Try.underlying9 hoe
  clear hv5 k5 hoe
  go_wp2_with fail
  refine ⟨rfl, k6, partsI_force ?_⟩
  simp only [List.cons_append, List.nil_append, List.append_nil, List.filterMap_cons, List.filterMap_nil, List.getElem?_toArray, List.getElem?_cons_zero, List.getElem?_cons_succ]
  go_wp2_with fail
  refine ⟨rfl, k6, partsI_force ?_⟩
  simp only [List.cons_append, List.nil_append, List.append_nil, List.filterMap_cons, List.filterMap_nil, List.getElem?_toArray, List.getElem?_cons_zero, List.getElem?_cons_succ]
  clear hc
  go_wp2_with fail
  refine ⟨rfl, k6, partsI_yield ?_⟩
  simp only [List.cons_append, List.nil_append, List.append_nil, List.filterMap_cons, List.filterMap_nil, List.getElem?_toArray, List.getElem?_cons_zero, List.getElem?_cons_succ]
  go_wp2_with fail
  refine ⟨rfl, _, .agg (rfC X), rfl, kyields_load (by rfl) 48 _ (by rfl) (w1.heap.size) 33 (rfF X.1 X.2) (by rfl) _ 48 (fun W hW => hW.2.1) Try.underlying48 rfl slSizeRef, partsI_yield ?_⟩
  simp only [Act.put, List.setIfInBounds_toArray, List.set_cons_zero, List.set_cons_succ]
  simp only [List.cons_append, List.nil_append, List.append_nil, List.filterMap_cons, List.filterMap_nil, List.getElem?_toArray, List.getElem?_cons_zero, List.getElem?_cons_succ]
  go_wp2_with fail
  refine ⟨rfl, _, .agg (rfC X), rfl, kyields_load (by rfl) 70 _ (by rfl) (w4.heap.size) 33 (rfF X.1 X.2) (by rfl) _ 70 (fun W hW => hW.2.2.1) Try.underlying70 rfl sizeRref, partsI_force ?_⟩
  simp only [Act.put, List.setIfInBounds_toArray, List.set_cons_zero, List.set_cons_succ]
  simp only [List.cons_append, List.nil_append, List.append_nil, List.filterMap_cons, List.filterMap_nil, List.getElem?_toArray, List.getElem?_cons_zero, List.getElem?_cons_succ]
  go_wp2_with fail
  refine (refPlain_any X _).mono ?_
  rintro e v6 ⟨rfl, hv6⟩
  have k7 : RS w w1.heap.size w4.heap.size w8.heap.size r X rf0 v6 := k6.below hv6
  clear hv6 k6
  go_wp2_with fail
  refine ⟨rfl, k7, partsI_force ?_⟩
  simp only [List.cons_append, List.nil_append, List.append_nil, List.filterMap_cons, List.filterMap_nil, List.getElem?_toArray, List.getElem?_cons_zero, List.getElem?_cons_succ]
  go_wp2_with fail
  refine ⟨rfl, k7, partsI_force ?_⟩
  simp only [List.cons_append, List.nil_append, List.append_nil, List.filterMap_cons, List.filterMap_nil, List.getElem?_toArray, List.getElem?_cons_zero, List.getElem?_cons_succ]
  go_wp2_with fail
  refine ⟨rfl, k7, partsI_yield ?_⟩
  simp only [List.cons_append, List.nil_append, List.append_nil, List.filterMap_cons, List.filterMap_nil, List.getElem?_toArray, List.getElem?_cons_zero, List.getElem?_cons_succ]
  go_wp2_with fail
  refine ⟨rfl, _, .agg (rfC r), rfl, kyields_load (by rfl) 48 _ (by rfl) (w.heap.size) 33 (rfF r.1 r.2) (by rfl) _ 48 (fun W hW => hW.1) Try.underlying48 rfl slSizeRef, partsI_force ?_⟩
  simp only [Act.put, List.setIfInBounds_toArray, List.set_cons_zero, List.set_cons_succ]
  simp only [List.cons_append, List.nil_append, List.append_nil, List.filterMap_cons, List.filterMap_nil, List.getElem?_toArray, List.getElem?_cons_zero, List.getElem?_cons_succ]
  go_wp2_with fail
  refine (refRef_any r _).mono ?_
  rintro e v7 ⟨rfl, hv7⟩
  have k8 : RS w w1.heap.size w4.heap.size w8.heap.size r X rf0 v7 := k7.below hv7
  clear hv7 k7
  go_wp2_with fail
  refine ⟨rfl, k8, partsI_force ?_⟩
  simp only [List.cons_append, List.nil_append, List.append_nil, List.filterMap_cons, List.filterMap_nil, List.getElem?_toArray, List.getElem?_cons_zero, List.getElem?_cons_succ]
  go_wp2_with fail
  refine (HRR.out _).mono ?_
  rintro e v8 ⟨rfl, hv8⟩
  have k9 : RS w w1.heap.size w4.heap.size w8.heap.size r X rf0 v8 := k8.below hv8
  clear hv8 k8
  go_wp2_with fail
  refine ⟨rfl, k9, partsI_force ?_⟩
  simp only [List.cons_append, List.nil_append, List.append_nil, List.filterMap_cons, List.filterMap_nil, List.getElem?_toArray, List.getElem?_cons_zero, List.getElem?_cons_succ]
  go_wp2_with fail
  refine ⟨rfl, k9, partsI_yield ?_⟩
  simp only [List.cons_append, List.nil_append, List.append_nil, List.filterMap_cons, List.filterMap_nil, List.getElem?_toArray, List.getElem?_cons_zero, List.getElem?_cons_succ]
  go_wp2_with fail
  refine ⟨rfl, _, .agg (rfC rf0), rfl, kyields_load (by rfl) 48 _ (by rfl) (w8.heap.size) 33 (rfF rf0.1 rf0.2) (by rfl) _ 48 (fun W hW => hW.2.2.2.1) Try.underlying48 rfl slSizeRef, partsI_force ?_⟩
  simp only [Act.put, List.setIfInBounds_toArray, List.set_cons_zero, List.set_cons_succ]
  simp only [List.cons_append, List.nil_append, List.append_nil, List.filterMap_cons, List.filterMap_nil, List.getElem?_toArray, List.getElem?_cons_zero, List.getElem?_cons_succ]
  go_wp2_with fail
  refine ⟨rfl, k9, partsI_force ?_⟩
  simp only [List.cons_append, List.nil_append, List.append_nil, List.filterMap_cons, List.filterMap_nil, List.getElem?_toArray, List.getElem?_cons_zero, List.getElem?_cons_succ]
  go_wp2_with fail
  refine ⟨rfl, k9, partsI_yield ?_⟩
  simp only [List.cons_append, List.nil_append, List.append_nil, List.filterMap_cons, List.filterMap_nil, List.getElem?_toArray, List.getElem?_cons_zero, List.getElem?_cons_succ]
  go_wp2_with fail
  refine ⟨rfl, _, undef, rfl, Or.inr ⟨by rfl, rfl⟩, partsI_yield ?_⟩
  simp only [Act.put, List.setIfInBounds_toArray, List.set_cons_zero, List.set_cons_succ]
  simp only [List.cons_append, List.nil_append, List.append_nil, List.filterMap_cons, List.filterMap_nil, List.getElem?_toArray, List.getElem?_cons_zero, List.getElem?_cons_succ]
  go_wp2_with fail
  refine ⟨rfl, _, undef, rfl, Or.inr ⟨by rfl, rfl⟩, partsI_yield ?_⟩
  simp only [Act.put, List.setIfInBounds_toArray, List.set_cons_zero, List.set_cons_succ]
  simp only [List.cons_append, List.nil_append, List.append_nil, List.filterMap_cons, List.filterMap_nil, List.getElem?_toArray, List.getElem?_cons_zero, List.getElem?_cons_succ]
  go_wp2_with fail
  refine ⟨rfl, _, undef, rfl, Or.inr ⟨by rfl, rfl⟩, partsI_last ?_⟩
  simp only [Act.put, List.setIfInBounds_toArray, List.set_cons_zero, List.set_cons_succ]
  simp only [List.cons_append, List.nil_append, List.append_nil, List.filterMap_cons, List.filterMap_nil, List.getElem?_toArray, List.getElem?_cons_zero, List.getElem?_cons_succ]
  go_wp2_with fail
  refine ⟨rfl, ?_⟩
  go_wp2_with fail
  go_ret
  exact ⟨rfl, k9.2.2.2.2⟩
theorem nodeRefsLaw (r : Rf) (hn : r.1 < 4294967296) (hr : okD r.2) (s : ByteArray) (hs : s.size ≤ maxLen) (i : Int) (hi : -9223372036854775808 ≤ i ∧ i ≤ 9223372036854775807) (w : World) :
    Calls Try.prog 4 #[.agg (rfC r), .string s, .int .i64 i] w fun e w' => e = .returned (.bool true) ∧ Below w.heap.size w w' := by
  obtain ⟨X, b, h1, h2⟩ := decode_same s hs i hi
  cases hO : rOk r
  · exact nodeRefs_no r hn hr hO s i X b h1 h2 w
  · exact nodeRefs_yes r hn hr hO s i X b h1 h2 w
end Go.Proofs.Ytdbcmdafgojnnaa
