/- The statement SlotNil, called with whatever slot: it returns true. -/
import Derived.Test.YtlmbokfgogkbmaaHSlAwake
import Derived.Test.YtlmbokfgogkbmaaHSegsS
import Derived.Handy

namespace Go.Proofs.Ytlmbokfgogkbmaa
open Go Go.RowKit
set_option linter.unusedSimpArgs false
set_option linter.unusedVariables false

set_option maxRecDepth 100000 in
set_option maxHeartbeats 8000000 in
theorem slotNilLaw (s : Sl) (w : World) : Calls Try.prog 6 #[.agg (slC s)] w fun e w' => e = .returned (.bool true) ∧ Below w.heap.size w w' := by
  have hz := zero_slot
  have hR : Hid (∀ (p : Option Addr) (w : World), Calls Try.prog 10 #[.pointer p] w fun e w' => ∃ r m, e = .returned (.pointer (some ⟨r, 0, none⟩)) ∧ RegAt w' w.heap.size r m p (.slice none 0 0) [] ∧ Below w.heap.size w w') := newReg_any
  have hAw : Hid (∀ w : World, Calls Try.prog 9 #[] w fun e w' => e = .returned (.bool true) ∧ Below w.heap.size w w') := awake6_any
  have hRn : Hid (∀ w : World, Calls Try.prog 29 #[.pointer none] w fun e w' => e = .returned (.tuple #[.agg (slC sl0), .int .i64 4]) ∧ Below w.heap.size w w') := regRead_none
  have hDN : Hid (∀ w w' : World, Below w.heap.size w w' → Calls Try.prog 23 #[.pointer none] w' fun e w'' => e = .returned (.bool true) ∧ w' = w'') := fun _ w' _ => dead_nil w'
  have hRd : Hid (∀ (B r m : Nat) (w : World), RegAt w B r m none (.slice none 0 0) [] → Calls Try.prog 29 #[.pointer (some ⟨r, 0, none⟩)] w fun e w' => e = .returned (.tuple #[.agg (slC sl0), .int .i64 4]) ∧ Below w.heap.size w w') := fun B r m w h => regRead_dead w h (hDN.out w)
  have hWn : Hid (∀ w : World, Calls Try.prog 16 #[.pointer none, .agg (slC s)] w fun e w' => e = .returned (.int .i64 4) ∧ Below w.heap.size w w') := regWrite_none s
  have hWd : Hid (∀ (B r m : Nat) (w : World), RegAt w B r m none (.slice none 0 0) [] → Calls Try.prog 16 #[.pointer (some ⟨r, 0, none⟩), .agg (slC s)] w fun e w' => e = .returned (.int .i64 4) ∧ Below w.heap.size w w') := fun B r m w h => regWrite_dead s w h (hDN.out w)
  have hWrn : Hid (∀ w : World, Calls Try.prog 30 #[.pointer none] w fun e w' => e = .returned (.slice none 0 0) ∧ w = w') := written_none
  have hWrt : Hid (∀ (B r m : Nat) (w : World), RegAt w B r m none (.slice none 0 0) [] → Calls Try.prog 30 #[.pointer (some ⟨r, 0, none⟩)] w fun e w' => ∃ a c, e = .returned (.slice a 0 c) ∧ Below w.heap.size w w') := fun B r m w h => (written_at w (by decide) h).mono fun e w' ⟨a, c, h1, _, h2⟩ => ⟨a, c, h1, h2⟩
  have hSn : Hid (∀ w : World, Calls Try.prog 19 #[.pointer none, .agg (slC s)] w fun e w' => e = .returned (.bool false) ∧ Below w.heap.size w w') := was_none s
  have hSt : Hid (∀ (B r m : Nat) (w : World), RegAt w B r m none (.slice none 0 0) [] → Calls Try.prog 19 #[.pointer (some ⟨r, 0, none⟩), .agg (slC s)] w fun e w' => e = .returned (.bool false) ∧ Below w.heap.size w w') := fun B r m w h => by
    have := was_at s w h
    rw [decide_eq_false (by simp)] at this
    exact this
  have hGn : Hid (∀ w : World, Calls Try.prog 31 #[.pointer none] w fun e w' => e = .returned (.int .i64 0) ∧ w = w') := swings_none
  have hGt : Hid (∀ (B r m : Nat) (w : World), RegAt w B r m none (.slice none 0 0) [] → Calls Try.prog 31 #[.pointer (some ⟨r, 0, none⟩)] w fun e w' => e = .returned (.int .i64 0) ∧ w = w') := fun B r m w h => swings_at w h
  have heq : ∀ W, (Op.equalIn 10000 50 (.agg (slC sl0)) (.agg (slC sl0))).run Try.prog W = .ok true W := fun W => by
    have := eq_slot sl0 sl0 W
    rw [decide_eq_true rfl] at this
    exact this
  have k1 := Blk.new w 50 (slC s)
  have hb1 : Below w.heap.size w (w.alloc (.cells (slC s) 50)) := below_new1 _ _
  go_enter Try.func6, Try.ntmps6
  go_wp2_with fail
  generalize (w.alloc (.cells (slC s) 50)) = w1 at *
  refine (hR.out _ _).mono ?_
  rintro e w2 ⟨r, m, rfl, hr2, hb⟩
  have HR2 : Hid (RegAt w2 w1.heap.size r m none (.slice none 0 0) []) := hr2
  have k2 := k1.below hb k1.lt
  have hb2 : Below w.heap.size w w2 := hb1.trans (hb.mono hb1.size)
  clear hr2 hb k1 hb1
  go_wp2_with fail
  refine (hAw.out _).mono ?_
  rintro e w3 ⟨rfl, hb⟩
  have HR3 : Hid (RegAt w3 w1.heap.size r m none (.slice none 0 0) []) := HR2.out.below hb
  have k3 := k2.below hb k2.lt
  have hb3 : Below w.heap.size w w3 := hb2.trans (hb.mono hb2.size)
  clear HR2 hb k2 hb2
  go_wp2_with fail
  refine (hRn.out _).mono ?_
  rintro e w4 ⟨rfl, hb⟩
  have HR4 : Hid (RegAt ((w4.alloc (.cells (slC sl0) 50)).setRow w4.heap.size (slC sl0)) w1.heap.size r m none (.slice none 0 0) []) := (HR3.out.below hb).below (below_setRow (below_new1 _ _) (Nat.le_refl _) _)
  have k4a := k3.below hb k3.lt
  have hb4a : Below w.heap.size w w4 := hb3.trans (hb.mono hb3.size)
  have k4 : Blk ((w4.alloc (.cells (slC sl0) 50)).setRow w4.heap.size (slC sl0)) w.heap.size 50 (slC s) := (k4a.alloc _).other _ (Nat.ne_of_lt k4a.lt)
  have hb4 : Below w.heap.size w ((w4.alloc (.cells (slC sl0) 50)).setRow w4.heap.size (slC sl0)) := below_setRow (hb4a.alloc hb4a.size _) hb4a.size _
  have x0 := Blk.new w4 50 (slC sl0)
  have x4 := x0.set (slC sl0)
  clear HR3 hb k3 hb3 k4a hb4a
  go_wp2_with (first
    | (refine wpList_store_row (by rfl) 50 _ _ (by rfl) (w4.heap.size) (slC sl0) (by rfl) (by rfl) 50 _ x0 (sizeSlot.trans (by rw [slC_size])) (by simp only [slC_size]) (slC_all _) ?_; simp only [Act.put, List.setIfInBounds_toArray, List.set_cons_zero, List.set_cons_succ])
    | fail)
  clear x0
  generalize ((w4.alloc (.cells (slC sl0) 50)).setRow w4.heap.size (slC sl0)) = w5 at *
  refine (hRd.out _ _ _ _ HR4.out).mono ?_
  rintro e w6 ⟨rfl, hb⟩
  have HR6 : Hid (RegAt ((w6.alloc (.cells (slC sl0) 50)).setRow w6.heap.size (slC sl0)) w1.heap.size r m none (.slice none 0 0) []) := (HR4.out.below hb).below (below_setRow (below_new1 _ _) (Nat.le_refl _) _)
  have k6a := k4.below hb k4.lt
  have x6a := x4.below hb x4.lt
  have hb6a : Below w.heap.size w w6 := hb4.trans (hb.mono hb4.size)
  have k6 : Blk ((w6.alloc (.cells (slC sl0) 50)).setRow w6.heap.size (slC sl0)) w.heap.size 50 (slC s) := (k6a.alloc _).other _ (Nat.ne_of_lt k6a.lt)
  have x6 : Blk ((w6.alloc (.cells (slC sl0) 50)).setRow w6.heap.size (slC sl0)) w4.heap.size 50 (slC sl0) := (x6a.alloc _).other _ (Nat.ne_of_lt x6a.lt)
  have hb6 : Below w.heap.size w ((w6.alloc (.cells (slC sl0) 50)).setRow w6.heap.size (slC sl0)) := below_setRow (hb6a.alloc hb6a.size _) hb6a.size _
  have y0 := Blk.new w6 50 (slC sl0)
  have y6 := y0.set (slC sl0)
  clear HR4 hb k4 hb4 k6a hb6a x6a x4
  go_wp2_with (first
    | (refine wpList_store_row (by rfl) 50 _ _ (by rfl) (w6.heap.size) (slC sl0) (by rfl) (by rfl) 50 _ y0 (sizeSlot.trans (by rw [slC_size])) (by simp only [slC_size]) (slC_all _) ?_; simp only [Act.put, List.setIfInBounds_toArray, List.set_cons_zero, List.set_cons_succ])
    | (refine wpList_load_rowg (by rfl) 50 _ (by rfl) (w4.heap.size) (by rfl) 50 (slC sl0) (0, 0) _ x6 Try.underlying50 (by rfl) (sizeSlot.trans (by rw [slC_size])) ?_; simp only [Act.put, List.setIfInBounds_toArray, List.set_cons_zero, List.set_cons_succ])
    | (refine wpList_load_rowg (by rfl) 50 _ (by rfl) (w6.heap.size) (by rfl) 50 (slC sl0) (0, 0) _ y6 Try.underlying50 (by rfl) (sizeSlot.trans (by rw [slC_size])) ?_; simp only [Act.put, List.setIfInBounds_toArray, List.set_cons_zero, List.set_cons_succ])
    | (refine wpList_load_rowg (by rfl) 50 _ (by rfl) (w.heap.size) (by rfl) 50 (slC s) (0, 0) _ k6 Try.underlying50 (by rfl) (sizeSlot.trans (by rw [slC_size])) ?_; simp only [Act.put, List.setIfInBounds_toArray, List.set_cons_zero, List.set_cons_succ])
    | fail)
  clear y0
  generalize ((w6.alloc (.cells (slC sl0) 50)).setRow w6.heap.size (slC sl0)) = w7 at *
  clear x6 y6
  refine (hWn.out _).mono ?_
  rintro e w8 ⟨rfl, hb⟩
  have HR8 : Hid (RegAt w8 w1.heap.size r m none (.slice none 0 0) []) := HR6.out.below hb
  have k8 := k6.below hb k6.lt
  have hb8 : Below w.heap.size w w8 := hb6.trans (hb.mono hb6.size)
  clear HR6 hb k6 hb6
  go_wp2_with (first
    | (refine wpList_load_rowg (by rfl) 50 _ (by rfl) (w.heap.size) (by rfl) 50 (slC s) (0, 0) _ k8 Try.underlying50 (by rfl) (sizeSlot.trans (by rw [slC_size])) ?_; simp only [Act.put, List.setIfInBounds_toArray, List.set_cons_zero, List.set_cons_succ])
    | fail)
  refine (hWd.out _ _ _ _ HR8.out).mono ?_
  rintro e w9 ⟨rfl, hb⟩
  have HR9 : Hid (RegAt w9 w1.heap.size r m none (.slice none 0 0) []) := HR8.out.below hb
  have k9 := k8.below hb k8.lt
  have hb9 : Below w.heap.size w w9 := hb8.trans (hb.mono hb8.size)
  clear HR8 hb k8 hb8
  go_wp2_with fail
  refine (hWrn.out _).mono ?_
  rintro e _ ⟨rfl, rfl⟩
  go_wp2_with fail
  refine (hWrt.out _ _ _ _ HR9.out).mono ?_
  rintro e wa ⟨a0, c0, rfl, hb⟩
  have HRa : Hid (RegAt wa w1.heap.size r m none (.slice none 0 0) []) := HR9.out.below hb
  have ka := k9.below hb k9.lt
  have hba : Below w.heap.size w wa := hb9.trans (hb.mono hb9.size)
  clear HR9 hb k9 hb9
  go_wp2_with (first
    | (refine wpList_load_rowg (by rfl) 50 _ (by rfl) (w.heap.size) (by rfl) 50 (slC s) (0, 0) _ ka Try.underlying50 (by rfl) (sizeSlot.trans (by rw [slC_size])) ?_; simp only [Act.put, List.setIfInBounds_toArray, List.set_cons_zero, List.set_cons_succ])
    | fail)
  refine (hSn.out _).mono ?_
  rintro e wb ⟨rfl, hb⟩
  have HRb : Hid (RegAt wb w1.heap.size r m none (.slice none 0 0) []) := HRa.out.below hb
  have kb := ka.below hb ka.lt
  have hbb : Below w.heap.size w wb := hba.trans (hb.mono hba.size)
  clear HRa hb ka hba
  go_wp2_with (first
    | (refine wpList_load_rowg (by rfl) 50 _ (by rfl) (w.heap.size) (by rfl) 50 (slC s) (0, 0) _ kb Try.underlying50 (by rfl) (sizeSlot.trans (by rw [slC_size])) ?_; simp only [Act.put, List.setIfInBounds_toArray, List.set_cons_zero, List.set_cons_succ])
    | fail)
  refine (hSt.out _ _ _ _ HRb.out).mono ?_
  rintro e wc ⟨rfl, hb⟩
  have HRc : Hid (RegAt wc w1.heap.size r m none (.slice none 0 0) []) := HRb.out.below hb
  have hbc : Below w.heap.size w wc := hbb.trans (hb.mono hbb.size)
  clear HRb hb kb hbb
  go_wp2_with fail
  refine (hGn.out _).mono ?_
  rintro e _ ⟨rfl, rfl⟩
  go_wp2_with fail
  refine (hGt.out _ _ _ _ HRc.out).mono ?_
  rintro e _ ⟨rfl, rfl⟩
  go_wp2_with fail
  go_ret
  exact ⟨rfl, hbc⟩
end Go.Proofs.Ytlmbokfgogkbmaa
