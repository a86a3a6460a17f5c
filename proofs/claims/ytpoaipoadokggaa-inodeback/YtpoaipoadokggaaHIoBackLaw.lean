/- Inodes there and back: the statement. -/
import Derived.Test.YtpoaipoadokggaaHIoLeaf
import Derived.Test.YtpoaipoadokggaaHIoOpen
import Derived.Handy

namespace Go.Proofs.Ytpoaipoadokggaa
set_option maxRecDepth 20000
open Go Go.RowKit
set_option linter.unusedVariables false
set_option linter.unusedSimpArgs false
set_option maxHeartbeats 16000000 in
theorem inodeBackLaw (L : Nat → Ino) (hL : ∀ i, i < 4 → InW (L i)) (v : Value) (s : ByteArray) (hs : s.size ≤ maxLen) (n : Int) (hn : -9223372036854775808 ≤ n ∧ n ≤ 9223372036854775807) (w : World) (hv : IsB w v s) :
    Calls Try.prog 6 #[.agg (foC L), v, .int .i64 n] w fun e w' => e = .returned (.bool true) ∧ Below w.heap.size w w' := by
  have hzi := zero_ino
  have hzf := zero_fo
  have hzb := zero_bk
  have HA : Hid (∀ w : World, Calls Try.prog 7 #[] w fun e w' => e = .returned (.bool true) ∧ Below w.heap.size w w') := awake14_any
  have HV : Hid (IsB w v s) := hv
  have l_w0 : Blk (w.alloc (.cells (foC L) 58)) w.heap.size 58 (foC L) := Blk.new _ _ _
  have HB_w0 : Hid (Below w.heap.size w (w.alloc (.cells (foC L) 58)) ∧ w.heap.size < (w.alloc (.cells (foC L) 58)).heap.size) := ⟨below_new1 _ _, by simp⟩
  clear hv
  go_enter Try.func6, Try.ntmps6
  go_wp2_with fail
  generalize (w.alloc (.cells (foC L) 58)) = w0 at *
  refine (HA.out _).mono ?_
  intro e w1 hw_w1
  obtain ⟨he_w1, hb_w1⟩ := hw_w1
  subst he_w1
  have l_w1 : Blk w1 (w.heap.size) 58 (foC L) := l_w0.below hb_w1 l_w0.lt
  have HB_w1 : Hid (Below w.heap.size w w1 ∧ w.heap.size < w1.heap.size) := ⟨HB_w0.out.1.trans (hb_w1.mono HB_w0.out.1.size), Nat.lt_of_lt_of_le HB_w0.out.2 hb_w1.size⟩
  clear hb_w1 HB_w0 l_w0 HA
  go_wp2_with (first
    | (refine wpList_load_row (by rfl) 58 _ (by rfl) (w.heap.size) (by rfl) 58 (foC L) (0, 0) _ (by exact l_w1) Try.underlying58 (by rfl) (sizeFo.trans (by rw [foC_size])) ?_; simp only [Act.put, List.setIfInBounds_toArray, List.set_cons_zero, List.set_cons_succ])
    | fail)
  go_loopw [33] (fun i wr => Hid (∃ p : Nat, p ≤ 4 ∧ i = .int .i64 (p : Int) ∧ Blk wr w.heap.size 58 (foC L) ∧ Below w.heap.size w wr)) (fun i _ => 4 - (intOf i).toNat)
  case atStart => exact ⟨0, by omega, rfl, l_w1, HB_w1.out.1⟩
  case round =>
    obtain ⟨p, hp, rfl, l_wr, hb⟩ := Hid.out hrel
    have HB_wr : Hid (Below w.heap.size w wr ∧ w.heap.size < wr.heap.size) := ⟨hb, l_wr.lt⟩
    clear hrel HB_w1 l_w1 hb
    by_cases h4 : p < 4
    · have p1 : (p : Int) < 4 := by omega
      have hx := run_index_ino L p h4
      have hw := hL p h4
      have heq : ∀ W, (Op.equalIn 10000 31 (.agg (inC (L p))) (.agg (inC (L p)))).run Try.prog W = .ok true W := fun W => by rw [eq_ino 9995 (L p) (L p) W, decide_eq_true rfl]
      have HK : Hid (∀ w : World, Calls Try.prog 11 #[.agg (inC (L p))] w fun e w' => e = .returned (.int .i64 (if chk (L p) = true then 0 else 140)) ∧ Below w.heap.size w w') := check_any (L p) hw
      have HEN : Hid (chk (L p) = false → ∀ w : World, Calls Try.prog 8 #[.agg (inC (L p))] w fun e w' => e = .returned (.tuple #[.slice none 0 0, .int .i64 140]) ∧ Below w.heap.size w w') := fun hc => encode_no (L p) hw hc
      have HEY : Hid (chk (L p) = true → ∀ w : World, Calls Try.prog 8 #[.agg (inC (L p))] w fun e w' => ∃ g, e = .returned (.tuple #[.slice (some ⟨g, 0, none⟩) 64 64, .int .i64 0]) ∧ w.heap.size ≤ g ∧ Blk w' g 5 (va 64 (iv .u8 (inB (L p)))) ∧ Below w.heap.size w w') := fun hc => encode_ok (L p) hw hc
      have HDY : Hid (chk (L p) = true → ∀ (w : World) (v : Value), IsB w v (strN (inB (L p)) 64) → Calls Try.prog 12 #[v] w fun e w' => e = .returned (.tuple #[.agg (inC (L p)), .int .i64 0]) ∧ Below w.heap.size w w') := fun hc w v hv => by
        have := decode_any v (strN (inB (L p)) 64) (by rw [enc_size]; decide) w hv
        rw [(dec_enc (L p) hw hc).2.1, (dec_enc (L p) hw hc).2.2] at this
        exact this
      clear hw
      have qa_w2 : Blk (wr.alloc (.cells (inC in0) 31)) wr.heap.size 31 (inC in0) := Blk.new _ _ _
      have x_w2 : Blk ((wr.alloc (.cells (inC in0) 31)).setRow wr.heap.size (inC (L p))) wr.heap.size 31 (inC (L p)) := qa_w2.set _
      have l_w2 : Blk ((wr.alloc (.cells (inC in0) 31)).setRow wr.heap.size (inC (L p))) (w.heap.size) 58 (foC L) := (l_wr.alloc _).other _ (by have := l_wr.lt; omega)
      have HB_w2 : Hid (Below w.heap.size w ((wr.alloc (.cells (inC in0) 31)).setRow wr.heap.size (inC (L p))) ∧ w.heap.size < ((wr.alloc (.cells (inC in0) 31)).setRow wr.heap.size (inC (L p))).heap.size) := ⟨below_setRow (HB_wr.out.1.alloc HB_wr.out.1.size _) HB_wr.out.1.size _, by have := HB_wr.out.2; simp; omega⟩
      go_wp2_with (first
        | (refine wpList_store_row (by rfl) 31 _ _ (by rfl) (wr.heap.size) (inC (L p)) (by rfl) (by rfl) 31 (inC in0) (by exact qa_w2) (sizeIno.trans (by rw [inC_size])) (by simp only [inC_size]) (inC_all _) ?_; simp only [Act.put, List.setIfInBounds_toArray, List.set_cons_zero, List.set_cons_succ])
        | (refine wpList_load_row (by rfl) 31 _ (by rfl) (wr.heap.size) (by rfl) 31 (inC (L p)) (0, 0) _ (by exact x_w2) Try.underlying31 (by rfl) (sizeIno.trans (by rw [inC_size])) ?_; simp only [Act.put, List.setIfInBounds_toArray, List.set_cons_zero, List.set_cons_succ])
        | fail)
      generalize ((wr.alloc (.cells (inC in0) 31)).setRow wr.heap.size (inC (L p))) = w2 at *
      generalize wr.heap.size = gx at *
      clear hx qa_w2
      cases hc : chk (L p)
      · rw [hc] at HK
        have HK2 : Hid (∀ w : World, Calls Try.prog 11 #[.agg (inC (L p))] w fun e w' => e = .returned (.int .i64 140) ∧ Below w.heap.size w w') := HK.out
        clear HK
        refine (HEN.out hc _).mono ?_
        intro e w3 hw_w3
        obtain ⟨he_w3, hb_w3⟩ := hw_w3
        subst he_w3
        have l_w3 : Blk w3 (w.heap.size) 58 (foC L) := l_w2.below hb_w3 l_w2.lt
        have x_w3 : Blk w3 (gx) 31 (inC (L p)) := x_w2.below hb_w3 x_w2.lt
        have HB_w3 : Hid (Below w.heap.size w w3 ∧ w.heap.size < w3.heap.size) := ⟨HB_w2.out.1.trans (hb_w3.mono HB_w2.out.1.size), Nat.lt_of_lt_of_le HB_w2.out.2 hb_w3.size⟩
        clear hb_w3 HB_w2 l_w2 x_w2 HEN HEY HDY
        go_wp2_with (first
          | (refine wpList_load_row (by rfl) 31 _ (by rfl) (gx) (by rfl) 31 (inC (L p)) (0, 0) _ (by exact x_w3) Try.underlying31 (by rfl) (sizeIno.trans (by rw [inC_size])) ?_; simp only [Act.put, List.setIfInBounds_toArray, List.set_cons_zero, List.set_cons_succ])
          | fail)
        refine (HK2.out _).mono ?_
        intro e w4 hw_w4
        obtain ⟨he_w4, hb_w4⟩ := hw_w4
        subst he_w4
        have l_w4 : Blk w4 (w.heap.size) 58 (foC L) := l_w3.below hb_w4 l_w3.lt
        have HB_w4 : Hid (Below w.heap.size w w4 ∧ w.heap.size < w4.heap.size) := ⟨HB_w3.out.1.trans (hb_w4.mono HB_w3.out.1.size), Nat.lt_of_lt_of_le HB_w3.out.2 hb_w4.size⟩
        clear hb_w4 HB_w3 l_w3 x_w3 HK2
        go_wp2_with fail
        go_roundw
        case rel => exact ⟨p + 1, by omega, by simp, l_w4, HB_w4.out.1⟩
        case measure => simp [intOf]; omega
      · rw [hc] at HK
        have HK2 : Hid (∀ w : World, Calls Try.prog 11 #[.agg (inC (L p))] w fun e w' => e = .returned (.int .i64 0) ∧ Below w.heap.size w w') := HK.out
        clear HK
        refine (HEY.out hc _).mono ?_
        intro e w3 hw_w3
        obtain ⟨g, he_w3, hge_w3, hk_w3, hb_w3⟩ := hw_w3
        subst he_w3
        have l_w3 : Blk w3 (w.heap.size) 58 (foC L) := l_w2.below hb_w3 l_w2.lt
        have x_w3 : Blk w3 (gx) 31 (inC (L p)) := x_w2.below hb_w3 x_w2.lt
        have HB_w3 : Hid (Below w.heap.size w w3 ∧ w.heap.size < w3.heap.size) := ⟨HB_w2.out.1.trans (hb_w3.mono HB_w2.out.1.size), Nat.lt_of_lt_of_le HB_w2.out.2 hb_w3.size⟩
        have HS : Hid (IsB w3 (.slice (some ⟨g, 0, none⟩) 64 64) (strN (inB (L p)) 64)) := IsB.all hk_w3
        clear hb_w3 HB_w2 l_w2 x_w2 HEN HEY hk_w3 hge_w3
        go_wp2_with (first
          | (refine wpList_load_row (by rfl) 31 _ (by rfl) (gx) (by rfl) 31 (inC (L p)) (0, 0) _ (by exact x_w3) Try.underlying31 (by rfl) (sizeIno.trans (by rw [inC_size])) ?_; simp only [Act.put, List.setIfInBounds_toArray, List.set_cons_zero, List.set_cons_succ])
          | fail)
        refine (HK2.out _).mono ?_
        intro e w4 hw_w4
        obtain ⟨he_w4, hb_w4⟩ := hw_w4
        subst he_w4
        have l_w4 : Blk w4 (w.heap.size) 58 (foC L) := l_w3.below hb_w4 l_w3.lt
        have x_w4 : Blk w4 (gx) 31 (inC (L p)) := x_w3.below hb_w4 x_w3.lt
        have HB_w4 : Hid (Below w.heap.size w w4 ∧ w.heap.size < w4.heap.size) := ⟨HB_w3.out.1.trans (hb_w4.mono HB_w3.out.1.size), Nat.lt_of_lt_of_le HB_w3.out.2 hb_w4.size⟩
        have HS4 := HS.out.below hb_w4
        have HDD := HDY.out hc w4 _ HS4
        clear hb_w4 HB_w3 l_w3 x_w3 HK2 HS HS4 HDY
        go_wp2_with fail
        refine (HDD).mono ?_
        intro e w5 hw_w5
        obtain ⟨he_w5, hb_w5⟩ := hw_w5
        subst he_w5
        have l_w5 : Blk w5 (w.heap.size) 58 (foC L) := l_w4.below hb_w5 l_w4.lt
        have x_w5 : Blk w5 (gx) 31 (inC (L p)) := x_w4.below hb_w5 x_w4.lt
        have HB_w5 : Hid (Below w.heap.size w w5 ∧ w.heap.size < w5.heap.size) := ⟨HB_w4.out.1.trans (hb_w5.mono HB_w4.out.1.size), Nat.lt_of_lt_of_le HB_w4.out.2 hb_w5.size⟩
        clear hb_w5 HB_w4 l_w4 x_w4 HDD
        have qa_w6 : Blk (w5.alloc (.cells (inC in0) 31)) w5.heap.size 31 (inC in0) := Blk.new _ _ _
        have y_w6 : Blk ((w5.alloc (.cells (inC in0) 31)).setRow w5.heap.size (inC (L p))) w5.heap.size 31 (inC (L p)) := qa_w6.set _
        have l_w6 : Blk ((w5.alloc (.cells (inC in0) 31)).setRow w5.heap.size (inC (L p))) (w.heap.size) 58 (foC L) := (l_w5.alloc _).other _ (by have := l_w5.lt; omega)
        have x_w6 : Blk ((w5.alloc (.cells (inC in0) 31)).setRow w5.heap.size (inC (L p))) (gx) 31 (inC (L p)) := (x_w5.alloc _).other _ (by have := x_w5.lt; omega)
        have HB_w6 : Hid (Below w.heap.size w ((w5.alloc (.cells (inC in0) 31)).setRow w5.heap.size (inC (L p))) ∧ w.heap.size < ((w5.alloc (.cells (inC in0) 31)).setRow w5.heap.size (inC (L p))).heap.size) := ⟨below_setRow (HB_w5.out.1.alloc HB_w5.out.1.size _) HB_w5.out.1.size _, by have := HB_w5.out.2; simp; omega⟩
        go_wp2_with (first
          | (refine wpList_store_row (by rfl) 31 _ _ (by rfl) (w5.heap.size) (inC (L p)) (by rfl) (by rfl) 31 (inC in0) (by exact qa_w6) (sizeIno.trans (by rw [inC_size])) (by simp only [inC_size]) (inC_all _) ?_; simp only [Act.put, List.setIfInBounds_toArray, List.set_cons_zero, List.set_cons_succ])
          | (refine wpList_load_rowg (by rfl) 31 _ (by rfl) (w5.heap.size) (by rfl) 31 (inC (L p)) (0, 0) _ (by exact y_w6) Try.underlying31 (by rfl) (sizeIno.trans (by rw [inC_size])) ?_; simp only [Act.put, List.setIfInBounds_toArray, List.set_cons_zero, List.set_cons_succ])
          | (refine wpList_load_rowg (by rfl) 31 _ (by rfl) (gx) (by rfl) 31 (inC (L p)) (0, 0) _ (by exact x_w6) Try.underlying31 (by rfl) (sizeIno.trans (by rw [inC_size])) ?_; simp only [Act.put, List.setIfInBounds_toArray, List.set_cons_zero, List.set_cons_succ])
          | fail)
        go_roundw
        case rel => exact ⟨p + 1, by omega, by simp, l_w6, HB_w6.out.1⟩
        case measure => simp [intOf]; omega
    · have e4 : p = 4 := by omega
      subst e4
      clear h4 hp
      have HD : Hid (Calls Try.prog 12 #[v] wr fun e w' => e = .returned (.tuple #[.agg (inC (decV s)), .int .i64 (decE s)]) ∧ Below wr.heap.size wr w') := decode_any v s hs wr (fun W hW => HV.out W (HB_wr.out.1.trans (hW.mono HB_wr.out.1.size)))
      have hvw := decV_w s
      have HLF : Hid (∀ w : World, Calls Try.prog 21 #[.agg (foC L)] w fun e w' => e = .returned (.tuple #[.agg (va 256 (iv .u8 (leB L))), .int .i64 (leA (chkA L)), .int .i64 (leE (chkA L))]) ∧ Below w.heap.size w w') := leaf14_any L hL
      have HFZ : Hid (∀ w : World, Calls Try.prog 22 #[.agg (va 256 (iv .u8 fun _ => 0))] w fun e w' => (∃ at_, e = .returned (.tuple #[.agg (foC fun _ => in0), .int .i64 at_, .int .i64 0])) ∧ Below w.heap.size w w') := fun w => by
        have := from14_any (fun _ => 0) w
        rw [from_zero.2, fo_congr from_zero.1] at this
        exact this.mono fun e w' h => ⟨⟨_, h.1⟩, h.2⟩
      have hez : ∀ W, (Op.equalIn 10000 58 (.agg (foC fun _ => in0)) (.agg (foC fun _ => in0))).run Try.prog W = .ok true W := fun W => by
        rw [eq_fo]
        congr 1
      have HPL : Hid (∀ w : World, Calls Try.prog 18 #[.int .i64 n] w fun e w' => e = .returned (if 1 ≤ n ∧ n ≤ 4096 then .tuple #[.int .i64 ((n - 1) / 4), .int .i64 ((n - 1) % 4), .int .i64 0] else .tuple #[.int .i64 0, .int .i64 0, .int .i64 141]) ∧ w' = w) := place_any n hn
      have HPN : Hid (n ≤ 4096 → ∀ w : World, Calls Try.prog 18 #[.int .i64 (n + 1)] w fun e w' => e = .returned (if 1 ≤ n + 1 ∧ n + 1 ≤ 4096 then .tuple #[.int .i64 ((n + 1 - 1) / 4), .int .i64 ((n + 1 - 1) % 4), .int .i64 0] else .tuple #[.int .i64 0, .int .i64 0, .int .i64 141]) ∧ w' = w) := fun h => place_any (n + 1) (by omega)
      go_wp2_with fail
      refine (HD.out).mono ?_
      intro e w2 hw_w2
      obtain ⟨he_w2, hb_w2⟩ := hw_w2
      subst he_w2
      have l_w2 : Blk w2 (w.heap.size) 58 (foC L) := l_wr.below hb_w2 l_wr.lt
      have HB_w2 : Hid (Below w.heap.size w w2 ∧ w.heap.size < w2.heap.size) := ⟨HB_wr.out.1.trans (hb_w2.mono HB_wr.out.1.size), Nat.lt_of_lt_of_le HB_wr.out.2 hb_w2.size⟩
      clear HB_wr l_wr HD
      have qa_w3 : Blk (w2.alloc (.cells (inC in0) 31)) w2.heap.size 31 (inC in0) := Blk.new _ _ _
      have y_w3 : Blk ((w2.alloc (.cells (inC in0) 31)).setRow w2.heap.size (inC (decV s))) w2.heap.size 31 (inC (decV s)) := qa_w3.set _
      have l_w3 : Blk ((w2.alloc (.cells (inC in0) 31)).setRow w2.heap.size (inC (decV s))) (w.heap.size) 58 (foC L) := (l_w2.alloc _).other _ (by have := l_w2.lt; omega)
      have HB_w3 : Hid (Below w.heap.size w ((w2.alloc (.cells (inC in0) 31)).setRow w2.heap.size (inC (decV s))) ∧ w.heap.size < ((w2.alloc (.cells (inC in0) 31)).setRow w2.heap.size (inC (decV s))).heap.size) := ⟨below_setRow (HB_w2.out.1.alloc HB_w2.out.1.size _) HB_w2.out.1.size _, by have := HB_w2.out.2; simp; omega⟩
      cases hk : decOk s
      · have e1 : decE s = 140 := by unfold decE; rw [hk]; rfl
        rw [e1]
        clear e1 hvw
        go_wp2_with (first
          | (refine wpList_store_row (by rfl) 31 _ _ (by rfl) (w2.heap.size) (inC (decV s)) (by rfl) (by rfl) 31 (inC in0) (by exact qa_w3) (sizeIno.trans (by rw [inC_size])) (by simp only [inC_size]) (inC_all _) ?_; simp only [Act.put, List.setIfInBounds_toArray, List.set_cons_zero, List.set_cons_succ])
          | (refine wpList_load_row (by rfl) 58 _ (by rfl) (w.heap.size) (by rfl) 58 (foC L) (0, 0) _ (by exact l_w3) Try.underlying58 (by rfl) (sizeFo.trans (by rw [foC_size])) ?_; simp only [Act.put, List.setIfInBounds_toArray, List.set_cons_zero, List.set_cons_succ])
          | fail)
        generalize ((w2.alloc (.cells (inC in0) 31)).setRow w2.heap.size (inC (decV s))) = w3 at *
        clear y_w3 qa_w3
        refine (HLF.out _).mono ?_
        intro e w6 hw_w6
        obtain ⟨he_w6, hb_w6⟩ := hw_w6
        subst he_w6
        have l_w6 : Blk w6 (w.heap.size) 58 (foC L) := l_w3.below hb_w6 l_w3.lt
        have HB_w6 : Hid (Below w.heap.size w w6 ∧ w.heap.size < w6.heap.size) := ⟨HB_w3.out.1.trans (hb_w6.mono HB_w3.out.1.size), Nat.lt_of_lt_of_le HB_w3.out.2 hb_w6.size⟩
        clear hb_w6 HB_w3 l_w3
        have qa_w7 : Blk (w6.alloc (.cells (va 256 (iv .u8 fun _ => 0)) 60)) w6.heap.size 60 (va 256 (iv .u8 fun _ => 0)) := Blk.new _ _ _
        have c_w7 : Blk ((w6.alloc (.cells (va 256 (iv .u8 fun _ => 0)) 60)).setRow w6.heap.size (va 256 (iv .u8 (leB L)))) w6.heap.size 60 (va 256 (iv .u8 (leB L))) := qa_w7.set _
        have l_w7 : Blk ((w6.alloc (.cells (va 256 (iv .u8 fun _ => 0)) 60)).setRow w6.heap.size (va 256 (iv .u8 (leB L)))) (w.heap.size) 58 (foC L) := (l_w6.alloc _).other _ (by have := l_w6.lt; omega)
        have HB_w7 : Hid (Below w.heap.size w ((w6.alloc (.cells (va 256 (iv .u8 fun _ => 0)) 60)).setRow w6.heap.size (va 256 (iv .u8 (leB L)))) ∧ w.heap.size < ((w6.alloc (.cells (va 256 (iv .u8 fun _ => 0)) 60)).setRow w6.heap.size (va 256 (iv .u8 (leB L)))).heap.size) := ⟨below_setRow (HB_w6.out.1.alloc HB_w6.out.1.size _) HB_w6.out.1.size _, by have := HB_w6.out.2; simp; omega⟩
        by_cases hbd : bdF (chkA L) = 4
        · have e1 : leB L = lfF L 4 := if_pos hbd
          have e2 : leE (chkA L) = 0 := if_pos hbd
          have hall : ∀ i, i < 4 → chk (L i) = true := bd_all hbd
          have HFB : Hid (∀ w : World, Calls Try.prog 22 #[.agg (va 256 (iv .u8 (leB L)))] w fun e w' => (∃ at_, e = .returned (.tuple #[.agg (foC L), .int .i64 at_, .int .i64 0])) ∧ Below w.heap.size w w') := fun w => by
            have := from14_any (lfF L 4) w
            rw [(from_leaf L hL hall).2, fo_congr (from_leaf L hL hall).1, ← e1] at this
            exact this.mono fun e w' h => ⟨⟨_, h.1⟩, h.2⟩
          have hel : ∀ W, (Op.equalIn 10000 58 (.agg (foC L)) (.agg (foC L))).run Try.prog W = .ok true W := fun W => by
            rw [eq_fo]
            congr 1
            simp
          rw [e2]
          clear e1 e2 hall hbd
          go_wp2_with (first
            | (refine wpList_store_row (by rfl) 60 _ _ (by rfl) (w6.heap.size) (va 256 (iv .u8 (leB L))) (by rfl) (by rfl) 60 (va 256 (iv .u8 fun _ => 0)) (by exact qa_w7) (sizeBk.trans (by rw [va_size])) (by simp only [va_size]) (iv_one _ _ _) ?_; simp only [Act.put, List.setIfInBounds_toArray, List.set_cons_zero, List.set_cons_succ])
            | (refine wpList_load_row (by rfl) 60 _ (by rfl) (w6.heap.size) (by rfl) 60 (va 256 (iv .u8 (leB L))) (0, 0) _ (by exact c_w7) Try.underlying60 (by rfl) (sizeBk.trans (by rw [va_size])) ?_; simp only [Act.put, List.setIfInBounds_toArray, List.set_cons_zero, List.set_cons_succ])
            | fail)
          generalize ((w6.alloc (.cells (va 256 (iv .u8 fun _ => 0)) 60)).setRow w6.heap.size (va 256 (iv .u8 (leB L)))) = w7 at *
          refine (HFB.out _).mono ?_
          intro e w8 hw_w8
          obtain ⟨⟨at_w8, he_w8⟩, hb_w8⟩ := hw_w8
          subst he_w8
          have l_w8 : Blk w8 (w.heap.size) 58 (foC L) := l_w7.below hb_w8 l_w7.lt
          have HB_w8 : Hid (Below w.heap.size w w8 ∧ w.heap.size < w8.heap.size) := ⟨HB_w7.out.1.trans (hb_w8.mono HB_w7.out.1.size), Nat.lt_of_lt_of_le HB_w7.out.2 hb_w8.size⟩
          clear hb_w8
          clear HB_w7 l_w7 c_w7 qa_w7 HFB
          have qa_w9 : Blk (w8.alloc (.cells (foC fun _ => in0) 58)) w8.heap.size 58 (foC fun _ => in0) := Blk.new _ _ _
          have k_w9 : Blk ((w8.alloc (.cells (foC fun _ => in0) 58)).setRow w8.heap.size (foC L)) w8.heap.size 58 (foC L) := qa_w9.set _
          have l_w9 : Blk ((w8.alloc (.cells (foC fun _ => in0) 58)).setRow w8.heap.size (foC L)) (w.heap.size) 58 (foC L) := (l_w8.alloc _).other _ (by have := l_w8.lt; omega)
          have HB_w9 : Hid (Below w.heap.size w ((w8.alloc (.cells (foC fun _ => in0) 58)).setRow w8.heap.size (foC L)) ∧ w.heap.size < ((w8.alloc (.cells (foC fun _ => in0) 58)).setRow w8.heap.size (foC L)).heap.size) := ⟨below_setRow (HB_w8.out.1.alloc HB_w8.out.1.size _) HB_w8.out.1.size _, by have := HB_w8.out.2; simp; omega⟩
          go_wp2_with (first
            | (refine wpList_store_row (by rfl) 58 _ _ (by rfl) (w8.heap.size) (foC L) (by rfl) (by rfl) 58 (foC fun _ => in0) (by exact qa_w9) (sizeFo.trans (by rw [foC_size])) (by simp only [foC_size]) (foC_all _) ?_; simp only [Act.put, List.setIfInBounds_toArray, List.set_cons_zero, List.set_cons_succ])
            | (refine wpList_load_rowg (by rfl) 58 _ (by rfl) (w8.heap.size) (by rfl) 58 (foC L) (0, 0) _ (by exact k_w9) Try.underlying58 (by rfl) (sizeFo.trans (by rw [foC_size])) ?_; simp only [Act.put, List.setIfInBounds_toArray, List.set_cons_zero, List.set_cons_succ])
            | (refine wpList_load_rowg (by rfl) 58 _ (by rfl) (w.heap.size) (by rfl) 58 (foC L) (0, 0) _ (by exact l_w9) Try.underlying58 (by rfl) (sizeFo.trans (by rw [foC_size])) ?_; simp only [Act.put, List.setIfInBounds_toArray, List.set_cons_zero, List.set_cons_succ])
            | fail)
          generalize ((w8.alloc (.cells (foC fun _ => in0) 58)).setRow w8.heap.size (foC L)) = w9 at *
          refine (HFZ.out _).mono ?_
          intro e w10 hw_w10
          obtain ⟨⟨at_w10, he_w10⟩, hb_w10⟩ := hw_w10
          subst he_w10
          have HB_w10 : Hid (Below w.heap.size w w10 ∧ w.heap.size < w10.heap.size) := ⟨HB_w9.out.1.trans (hb_w10.mono HB_w9.out.1.size), Nat.lt_of_lt_of_le HB_w9.out.2 hb_w10.size⟩
          clear hb_w10
          clear HB_w9 HFZ
          have qa_w11 : Blk (w10.alloc (.cells (foC fun _ => in0) 58)) w10.heap.size 58 (foC fun _ => in0) := Blk.new _ _ _
          have z_w11 : Blk ((w10.alloc (.cells (foC fun _ => in0) 58)).setRow w10.heap.size (foC fun _ => in0)) w10.heap.size 58 (foC fun _ => in0) := qa_w11.set _
          have HB_w11 : Hid (Below w.heap.size w ((w10.alloc (.cells (foC fun _ => in0) 58)).setRow w10.heap.size (foC fun _ => in0)) ∧ w.heap.size < ((w10.alloc (.cells (foC fun _ => in0) 58)).setRow w10.heap.size (foC fun _ => in0)).heap.size) := ⟨below_setRow (HB_w10.out.1.alloc HB_w10.out.1.size _) HB_w10.out.1.size _, by have := HB_w10.out.2; simp; omega⟩
          go_wp2_with (first
            | (refine wpList_store_row (by rfl) 58 _ _ (by rfl) (w10.heap.size) (foC fun _ => in0) (by rfl) (by rfl) 58 (foC fun _ => in0) (by exact qa_w11) (sizeFo.trans (by rw [foC_size])) (by simp only [foC_size]) (foC_all _) ?_; simp only [Act.put, List.setIfInBounds_toArray, List.set_cons_zero, List.set_cons_succ])
            | (refine wpList_load_rowg (by rfl) 58 _ (by rfl) (w10.heap.size) (by rfl) 58 (foC fun _ => in0) (0, 0) _ (by exact z_w11) Try.underlying58 (by rfl) (sizeFo.trans (by rw [foC_size])) ?_; simp only [Act.put, List.setIfInBounds_toArray, List.set_cons_zero, List.set_cons_succ])
            | fail)
          generalize ((w10.alloc (.cells (foC fun _ => in0) 58)).setRow w10.heap.size (foC fun _ => in0)) = w11 at *
          clear z_w11 qa_w11 HB_w10 hez
          refine (HPL.out _).mono ?_
          intro e w12 hw_12
          obtain ⟨he_12, hb_12⟩ := hw_12
          subst he_12 hb_12
          by_cases hn1 : 1 ≤ n ∧ n ≤ 4096
          · rw [if_pos hn1]
            obtain ⟨m1, m2⟩ := hn1
            have HP2 := HPN.out m2
            clear HPN HPL
            have j1 : 0 ≤ (n - 1) / 4 := by omega
            have j2 : 0 ≤ (n - 1) % 4 := by omega
            have j3 : (n - 1) % 4 < 4 := by omega
            have j0 : n + 1 ≤ 4097 := by omega
            have j7 : (n - 1) / 4 ≤ 1024 := by omega
            by_cases hn2 : n + 1 ≤ 4096
            · rw [if_pos ⟨by omega, hn2⟩] at HP2
              have HJ : Hid (4 * ((n + 1 - 1) / 4) + (n + 1 - 1) % 4 = 4 * ((n - 1) / 4) + (n - 1) % 4 + 1) := by show 4 * ((n + 1 - 1) / 4) + (n + 1 - 1) % 4 = 4 * ((n - 1) / 4) + (n - 1) % 4 + 1; omega
              have j8 : 0 ≤ (n + 1 - 1) / 4 ∧ (n + 1 - 1) / 4 ≤ 1024 := by omega
              have j9 : 0 ≤ (n + 1 - 1) % 4 ∧ (n + 1 - 1) % 4 < 4 := by omega
              generalize (n + 1 - 1) / 4 = a2 at *
              generalize (n + 1 - 1) % 4 = i2 at *
              generalize (n - 1) / 4 = a1 at *
              generalize (n - 1) % 4 = i1 at *
              go_wp2_with fail
              refine (HP2 _).mono ?_
              intro e w13 hw_13
              obtain ⟨he_13, hb_13⟩ := hw_13
              subst he_13 hb_13
              have hj := HJ.out
              go_wp2_with fail
              go_ret
              exact ⟨by first | rfl | (simp; omega), HB_w11.out.1⟩
            · rw [if_neg (fun h => hn2 h.2)] at HP2
              generalize (n - 1) / 4 = a1 at *
              generalize (n - 1) % 4 = i1 at *
              go_wp2_with fail
              refine (HP2 _).mono ?_
              intro e w13 hw_13
              obtain ⟨he_13, hb_13⟩ := hw_13
              subst he_13 hb_13
              go_wp2_with fail
              go_ret
              exact ⟨by first | rfl | (simp; omega), HB_w11.out.1⟩
          · rw [if_neg hn1]
            clear HPN HPL
            by_cases hn2 : n < 1
            · clear hn1
              go_wp2_with fail
              go_ret
              exact ⟨by first | rfl | simp, HB_w11.out.1⟩
            · have hn3 : 4096 < n := by omega
              clear hn1
              go_wp2_with fail
              go_ret
              exact ⟨by first | rfl | simp, HB_w11.out.1⟩
        · have e2 : leE (chkA L) = 140 := if_neg hbd
          rw [e2]
          clear e2 hbd
          go_wp2_with (first
            | (refine wpList_store_row (by rfl) 60 _ _ (by rfl) (w6.heap.size) (va 256 (iv .u8 (leB L))) (by rfl) (by rfl) 60 (va 256 (iv .u8 fun _ => 0)) (by exact qa_w7) (sizeBk.trans (by rw [va_size])) (by simp only [va_size]) (iv_one _ _ _) ?_; simp only [Act.put, List.setIfInBounds_toArray, List.set_cons_zero, List.set_cons_succ])
            | fail)
          generalize ((w6.alloc (.cells (va 256 (iv .u8 fun _ => 0)) 60)).setRow w6.heap.size (va 256 (iv .u8 (leB L)))) = w7 at *
          refine (HFZ.out _).mono ?_
          intro e w10 hw_w10
          obtain ⟨⟨at_w10, he_w10⟩, hb_w10⟩ := hw_w10
          subst he_w10
          have HB_w10 : Hid (Below w.heap.size w w10 ∧ w.heap.size < w10.heap.size) := ⟨HB_w7.out.1.trans (hb_w10.mono HB_w7.out.1.size), Nat.lt_of_lt_of_le HB_w7.out.2 hb_w10.size⟩
          clear hb_w10
          clear HB_w7 HFZ
          have qa_w11 : Blk (w10.alloc (.cells (foC fun _ => in0) 58)) w10.heap.size 58 (foC fun _ => in0) := Blk.new _ _ _
          have z_w11 : Blk ((w10.alloc (.cells (foC fun _ => in0) 58)).setRow w10.heap.size (foC fun _ => in0)) w10.heap.size 58 (foC fun _ => in0) := qa_w11.set _
          have HB_w11 : Hid (Below w.heap.size w ((w10.alloc (.cells (foC fun _ => in0) 58)).setRow w10.heap.size (foC fun _ => in0)) ∧ w.heap.size < ((w10.alloc (.cells (foC fun _ => in0) 58)).setRow w10.heap.size (foC fun _ => in0)).heap.size) := ⟨below_setRow (HB_w10.out.1.alloc HB_w10.out.1.size _) HB_w10.out.1.size _, by have := HB_w10.out.2; simp; omega⟩
          go_wp2_with (first
            | (refine wpList_store_row (by rfl) 58 _ _ (by rfl) (w10.heap.size) (foC fun _ => in0) (by rfl) (by rfl) 58 (foC fun _ => in0) (by exact qa_w11) (sizeFo.trans (by rw [foC_size])) (by simp only [foC_size]) (foC_all _) ?_; simp only [Act.put, List.setIfInBounds_toArray, List.set_cons_zero, List.set_cons_succ])
            | (refine wpList_load_rowg (by rfl) 58 _ (by rfl) (w10.heap.size) (by rfl) 58 (foC fun _ => in0) (0, 0) _ (by exact z_w11) Try.underlying58 (by rfl) (sizeFo.trans (by rw [foC_size])) ?_; simp only [Act.put, List.setIfInBounds_toArray, List.set_cons_zero, List.set_cons_succ])
            | fail)
          generalize ((w10.alloc (.cells (foC fun _ => in0) 58)).setRow w10.heap.size (foC fun _ => in0)) = w11 at *
          clear z_w11 qa_w11 HB_w10 hez
          refine (HPL.out _).mono ?_
          intro e w12 hw_12
          obtain ⟨he_12, hb_12⟩ := hw_12
          subst he_12 hb_12
          by_cases hn1 : 1 ≤ n ∧ n ≤ 4096
          · rw [if_pos hn1]
            obtain ⟨m1, m2⟩ := hn1
            have HP2 := HPN.out m2
            clear HPN HPL
            have j1 : 0 ≤ (n - 1) / 4 := by omega
            have j2 : 0 ≤ (n - 1) % 4 := by omega
            have j3 : (n - 1) % 4 < 4 := by omega
            have j0 : n + 1 ≤ 4097 := by omega
            have j7 : (n - 1) / 4 ≤ 1024 := by omega
            by_cases hn2 : n + 1 ≤ 4096
            · rw [if_pos ⟨by omega, hn2⟩] at HP2
              have HJ : Hid (4 * ((n + 1 - 1) / 4) + (n + 1 - 1) % 4 = 4 * ((n - 1) / 4) + (n - 1) % 4 + 1) := by show 4 * ((n + 1 - 1) / 4) + (n + 1 - 1) % 4 = 4 * ((n - 1) / 4) + (n - 1) % 4 + 1; omega
              have j8 : 0 ≤ (n + 1 - 1) / 4 ∧ (n + 1 - 1) / 4 ≤ 1024 := by omega
              have j9 : 0 ≤ (n + 1 - 1) % 4 ∧ (n + 1 - 1) % 4 < 4 := by omega
              generalize (n + 1 - 1) / 4 = a2 at *
              generalize (n + 1 - 1) % 4 = i2 at *
              generalize (n - 1) / 4 = a1 at *
              generalize (n - 1) % 4 = i1 at *
              go_wp2_with fail
              refine (HP2 _).mono ?_
              intro e w13 hw_13
              obtain ⟨he_13, hb_13⟩ := hw_13
              subst he_13 hb_13
              have hj := HJ.out
              go_wp2_with fail
              go_ret
              exact ⟨by first | rfl | (simp; omega), HB_w11.out.1⟩
            · rw [if_neg (fun h => hn2 h.2)] at HP2
              generalize (n - 1) / 4 = a1 at *
              generalize (n - 1) % 4 = i1 at *
              go_wp2_with fail
              refine (HP2 _).mono ?_
              intro e w13 hw_13
              obtain ⟨he_13, hb_13⟩ := hw_13
              subst he_13 hb_13
              go_wp2_with fail
              go_ret
              exact ⟨by first | rfl | (simp; omega), HB_w11.out.1⟩
          · rw [if_neg hn1]
            clear HPN HPL
            by_cases hn2 : n < 1
            · clear hn1
              go_wp2_with fail
              go_ret
              exact ⟨by first | rfl | simp, HB_w11.out.1⟩
            · have hn3 : 4096 < n := by omega
              clear hn1
              go_wp2_with fail
              go_ret
              exact ⟨by first | rfl | simp, HB_w11.out.1⟩
      · have e1 : decE s = 0 := by unfold decE; rw [hk]; rfl
        obtain ⟨d1, d2, d3⟩ := dec_back s hk
        have HEY : Hid (∀ w : World, Calls Try.prog 8 #[.agg (inC (decV s))] w fun e w' => ∃ g, e = .returned (.tuple #[.slice (some ⟨g, 0, none⟩) 64 64, .int .i64 0]) ∧ w.heap.size ≤ g ∧ Blk w' g 5 (va 64 (iv .u8 (inB (prt s)))) ∧ Below w.heap.size w w') := fun w => by
          have := encode_ok (decV s) hvw (by rw [d1]; exact d2) w
          rw [d1] at this ⊢
          exact this
        rw [e1]
        clear e1 hvw d1 d2
        go_wp2_with (first
          | (refine wpList_store_row (by rfl) 31 _ _ (by rfl) (w2.heap.size) (inC (decV s)) (by rfl) (by rfl) 31 (inC in0) (by exact qa_w3) (sizeIno.trans (by rw [inC_size])) (by simp only [inC_size]) (inC_all _) ?_; simp only [Act.put, List.setIfInBounds_toArray, List.set_cons_zero, List.set_cons_succ])
          | (refine wpList_load_row (by rfl) 31 _ (by rfl) (w2.heap.size) (by rfl) 31 (inC (decV s)) (0, 0) _ (by exact y_w3) Try.underlying31 (by rfl) (sizeIno.trans (by rw [inC_size])) ?_; simp only [Act.put, List.setIfInBounds_toArray, List.set_cons_zero, List.set_cons_succ])
          | fail)
        generalize ((w2.alloc (.cells (inC in0) 31)).setRow w2.heap.size (inC (decV s))) = w3 at *
        clear qa_w3
        refine (HEY.out _).mono ?_
        intro e w4 hw_w4
        obtain ⟨g, he_w4, hge_w4, hk_w4, hb_w4⟩ := hw_w4
        subst he_w4
        have l_w4 : Blk w4 (w.heap.size) 58 (foC L) := l_w3.below hb_w4 l_w3.lt
        have HB_w4 : Hid (Below w.heap.size w w4 ∧ w.heap.size < w4.heap.size) := ⟨HB_w3.out.1.trans (hb_w4.mono HB_w3.out.1.size), Nat.lt_of_lt_of_le HB_w3.out.2 hb_w4.size⟩
        have cv1 := IsB.all (c := 64) hk_w4 w4 (Below.refl _ _)
        rw [d3] at cv1
        have cv2 := HV.out w4 HB_w4.out.1
        clear hb_w4 HB_w3 l_w3 y_w3 HEY hk_w4 hge_w4 d3
        go_wp2_with (first
          | (refine wpList_load_row (by rfl) 58 _ (by rfl) (w.heap.size) (by rfl) 58 (foC L) (0, 0) _ (by exact l_w4) Try.underlying58 (by rfl) (sizeFo.trans (by rw [foC_size])) ?_; simp only [Act.put, List.setIfInBounds_toArray, List.set_cons_zero, List.set_cons_succ])
          | fail)
        clear cv1 cv2
        refine (HLF.out _).mono ?_
        intro e w6 hw_w6
        obtain ⟨he_w6, hb_w6⟩ := hw_w6
        subst he_w6
        have l_w6 : Blk w6 (w.heap.size) 58 (foC L) := l_w4.below hb_w6 l_w4.lt
        have HB_w6 : Hid (Below w.heap.size w w6 ∧ w.heap.size < w6.heap.size) := ⟨HB_w4.out.1.trans (hb_w6.mono HB_w4.out.1.size), Nat.lt_of_lt_of_le HB_w4.out.2 hb_w6.size⟩
        clear hb_w6 HB_w4 l_w4
        have qa_w7 : Blk (w6.alloc (.cells (va 256 (iv .u8 fun _ => 0)) 60)) w6.heap.size 60 (va 256 (iv .u8 fun _ => 0)) := Blk.new _ _ _
        have c_w7 : Blk ((w6.alloc (.cells (va 256 (iv .u8 fun _ => 0)) 60)).setRow w6.heap.size (va 256 (iv .u8 (leB L)))) w6.heap.size 60 (va 256 (iv .u8 (leB L))) := qa_w7.set _
        have l_w7 : Blk ((w6.alloc (.cells (va 256 (iv .u8 fun _ => 0)) 60)).setRow w6.heap.size (va 256 (iv .u8 (leB L)))) (w.heap.size) 58 (foC L) := (l_w6.alloc _).other _ (by have := l_w6.lt; omega)
        have HB_w7 : Hid (Below w.heap.size w ((w6.alloc (.cells (va 256 (iv .u8 fun _ => 0)) 60)).setRow w6.heap.size (va 256 (iv .u8 (leB L)))) ∧ w.heap.size < ((w6.alloc (.cells (va 256 (iv .u8 fun _ => 0)) 60)).setRow w6.heap.size (va 256 (iv .u8 (leB L)))).heap.size) := ⟨below_setRow (HB_w6.out.1.alloc HB_w6.out.1.size _) HB_w6.out.1.size _, by have := HB_w6.out.2; simp; omega⟩
        by_cases hbd : bdF (chkA L) = 4
        · have e1 : leB L = lfF L 4 := if_pos hbd
          have e2 : leE (chkA L) = 0 := if_pos hbd
          have hall : ∀ i, i < 4 → chk (L i) = true := bd_all hbd
          have HFB : Hid (∀ w : World, Calls Try.prog 22 #[.agg (va 256 (iv .u8 (leB L)))] w fun e w' => (∃ at_, e = .returned (.tuple #[.agg (foC L), .int .i64 at_, .int .i64 0])) ∧ Below w.heap.size w w') := fun w => by
            have := from14_any (lfF L 4) w
            rw [(from_leaf L hL hall).2, fo_congr (from_leaf L hL hall).1, ← e1] at this
            exact this.mono fun e w' h => ⟨⟨_, h.1⟩, h.2⟩
          have hel : ∀ W, (Op.equalIn 10000 58 (.agg (foC L)) (.agg (foC L))).run Try.prog W = .ok true W := fun W => by
            rw [eq_fo]
            congr 1
            simp
          rw [e2]
          clear e1 e2 hall hbd
          go_wp2_with (first
            | (refine wpList_store_row (by rfl) 60 _ _ (by rfl) (w6.heap.size) (va 256 (iv .u8 (leB L))) (by rfl) (by rfl) 60 (va 256 (iv .u8 fun _ => 0)) (by exact qa_w7) (sizeBk.trans (by rw [va_size])) (by simp only [va_size]) (iv_one _ _ _) ?_; simp only [Act.put, List.setIfInBounds_toArray, List.set_cons_zero, List.set_cons_succ])
            | (refine wpList_load_row (by rfl) 60 _ (by rfl) (w6.heap.size) (by rfl) 60 (va 256 (iv .u8 (leB L))) (0, 0) _ (by exact c_w7) Try.underlying60 (by rfl) (sizeBk.trans (by rw [va_size])) ?_; simp only [Act.put, List.setIfInBounds_toArray, List.set_cons_zero, List.set_cons_succ])
            | fail)
          generalize ((w6.alloc (.cells (va 256 (iv .u8 fun _ => 0)) 60)).setRow w6.heap.size (va 256 (iv .u8 (leB L)))) = w7 at *
          refine (HFB.out _).mono ?_
          intro e w8 hw_w8
          obtain ⟨⟨at_w8, he_w8⟩, hb_w8⟩ := hw_w8
          subst he_w8
          have l_w8 : Blk w8 (w.heap.size) 58 (foC L) := l_w7.below hb_w8 l_w7.lt
          have HB_w8 : Hid (Below w.heap.size w w8 ∧ w.heap.size < w8.heap.size) := ⟨HB_w7.out.1.trans (hb_w8.mono HB_w7.out.1.size), Nat.lt_of_lt_of_le HB_w7.out.2 hb_w8.size⟩
          clear hb_w8
          clear HB_w7 l_w7 c_w7 qa_w7 HFB
          have qa_w9 : Blk (w8.alloc (.cells (foC fun _ => in0) 58)) w8.heap.size 58 (foC fun _ => in0) := Blk.new _ _ _
          have k_w9 : Blk ((w8.alloc (.cells (foC fun _ => in0) 58)).setRow w8.heap.size (foC L)) w8.heap.size 58 (foC L) := qa_w9.set _
          have l_w9 : Blk ((w8.alloc (.cells (foC fun _ => in0) 58)).setRow w8.heap.size (foC L)) (w.heap.size) 58 (foC L) := (l_w8.alloc _).other _ (by have := l_w8.lt; omega)
          have HB_w9 : Hid (Below w.heap.size w ((w8.alloc (.cells (foC fun _ => in0) 58)).setRow w8.heap.size (foC L)) ∧ w.heap.size < ((w8.alloc (.cells (foC fun _ => in0) 58)).setRow w8.heap.size (foC L)).heap.size) := ⟨below_setRow (HB_w8.out.1.alloc HB_w8.out.1.size _) HB_w8.out.1.size _, by have := HB_w8.out.2; simp; omega⟩
          go_wp2_with (first
            | (refine wpList_store_row (by rfl) 58 _ _ (by rfl) (w8.heap.size) (foC L) (by rfl) (by rfl) 58 (foC fun _ => in0) (by exact qa_w9) (sizeFo.trans (by rw [foC_size])) (by simp only [foC_size]) (foC_all _) ?_; simp only [Act.put, List.setIfInBounds_toArray, List.set_cons_zero, List.set_cons_succ])
            | (refine wpList_load_rowg (by rfl) 58 _ (by rfl) (w8.heap.size) (by rfl) 58 (foC L) (0, 0) _ (by exact k_w9) Try.underlying58 (by rfl) (sizeFo.trans (by rw [foC_size])) ?_; simp only [Act.put, List.setIfInBounds_toArray, List.set_cons_zero, List.set_cons_succ])
            | (refine wpList_load_rowg (by rfl) 58 _ (by rfl) (w.heap.size) (by rfl) 58 (foC L) (0, 0) _ (by exact l_w9) Try.underlying58 (by rfl) (sizeFo.trans (by rw [foC_size])) ?_; simp only [Act.put, List.setIfInBounds_toArray, List.set_cons_zero, List.set_cons_succ])
            | fail)
          generalize ((w8.alloc (.cells (foC fun _ => in0) 58)).setRow w8.heap.size (foC L)) = w9 at *
          refine (HFZ.out _).mono ?_
          intro e w10 hw_w10
          obtain ⟨⟨at_w10, he_w10⟩, hb_w10⟩ := hw_w10
          subst he_w10
          have HB_w10 : Hid (Below w.heap.size w w10 ∧ w.heap.size < w10.heap.size) := ⟨HB_w9.out.1.trans (hb_w10.mono HB_w9.out.1.size), Nat.lt_of_lt_of_le HB_w9.out.2 hb_w10.size⟩
          clear hb_w10
          clear HB_w9 HFZ
          have qa_w11 : Blk (w10.alloc (.cells (foC fun _ => in0) 58)) w10.heap.size 58 (foC fun _ => in0) := Blk.new _ _ _
          have z_w11 : Blk ((w10.alloc (.cells (foC fun _ => in0) 58)).setRow w10.heap.size (foC fun _ => in0)) w10.heap.size 58 (foC fun _ => in0) := qa_w11.set _
          have HB_w11 : Hid (Below w.heap.size w ((w10.alloc (.cells (foC fun _ => in0) 58)).setRow w10.heap.size (foC fun _ => in0)) ∧ w.heap.size < ((w10.alloc (.cells (foC fun _ => in0) 58)).setRow w10.heap.size (foC fun _ => in0)).heap.size) := ⟨below_setRow (HB_w10.out.1.alloc HB_w10.out.1.size _) HB_w10.out.1.size _, by have := HB_w10.out.2; simp; omega⟩
          go_wp2_with (first
            | (refine wpList_store_row (by rfl) 58 _ _ (by rfl) (w10.heap.size) (foC fun _ => in0) (by rfl) (by rfl) 58 (foC fun _ => in0) (by exact qa_w11) (sizeFo.trans (by rw [foC_size])) (by simp only [foC_size]) (foC_all _) ?_; simp only [Act.put, List.setIfInBounds_toArray, List.set_cons_zero, List.set_cons_succ])
            | (refine wpList_load_rowg (by rfl) 58 _ (by rfl) (w10.heap.size) (by rfl) 58 (foC fun _ => in0) (0, 0) _ (by exact z_w11) Try.underlying58 (by rfl) (sizeFo.trans (by rw [foC_size])) ?_; simp only [Act.put, List.setIfInBounds_toArray, List.set_cons_zero, List.set_cons_succ])
            | fail)
          generalize ((w10.alloc (.cells (foC fun _ => in0) 58)).setRow w10.heap.size (foC fun _ => in0)) = w11 at *
          clear z_w11 qa_w11 HB_w10 hez
          refine (HPL.out _).mono ?_
          intro e w12 hw_12
          obtain ⟨he_12, hb_12⟩ := hw_12
          subst he_12 hb_12
          by_cases hn1 : 1 ≤ n ∧ n ≤ 4096
          · rw [if_pos hn1]
            obtain ⟨m1, m2⟩ := hn1
            have HP2 := HPN.out m2
            clear HPN HPL
            have j1 : 0 ≤ (n - 1) / 4 := by omega
            have j2 : 0 ≤ (n - 1) % 4 := by omega
            have j3 : (n - 1) % 4 < 4 := by omega
            have j0 : n + 1 ≤ 4097 := by omega
            have j7 : (n - 1) / 4 ≤ 1024 := by omega
            by_cases hn2 : n + 1 ≤ 4096
            · rw [if_pos ⟨by omega, hn2⟩] at HP2
              have HJ : Hid (4 * ((n + 1 - 1) / 4) + (n + 1 - 1) % 4 = 4 * ((n - 1) / 4) + (n - 1) % 4 + 1) := by show 4 * ((n + 1 - 1) / 4) + (n + 1 - 1) % 4 = 4 * ((n - 1) / 4) + (n - 1) % 4 + 1; omega
              have j8 : 0 ≤ (n + 1 - 1) / 4 ∧ (n + 1 - 1) / 4 ≤ 1024 := by omega
              have j9 : 0 ≤ (n + 1 - 1) % 4 ∧ (n + 1 - 1) % 4 < 4 := by omega
              generalize (n + 1 - 1) / 4 = a2 at *
              generalize (n + 1 - 1) % 4 = i2 at *
              generalize (n - 1) / 4 = a1 at *
              generalize (n - 1) % 4 = i1 at *
              go_wp2_with fail
              refine (HP2 _).mono ?_
              intro e w13 hw_13
              obtain ⟨he_13, hb_13⟩ := hw_13
              subst he_13 hb_13
              have hj := HJ.out
              go_wp2_with fail
              go_ret
              exact ⟨by first | rfl | (simp; omega), HB_w11.out.1⟩
            · rw [if_neg (fun h => hn2 h.2)] at HP2
              generalize (n - 1) / 4 = a1 at *
              generalize (n - 1) % 4 = i1 at *
              go_wp2_with fail
              refine (HP2 _).mono ?_
              intro e w13 hw_13
              obtain ⟨he_13, hb_13⟩ := hw_13
              subst he_13 hb_13
              go_wp2_with fail
              go_ret
              exact ⟨by first | rfl | (simp; omega), HB_w11.out.1⟩
          · rw [if_neg hn1]
            clear HPN HPL
            by_cases hn2 : n < 1
            · clear hn1
              go_wp2_with fail
              go_ret
              exact ⟨by first | rfl | simp, HB_w11.out.1⟩
            · have hn3 : 4096 < n := by omega
              clear hn1
              go_wp2_with fail
              go_ret
              exact ⟨by first | rfl | simp, HB_w11.out.1⟩
        · have e2 : leE (chkA L) = 140 := if_neg hbd
          rw [e2]
          clear e2 hbd
          go_wp2_with (first
            | (refine wpList_store_row (by rfl) 60 _ _ (by rfl) (w6.heap.size) (va 256 (iv .u8 (leB L))) (by rfl) (by rfl) 60 (va 256 (iv .u8 fun _ => 0)) (by exact qa_w7) (sizeBk.trans (by rw [va_size])) (by simp only [va_size]) (iv_one _ _ _) ?_; simp only [Act.put, List.setIfInBounds_toArray, List.set_cons_zero, List.set_cons_succ])
            | fail)
          generalize ((w6.alloc (.cells (va 256 (iv .u8 fun _ => 0)) 60)).setRow w6.heap.size (va 256 (iv .u8 (leB L)))) = w7 at *
          refine (HFZ.out _).mono ?_
          intro e w10 hw_w10
          obtain ⟨⟨at_w10, he_w10⟩, hb_w10⟩ := hw_w10
          subst he_w10
          have HB_w10 : Hid (Below w.heap.size w w10 ∧ w.heap.size < w10.heap.size) := ⟨HB_w7.out.1.trans (hb_w10.mono HB_w7.out.1.size), Nat.lt_of_lt_of_le HB_w7.out.2 hb_w10.size⟩
          clear hb_w10
          clear HB_w7 HFZ
          have qa_w11 : Blk (w10.alloc (.cells (foC fun _ => in0) 58)) w10.heap.size 58 (foC fun _ => in0) := Blk.new _ _ _
          have z_w11 : Blk ((w10.alloc (.cells (foC fun _ => in0) 58)).setRow w10.heap.size (foC fun _ => in0)) w10.heap.size 58 (foC fun _ => in0) := qa_w11.set _
          have HB_w11 : Hid (Below w.heap.size w ((w10.alloc (.cells (foC fun _ => in0) 58)).setRow w10.heap.size (foC fun _ => in0)) ∧ w.heap.size < ((w10.alloc (.cells (foC fun _ => in0) 58)).setRow w10.heap.size (foC fun _ => in0)).heap.size) := ⟨below_setRow (HB_w10.out.1.alloc HB_w10.out.1.size _) HB_w10.out.1.size _, by have := HB_w10.out.2; simp; omega⟩
          go_wp2_with (first
            | (refine wpList_store_row (by rfl) 58 _ _ (by rfl) (w10.heap.size) (foC fun _ => in0) (by rfl) (by rfl) 58 (foC fun _ => in0) (by exact qa_w11) (sizeFo.trans (by rw [foC_size])) (by simp only [foC_size]) (foC_all _) ?_; simp only [Act.put, List.setIfInBounds_toArray, List.set_cons_zero, List.set_cons_succ])
            | (refine wpList_load_rowg (by rfl) 58 _ (by rfl) (w10.heap.size) (by rfl) 58 (foC fun _ => in0) (0, 0) _ (by exact z_w11) Try.underlying58 (by rfl) (sizeFo.trans (by rw [foC_size])) ?_; simp only [Act.put, List.setIfInBounds_toArray, List.set_cons_zero, List.set_cons_succ])
            | fail)
          generalize ((w10.alloc (.cells (foC fun _ => in0) 58)).setRow w10.heap.size (foC fun _ => in0)) = w11 at *
          clear z_w11 qa_w11 HB_w10 hez
          refine (HPL.out _).mono ?_
          intro e w12 hw_12
          obtain ⟨he_12, hb_12⟩ := hw_12
          subst he_12 hb_12
          by_cases hn1 : 1 ≤ n ∧ n ≤ 4096
          · rw [if_pos hn1]
            obtain ⟨m1, m2⟩ := hn1
            have HP2 := HPN.out m2
            clear HPN HPL
            have j1 : 0 ≤ (n - 1) / 4 := by omega
            have j2 : 0 ≤ (n - 1) % 4 := by omega
            have j3 : (n - 1) % 4 < 4 := by omega
            have j0 : n + 1 ≤ 4097 := by omega
            have j7 : (n - 1) / 4 ≤ 1024 := by omega
            by_cases hn2 : n + 1 ≤ 4096
            · rw [if_pos ⟨by omega, hn2⟩] at HP2
              have HJ : Hid (4 * ((n + 1 - 1) / 4) + (n + 1 - 1) % 4 = 4 * ((n - 1) / 4) + (n - 1) % 4 + 1) := by show 4 * ((n + 1 - 1) / 4) + (n + 1 - 1) % 4 = 4 * ((n - 1) / 4) + (n - 1) % 4 + 1; omega
              have j8 : 0 ≤ (n + 1 - 1) / 4 ∧ (n + 1 - 1) / 4 ≤ 1024 := by omega
              have j9 : 0 ≤ (n + 1 - 1) % 4 ∧ (n + 1 - 1) % 4 < 4 := by omega
              generalize (n + 1 - 1) / 4 = a2 at *
              generalize (n + 1 - 1) % 4 = i2 at *
              generalize (n - 1) / 4 = a1 at *
              generalize (n - 1) % 4 = i1 at *
              go_wp2_with fail
              refine (HP2 _).mono ?_
              intro e w13 hw_13
              obtain ⟨he_13, hb_13⟩ := hw_13
              subst he_13 hb_13
              have hj := HJ.out
              go_wp2_with fail
              go_ret
              exact ⟨by first | rfl | (simp; omega), HB_w11.out.1⟩
            · rw [if_neg (fun h => hn2 h.2)] at HP2
              generalize (n - 1) / 4 = a1 at *
              generalize (n - 1) % 4 = i1 at *
              go_wp2_with fail
              refine (HP2 _).mono ?_
              intro e w13 hw_13
              obtain ⟨he_13, hb_13⟩ := hw_13
              subst he_13 hb_13
              go_wp2_with fail
              go_ret
              exact ⟨by first | rfl | (simp; omega), HB_w11.out.1⟩
          · rw [if_neg hn1]
            clear HPN HPL
            by_cases hn2 : n < 1
            · clear hn1
              go_wp2_with fail
              go_ret
              exact ⟨by first | rfl | simp, HB_w11.out.1⟩
            · have hn3 : 4096 < n := by omega
              clear hn1
              go_wp2_with fail
              go_ret
              exact ⟨by first | rfl | simp, HB_w11.out.1⟩
end Go.Proofs.Ytpoaipoadokggaa
