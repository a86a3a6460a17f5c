/- The document's leaves of a text: contract of the verifier's function Cut. -/
import Derived.Test.YtaoglljkghkbpaaBlkCut
import Derived.Test.YtaoglljkghkbpaaBlkRefText
import Derived.Handy
namespace Go.Proofs.Ytaoglljkghkbpaa
open Go.RowKit
set_option linter.unusedSimpArgs false
set_option linter.unusedVariables false

theorem infoRbk : (Try.prog.info? 28).map (fun i => (i.zero, i.size, i.bytes)) = some (some (.agg (va 256 (iv .u8 fun _ => 0))), 256, 256) := by kernel_rfl
theorem head_block (sv : ByteArray) (n : Nat) (hn : n ≤ sv.size) (h2 : n = 256 ∨ n = sv.size ∧ n ≤ 256) : va 256 (iv .u8 (tbyte (sv.extract 0 n))) = va 256 (iv .u8 (tbyte sv)) := va_congr fun i hi => by
  unfold iv
  have hsz := extract_size sv 0 n hn
  by_cases h : i < n
  · rw [tbyte_extract sv 0 n i hn (by omega), Nat.zero_add]
  · rw [tbyte_out _ _ (by omega), tbyte_out sv _ (by omega)]

set_option maxRecDepth 100000 in
set_option maxHeartbeats 8000000 in
theorem refCut_any (s : ByteArray) (hs : s.size ≤ 140737488351232) (w : World) :
    Calls Try.prog 26 #[.string s] w fun e w' => ∃ v, e = .returned v ∧ w'.ownsRow w.heap.size 28 256 v (leavesN s.size) (byL (tbyte s) (leavesN s.size * 256)) ∧ Below w.heap.size w w' := by
  obtain ⟨i0, hi, hz0, hz1, hz2⟩ := info_parts infoRbk
  have hz := zero_rbk
  have b1 := Blk.new w 28 #[]
  have hb0 := below_new1 w (Obj.cells #[] 28)
  go_enter Try.func26, Try.ntmps26
  go_wp2_with fail
  generalize w.alloc (Obj.cells #[] 28) = W at *
  go_loopw [0, 3] (fun t v wr => ∃ (k cap : Nat) (a : Option Addr) (sv : ByteArray), t = .string sv ∧ v = .slice a k cap ∧ (∀ j, tbyte sv j = tbyte s (256 * k + j)) ∧ (256 * k + sv.size = s.size ∨ sv.size = 0 ∧ k = leavesN s.size) ∧ wr.ownsRow w.heap.size 28 256 v k (byL (tbyte s) (k * 256)) ∧ Below w.heap.size w wr) (fun t _ _ => match t with | .string x => x.size | _ => 0)
  case atStart => exact ⟨0, 0, _, s, rfl, rfl, fun j => by simp, .inl (by simp), kown_empty b1 (Nat.le_refl _), hb0⟩
  case round =>
    clear b1 hb0
    obtain ⟨k, cap, a, sv, rfl, rfl, hsv, hk, hown, hb⟩ := hrel
    have hv := hown.lt
    have hsz := hb.size
    by_cases hlt : 0 < sv.size
    · have hk1 : 256 * k + sv.size = s.size := by rcases hk with h | h <;> omega
      have HLC : Hid (byL (tbyte s) ((k + 1) * 256) = byL (tbyte s) (k * 256) ++ (va 256 (iv .u8 (tbyte sv))).toList) := leaf_cells s sv k hsv
      obtain ⟨L, hL⟩ : ∃ L : Nat, L = sv.size := ⟨_, rfl⟩
      by_cases h256 : L ≤ 256
      · skip
        have HDB : Hid (∀ j, tbyte (sv.extract L sv.size) j = tbyte s (256 * (k + 1) + j)) := drop_byte s sv k L hsv (by omega) (by omega) (by omega) hk1
        have hES := extract_size sv L sv.size (Nat.le_refl _)
        have hES0 := extract_size sv 0 L (by omega)
        have hO : Hid (∀ w : World, Calls Try.prog 11 #[.string (sv.extract 0 L)] w fun e w' => e = .returned (.tuple #[.agg (va 256 (iv .u8 (tbyte sv))), .int .i64 0]) ∧ Below w.heap.size w w') := fun w => by
          have := refBlockOf_fit (sv.extract 0 L) (by omega) w
          unfold bkV at this
          rw [head_block sv L (by omega) (by omega)] at this
          exact this
        have HK1 : Hid (256 * k + sv.size = s.size) := hk1
        have t1 : (0 : Int) < (L : Int) := by omega
        have t4 : ¬ (256 : Int) < (L : Int) := by omega
        have t5 : (L : Int) ≤ (L : Int) := by omega
        have hL' : sv.size = L := hL.symm
        have hkb : (k + 1) * 256 ≤ 140737488351488 := by omega
        have hL2 : L ≤ 140737488351232 := by omega
        clear hk hk1 hL hES0 hsv
        go_wp2_with fail
        refine (hO.out _).mono ?_
        rintro e w1 ⟨rfl, hh⟩
        have hown0 := kown_below hown hh
        have hbA : Below w.heap.size w w1 := hb.trans (hh.mono hsz)
        have hv1 := hown0.lt
        have hs1 := hbA.size
        clear hown hb hh hO hv
        have c0 := Blk.new w1 28 (va 256 (iv .u8 fun _ => 0))
        have c1 := c0.set (va 256 (iv .u8 (tbyte sv)))
        have hb1 : Below w.heap.size w ((w1.alloc (Obj.cells (va 256 (iv .u8 fun _ => 0)) 28)).setRow w1.heap.size (va 256 (iv .u8 (tbyte sv)))) := below_setRow (hbA.alloc hs1 _) hs1 _
        have hown1 : ((w1.alloc (Obj.cells (va 256 (iv .u8 fun _ => 0)) 28)).setRow w1.heap.size (va 256 (iv .u8 (tbyte sv)))).ownsRow w.heap.size 28 256 (.slice a k cap) k (byL (tbyte s) (k * 256)) := kown_setRow (hown0.alloc _) (fun q _ hq => Nat.ne_of_lt ((hv1 q hq).2)) _
        have HOWN : Hid ((((w1.alloc (Obj.cells (va 256 (iv .u8 fun _ => 0)) 28)).setRow w1.heap.size (va 256 (iv .u8 (tbyte sv)))).alloc (.cells (va 256 (iv .u8 (tbyte sv))) 28)).ownsRow w.heap.size 28 256 (.slice a k cap) k (byL (tbyte s) (k * 256))) := hown1.alloc _
        have HNEW := cells_new ((w1.alloc (Obj.cells (va 256 (iv .u8 fun _ => 0)) 28)).setRow w1.heap.size (va 256 (iv .u8 (tbyte sv)))) (va 256 (iv .u8 (tbyte sv))) 28
        have HV2 := hown1.lt
        have hb1s := hb1.size
        have HSZ : ((w1.alloc (Obj.cells (va 256 (iv .u8 fun _ => 0)) 28)).setRow w1.heap.size (va 256 (iv .u8 (tbyte sv)))).heap.size = w1.heap.size + 1 := by
          simp [World.setRow]
        generalize hW2 : (w1.alloc (Obj.cells (va 256 (iv .u8 fun _ => 0)) 28)).setRow w1.heap.size (va 256 (iv .u8 (tbyte sv))) = w2 at *
        have HW2 : Hid ((w1.alloc (Obj.cells (va 256 (iv .u8 fun _ => 0)) 28)).setRow w1.heap.size (va 256 (iv .u8 (tbyte sv))) = w2) := hW2
        have HNEW' : Hid (∀ j u, (va 256 (iv .u8 (tbyte sv))).toList[j]? = some u → (w2.alloc (.cells (va 256 (iv .u8 (tbyte sv))) 28)).cell? ((⟨w2.heap.size, 0, none⟩ : Addr).add j) = some u) := HNEW
        have HMEM : Hid (∀ u ∈ (va 256 (iv .u8 (tbyte sv))).toList, u.oneCell' = true) := kva_mem_one 256 (tbyte sv)
        have HLEN : Hid ((va 256 (iv .u8 (tbyte sv))).toList.length = 1 * 256) := by
          show _ = _
          rw [va_toList]
          simp
        clear hown1 hv1 hown0 HNEW hW2 HSZ hbA
        go_wp2_with (first
          | ((refine wpList_store_row (by rfl) 28 _ _ (by rfl) (w1.heap.size) (va 256 (iv .u8 (tbyte sv))) (by rfl) (by rfl) 28 _ c0 (sizeRbk.trans (by rw [va_size])) (by simp only [va_size]) (iv_one _ _ _) ?_; simp only [Act.put, List.setIfInBounds_toArray, List.set_cons_zero, List.set_cons_succ]); rw [HW2.out])
          | (refine wpList_load_row (by rfl) 28 _ (by rfl) (w1.heap.size) (by rfl) 28 (va 256 (iv .u8 (tbyte sv))) (0, 0) _ c1 Try.underlying28 (by rfl) (sizeRbk.trans (by rw [va_size])) ?_; simp only [Act.put, List.setIfInBounds_toArray, List.set_cons_zero, List.set_cons_succ])
          | (refine wpList_build1 (by rfl) 56 28 _ (by rfl) (va 256 (iv .u8 (tbyte sv))) (by rfl) i0 _ 256 Try.underlying56 hi hz0 hz1 (va_size _ _) (by decide) (by decide) ?_; simp only [Act.put, List.setIfInBounds_toArray, List.set_cons_zero, List.set_cons_succ])
          | (at_builtin; refine wpList_append_own _ rfl _ _ 56 rfl w.heap.size 28 i0 (.agg (va 256 (iv .u8 fun _ => 0))) 256 256 Try.underlying56 hi hz0 hz1 hz2 (va_size _ _) (by decide) _ _ _ rfl HOWN.out ⟨w2.heap.size, 0, none⟩ 1 1 (va 256 (iv .u8 (tbyte sv))).toList rfl HLEN.out HNEW'.out HMEM.out (by unfold maxLen; omega) (by omega) (by simp; omega) ?_)
          | go_in)
        intro v' w3 hown' hgrow _
        have hb2 : Below w.heap.size w w3 := (hb1.alloc hb1s _).grown hgrow (by simp; omega) (fun k hk => (HV2 k hk).1)
        rw [← HLC.out] at hown'
        obtain ⟨g3, cap3, rfl, hg3, hg3'⟩ := kown_form hown' (Nat.succ_pos k)
        clear HOWN HNEW' HMEM HLEN HV2 hgrow hb1 c1 c0 HW2
        go_wp2_with fail
        go_roundw
        case rel =>
          refine ⟨k + 1, cap3, _, _, rfl, rfl, ?_, ?_, hown', hb2⟩
          · intro j
            have h1 := HK1.out
            rw [tbyte_out ByteArray.empty j (Nat.zero_le _), tbyte_out s _ (by omega)]
          · have h1 := HK1.out
            refine .inr ⟨rfl, ?_⟩
            unfold leavesN
            omega
        case measure =>
          show ByteArray.empty.size < sv.size
          have : ByteArray.empty.size = 0 := rfl
          omega
      · skip
        have HDB : Hid (∀ j, tbyte (sv.extract 256 sv.size) j = tbyte s (256 * (k + 1) + j)) := drop_byte s sv k 256 hsv (by omega) (by omega) (by omega) hk1
        have hES := extract_size sv 256 sv.size (Nat.le_refl _)
        have hES0 := extract_size sv 0 256 (by omega)
        have hO : Hid (∀ w : World, Calls Try.prog 11 #[.string (sv.extract 0 256)] w fun e w' => e = .returned (.tuple #[.agg (va 256 (iv .u8 (tbyte sv))), .int .i64 0]) ∧ Below w.heap.size w w') := fun w => by
          have := refBlockOf_fit (sv.extract 0 256) (by omega) w
          unfold bkV at this
          rw [head_block sv 256 (by omega) (by omega)] at this
          exact this
        have HK1 : Hid (256 * k + sv.size = s.size) := hk1
        have t1 : (0 : Int) < (L : Int) := by omega
        have t4 : (256 : Int) < (L : Int) := by omega
        have t5 : (256 : Int) ≤ (L : Int) := by omega
        have hL' : sv.size = L := hL.symm
        have hkb : (k + 1) * 256 ≤ 140737488351488 := by omega
        have hL2 : L ≤ 140737488351232 := by omega
        clear hk hk1 hL hES0 hsv
        go_wp2_with fail
        refine (hO.out _).mono ?_
        rintro e w1 ⟨rfl, hh⟩
        have hown0 := kown_below hown hh
        have hbA : Below w.heap.size w w1 := hb.trans (hh.mono hsz)
        have hv1 := hown0.lt
        have hs1 := hbA.size
        clear hown hb hh hO hv
        have c0 := Blk.new w1 28 (va 256 (iv .u8 fun _ => 0))
        have c1 := c0.set (va 256 (iv .u8 (tbyte sv)))
        have hb1 : Below w.heap.size w ((w1.alloc (Obj.cells (va 256 (iv .u8 fun _ => 0)) 28)).setRow w1.heap.size (va 256 (iv .u8 (tbyte sv)))) := below_setRow (hbA.alloc hs1 _) hs1 _
        have hown1 : ((w1.alloc (Obj.cells (va 256 (iv .u8 fun _ => 0)) 28)).setRow w1.heap.size (va 256 (iv .u8 (tbyte sv)))).ownsRow w.heap.size 28 256 (.slice a k cap) k (byL (tbyte s) (k * 256)) := kown_setRow (hown0.alloc _) (fun q _ hq => Nat.ne_of_lt ((hv1 q hq).2)) _
        have HOWN : Hid ((((w1.alloc (Obj.cells (va 256 (iv .u8 fun _ => 0)) 28)).setRow w1.heap.size (va 256 (iv .u8 (tbyte sv)))).alloc (.cells (va 256 (iv .u8 (tbyte sv))) 28)).ownsRow w.heap.size 28 256 (.slice a k cap) k (byL (tbyte s) (k * 256))) := hown1.alloc _
        have HNEW := cells_new ((w1.alloc (Obj.cells (va 256 (iv .u8 fun _ => 0)) 28)).setRow w1.heap.size (va 256 (iv .u8 (tbyte sv)))) (va 256 (iv .u8 (tbyte sv))) 28
        have HV2 := hown1.lt
        have hb1s := hb1.size
        have HSZ : ((w1.alloc (Obj.cells (va 256 (iv .u8 fun _ => 0)) 28)).setRow w1.heap.size (va 256 (iv .u8 (tbyte sv)))).heap.size = w1.heap.size + 1 := by
          simp [World.setRow]
        generalize hW2 : (w1.alloc (Obj.cells (va 256 (iv .u8 fun _ => 0)) 28)).setRow w1.heap.size (va 256 (iv .u8 (tbyte sv))) = w2 at *
        have HW2 : Hid ((w1.alloc (Obj.cells (va 256 (iv .u8 fun _ => 0)) 28)).setRow w1.heap.size (va 256 (iv .u8 (tbyte sv))) = w2) := hW2
        have HNEW' : Hid (∀ j u, (va 256 (iv .u8 (tbyte sv))).toList[j]? = some u → (w2.alloc (.cells (va 256 (iv .u8 (tbyte sv))) 28)).cell? ((⟨w2.heap.size, 0, none⟩ : Addr).add j) = some u) := HNEW
        have HMEM : Hid (∀ u ∈ (va 256 (iv .u8 (tbyte sv))).toList, u.oneCell' = true) := kva_mem_one 256 (tbyte sv)
        have HLEN : Hid ((va 256 (iv .u8 (tbyte sv))).toList.length = 1 * 256) := by
          show _ = _
          rw [va_toList]
          simp
        clear hown1 hv1 hown0 HNEW hW2 HSZ hbA
        go_wp2_with (first
          | ((refine wpList_store_row (by rfl) 28 _ _ (by rfl) (w1.heap.size) (va 256 (iv .u8 (tbyte sv))) (by rfl) (by rfl) 28 _ c0 (sizeRbk.trans (by rw [va_size])) (by simp only [va_size]) (iv_one _ _ _) ?_; simp only [Act.put, List.setIfInBounds_toArray, List.set_cons_zero, List.set_cons_succ]); rw [HW2.out])
          | (refine wpList_load_row (by rfl) 28 _ (by rfl) (w1.heap.size) (by rfl) 28 (va 256 (iv .u8 (tbyte sv))) (0, 0) _ c1 Try.underlying28 (by rfl) (sizeRbk.trans (by rw [va_size])) ?_; simp only [Act.put, List.setIfInBounds_toArray, List.set_cons_zero, List.set_cons_succ])
          | (refine wpList_build1 (by rfl) 56 28 _ (by rfl) (va 256 (iv .u8 (tbyte sv))) (by rfl) i0 _ 256 Try.underlying56 hi hz0 hz1 (va_size _ _) (by decide) (by decide) ?_; simp only [Act.put, List.setIfInBounds_toArray, List.set_cons_zero, List.set_cons_succ])
          | (at_builtin; refine wpList_append_own _ rfl _ _ 56 rfl w.heap.size 28 i0 (.agg (va 256 (iv .u8 fun _ => 0))) 256 256 Try.underlying56 hi hz0 hz1 hz2 (va_size _ _) (by decide) _ _ _ rfl HOWN.out ⟨w2.heap.size, 0, none⟩ 1 1 (va 256 (iv .u8 (tbyte sv))).toList rfl HLEN.out HNEW'.out HMEM.out (by unfold maxLen; omega) (by omega) (by simp; omega) ?_)
          | go_in)
        intro v' w3 hown' hgrow _
        have hb2 : Below w.heap.size w w3 := (hb1.alloc hb1s _).grown hgrow (by simp; omega) (fun k hk => (HV2 k hk).1)
        rw [← HLC.out] at hown'
        obtain ⟨g3, cap3, rfl, hg3, hg3'⟩ := kown_form hown' (Nat.succ_pos k)
        clear HOWN HNEW' HMEM HLEN HV2 hgrow hb1 c1 c0 HW2
        go_wp2_with fail
        go_roundw
        case rel =>
          refine ⟨k + 1, cap3, _, _, rfl, rfl, ?_, ?_, hown', hb2⟩
          · rw [← hL']
            exact HDB.out
          · have h1 := HK1.out
            rw [← hL', hES]
            unfold leavesN
            omega
        case measure =>
          show (sv.extract 256 L).size < sv.size
          rw [← hL', hES]
          omega
    · have hs0 : sv.size = 0 := by omega
      have hk2 : Hid (k = leavesN s.size) := by
        show k = leavesN s.size
        rcases hk with h | h
        · unfold leavesN
          omega
        · exact h.2
      clear hk hsv
      go_wp2_with fail
      go_ret
      refine ⟨_, rfl, ?_, hb⟩
      rw [← hk2.out]
      exact hown
end Go.Proofs.Ytaoglljkghkbpaa
