/- Four inodes in a leaf: the statement. -/
import Derived.Test.YtpoaipoadokggaaHIoRFrom
import Derived.Test.YtpoaipoadokggaaHSegsIf
import Derived.Handy

namespace Go.Proofs.Ytpoaipoadokggaa
set_option maxRecDepth 20000
open Go Go.RowKit
set_option linter.unusedVariables false
set_option linter.unusedSimpArgs false
theorem bytes_bk {l : List Int} (hl : l.length = 256) (hw : ∀ x ∈ l, (Lit.int .u8 x).wf = true) : ∃ f : Nat → Nat, (∀ i, f i < 256) ∧ Value.agg (l.map (Value.int .u8)).toArray = bkV f := by
  have hb : ∀ i, 0 ≤ l.getD i 0 ∧ l.getD i 0 < 256 := fun i => by
    rw [List.getD_eq_getElem?_getD]
    cases hq : l[i]? with
    | none => exact ⟨by decide, by decide⟩
    | some x =>
      have := hw x (List.mem_of_getElem? hq)
      have h2 := bounds_u8 this
      simp only [Option.getD_some]
      omega
  refine ⟨fun i => (l.getD i 0).toNat, fun i => by have := hb i; show (l.getD i 0).toNat < 256; omega, ?_⟩
  unfold bkV
  congr 1
  apply Array.ext_getElem?
  intro i
  by_cases hi : i < 256
  · rw [va_at _ hi]
    have hget : l[i]? = some l[i] := List.getElem?_eq_getElem (by omega)
    simp only [List.getElem?_toArray, List.getElem?_map, hget, Option.map_some]
    have h2 := hb i
    rw [List.getD_eq_getElem?_getD, hget] at h2
    simp only [Option.getD_some] at h2
    unfold iv
    show _ = some (Value.int .u8 (((l.getD i 0).toNat : Nat) : Int))
    rw [List.getD_eq_getElem?_getD, hget, Option.getD_some, Int.toNat_of_nonneg h2.1]
  · rw [Array.getElem?_eq_none (by simp; omega), Array.getElem?_eq_none (by rw [va_size]; omega)]
/-- the text of an inode; none where it may not be -/
def tq (x : Ino) : ByteArray := if chk x = true then strN (inB x) 64 else ⟨#[]⟩
def tw (L : Nat → Ino) : Nat → ByteArray
  | 0 => ⟨#[]⟩
  | p + 1 => tw L p ++ tq (L p)
def bI (c : Nat → Bool) : Nat → Int
  | 0 => -1
  | p + 1 => if c p = false ∧ bI c p < 0 then (p : Int) else bI c p
theorem bI_lo (c : Nat → Bool) : ∀ p, -1 ≤ bI c p
  | 0 => Int.le_refl _
  | p + 1 => by
    have := bI_lo c p
    show -1 ≤ if c p = false ∧ bI c p < 0 then (p : Int) else bI c p
    split <;> omega
theorem bI_is (c : Nat → Bool) : bI c 4 = rbI c := by
  unfold rbI bdF
  simp only [bI]
  by_cases h0 : c 0 = false <;> by_cases h1 : c 1 = false <;> by_cases h2 : c 2 = false <;> by_cases h3 : c 3 = false <;> simp [h0, h1, h2, h3]
theorem tq_size (x : Ino) : (tq x).size ≤ 64 := by
  unfold tq
  split
  · rw [strN_size]; exact Nat.le_refl _
  · exact Nat.zero_le _
theorem tw_size (L : Nat → Ino) : ∀ p, (tw L p).size ≤ 64 * p
  | 0 => Nat.zero_le _
  | p + 1 => by
    have h1 := tw_size L p
    have h2 := tq_size (L p)
    show (tw L p ++ tq (L p)).size ≤ _
    rw [ByteArray.size_append]
    omega
theorem tw_ok (L : Nat → Ino) (hL : ∀ i, i < 4 → InW (L i)) (h : ∀ i, i < 4 → chk (L i) = true) : ∀ p, p ≤ 4 → tw L p = strN (lfF L 4) (64 * p)
  | 0, _ => by
    refine text_ext (by rw [strN_size]; rfl) fun j hj => ?_
    exact absurd hj (by show ¬ j < 0; omega)
  | p + 1, hp => by
    have ih := tw_ok L hL h p (by omega)
    show tw L p ++ tq (L p) = _
    have e1 : tq (L p) = strN (fun j => lfF L 4 (64 * p + j)) 64 := by
      unfold tq
      rw [if_pos (h p (by omega))]
      refine strN_congr fun j hj => ?_
      unfold lfF
      rw [if_pos (by omega), show (64 * p + j) / 64 = p by omega, show (64 * p + j) % 64 = j by omega]
    rw [ih, e1, strN_append (lfF L 4) (64 * p) 64 fun j hj => by
      unfold lfF
      split
      · exact inB_lt _ (hL _ (by omega)).d _
      · decide]
    rfl
set_option maxHeartbeats 16000000 in
theorem inodeLeavesLaw (L : Nat → Ino) (hL : ∀ i, i < 4 → InW (L i)) (f : Nat → Nat) (hf : ∀ i, f i < 256) (w : World) :
    Calls Try.prog 5 #[.agg (foC L), .agg (va 256 (iv .u8 f))] w fun e w' => e = .returned (.bool true) ∧ Below w.heap.size w w' := by
  have hzi := zero_ino
  have hzf := zero_fo
  have hzb := zero_bk
  have hzg := zero_rfo
  have HA : Hid (∀ w : World, Calls Try.prog 7 #[] w fun e w' => e = .returned (.bool true) ∧ Below w.heap.size w w') := awake14_any
  have l_w0 : Blk ((w.alloc (.cells (foC L) 58)).alloc (.cells (va 256 (iv .u8 f)) 60)) w.heap.size 58 (foC L) := (Blk.new _ _ _).alloc _
  have k_w0 : Blk ((w.alloc (.cells (foC L) 58)).alloc (.cells (va 256 (iv .u8 f)) 60)) (w.heap.size + 1) 60 (va 256 (iv .u8 f)) := Blk.new1 _ _ _ _
  have HB_w0 : Hid (Below w.heap.size w ((w.alloc (.cells (foC L) 58)).alloc (.cells (va 256 (iv .u8 f)) 60))) := below_new2 _ _ _
  go_enter Try.func5, Try.ntmps5
  go_wp2_with fail
  generalize ((w.alloc (.cells (foC L) 58)).alloc (.cells (va 256 (iv .u8 f)) 60)) = w0 at *
  refine (HA.out _).mono ?_
  intro e w1 hw_w1
  obtain ⟨he_w1, hb_w1⟩ := hw_w1
  subst he_w1
  have l_w1 : Blk w1 (w.heap.size) 58 (foC L) := l_w0.below hb_w1 l_w0.lt
  have k_w1 : Blk w1 (w.heap.size + 1) 60 (va 256 (iv .u8 f)) := k_w0.below hb_w1 k_w0.lt
  have HB_w1 : Hid (Below w.heap.size w w1) := HB_w0.out.trans (hb_w1.mono HB_w0.out.size)
  clear hb_w1 HB_w0 l_w0 k_w0
  go_wp2_with (first
    | (refine wpList_load_row (by rfl) 58 _ (by rfl) (w.heap.size) (by rfl) 58 (foC L) (0, 0) _ (by exact l_w1) Try.underlying58 (by rfl) (sizeFo.trans (by rw [foC_size])) ?_; simp only [Act.put, List.setIfInBounds_toArray, List.set_cons_zero, List.set_cons_succ])
    | fail)
  go_loopw [5, 6, 20] (fun vs vb i wr => Hid (∃ p : Nat, p ≤ 4 ∧ i = .int .i64 (p : Int) ∧ vs = .string (tw L p) ∧ vb = .int .i64 (bI (chkA L) p) ∧ Blk wr (w.heap.size) 58 (foC L) ∧ Blk wr (w.heap.size + 1) 60 (va 256 (iv .u8 f)) ∧ Below w.heap.size w wr)) (fun _ _ i _ => 4 - (intOf i).toNat)
  case atStart => exact ⟨0, by omega, rfl, rfl, rfl, l_w1, k_w1, HB_w1.out⟩
  case round =>
    obtain ⟨p, hp, rfl, rfl, rfl, l_wr, k_wr, hb⟩ := Hid.out hrel
    have HB_wr : Hid (Below w.heap.size w wr) := hb
    clear hrel HB_w1 l_w1 k_w1 hb HA
    by_cases h4 : p < 4
    · have p1 : (p : Int) < 4 := by omega
      have hx := run_index_ino L p h4
      have HGV : Hid (∀ w : World, Calls Try.prog 10 #[.agg (inC (L p))] w fun e w' => e = .returned (.agg (inC (L p))) ∧ Below w.heap.size w w') := given14_any _
      have HREn : Hid (chk (L p) = false → ∀ w : World, Calls Try.prog 9 #[.agg (inC (L p))] w fun e w' => e = .returned (.tuple #[.string ⟨#[]⟩, .bool false]) ∧ Below w.heap.size w w') := fun hc => rencode_no (L p) (hL p h4) hc
      have HREy : Hid (chk (L p) = true → ∀ w : World, Calls Try.prog 9 #[.agg (inC (L p))] w fun e w' => e = .returned (.tuple #[.string (strN (inB (L p)) 64), .bool true]) ∧ Below w.heap.size w w') := fun hc => rencode_ok (L p) (hL p h4) hc
      have HT : Hid (tw L (p + 1) = tw L p ++ tq (L p)) := rfl
      have HTQ : Hid (tq (L p) = if chk (L p) = true then strN (inB (L p)) 64 else ⟨#[]⟩) := rfl
      have HBI : Hid (bI (chkA L) (p + 1) = if chk (L p) = false ∧ bI (chkA L) p < 0 then (p : Int) else bI (chkA L) p) := rfl
      have hbl := bI_lo (chkA L) p
      have ht1 : (tw L p).size ≤ 256 := by have := tw_size L p; omega
      have ht2 : (strN (inB (L p)) 64).size = 64 := strN_size _ _
      have qa_w2 : Blk (wr.alloc (.cells (inC in0) 31)) wr.heap.size 31 (inC in0) := Blk.new _ _ _
      have x_w2 : Blk ((wr.alloc (.cells (inC in0) 31)).setRow wr.heap.size (inC (L p))) wr.heap.size 31 (inC (L p)) := qa_w2.set _
      have l_w2 : Blk ((wr.alloc (.cells (inC in0) 31)).setRow wr.heap.size (inC (L p))) (w.heap.size) 58 (foC L) := (l_wr.alloc _).other _ (by have := l_wr.lt; omega)
      have k_w2 : Blk ((wr.alloc (.cells (inC in0) 31)).setRow wr.heap.size (inC (L p))) (w.heap.size + 1) 60 (va 256 (iv .u8 f)) := (k_wr.alloc _).other _ (by have := k_wr.lt; omega)
      have HB_w2 : Hid (Below w.heap.size w ((wr.alloc (.cells (inC in0) 31)).setRow wr.heap.size (inC (L p)))) := below_setRow (HB_wr.out.alloc HB_wr.out.size _) HB_wr.out.size _
      go_wp2_with (first
        | (refine wpList_store_row (by rfl) 31 _ _ (by rfl) (wr.heap.size) (inC (L p)) (by rfl) (by rfl) 31 (inC in0) (by exact qa_w2) (sizeIno.trans (by rw [inC_size])) (by simp only [inC_size]) (inC_all _) ?_; simp only [Act.put, List.setIfInBounds_toArray, List.set_cons_zero, List.set_cons_succ])
        | (refine wpList_load_row (by rfl) 31 _ (by rfl) (wr.heap.size) (by rfl) 31 (inC (L p)) (0, 0) _ (by exact x_w2) Try.underlying31 (by rfl) (sizeIno.trans (by rw [inC_size])) ?_; simp only [Act.put, List.setIfInBounds_toArray, List.set_cons_zero, List.set_cons_succ])
        | fail)
      generalize ((wr.alloc (.cells (inC in0) 31)).setRow wr.heap.size (inC (L p))) = w2 at *
      clear hx qa_w2 x_w2 HB_wr l_wr k_wr
      refine (HGV.out _).mono ?_
      intro e w3 hw_w3
      obtain ⟨he_w3, hb_w3⟩ := hw_w3
      subst he_w3
      have l_w3 : Blk w3 (w.heap.size) 58 (foC L) := l_w2.below hb_w3 l_w2.lt
      have k_w3 : Blk w3 (w.heap.size + 1) 60 (va 256 (iv .u8 f)) := k_w2.below hb_w3 k_w2.lt
      have HB_w3 : Hid (Below w.heap.size w w3) := HB_w2.out.trans (hb_w3.mono HB_w2.out.size)
      clear hb_w3 HB_w2 l_w2 k_w2
      go_wp2_with fail
      generalize tw L p = tp at *
      generalize bI (chkA L) p = bi at *
      cases hc : chk (L p)
      · have HT2 : Hid (tw L (p + 1) = tp ++ ⟨#[]⟩) := by rw [HT.out, HTQ.out, hc]; rfl
        refine (HREn.out hc _).mono ?_
        intro e w4 hw_w4
        obtain ⟨he_w4, hb_w4⟩ := hw_w4
        subst he_w4
        have l_w4 : Blk w4 (w.heap.size) 58 (foC L) := l_w3.below hb_w4 l_w3.lt
        have k_w4 : Blk w4 (w.heap.size + 1) 60 (va 256 (iv .u8 f)) := k_w3.below hb_w4 k_w3.lt
        have HB_w4 : Hid (Below w.heap.size w w4) := HB_w3.out.trans (hb_w4.mono HB_w3.out.size)
        clear hb_w4 HB_w3 l_w3 k_w3
        clear HREn HREy HGV HT HTQ
        by_cases hb0 : bi < 0
        · have HB2 : Hid (bI (chkA L) (p + 1) = (p : Int)) := by show bI (chkA L) (p + 1) = _; rw [HBI.out, hc, if_pos ⟨rfl, hb0⟩]
          clear HBI
          go_wp2_with fail
          refine ⟨⟨p + 1, by omega, by simp, by rw [HT2.out], by rw [HB2.out], l_w4, k_w4, HB_w4.out⟩, ?_⟩
          simp [intOf]; omega
        · have HB2 : Hid (bI (chkA L) (p + 1) = bi) := by show bI (chkA L) (p + 1) = _; rw [HBI.out, if_neg (fun h => hb0 h.2)]
          clear HBI
          go_wp2_with fail
          refine ⟨⟨p + 1, by omega, by simp, by rw [HT2.out], by rw [HB2.out], l_w4, k_w4, HB_w4.out⟩, ?_⟩
          simp [intOf]; omega
      · have HT2 : Hid (tw L (p + 1) = tp ++ strN (inB (L p)) 64) := by rw [HT.out, HTQ.out, hc]; rfl
        have HB2 : Hid (bI (chkA L) (p + 1) = bi) := by rw [HBI.out, hc]; rfl
        refine (HREy.out hc _).mono ?_
        intro e w4 hw_w4
        obtain ⟨he_w4, hb_w4⟩ := hw_w4
        subst he_w4
        have l_w4 : Blk w4 (w.heap.size) 58 (foC L) := l_w3.below hb_w4 l_w3.lt
        have k_w4 : Blk w4 (w.heap.size + 1) 60 (va 256 (iv .u8 f)) := k_w3.below hb_w4 k_w3.lt
        have HB_w4 : Hid (Below w.heap.size w w4) := HB_w3.out.trans (hb_w4.mono HB_w3.out.size)
        clear hb_w4 HB_w3 l_w3 k_w3
        clear HREn HREy HGV HT HTQ HBI
        generalize strN (inB (L p)) 64 = te at *
        go_wp2_with fail
        refine ⟨⟨p + 1, by omega, by simp, by rw [HT2.out], by rw [HB2.out], l_w4, k_w4, HB_w4.out⟩, ?_⟩
        simp [intOf]; omega
    · have e4 : p = 4 := by omega
      subst e4
      clear h4 hp
      have HLF : Hid (∀ w : World, Calls Try.prog 21 #[.agg (foC L)] w fun e w' => e = .returned (.tuple #[.agg (va 256 (iv .u8 (leB L))), .int .i64 (leA (chkA L)), .int .i64 (leE (chkA L))]) ∧ Below w.heap.size w w') := leaf14_any L hL
      have HFB : Hid (∀ w : World, Calls Try.prog 22 #[.agg (va 256 (iv .u8 f))] w fun e w' => e = .returned (.tuple #[.agg (foC (frL f)), .int .i64 (leA (pcA f)), .int .i64 (leE (pcA f))]) ∧ Below w.heap.size w w') := from14_any f
      have HRB : Hid (∀ w : World, Calls Try.prog 23 #[.string (strN f 256)] w fun e w' => e = .returned (.tuple #[.agg (foC (frL f)), .int .i64 (rbI (pcA f))]) ∧ Below w.heap.size w w') := rfrom14_any f hf
      have HBI : Hid (bI (chkA L) 4 = rbI (chkA L)) := bI_is _
      have HR : Hid ((bdF (pcA f) = 4 ∧ rbI (pcA f) = -1 ∧ leA (pcA f) = 0 ∧ leE (pcA f) = 0) ∨ (0 ≤ rbI (pcA f) ∧ leA (pcA f) = rbI (pcA f) ∧ leE (pcA f) = 140)) := by
        by_cases h : bdF (pcA f) = 4
        · exact Or.inl ⟨h, if_pos h, if_pos h, if_pos h⟩
        · refine Or.inr ⟨?_, ?_, if_neg h⟩
          · unfold rbI; rw [if_neg h]; omega
          · unfold rbI leA; rw [if_neg h, if_neg h]
      go_wp2_with (first
        | (refine wpList_load_row (by rfl) 58 _ (by rfl) (w.heap.size) (by rfl) 58 (foC L) (0, 0) _ (by exact l_wr) Try.underlying58 (by rfl) (sizeFo.trans (by rw [foC_size])) ?_; simp only [Act.put, List.setIfInBounds_toArray, List.set_cons_zero, List.set_cons_succ])
        | fail)
      refine (HLF.out _).mono ?_
      intro e w2 hw_w2
      obtain ⟨he_w2, hb_w2⟩ := hw_w2
      subst he_w2
      have l_w2 : Blk w2 (w.heap.size) 58 (foC L) := l_wr.below hb_w2 l_wr.lt
      have k_w2 : Blk w2 (w.heap.size + 1) 60 (va 256 (iv .u8 f)) := k_wr.below hb_w2 k_wr.lt
      have HB_w2 : Hid (Below w.heap.size w w2) := HB_wr.out.trans (hb_w2.mono HB_wr.out.size)
      clear hb_w2 HB_wr l_wr k_wr
      have qa_w3 : Blk (w2.alloc (.cells (va 256 (iv .u8 fun _ => 0)) 60)) w2.heap.size 60 (va 256 (iv .u8 fun _ => 0)) := Blk.new _ _ _
      have c_w3 : Blk ((w2.alloc (.cells (va 256 (iv .u8 fun _ => 0)) 60)).setRow w2.heap.size (va 256 (iv .u8 (leB L)))) w2.heap.size 60 (va 256 (iv .u8 (leB L))) := qa_w3.set _
      have k_w3 : Blk ((w2.alloc (.cells (va 256 (iv .u8 fun _ => 0)) 60)).setRow w2.heap.size (va 256 (iv .u8 (leB L)))) (w.heap.size + 1) 60 (va 256 (iv .u8 f)) := (k_w2.alloc _).other _ (by have := k_w2.lt; omega)
      have HB_w3 : Hid (Below w.heap.size w ((w2.alloc (.cells (va 256 (iv .u8 fun _ => 0)) 60)).setRow w2.heap.size (va 256 (iv .u8 (leB L))))) := below_setRow (HB_w2.out.alloc HB_w2.out.size _) HB_w2.out.size _
      by_cases hbd : bdF (chkA L) = 4
      · have e0 : bI (chkA L) 4 = -1 := by rw [HBI.out]; exact if_pos hbd
        have e1 : leA (chkA L) = 0 := if_pos hbd
        have e2 : leE (chkA L) = 0 := if_pos hbd
        have e3 : tw L 4 = strN (leB L) 256 := by
          rw [tw_ok L hL (bd_all hbd) 4 (by decide), show leB L = lfF L 4 from if_pos hbd]
        rw [e0, e1, e2, e3]
        have cv := IsB.all (c := 256) c_w3 ((w2.alloc (.cells (va 256 (iv .u8 fun _ => 0)) 60)).setRow w2.heap.size (va 256 (iv .u8 (leB L)))) (Below.refl _ _)
        generalize strN (leB L) 256 = tb at *
        clear e0 e1 e2 e3 HBI
        go_wp2_with (first
          | (refine wpList_store_row (by rfl) 60 _ _ (by rfl) (w2.heap.size) (va 256 (iv .u8 (leB L))) (by rfl) (by rfl) 60 (va 256 (iv .u8 fun _ => 0)) (by exact qa_w3) (sizeBk.trans (by rw [va_size])) (by simp only [va_size]) (iv_one _ _ _) ?_; simp only [Act.put, List.setIfInBounds_toArray, List.set_cons_zero, List.set_cons_succ])
          | (refine wpList_load_row (by rfl) 60 _ (by rfl) (w.heap.size + 1) (by rfl) 60 (va 256 (iv .u8 f)) (0, 0) _ (by exact k_w3) Try.underlying60 (by rfl) (sizeBk.trans (by rw [va_size])) ?_; simp only [Act.put, List.setIfInBounds_toArray, List.set_cons_zero, List.set_cons_succ])
          | fail)
        generalize ((w2.alloc (.cells (va 256 (iv .u8 fun _ => 0)) 60)).setRow w2.heap.size (va 256 (iv .u8 (leB L)))) = w3 at *
        clear cv c_w3 qa_w3 k_w2 HB_w2 l_w2
        refine (HFB.out _).mono ?_
        intro e w6 hw_w6
        obtain ⟨he_w6, hb_w6⟩ := hw_w6
        subst he_w6
        have k_w6 : Blk w6 (w.heap.size + 1) 60 (va 256 (iv .u8 f)) := k_w3.below hb_w6 k_w3.lt
        have HB_w6 : Hid (Below w.heap.size w w6) := HB_w3.out.trans (hb_w6.mono HB_w3.out.size)
        clear hb_w6 HB_w3 k_w3
        have qa_w7 : Blk (w6.alloc (.cells (foC fun _ => in0) 58)) w6.heap.size 58 (foC fun _ => in0) := Blk.new _ _ _
        have m_w7 : Blk ((w6.alloc (.cells (foC fun _ => in0) 58)).setRow w6.heap.size (foC (frL f))) w6.heap.size 58 (foC (frL f)) := qa_w7.set _
        have k_w7 : Blk ((w6.alloc (.cells (foC fun _ => in0) 58)).setRow w6.heap.size (foC (frL f))) (w.heap.size + 1) 60 (va 256 (iv .u8 f)) := (k_w6.alloc _).other _ (by have := k_w6.lt; omega)
        have HB_w7 : Hid (Below w.heap.size w ((w6.alloc (.cells (foC fun _ => in0) 58)).setRow w6.heap.size (foC (frL f)))) := below_setRow (HB_w6.out.alloc HB_w6.out.size _) HB_w6.out.size _
        have cvb := IsB.all (c := 256) k_w7 ((w6.alloc (.cells (foC fun _ => in0) 58)).setRow w6.heap.size (foC (frL f))) (Below.refl _ _)
        go_wp2_with (first
          | (refine wpList_store_row (by rfl) 58 _ _ (by rfl) (w6.heap.size) (foC (frL f)) (by rfl) (by rfl) 58 (foC fun _ => in0) (by exact qa_w7) (sizeFo.trans (by rw [foC_size])) (by simp only [foC_size]) (foC_all _) ?_; simp only [Act.put, List.setIfInBounds_toArray, List.set_cons_zero, List.set_cons_succ])
          | fail)
        generalize ((w6.alloc (.cells (foC fun _ => in0) 58)).setRow w6.heap.size (foC (frL f))) = w7 at *
        generalize w6.heap.size = gm at *
        clear qa_w7 k_w6 HB_w6 cvb
        refine (HRB.out _).mono ?_
        intro e w8 hw_w8
        obtain ⟨he_w8, hb_w8⟩ := hw_w8
        subst he_w8
        have m_w8 : Blk w8 (gm) 58 (foC (frL f)) := m_w7.below hb_w8 m_w7.lt
        have k_w8 : Blk w8 (w.heap.size + 1) 60 (va 256 (iv .u8 f)) := k_w7.below hb_w8 k_w7.lt
        have HB_w8 : Hid (Below w.heap.size w w8) := HB_w7.out.trans (hb_w8.mono HB_w7.out.size)
        clear hb_w8 HB_w7 m_w7 k_w7
        have qa_w9 : Blk (w8.alloc (.cells (foC fun _ => in0) 65)) w8.heap.size 65 (foC fun _ => in0) := Blk.new _ _ _
        have r_w9 : Blk ((w8.alloc (.cells (foC fun _ => in0) 65)).setRow w8.heap.size (foC (frL f))) w8.heap.size 65 (foC (frL f)) := qa_w9.set _
        have m_w9 : Blk ((w8.alloc (.cells (foC fun _ => in0) 65)).setRow w8.heap.size (foC (frL f))) (gm) 58 (foC (frL f)) := (m_w8.alloc _).other _ (by have := m_w8.lt; omega)
        have HB_w9 : Hid (Below w.heap.size w ((w8.alloc (.cells (foC fun _ => in0) 65)).setRow w8.heap.size (foC (frL f)))) := below_setRow (HB_w8.out.alloc HB_w8.out.size _) HB_w8.out.size _
        go_wp2_with (first
          | (refine wpList_store_row (by rfl) 65 _ _ (by rfl) (w8.heap.size) (foC (frL f)) (by rfl) (by rfl) 65 (foC fun _ => in0) (by exact qa_w9) (sizeRFo.trans (by rw [foC_size])) (by simp only [foC_size]) (foC_all _) ?_; simp only [Act.put, List.setIfInBounds_toArray, List.set_cons_zero, List.set_cons_succ])
          | fail)
        generalize ((w8.alloc (.cells (foC fun _ => in0) 65)).setRow w8.heap.size (foC (frL f))) = w9 at *
        generalize w8.heap.size = gr at *
        clear qa_w9 m_w8 k_w8 HB_w8
        go_loopw [85] (fun i wr => Hid (∃ p : Nat, p ≤ 4 ∧ i = .int .i64 (p : Int) ∧ Blk wr gm 58 (foC (frL f)) ∧ Blk wr gr 65 (foC (frL f)) ∧ Below w.heap.size w wr)) (fun i _ => 4 - (intOf i).toNat)
        case atStart => exact ⟨0, by omega, rfl, m_w9, r_w9, HB_w9.out⟩
        case round =>
          obtain ⟨p, hp, rfl, hm, hr, hb⟩ := Hid.out hrel
          clear hrel m_w9 r_w9 HB_w9
          by_cases h4 : p < 4
          · have p1 : (p : Int) < 4 := by omega
            have HGV : Hid (∀ w : World, Calls Try.prog 10 #[.agg (inC (frL f p))] w fun e w' => e = .returned (.agg (inC (frL f p))) ∧ Below w.heap.size w w') := given14_any _
            have heq : ∀ W, (Op.equalIn 10000 44 (.agg (inC (frL f p))) (.agg (inC (frL f p)))).run Try.prog W = .ok true W := fun W => by rw [eq_rino 9995 _ _ W, decide_eq_true rfl]
            have HRG : Hid (∀ (W : World) (g T : Nat), Blk W g T (foC (frL f)) → W.rangeAt g (p * 38) ((List.range 38).map (inF (frL f p)))) := fun W g T hW => by
              have h := World.rangeAt_of_block (b := g) hW (p * 38) 38
              rw [fo_extract _ p h4] at h
              unfold inC at h
              rwa [va_toList] at h
            have hS0 : Blk wr gm 58 (foC (frL f)) ∧ Blk wr gr 65 (foC (frL f)) := ⟨hm, hr⟩
            have HB0 : Hid (Below w.heap.size w wr) := hb
            clear hm hr hb
            go_wp2_with fail
            refine wp_region_partsS (fun W => Blk W gm 58 (foC (frL f)) ∧ Blk W gr 65 (foC (frL f))) [([0, 1, 4, 5], 2, true), ([], 6, true), ([], 3, false), ([], 7, false)] [] [] (by kernel_rfl) (by kernel_rfl) ⟨hS0.1.drew, hS0.2.drew⟩ (partsI_yield ?_)
            simp only [List.cons_append, List.nil_append, List.append_nil, List.filterMap_cons, List.filterMap_nil, List.getElem?_toArray, List.getElem?_cons_zero, List.getElem?_cons_succ]
            go_wp2_with fail
            refine ⟨rfl, _, .agg (inC (frL f p)), rfl, yields_load_fa (by rfl) 31 _ (by rfl) gm (p * 38) 38 (inF (frL f p)) (by rfl) _ (fun W hW => HRG.out W gm _ hW.1) Try.underlying31 rfl sizeIno, partsI_yield ?_⟩
            simp only [Act.put, List.setIfInBounds_toArray, List.set_cons_zero, List.set_cons_succ]
            simp only [List.cons_append, List.nil_append, List.append_nil, List.filterMap_cons, List.filterMap_nil, List.getElem?_toArray, List.getElem?_cons_zero, List.getElem?_cons_succ]
            go_wp2_with fail
            refine ⟨rfl, _, .agg (inC (frL f p)), rfl, yields_load_fa (by rfl) 44 _ (by rfl) gr (p * 38) 38 (inF (frL f p)) (by rfl) _ (fun W hW => HRG.out W gr _ hW.2) Try.underlying44 rfl sizeRIno, partsI_force ?_⟩
            simp only [Act.put, List.setIfInBounds_toArray, List.set_cons_zero, List.set_cons_succ]
            simp only [List.cons_append, List.nil_append, List.append_nil, List.filterMap_cons, List.filterMap_nil, List.getElem?_toArray, List.getElem?_cons_zero, List.getElem?_cons_succ]
            go_wp2_with fail
            refine (HGV.out _).mono ?_
            intro e w10 hw_w10
            obtain ⟨he_w10, hb_w10⟩ := hw_w10
            subst he_w10
            have hS1 : Blk w10 gm 58 (foC (frL f)) ∧ Blk w10 gr 65 (foC (frL f)) := ⟨Blk.below (w := wr.drew) hS0.1.drew hb_w10 hS0.1.lt, Blk.below (w := wr.drew) hS0.2.drew hb_w10 hS0.2.lt⟩
            have HB_w10 : Hid (Below w.heap.size w w10) := HB0.out.drew.trans (hb_w10.mono HB0.out.drew.size)
            clear hb_w10
            go_wp2_with fail
            refine ⟨rfl, hS1, partsI_force ?_⟩
            simp only [List.cons_append, List.nil_append, List.append_nil, List.filterMap_cons, List.filterMap_nil, List.getElem?_toArray, List.getElem?_cons_zero, List.getElem?_cons_succ]
            go_wp2_with fail
            refine ⟨rfl, hS1, partsI_last ?_⟩
            simp only [List.cons_append, List.nil_append, List.append_nil, List.filterMap_cons, List.filterMap_nil, List.getElem?_toArray, List.getElem?_cons_zero, List.getElem?_cons_succ]
            go_wp2_with fail
            refine ⟨rfl, ?_⟩
            go_wp2_with fail
            refine ⟨⟨p + 1, by omega, by simp, hS1.1, hS1.2, HB_w10.out⟩, ?_⟩
            simp [intOf]; omega
          · clear hm hr
            have HBE : Hid (Below w.heap.size w wr) := hb
            clear hb HFB HRB
            rcases HR.out with ⟨_, e1, e2, e3⟩ | ⟨e1, e2, e3⟩
            · rw [e1, e2, e3]
              clear e1 e2 e3 HR
              have hp4 : ¬ (p : Int) < 4 := by omega
              go_wp2_with fail
              go_ret
              exact ⟨by first | rfl | simp, HBE.out⟩
            · rw [e2, e3]
              have hp4 : ¬ (p : Int) < 4 := by omega
              clear e2 e3 HR
              generalize rbI (pcA f) = q at *
              go_wp2_with fail
              go_ret
              exact ⟨by first | rfl | simp, HBE.out⟩
      · have e0 : bI (chkA L) 4 = leA (chkA L) := by rw [HBI.out]; unfold rbI leA; rw [if_neg hbd, if_neg hbd]
        have e2 : leE (chkA L) = 140 := if_neg hbd
        have e1 : leB L = fun _ => 0 := if_neg hbd
        have e4 : 0 ≤ leA (chkA L) := by unfold leA; rw [if_neg hbd]; omega
        have hqb : ∀ W, (Op.equalIn 10000 60 (.agg (va 256 (iv .u8 (leB L)))) (.agg (va 256 (iv .u8 fun _ => 0)))).run Try.prog W = .ok true W := fun W => by
          rw [e1]
          refine (eq_bk 60 Try.underlying60 _ _ W).trans ?_
          rw [decide_eq_true (fun i _ => rfl)]
        rw [e0, e2]
        clear e0 e1 e2 HBI
        generalize leA (chkA L) = la at *
        go_wp2_with (first
          | (refine wpList_store_row (by rfl) 60 _ _ (by rfl) (w2.heap.size) (va 256 (iv .u8 (leB L))) (by rfl) (by rfl) 60 (va 256 (iv .u8 fun _ => 0)) (by exact qa_w3) (sizeBk.trans (by rw [va_size])) (by simp only [va_size]) (iv_one _ _ _) ?_; simp only [Act.put, List.setIfInBounds_toArray, List.set_cons_zero, List.set_cons_succ])
          | (refine wpList_load_row (by rfl) 60 _ (by rfl) (w2.heap.size) (by rfl) 60 (va 256 (iv .u8 (leB L))) (0, 0) _ (by exact c_w3) Try.underlying60 (by rfl) (sizeBk.trans (by rw [va_size])) ?_; simp only [Act.put, List.setIfInBounds_toArray, List.set_cons_zero, List.set_cons_succ])
          | (refine wpList_load_row (by rfl) 60 _ (by rfl) (w.heap.size + 1) (by rfl) 60 (va 256 (iv .u8 f)) (0, 0) _ (by exact k_w3) Try.underlying60 (by rfl) (sizeBk.trans (by rw [va_size])) ?_; simp only [Act.put, List.setIfInBounds_toArray, List.set_cons_zero, List.set_cons_succ])
          | fail)
        generalize ((w2.alloc (.cells (va 256 (iv .u8 fun _ => 0)) 60)).setRow w2.heap.size (va 256 (iv .u8 (leB L)))) = w3 at *
        clear c_w3 qa_w3 k_w2 HB_w2 l_w2 hqb
        refine (HFB.out _).mono ?_
        intro e w6 hw_w6
        obtain ⟨he_w6, hb_w6⟩ := hw_w6
        subst he_w6
        have k_w6 : Blk w6 (w.heap.size + 1) 60 (va 256 (iv .u8 f)) := k_w3.below hb_w6 k_w3.lt
        have HB_w6 : Hid (Below w.heap.size w w6) := HB_w3.out.trans (hb_w6.mono HB_w3.out.size)
        clear hb_w6 HB_w3 k_w3
        have qa_w7 : Blk (w6.alloc (.cells (foC fun _ => in0) 58)) w6.heap.size 58 (foC fun _ => in0) := Blk.new _ _ _
        have m_w7 : Blk ((w6.alloc (.cells (foC fun _ => in0) 58)).setRow w6.heap.size (foC (frL f))) w6.heap.size 58 (foC (frL f)) := qa_w7.set _
        have k_w7 : Blk ((w6.alloc (.cells (foC fun _ => in0) 58)).setRow w6.heap.size (foC (frL f))) (w.heap.size + 1) 60 (va 256 (iv .u8 f)) := (k_w6.alloc _).other _ (by have := k_w6.lt; omega)
        have HB_w7 : Hid (Below w.heap.size w ((w6.alloc (.cells (foC fun _ => in0) 58)).setRow w6.heap.size (foC (frL f)))) := below_setRow (HB_w6.out.alloc HB_w6.out.size _) HB_w6.out.size _
        have cvb := IsB.all (c := 256) k_w7 ((w6.alloc (.cells (foC fun _ => in0) 58)).setRow w6.heap.size (foC (frL f))) (Below.refl _ _)
        go_wp2_with (first
          | (refine wpList_store_row (by rfl) 58 _ _ (by rfl) (w6.heap.size) (foC (frL f)) (by rfl) (by rfl) 58 (foC fun _ => in0) (by exact qa_w7) (sizeFo.trans (by rw [foC_size])) (by simp only [foC_size]) (foC_all _) ?_; simp only [Act.put, List.setIfInBounds_toArray, List.set_cons_zero, List.set_cons_succ])
          | fail)
        generalize ((w6.alloc (.cells (foC fun _ => in0) 58)).setRow w6.heap.size (foC (frL f))) = w7 at *
        generalize w6.heap.size = gm at *
        clear qa_w7 k_w6 HB_w6 cvb
        refine (HRB.out _).mono ?_
        intro e w8 hw_w8
        obtain ⟨he_w8, hb_w8⟩ := hw_w8
        subst he_w8
        have m_w8 : Blk w8 (gm) 58 (foC (frL f)) := m_w7.below hb_w8 m_w7.lt
        have k_w8 : Blk w8 (w.heap.size + 1) 60 (va 256 (iv .u8 f)) := k_w7.below hb_w8 k_w7.lt
        have HB_w8 : Hid (Below w.heap.size w w8) := HB_w7.out.trans (hb_w8.mono HB_w7.out.size)
        clear hb_w8 HB_w7 m_w7 k_w7
        have qa_w9 : Blk (w8.alloc (.cells (foC fun _ => in0) 65)) w8.heap.size 65 (foC fun _ => in0) := Blk.new _ _ _
        have r_w9 : Blk ((w8.alloc (.cells (foC fun _ => in0) 65)).setRow w8.heap.size (foC (frL f))) w8.heap.size 65 (foC (frL f)) := qa_w9.set _
        have m_w9 : Blk ((w8.alloc (.cells (foC fun _ => in0) 65)).setRow w8.heap.size (foC (frL f))) (gm) 58 (foC (frL f)) := (m_w8.alloc _).other _ (by have := m_w8.lt; omega)
        have HB_w9 : Hid (Below w.heap.size w ((w8.alloc (.cells (foC fun _ => in0) 65)).setRow w8.heap.size (foC (frL f)))) := below_setRow (HB_w8.out.alloc HB_w8.out.size _) HB_w8.out.size _
        go_wp2_with (first
          | (refine wpList_store_row (by rfl) 65 _ _ (by rfl) (w8.heap.size) (foC (frL f)) (by rfl) (by rfl) 65 (foC fun _ => in0) (by exact qa_w9) (sizeRFo.trans (by rw [foC_size])) (by simp only [foC_size]) (foC_all _) ?_; simp only [Act.put, List.setIfInBounds_toArray, List.set_cons_zero, List.set_cons_succ])
          | fail)
        generalize ((w8.alloc (.cells (foC fun _ => in0) 65)).setRow w8.heap.size (foC (frL f))) = w9 at *
        generalize w8.heap.size = gr at *
        clear qa_w9 m_w8 k_w8 HB_w8
        go_loopw [85] (fun i wr => Hid (∃ p : Nat, p ≤ 4 ∧ i = .int .i64 (p : Int) ∧ Blk wr gm 58 (foC (frL f)) ∧ Blk wr gr 65 (foC (frL f)) ∧ Below w.heap.size w wr)) (fun i _ => 4 - (intOf i).toNat)
        case atStart => exact ⟨0, by omega, rfl, m_w9, r_w9, HB_w9.out⟩
        case round =>
          obtain ⟨p, hp, rfl, hm, hr, hb⟩ := Hid.out hrel
          clear hrel m_w9 r_w9 HB_w9
          by_cases h4 : p < 4
          · have p1 : (p : Int) < 4 := by omega
            have HGV : Hid (∀ w : World, Calls Try.prog 10 #[.agg (inC (frL f p))] w fun e w' => e = .returned (.agg (inC (frL f p))) ∧ Below w.heap.size w w') := given14_any _
            have heq : ∀ W, (Op.equalIn 10000 44 (.agg (inC (frL f p))) (.agg (inC (frL f p)))).run Try.prog W = .ok true W := fun W => by rw [eq_rino 9995 _ _ W, decide_eq_true rfl]
            have HRG : Hid (∀ (W : World) (g T : Nat), Blk W g T (foC (frL f)) → W.rangeAt g (p * 38) ((List.range 38).map (inF (frL f p)))) := fun W g T hW => by
              have h := World.rangeAt_of_block (b := g) hW (p * 38) 38
              rw [fo_extract _ p h4] at h
              unfold inC at h
              rwa [va_toList] at h
            have hS0 : Blk wr gm 58 (foC (frL f)) ∧ Blk wr gr 65 (foC (frL f)) := ⟨hm, hr⟩
            have HB0 : Hid (Below w.heap.size w wr) := hb
            clear hm hr hb
            go_wp2_with fail
            refine wp_region_partsS (fun W => Blk W gm 58 (foC (frL f)) ∧ Blk W gr 65 (foC (frL f))) [([0, 1, 4, 5], 2, true), ([], 6, true), ([], 3, false), ([], 7, false)] [] [] (by kernel_rfl) (by kernel_rfl) ⟨hS0.1.drew, hS0.2.drew⟩ (partsI_yield ?_)
            simp only [List.cons_append, List.nil_append, List.append_nil, List.filterMap_cons, List.filterMap_nil, List.getElem?_toArray, List.getElem?_cons_zero, List.getElem?_cons_succ]
            go_wp2_with fail
            refine ⟨rfl, _, .agg (inC (frL f p)), rfl, yields_load_fa (by rfl) 31 _ (by rfl) gm (p * 38) 38 (inF (frL f p)) (by rfl) _ (fun W hW => HRG.out W gm _ hW.1) Try.underlying31 rfl sizeIno, partsI_yield ?_⟩
            simp only [Act.put, List.setIfInBounds_toArray, List.set_cons_zero, List.set_cons_succ]
            simp only [List.cons_append, List.nil_append, List.append_nil, List.filterMap_cons, List.filterMap_nil, List.getElem?_toArray, List.getElem?_cons_zero, List.getElem?_cons_succ]
            go_wp2_with fail
            refine ⟨rfl, _, .agg (inC (frL f p)), rfl, yields_load_fa (by rfl) 44 _ (by rfl) gr (p * 38) 38 (inF (frL f p)) (by rfl) _ (fun W hW => HRG.out W gr _ hW.2) Try.underlying44 rfl sizeRIno, partsI_force ?_⟩
            simp only [Act.put, List.setIfInBounds_toArray, List.set_cons_zero, List.set_cons_succ]
            simp only [List.cons_append, List.nil_append, List.append_nil, List.filterMap_cons, List.filterMap_nil, List.getElem?_toArray, List.getElem?_cons_zero, List.getElem?_cons_succ]
            go_wp2_with fail
            refine (HGV.out _).mono ?_
            intro e w10 hw_w10
            obtain ⟨he_w10, hb_w10⟩ := hw_w10
            subst he_w10
            have hS1 : Blk w10 gm 58 (foC (frL f)) ∧ Blk w10 gr 65 (foC (frL f)) := ⟨Blk.below (w := wr.drew) hS0.1.drew hb_w10 hS0.1.lt, Blk.below (w := wr.drew) hS0.2.drew hb_w10 hS0.2.lt⟩
            have HB_w10 : Hid (Below w.heap.size w w10) := HB0.out.drew.trans (hb_w10.mono HB0.out.drew.size)
            clear hb_w10
            go_wp2_with fail
            refine ⟨rfl, hS1, partsI_force ?_⟩
            simp only [List.cons_append, List.nil_append, List.append_nil, List.filterMap_cons, List.filterMap_nil, List.getElem?_toArray, List.getElem?_cons_zero, List.getElem?_cons_succ]
            go_wp2_with fail
            refine ⟨rfl, hS1, partsI_last ?_⟩
            simp only [List.cons_append, List.nil_append, List.append_nil, List.filterMap_cons, List.filterMap_nil, List.getElem?_toArray, List.getElem?_cons_zero, List.getElem?_cons_succ]
            go_wp2_with fail
            refine ⟨rfl, ?_⟩
            go_wp2_with fail
            refine ⟨⟨p + 1, by omega, by simp, hS1.1, hS1.2, HB_w10.out⟩, ?_⟩
            simp [intOf]; omega
          · clear hm hr
            have HBE : Hid (Below w.heap.size w wr) := hb
            clear hb HFB HRB
            rcases HR.out with ⟨_, e1, e2, e3⟩ | ⟨e1, e2, e3⟩
            · rw [e1, e2, e3]
              clear e1 e2 e3 HR
              have hp4 : ¬ (p : Int) < 4 := by omega
              go_wp2_with fail
              go_ret
              exact ⟨by first | rfl | simp, HBE.out⟩
            · rw [e2, e3]
              have hp4 : ¬ (p : Int) < 4 := by omega
              clear e2 e3 HR
              generalize rbI (pcA f) = q at *
              go_wp2_with fail
              go_ret
              exact ⟨by first | rfl | simp, HBE.out⟩
end Go.Proofs.Ytpoaipoadokggaa
