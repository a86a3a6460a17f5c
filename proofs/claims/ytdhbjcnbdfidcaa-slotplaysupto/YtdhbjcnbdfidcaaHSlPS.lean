/- SlotPlays: how all stands behind each of what is done: the disk with its cuts and the register, the document's register in a block beside, the cuts' slice beside; what each deed makes of it. -/
import Derived.Test.YtdhbjcnbdfidcaaHSlBytesLaw
import Derived.Handy

namespace Go.Proofs.Ytdhbjcnbdfidcaa
open Go Go.RowKit
set_option linter.unusedSimpArgs false
set_option linter.unusedVariables false

theorem rg_range {w : World} {g t : Nat} {s : Sl} {v : Value} (h : Blk w g t (rgC s v)) : w.rangeAt g 0 ((List.range 34).map (slF s)) := by
  have := Blk.range (n := 35) (f := rgF s v) h 0 34 (by decide)
  rw [show ((List.range 34).map fun j => rgF s v (0 + j)) = (List.range 34).map (slF s) from List.map_congr_left fun j hj => ?_] at this
  · exact this
  · have hj := List.mem_range.1 hj
    unfold rgF
    rw [Nat.zero_add, if_pos hj]
theorem sl_build1 {P : Program} {ops : Array Oper} {rest : List Oper} {o : Oper} {a : Act} {w : World} {Q : Exit → Act → World → Prop} (hg : o.guard = none) (t : TypeId) (x : Operand) (ho : o.op = .build t #[(0, x)]) (vx : Value) (hx : a.eval x = vx)
    (cells : Array Value) (hf : P.built t [(0, vx)] = some cells) (h : wpList P ops Q rest (a.put o.dst (.agg cells)) w) : wpList P ops Q (o :: rest) a w := by
  refine wpList_buildTo hg t _ ho o.dst rfl cells ?_ h
  have e : (Array.map (fun (x : Nat × Operand) => match x with | (i, x) => (i, a.eval x)) #[(0, x)]).toList = [(0, vx)] := by simp [hx]
  rw [e]
  exact hf
/-- the slots from the i-th on, in a block -/
def Rest (W : World) (g cap i : Nat) (L : List Sl) : Prop := ∃ F : Nat → Value, Blk W g 50 (va (cap * 34) F) ∧ L.length ≤ cap ∧ ∀ j s, i ≤ j → L[j]? = some s → ∀ t, t < 34 → F (j * 34 + t) = slF s t
theorem Rest.of_own {W : World} {B g cap : Nat} {L : List Sl} (h : W.ownsRow B 50 34 (.slice (some ⟨g, 0, none⟩) L.length cap) L.length (slL L)) : Rest W g cap 0 L := by
  rcases h.2 with ⟨h1, _⟩ | ⟨g', cap', cur, h1, _, hg, hc, _, hs, ht⟩
  · cases h1
  · injection h1 with e1 e2 e3
    injection e1 with e1
    injection e1 with e1
    subst e1 e3
    have e : cur = va (cap * 34) fun j => cur[j]?.getD undef := by
      refine va_ext hs fun i hi => ?_
      rw [Array.getElem?_eq_getElem (by omega)]
      rfl
    refine ⟨_, by rw [← e]; exact hg, hc, fun j s _ hj t htt => ?_⟩
    have hjl : j < L.length := (List.getElem?_eq_some_iff.1 hj).1
    have h2 := slL_at L j t s hj htt
    rw [← ht, List.getElem?_take, if_pos (by omega)] at h2
    have h3 : cur[j * 34 + t]? = some (slF s t) := by simpa using h2
    rw [h3]
    rfl
theorem Rest.range {W : World} {g cap i : Nat} {L : List Sl} (h : Rest W g cap i L) (s : Sl) (hs : L[i]? = some s) : W.rangeAt g (i * 34) ((List.range 34).map (slF s)) := by
  obtain ⟨F, hB, hc, hF⟩ := h
  have hil : i < L.length := (List.getElem?_eq_some_iff.1 hs).1
  have := Blk.range hB (i * 34) 34 (by omega)
  rw [show ((List.range 34).map fun j => F (i * 34 + j)) = (List.range 34).map (slF s) from List.map_congr_left fun j hj => hF i s (Nat.le_refl _) hs j (List.mem_range.1 hj)] at this
  exact this
theorem Rest.below {W W' : World} {g cap i : Nat} {L : List Sl} (h : Rest W g cap i L) (hb : Below W.heap.size W W') : Rest W' g cap i L := by
  obtain ⟨F, hB, hc, hF⟩ := h
  exact ⟨F, hB.below hb hB.lt, hc, hF⟩
theorem Rest.there {W : World} {g cap i : Nat} {L : List Sl} (h : Rest W g cap i L) (hi : i < L.length) : W.there g (i * 34) 34 := by
  obtain ⟨F, hB, hc, hF⟩ := h
  exact hB.there (i * 34) 34 (by rw [va_size]; omega)
theorem Rest.next {W : World} {g cap i : Nat} {L : List Sl} (h : Rest W g cap i L) : Rest (W.setCells g (i * 34) (slC sl0).toList) g cap (i + 1) L := by
  obtain ⟨F, hB, hc, hF⟩ := h
  refine ⟨_, hB.cells_put _ _ _ _, hc, fun j s hj hs t ht => ?_⟩
  rw [← hF j s (by omega) hs t ht]
  unfold over
  rw [if_neg (by rw [Array.length_toList, slC_size]; omega)]
theorem own_rngS {w : World} {B g cap i : Nat} {e : TypeId} {L : List Sl} (h : w.ownsRow B e 34 (.slice (some ⟨g, 0, none⟩) L.length cap) L.length (slL L)) (s : Sl) (hs : L[i]? = some s) : w.rangeAt g (i * 34) ((List.range 34).map (slF s)) := fun j u hu => by
  have hj : j < 34 := by
    have := (List.getElem?_eq_some_iff.1 hu).1
    simpa using this
  have hil : i < L.length := (List.getElem?_eq_some_iff.1 hs).1
  rw [h.cellAt (i * 34 + j) (by omega), slL_at L i j s hs hj, ← hu]
  simp [hj]
section
variable {B g N k lg r m : Nat} {F : Nat → Nat} {q : QD} {C : List (Int × Bool)} {v : Value} {L : List Sl}
set_option maxRecDepth 100000 in
set_option maxHeartbeats 16000000 in
theorem stands_any (hL : L.length < 1099511627776) (hcn : Cnt L) (w : World) (h : RD w B g N F k lg q C r m v L) (a2 : Option Addr) (c2 B2 : Nat) (hown2 : w.ownsRow B2 36 34 (.slice a2 L.length c2) L.length (slL L)) :
    Calls Try.prog 18 #[.pointer (some ⟨r, 0, none⟩), .agg (rgC (lastS L) (.slice a2 L.length c2)), .bool q.dd] w fun e w' => e = .returned (.bool true) ∧ Below w.heap.size w w' := by
  have HRD : Hid (RD w B g N F k lg q C r m v L) := h
  have HO2 : Hid (w.ownsRow B2 36 34 (.slice a2 L.length c2) L.length (slL L)) := hown2
  have HCN : Hid (Cnt L) := hcn
  have hz := zero_slot
  have hRd : Hid (∀ w' : World, Below w.heap.size w w' → Calls Try.prog 29 #[.pointer (some ⟨r, 0, none⟩)] w' fun e w'' => e = .returned (.tuple #[.agg (slC (if q.dd = true then sl0 else lastS L)), .int .i64 (if q.dd = true then 4 else 0)]) ∧ Below w'.heap.size w' w'') := fun w' hb => rdRead (by omega) w' (h.below hb)
  clear h hown2 hcn
  have k1 : Blk (w.alloc (.cells (rgC (lastS L) (.slice a2 L.length c2)) 39)) w.heap.size 39 (rgC (lastS L) (.slice a2 L.length c2)) := Blk.new _ _ _
  have hb1 : Below w.heap.size w (w.alloc (.cells (rgC (lastS L) (.slice a2 L.length c2)) 39)) := below_new1 _ _
  cases hdd : q.dd with
  | true =>
    rw [hdd] at hRd
    simp only [if_true] at hRd
    have heq : ∀ W, (Op.equalIn 10000 50 (.agg (slC sl0)) (.agg (slC sl0))).run Try.prog W = .ok true W := fun W => by
      have := eq_slot sl0 sl0 W
      rw [decide_eq_true rfl] at this
      exact this
    go_enter Try.func18, Try.ntmps18
    go_wp2_with fail
    generalize (w.alloc (.cells (rgC (lastS L) (.slice a2 L.length c2)) 39)) = w1 at *
    refine (hRd.out _ hb1).mono ?_
    rintro e w2 ⟨rfl, hb⟩
    have x2 := Blk.new w2 50 (slC sl0)
    have x3 := x2.set (slC sl0)
    have hb2 : Below w2.heap.size w2 ((w2.alloc (.cells (slC sl0) 50)).setRow w2.heap.size (slC sl0)) := below_setRow (below_new1 _ _) (Nat.le_refl _) _
    have k3 := (k1.below hb k1.lt).below hb2 (k1.below hb k1.lt).lt
    have hb3 : Below w.heap.size w ((w2.alloc (.cells (slC sl0) 50)).setRow w2.heap.size (slC sl0)) := (hb1.trans (hb.mono hb1.size)).trans (hb2.mono (hb1.trans (hb.mono hb1.size)).size)
    clear hb hb2 hb1 k1
    go_wp2_with (first
      | (refine wpList_store_row (by rfl) 50 _ _ (by rfl) (w2.heap.size) (slC sl0) (by rfl) (by rfl) 50 (_) (by exact x2) (sizeSlot.trans (by rw [slC_size])) (by simp only [slC_size]) (slC_all _) ?_; simp only [Act.put, List.setIfInBounds_toArray, List.set_cons_zero, List.set_cons_succ])
      | (refine wpList_load_rowg (by rfl) 50 _ (by rfl) (w2.heap.size) (by rfl) 50 (slC sl0) (0, 0) _ (by exact x3) Try.underlying50 (by rfl) (sizeSlot.trans (by rw [slC_size])) ?_; simp only [Act.put, List.setIfInBounds_toArray, List.set_cons_zero, List.set_cons_succ])
      | fail)
    clear x2 x3
    generalize ((w2.alloc (.cells (slC sl0) 50)).setRow w2.heap.size (slC sl0)) = w3 at *
    refine (written_at w3 (by omega) (HRD.out.below hb3).reg).mono ?_
    rintro e w5 ⟨al, cl, rfl, hown5, hb⟩
    have k5 := k3.below hb k3.lt
    have hb5 : Below w.heap.size w w5 := hb3.trans (hb.mono hb3.size)
    have HOL : Hid (w5.ownsRow w3.heap.size 50 34 (.slice al L.length cl) L.length (slL L)) := hown5
    have c34 : w5.cell? ⟨w.heap.size, 34, none⟩ = some (.slice a2 L.length c2) := rg_list _ _ k5
    have HS0 : Hid (w.heap.size < w3.heap.size) := k3.lt
    clear hb hown5
    go_wp2_with fail
    refine (swings_at w5 (HRD.out.below hb5).reg).mono ?_
    rintro e _ ⟨rfl, rfl⟩
    go_wp2_with fail
    clear c34
    go_loopw [50] (fun t wr => ∃ i : Nat, i ≤ L.length ∧ t = .int .i64 (i : Int) ∧ Blk wr w.heap.size 39 (rgC (lastS L) (.slice a2 L.length c2)) ∧ (i < L.length → ∃ gl, al = some ⟨gl, 0, none⟩ ∧ w3.heap.size ≤ gl ∧ Rest wr gl cl i L) ∧ Below w.heap.size w wr) (fun t _ => L.length - (intOf t).toNat)
    case atStart =>
      refine ⟨0, Nat.zero_le _, rfl, k5, fun h0 => ?_, hb5⟩
      obtain ⟨gl, cl', e1, e2, e3⟩ := kown_form HOL.out h0
      injection e1 with e1 _ e4
      subst e1
      exact ⟨gl, rfl, e2, Rest.of_own HOL.out⟩
    case round =>
      clear k5 hb5
      obtain ⟨i, hil, rfl, ks, hrest, hbr⟩ := hrel
      by_cases hlt : i < L.length
      · obtain ⟨gl, rfl, hgl, hrs⟩ := hrest hlt
        obtain ⟨gv, cv', e1, _, _⟩ := kown_form HO2.out (by omega)
        injection e1 with e1 _ e4
        clear e4
        subst e1
        obtain ⟨sx, hsx⟩ : ∃ sx, L[i]? = some sx := ⟨_, List.getElem?_eq_getElem hlt⟩
        have HSX : Hid (L[i]? = some sx) := hsx
        have HIN : Hid (sx ∈ L) := List.mem_of_getElem? hsx
        have HRs : Hid (Rest wr gl cl i L) := hrs
        have HR1 : Hid (wr.rangeAt gl (i * 34) ((List.range 34).map (slF sx))) := hrs.range sx hsx
        have HR2 : Hid (wr.rangeAt gv (i * 34) ((List.range 34).map (slF sx))) := own_rngS (kown_below HO2.out hbr) sx hsx
        have hq : ∀ W, (Op.equalIn 10000 36 (.agg (slC sx)) (.agg (slC sx))).run Try.prog W = .ok true W := fun W => by
          have := eq_rslot sx sx W
          rw [decide_eq_true rfl] at this
          exact this
        have i0 : (0 : Int) ≤ (i : Int) := by omega
        have i1 : (i : Int) < (L.length : Int) := by omega
        have HGL : Hid (w3.heap.size ≤ gl) := hgl
        clear hrest hrs hsx hgl
        go_wp2_with fail
        refine wp_region_partsS (fun W => Blk W w.heap.size 39 (rgC (lastS L) (.slice (some ⟨gv, 0, none⟩) L.length c2)) ∧ W.rangeAt gl (i * 34) ((List.range 34).map (slF sx)) ∧ W.rangeAt gv (i * 34) ((List.range 34).map (slF sx))) [([0, 1, 2, 7], 3, true), ([], 5, true), ([], 6, true), ([8], 9, true), ([], 4, false), ([], 10, false), ([11, 12, 13, 14, 15], 16, true), ([], 17, false)] [18, 19] [] (by kernel_rfl) (by kernel_rfl) ⟨ks, HR1.out, HR2.out⟩ (partsI_yield ?_)
        simp only [List.cons_append, List.nil_append, List.append_nil, List.filterMap_cons, List.filterMap_nil, List.getElem?_toArray, List.getElem?_cons_zero, List.getElem?_cons_succ]
        go_wp2_with fail
        refine ⟨rfl, _, .agg (slC sx), rfl, yields_load_fa (by rfl) 50 _ (by rfl) gl (i * 34) 34 (slF sx) (by rfl) _ (fun W hW => hW.2.1) Try.underlying50 rfl sizeSlot, partsI_yield ?_⟩
        simp only [Act.put, List.setIfInBounds_toArray, List.set_cons_zero, List.set_cons_succ]
        simp only [List.cons_append, List.nil_append, List.append_nil, List.filterMap_cons, List.filterMap_nil, List.getElem?_toArray, List.getElem?_cons_zero, List.getElem?_cons_succ]
        go_wp2_with fail
        refine ⟨rfl, _, .pointer (some ⟨w.heap.size, 34, none⟩), rfl, Or.inl ⟨by rfl, fun W hW => by go_simp⟩, partsI_yield ?_⟩
        simp only [Act.put, List.setIfInBounds_toArray, List.set_cons_zero, List.set_cons_succ]
        simp only [List.cons_append, List.nil_append, List.append_nil, List.filterMap_cons, List.filterMap_nil, List.getElem?_toArray, List.getElem?_cons_zero, List.getElem?_cons_succ]
        go_wp2_with fail
        refine ⟨rfl, _, .slice (some ⟨gv, 0, none⟩) L.length c2, rfl, Or.inl ⟨by rfl, fun W hW => by have hW1 : W.cell? ⟨w.heap.size, 34, none⟩ = some (.slice (some ⟨gv, 0, none⟩) L.length c2) := rg_list _ _ hW.1; go_simp⟩, partsI_yield ?_⟩
        simp only [Act.put, List.setIfInBounds_toArray, List.set_cons_zero, List.set_cons_succ]
        simp only [List.cons_append, List.nil_append, List.append_nil, List.filterMap_cons, List.filterMap_nil, List.getElem?_toArray, List.getElem?_cons_zero, List.getElem?_cons_succ]
        go_wp2_with fail
        refine ⟨rfl, _, .agg (slC sx), rfl, yields_load_fa (by rfl) 36 _ (by rfl) gv (i * 34) 34 (slF sx) (by rfl) _ (fun W hW => hW.2.2) Try.underlying36 rfl sizeRslot, partsI_force ?_⟩
        simp only [Act.put, List.setIfInBounds_toArray, List.set_cons_zero, List.set_cons_succ]
        simp only [List.cons_append, List.nil_append, List.append_nil, List.filterMap_cons, List.filterMap_nil, List.getElem?_toArray, List.getElem?_cons_zero, List.getElem?_cons_succ]
        go_wp2_with fail
        refine (given_any sx _).mono ?_
        rintro e wa ⟨rfl, hb⟩
        have ka := ks.drew.below hb ks.lt
        have HRa : Hid (Rest wa gl cl i L) := (HRs.out.below (Below.refl _ _).drew).below hb
        have hba : Below w.heap.size w wa := hbr.drew.trans (hb.mono hbr.size)
        have HR1a : Hid (wa.rangeAt gl (i * 34) ((List.range 34).map (slF sx))) := HRa.out.range sx HSX.out
        have HR2a : Hid (wa.rangeAt gv (i * 34) ((List.range 34).map (slF sx))) := own_rngS (kown_below HO2.out hba) sx HSX.out
        clear hb
        go_wp2_with fail
        refine ⟨rfl, ⟨ka, HR1a.out, HR2a.out⟩, partsI_force ?_⟩
        simp only [List.cons_append, List.nil_append, List.append_nil, List.filterMap_cons, List.filterMap_nil, List.getElem?_toArray, List.getElem?_cons_zero, List.getElem?_cons_succ]
        go_wp2_with fail
        refine ⟨rfl, ⟨ka, HR1a.out, HR2a.out⟩, partsI_yield ?_⟩
        simp only [List.cons_append, List.nil_append, List.append_nil, List.filterMap_cons, List.filterMap_nil, List.getElem?_toArray, List.getElem?_cons_zero, List.getElem?_cons_succ]
        go_wp2_with fail
        refine ⟨rfl, _, .agg (slC sx), rfl, yields_load_fa (by rfl) 50 _ (by rfl) gl (i * 34) 34 (slF sx) (by rfl) _ (fun W hW => hW.2.1) Try.underlying50 rfl sizeSlot, partsI_force ?_⟩
        simp only [Act.put, List.setIfInBounds_toArray, List.set_cons_zero, List.set_cons_succ]
        simp only [List.cons_append, List.nil_append, List.append_nil, List.filterMap_cons, List.filterMap_nil, List.getElem?_toArray, List.getElem?_cons_zero, List.getElem?_cons_succ]
        go_wp2_with fail
        refine (was_at sx _ (HRD.out.below hba).reg).mono ?_
        rintro e wb ⟨he, hb⟩
        rw [decide_eq_true HIN.out] at he
        subst he
        have kb := ka.below hb ka.lt
        have HRb : Hid (Rest wb gl cl i L) := HRa.out.below hb
        have hbb : Below w.heap.size w wb := hba.trans (hb.mono hba.size)
        have HR1b : Hid (wb.rangeAt gl (i * 34) ((List.range 34).map (slF sx))) := HRb.out.range sx HSX.out
        have HR2b : Hid (wb.rangeAt gv (i * 34) ((List.range 34).map (slF sx))) := own_rngS (kown_below HO2.out hbb) sx HSX.out
        clear hb
        go_wp2_with fail
        refine ⟨rfl, ⟨kb, HR1b.out, HR2b.out⟩, partsI_last ?_⟩
        simp only [List.cons_append, List.nil_append, List.append_nil, List.filterMap_cons, List.filterMap_nil, List.getElem?_toArray, List.getElem?_cons_zero, List.getElem?_cons_succ]
        go_wp2_with fail
        refine ⟨rfl, ?_⟩
        have HTH : Hid (wb.there gl (i * 34) 34) := HRb.out.there hlt
        clear HR1 HR2 HR1a HR2a HR1b HR2b ka ks HRs HRa hba hbr hq
        go_wp2_with (first
          | (refine wpList_store_mid (by rfl) 50 _ _ (by rfl) gl (i * 34) (slC sl0) (by rfl) (by rfl) (by rw [slC_size]; exact HTH.out) (sizeSlot.trans (by rw [slC_size])) (slC_all _) ?_; simp only [Act.put, List.setIfInBounds_toArray, List.set_cons_zero, List.set_cons_succ])
          | fail)
        have hgl := HGL.out
        have hs0 := HS0.out
        have kc : Blk (wb.setCells gl (i * 34) (slC sl0).toList) w.heap.size 39 (rgC (lastS L) (.slice (some ⟨gv, 0, none⟩) L.length c2)) := kb.cells_other (by omega) _ _ _
        have HRc : Hid (Rest (wb.setCells gl (i * 34) (slC sl0).toList) gl cl (i + 1) L) := HRb.out.next
        have hbc : Below w.heap.size w (wb.setCells gl (i * 34) (slC sl0).toList) := below_setCells (by omega) _ _ _ hbb
        clear kb HRb hbb HTH
        generalize (wb.setCells gl (i * 34) (slC sl0).toList) = wc at *
        go_wp2_with fail
        go_roundw
        case rel => exact ⟨i + 1, hlt, by congr 1, kc, fun _ => ⟨gl, rfl, hgl, HRc.out⟩, hbc⟩
        case measure =>
          simp only [intOf]
          omega
      · have hbt1 : Try.prog.built 48 [(0, .int .u32 1)] = some (va 33 (rfF 1 (Vector.replicate 32 0))) := built_ref1 1
        have hbt2 : Try.prog.built 50 [(0, .int .u64 1152921504606846976), (1, .agg (va 33 (rfF 1 (Vector.replicate 32 0))))] = some (slC (1152921504606846976, 1, Vector.replicate 32 0)) := built_slot 1152921504606846976 1 (Vector.replicate 32 0)
        have HNI : Hid ((1152921504606846976, 1, Vector.replicate 32 0) ∉ L) := HCN.out.fresh _ (by show L.length < 1152921504606846976; omega)
        have HB1 : Hid (Try.prog.built 48 [(0, .int .u32 1)] = some (va 33 (rfF 1 (Vector.replicate 32 0)))) := hbt1
        have HB2 : Hid (Try.prog.built 50 [(0, .int .u64 1152921504606846976), (1, .agg (va 33 (rfF 1 (Vector.replicate 32 0))))] = some (slC (1152921504606846976, 1, Vector.replicate 32 0))) := hbt2
        have hnlt : ¬ ((i : Int) < (L.length : Int)) := by omega
        clear hrest hbt1 hbt2
        generalize Vector.replicate 32 0 = z32 at *
        go_wp2_with (first
          | (refine sl_build1 (by rfl) 48 _ (by rfl) (.int .u32 1) (by rfl) (va 33 (rfF 1 z32)) (by exact HB1.out) ?_; simp only [Act.put, List.setIfInBounds_toArray, List.set_cons_zero, List.set_cons_succ])
          | (refine wpList_build2 (by rfl) 50 _ _ (by rfl) (.int .u64 1152921504606846976) (.agg (va 33 (rfF 1 z32))) (by rfl) (by rfl) (slC (1152921504606846976, 1, z32)) (by exact HB2.out) ?_; simp only [Act.put, List.setIfInBounds_toArray, List.set_cons_zero, List.set_cons_succ])
          | fail)
        refine (was_at (1152921504606846976, 1, z32) _ (HRD.out.below hbr).reg).mono ?_
        rintro e wz ⟨he, hb⟩
        rw [decide_eq_false HNI.out] at he
        subst he
        go_wp2_with fail
        go_ret
        exact ⟨rfl, hbr.trans (hb.mono hbr.size)⟩
  | false =>
    rw [hdd] at hRd
    simp only [Bool.false_eq_true, if_false] at hRd
    have heq : ∀ W, (Op.equalIn 10000 36 (.agg (slC (lastS L))) (.agg (slC (lastS L)))).run Try.prog W = .ok true W := fun W => by
      have := eq_rslot (lastS L) (lastS L) W
      rw [decide_eq_true rfl] at this
      exact this
    go_enter Try.func18, Try.ntmps18
    go_wp2_with fail
    generalize (w.alloc (.cells (rgC (lastS L) (.slice a2 L.length c2)) 39)) = w1 at *
    refine (hRd.out _ hb1).mono ?_
    rintro e w2 ⟨rfl, hb⟩
    have x2 := Blk.new w2 50 (slC sl0)
    have x3 := x2.set (slC (lastS L))
    have hb2 : Below w2.heap.size w2 ((w2.alloc (.cells (slC sl0) 50)).setRow w2.heap.size (slC (lastS L))) := below_setRow (below_new1 _ _) (Nat.le_refl _) _
    have k3 := (k1.below hb k1.lt).below hb2 (k1.below hb k1.lt).lt
    have hb3 : Below w.heap.size w ((w2.alloc (.cells (slC sl0) 50)).setRow w2.heap.size (slC (lastS L))) := (hb1.trans (hb.mono hb1.size)).trans (hb2.mono (hb1.trans (hb.mono hb1.size)).size)
    clear hb hb2 hb1 k1
    go_wp2_with (first
      | (refine wpList_store_row (by rfl) 50 _ _ (by rfl) (w2.heap.size) (slC (lastS L)) (by rfl) (by rfl) 50 (_) (by exact x2) (sizeSlot.trans (by rw [slC_size])) (by simp only [slC_size]) (slC_all _) ?_; simp only [Act.put, List.setIfInBounds_toArray, List.set_cons_zero, List.set_cons_succ])
      | fail)
    clear x2
    generalize ((w2.alloc (.cells (slC sl0) 50)).setRow w2.heap.size (slC (lastS L))) = w3 at *
    generalize w2.heap.size = x at *
    refine wp_region_partsS (fun W => Blk W x 50 (slC (lastS L)) ∧ Blk W w.heap.size 39 (rgC (lastS L) (.slice a2 L.length c2))) [([], 0, true), ([], 2, true), ([], 3, true), ([], 1, false), ([], 4, false), ([5, 6], 7, false)] [8] [] (by kernel_rfl) (by kernel_rfl) ⟨x3, k3⟩ (partsI_yield ?_)
    simp only [List.cons_append, List.nil_append, List.append_nil, List.filterMap_cons, List.filterMap_nil, List.getElem?_toArray, List.getElem?_cons_zero, List.getElem?_cons_succ]
    go_wp2_with fail
    refine ⟨rfl, _, .agg (slC (lastS L)), rfl, kyields_load (by rfl) 50 _ (by rfl) x 34 (slF (lastS L)) (by rfl) _ 50 (fun W hW => hW.1) Try.underlying50 rfl sizeSlot, partsI_yield ?_⟩
    simp only [Act.put, List.setIfInBounds_toArray, List.set_cons_zero, List.set_cons_succ]
    simp only [List.cons_append, List.nil_append, List.append_nil, List.filterMap_cons, List.filterMap_nil, List.getElem?_toArray, List.getElem?_cons_zero, List.getElem?_cons_succ]
    go_wp2_with fail
    refine ⟨rfl, _, .pointer (some ⟨w.heap.size, 0, none⟩), rfl, Or.inl ⟨by rfl, fun W hW => by go_simp⟩, partsI_yield ?_⟩
    simp only [Act.put, List.setIfInBounds_toArray, List.set_cons_zero, List.set_cons_succ]
    simp only [List.cons_append, List.nil_append, List.append_nil, List.filterMap_cons, List.filterMap_nil, List.getElem?_toArray, List.getElem?_cons_zero, List.getElem?_cons_succ]
    go_wp2_with fail
    refine ⟨rfl, _, .agg (slC (lastS L)), rfl, yields_load_fa (by rfl) 36 _ (by rfl) w.heap.size 0 34 (slF (lastS L)) (by rfl) _ (fun W hW => rg_range hW.2) Try.underlying36 rfl sizeRslot, partsI_force ?_⟩
    simp only [Act.put, List.setIfInBounds_toArray, List.set_cons_zero, List.set_cons_succ]
    simp only [List.cons_append, List.nil_append, List.append_nil, List.filterMap_cons, List.filterMap_nil, List.getElem?_toArray, List.getElem?_cons_zero, List.getElem?_cons_succ]
    go_wp2_with fail
    refine (given_any (lastS L) _).mono ?_
    rintro e w4 ⟨rfl, hb⟩
    have x4 := x3.drew.below hb x3.lt
    have k4 := k3.drew.below hb k3.lt
    have hb4 : Below w.heap.size w w4 := hb3.drew.trans (hb.mono hb3.size)
    clear hb
    go_wp2_with fail
    refine ⟨rfl, ⟨x4, k4⟩, partsI_force ?_⟩
    simp only [List.cons_append, List.nil_append, List.append_nil, List.filterMap_cons, List.filterMap_nil, List.getElem?_toArray, List.getElem?_cons_zero, List.getElem?_cons_succ]
    go_wp2_with fail
    refine ⟨rfl, ⟨x4, k4⟩, partsI_force ?_⟩
    simp only [List.cons_append, List.nil_append, List.append_nil, List.filterMap_cons, List.filterMap_nil, List.getElem?_toArray, List.getElem?_cons_zero, List.getElem?_cons_succ]
    go_wp2_with fail
    refine ⟨rfl, ⟨x4, k4⟩, partsI_last ?_⟩
    simp only [List.cons_append, List.nil_append, List.append_nil, List.filterMap_cons, List.filterMap_nil, List.getElem?_toArray, List.getElem?_cons_zero, List.getElem?_cons_succ]
    go_wp2_with fail
    refine ⟨rfl, ?_⟩
    clear x3 x4 k3 hb3
    go_wp2_with fail
    refine (written_at w4 (by omega) (HRD.out.below hb4).reg).mono ?_
    rintro e w5 ⟨al, cl, rfl, hown5, hb⟩
    have k5 := k4.below hb k4.lt
    have hb5 : Below w.heap.size w w5 := hb4.trans (hb.mono hb4.size)
    have HOL : Hid (w5.ownsRow w4.heap.size 50 34 (.slice al L.length cl) L.length (slL L)) := hown5
    have c34 : w5.cell? ⟨w.heap.size, 34, none⟩ = some (.slice a2 L.length c2) := rg_list _ _ k5
    have HS0 : Hid (w.heap.size < w4.heap.size) := k4.lt
    clear hb hown5
    go_wp2_with fail
    refine (swings_at w5 (HRD.out.below hb5).reg).mono ?_
    rintro e _ ⟨rfl, rfl⟩
    go_wp2_with fail
    clear c34
    go_loopw [50] (fun t wr => ∃ i : Nat, i ≤ L.length ∧ t = .int .i64 (i : Int) ∧ Blk wr w.heap.size 39 (rgC (lastS L) (.slice a2 L.length c2)) ∧ (i < L.length → ∃ gl, al = some ⟨gl, 0, none⟩ ∧ w4.heap.size ≤ gl ∧ Rest wr gl cl i L) ∧ Below w.heap.size w wr) (fun t _ => L.length - (intOf t).toNat)
    case atStart =>
      refine ⟨0, Nat.zero_le _, rfl, k5, fun h0 => ?_, hb5⟩
      obtain ⟨gl, cl', e1, e2, e3⟩ := kown_form HOL.out h0
      injection e1 with e1 _ e4
      subst e1
      exact ⟨gl, rfl, e2, Rest.of_own HOL.out⟩
    case round =>
      clear k5 hb5
      obtain ⟨i, hil, rfl, ks, hrest, hbr⟩ := hrel
      by_cases hlt : i < L.length
      · obtain ⟨gl, rfl, hgl, hrs⟩ := hrest hlt
        obtain ⟨gv, cv', e1, _, _⟩ := kown_form HO2.out (by omega)
        injection e1 with e1 _ e4
        clear e4
        subst e1
        obtain ⟨sx, hsx⟩ : ∃ sx, L[i]? = some sx := ⟨_, List.getElem?_eq_getElem hlt⟩
        have HSX : Hid (L[i]? = some sx) := hsx
        have HIN : Hid (sx ∈ L) := List.mem_of_getElem? hsx
        have HRs : Hid (Rest wr gl cl i L) := hrs
        have HR1 : Hid (wr.rangeAt gl (i * 34) ((List.range 34).map (slF sx))) := hrs.range sx hsx
        have HR2 : Hid (wr.rangeAt gv (i * 34) ((List.range 34).map (slF sx))) := own_rngS (kown_below HO2.out hbr) sx hsx
        have hq : ∀ W, (Op.equalIn 10000 36 (.agg (slC sx)) (.agg (slC sx))).run Try.prog W = .ok true W := fun W => by
          have := eq_rslot sx sx W
          rw [decide_eq_true rfl] at this
          exact this
        have i0 : (0 : Int) ≤ (i : Int) := by omega
        have i1 : (i : Int) < (L.length : Int) := by omega
        have HGL : Hid (w4.heap.size ≤ gl) := hgl
        clear hrest hrs hsx hgl
        go_wp2_with fail
        refine wp_region_partsS (fun W => Blk W w.heap.size 39 (rgC (lastS L) (.slice (some ⟨gv, 0, none⟩) L.length c2)) ∧ W.rangeAt gl (i * 34) ((List.range 34).map (slF sx)) ∧ W.rangeAt gv (i * 34) ((List.range 34).map (slF sx))) [([0, 1, 2, 7], 3, true), ([], 5, true), ([], 6, true), ([8], 9, true), ([], 4, false), ([], 10, false), ([11, 12, 13, 14, 15], 16, true), ([], 17, false)] [18, 19] [] (by kernel_rfl) (by kernel_rfl) ⟨ks, HR1.out, HR2.out⟩ (partsI_yield ?_)
        simp only [List.cons_append, List.nil_append, List.append_nil, List.filterMap_cons, List.filterMap_nil, List.getElem?_toArray, List.getElem?_cons_zero, List.getElem?_cons_succ]
        go_wp2_with fail
        refine ⟨rfl, _, .agg (slC sx), rfl, yields_load_fa (by rfl) 50 _ (by rfl) gl (i * 34) 34 (slF sx) (by rfl) _ (fun W hW => hW.2.1) Try.underlying50 rfl sizeSlot, partsI_yield ?_⟩
        simp only [Act.put, List.setIfInBounds_toArray, List.set_cons_zero, List.set_cons_succ]
        simp only [List.cons_append, List.nil_append, List.append_nil, List.filterMap_cons, List.filterMap_nil, List.getElem?_toArray, List.getElem?_cons_zero, List.getElem?_cons_succ]
        go_wp2_with fail
        refine ⟨rfl, _, .pointer (some ⟨w.heap.size, 34, none⟩), rfl, Or.inl ⟨by rfl, fun W hW => by go_simp⟩, partsI_yield ?_⟩
        simp only [Act.put, List.setIfInBounds_toArray, List.set_cons_zero, List.set_cons_succ]
        simp only [List.cons_append, List.nil_append, List.append_nil, List.filterMap_cons, List.filterMap_nil, List.getElem?_toArray, List.getElem?_cons_zero, List.getElem?_cons_succ]
        go_wp2_with fail
        refine ⟨rfl, _, .slice (some ⟨gv, 0, none⟩) L.length c2, rfl, Or.inl ⟨by rfl, fun W hW => by have hW1 : W.cell? ⟨w.heap.size, 34, none⟩ = some (.slice (some ⟨gv, 0, none⟩) L.length c2) := rg_list _ _ hW.1; go_simp⟩, partsI_yield ?_⟩
        simp only [Act.put, List.setIfInBounds_toArray, List.set_cons_zero, List.set_cons_succ]
        simp only [List.cons_append, List.nil_append, List.append_nil, List.filterMap_cons, List.filterMap_nil, List.getElem?_toArray, List.getElem?_cons_zero, List.getElem?_cons_succ]
        go_wp2_with fail
        refine ⟨rfl, _, .agg (slC sx), rfl, yields_load_fa (by rfl) 36 _ (by rfl) gv (i * 34) 34 (slF sx) (by rfl) _ (fun W hW => hW.2.2) Try.underlying36 rfl sizeRslot, partsI_force ?_⟩
        simp only [Act.put, List.setIfInBounds_toArray, List.set_cons_zero, List.set_cons_succ]
        simp only [List.cons_append, List.nil_append, List.append_nil, List.filterMap_cons, List.filterMap_nil, List.getElem?_toArray, List.getElem?_cons_zero, List.getElem?_cons_succ]
        go_wp2_with fail
        refine (given_any sx _).mono ?_
        rintro e wa ⟨rfl, hb⟩
        have ka := ks.drew.below hb ks.lt
        have HRa : Hid (Rest wa gl cl i L) := (HRs.out.below (Below.refl _ _).drew).below hb
        have hba : Below w.heap.size w wa := hbr.drew.trans (hb.mono hbr.size)
        have HR1a : Hid (wa.rangeAt gl (i * 34) ((List.range 34).map (slF sx))) := HRa.out.range sx HSX.out
        have HR2a : Hid (wa.rangeAt gv (i * 34) ((List.range 34).map (slF sx))) := own_rngS (kown_below HO2.out hba) sx HSX.out
        clear hb
        go_wp2_with fail
        refine ⟨rfl, ⟨ka, HR1a.out, HR2a.out⟩, partsI_force ?_⟩
        simp only [List.cons_append, List.nil_append, List.append_nil, List.filterMap_cons, List.filterMap_nil, List.getElem?_toArray, List.getElem?_cons_zero, List.getElem?_cons_succ]
        go_wp2_with fail
        refine ⟨rfl, ⟨ka, HR1a.out, HR2a.out⟩, partsI_yield ?_⟩
        simp only [List.cons_append, List.nil_append, List.append_nil, List.filterMap_cons, List.filterMap_nil, List.getElem?_toArray, List.getElem?_cons_zero, List.getElem?_cons_succ]
        go_wp2_with fail
        refine ⟨rfl, _, .agg (slC sx), rfl, yields_load_fa (by rfl) 50 _ (by rfl) gl (i * 34) 34 (slF sx) (by rfl) _ (fun W hW => hW.2.1) Try.underlying50 rfl sizeSlot, partsI_force ?_⟩
        simp only [Act.put, List.setIfInBounds_toArray, List.set_cons_zero, List.set_cons_succ]
        simp only [List.cons_append, List.nil_append, List.append_nil, List.filterMap_cons, List.filterMap_nil, List.getElem?_toArray, List.getElem?_cons_zero, List.getElem?_cons_succ]
        go_wp2_with fail
        refine (was_at sx _ (HRD.out.below hba).reg).mono ?_
        rintro e wb ⟨he, hb⟩
        rw [decide_eq_true HIN.out] at he
        subst he
        have kb := ka.below hb ka.lt
        have HRb : Hid (Rest wb gl cl i L) := HRa.out.below hb
        have hbb : Below w.heap.size w wb := hba.trans (hb.mono hba.size)
        have HR1b : Hid (wb.rangeAt gl (i * 34) ((List.range 34).map (slF sx))) := HRb.out.range sx HSX.out
        have HR2b : Hid (wb.rangeAt gv (i * 34) ((List.range 34).map (slF sx))) := own_rngS (kown_below HO2.out hbb) sx HSX.out
        clear hb
        go_wp2_with fail
        refine ⟨rfl, ⟨kb, HR1b.out, HR2b.out⟩, partsI_last ?_⟩
        simp only [List.cons_append, List.nil_append, List.append_nil, List.filterMap_cons, List.filterMap_nil, List.getElem?_toArray, List.getElem?_cons_zero, List.getElem?_cons_succ]
        go_wp2_with fail
        refine ⟨rfl, ?_⟩
        have HTH : Hid (wb.there gl (i * 34) 34) := HRb.out.there hlt
        clear HR1 HR2 HR1a HR2a HR1b HR2b ka ks HRs HRa hba hbr hq
        go_wp2_with (first
          | (refine wpList_store_mid (by rfl) 50 _ _ (by rfl) gl (i * 34) (slC sl0) (by rfl) (by rfl) (by rw [slC_size]; exact HTH.out) (sizeSlot.trans (by rw [slC_size])) (slC_all _) ?_; simp only [Act.put, List.setIfInBounds_toArray, List.set_cons_zero, List.set_cons_succ])
          | fail)
        have hgl := HGL.out
        have hs0 := HS0.out
        have kc : Blk (wb.setCells gl (i * 34) (slC sl0).toList) w.heap.size 39 (rgC (lastS L) (.slice (some ⟨gv, 0, none⟩) L.length c2)) := kb.cells_other (by omega) _ _ _
        have HRc : Hid (Rest (wb.setCells gl (i * 34) (slC sl0).toList) gl cl (i + 1) L) := HRb.out.next
        have hbc : Below w.heap.size w (wb.setCells gl (i * 34) (slC sl0).toList) := below_setCells (by omega) _ _ _ hbb
        clear kb HRb hbb HTH
        generalize (wb.setCells gl (i * 34) (slC sl0).toList) = wc at *
        go_wp2_with fail
        go_roundw
        case rel => exact ⟨i + 1, hlt, by congr 1, kc, fun _ => ⟨gl, rfl, hgl, HRc.out⟩, hbc⟩
        case measure =>
          simp only [intOf]
          omega
      · have hbt1 : Try.prog.built 48 [(0, .int .u32 1)] = some (va 33 (rfF 1 (Vector.replicate 32 0))) := built_ref1 1
        have hbt2 : Try.prog.built 50 [(0, .int .u64 1152921504606846976), (1, .agg (va 33 (rfF 1 (Vector.replicate 32 0))))] = some (slC (1152921504606846976, 1, Vector.replicate 32 0)) := built_slot 1152921504606846976 1 (Vector.replicate 32 0)
        have HNI : Hid ((1152921504606846976, 1, Vector.replicate 32 0) ∉ L) := HCN.out.fresh _ (by show L.length < 1152921504606846976; omega)
        have HB1 : Hid (Try.prog.built 48 [(0, .int .u32 1)] = some (va 33 (rfF 1 (Vector.replicate 32 0)))) := hbt1
        have HB2 : Hid (Try.prog.built 50 [(0, .int .u64 1152921504606846976), (1, .agg (va 33 (rfF 1 (Vector.replicate 32 0))))] = some (slC (1152921504606846976, 1, Vector.replicate 32 0))) := hbt2
        have hnlt : ¬ ((i : Int) < (L.length : Int)) := by omega
        clear hrest hbt1 hbt2
        generalize Vector.replicate 32 0 = z32 at *
        go_wp2_with (first
          | (refine sl_build1 (by rfl) 48 _ (by rfl) (.int .u32 1) (by rfl) (va 33 (rfF 1 z32)) (by exact HB1.out) ?_; simp only [Act.put, List.setIfInBounds_toArray, List.set_cons_zero, List.set_cons_succ])
          | (refine wpList_build2 (by rfl) 50 _ _ (by rfl) (.int .u64 1152921504606846976) (.agg (va 33 (rfF 1 z32))) (by rfl) (by rfl) (slC (1152921504606846976, 1, z32)) (by exact HB2.out) ?_; simp only [Act.put, List.setIfInBounds_toArray, List.set_cons_zero, List.set_cons_succ])
          | fail)
        refine (was_at (1152921504606846976, 1, z32) _ (HRD.out.below hbr).reg).mono ?_
        rintro e wz ⟨he, hb⟩
        rw [decide_eq_false HNI.out] at he
        subst he
        go_wp2_with fail
        go_ret
        exact ⟨rfl, hbr.trans (hb.mono hbr.size)⟩
end
end Go.Proofs.Ytdhbjcnbdfidcaa

namespace Go.Proofs.Ytdhbjcnbdfidcaa
open Go Go.RowKit
set_option linter.unusedSimpArgs false
set_option linter.unusedVariables false

/-- i deeds were done at most; bm: the document's register; a2, c2: its slice; acu, ccu: the slice of cuts -/
structure PS (w W : World) (g r m bm : Nat) (C : List (Int × Bool)) (acu : Option Addr) (ccu i : Nat) (L : List Sl) (q : QD) (v : Value) (a2 : Option Addr) (c2 : Nat) : Prop where
  rd : ∃ F k lg, RD W w.heap.size g 16 F k lg q C r m v L ∧ k ≤ i ∧ lg ≤ i
  qt : QuietC q.cu q.dd q i
  cn : Cnt L
  len : L.length ≤ i
  mb : Blk W bm 39 (rgC (lastS L) (.slice a2 L.length c2))
  nbm : ¬ rdfoot g 16 q r m v bm
  own : W.ownsRow w.heap.size 36 34 (.slice a2 L.length c2) L.length (slL L)
  nown : ∀ x, (Value.slice a2 L.length c2).ownBlock = some x → ¬ rdfoot g 16 q r m v x
  cu : CutsAt W w.heap.size (.slice acu C.length ccu) C
  ncu : ∀ x, (Value.slice acu C.length ccu).ownBlock = some x → ¬ rdfoot g 16 q r m v x
  wB : w.heap.size ≤ bm
  low : Below w.heap.size w W
section
variable {w W W' : World} {g r m bm : Nat} {C : List (Int × Bool)} {acu : Option Addr} {ccu i : Nat} {L : List Sl} {q : QD} {v : Value} {a2 : Option Addr} {c2 : Nat}
theorem PS.below (h : PS w W g r m bm C acu ccu i L q v a2 c2) (hb : Below W.heap.size W W') : PS w W' g r m bm C acu ccu i L q v a2 c2 := by
  obtain ⟨F, k, lg, h1, h2, h3⟩ := h.rd
  exact ⟨⟨F, k, lg, h1.below hb, h2, h3⟩, h.qt, h.cn, h.len, h.mb.below hb h.mb.lt, h.nbm, kown_below h.own hb, h.nown, kown_below h.cu hb, h.ncu, h.wB, h.low.trans (hb.mono h.low.size)⟩
theorem PS.mono (h : PS w W g r m bm C acu ccu i L q v a2 c2) {j : Nat} (hj : i ≤ j) : PS w W g r m bm C acu ccu j L q v a2 c2 := by
  obtain ⟨F, k, lg, h1, h2, h3⟩ := h.rd
  exact ⟨⟨F, k, lg, h1, by omega, by omega⟩, h.qt.mono hj, h.cn, by have := h.len; omega, h.mb, h.nbm, h.own, h.nown, h.cu, h.ncu, h.wB, h.low⟩
/-- the disk and the register turn, the list of slots stays -/
theorem PS.moved (h : PS w W g r m bm C acu ccu i L q v a2 c2) {q' : QD} {v' : Value} {i' : Nat} (hi : i ≤ i') (hrd : ∃ F k lg, RD W' w.heap.size g 16 F k lg q' C r m v' L ∧ k ≤ i' ∧ lg ≤ i') (hq : QuietC q'.cu q'.dd q' i') (hm : RDMoved g 16 q r m v q' v' W W') : PS w W' g r m bm C acu ccu i' L q' v' a2 c2 := by
  obtain ⟨F, k, lg, h1, h2, h3⟩ := h.rd
  have hn : ∀ x, x < W.heap.size → ¬ rdfoot g 16 q r m v x → ¬ rdfoot g 16 q' r m v' x := fun x hx hf e => by
    rcases hm.2 x e with z | z
    · exact hf z
    · omega
  exact ⟨hrd, hq, h.cn, by have := h.len; omega, (hm.blk h.mb h.nbm).1, (hm.blk h.mb h.nbm).2, kown_kept h.own fun x _ hx => hm.1.block x (h.own.lt x hx).2 (h.nown x hx), fun x hx => hn x (h.own.lt x hx).2 (h.nown x hx), kown_kept h.cu fun x _ hx => hm.1.block x (h.cu.lt x hx).2 (h.ncu x hx), fun x hx => hn x (h.cu.lt x hx).2 (h.ncu x hx), h.wB, h.low.trans (h1.low h.low.size hm)⟩
end
section
variable {w : World} {g r m bm : Nat} {C : List (Int × Bool)} {acu : Option Addr} {ccu i : Nat} {L : List Sl} {q : QD} {v : Value} {a2 : Option Addr} {c2 : Nat}
/-- a raw write -/
theorem ps_write (hC : C.length ≤ 64) (hi : i < 1048577) (W : World) (h : PS w W g r m bm C acu ccu i L q v a2 c2) (f : Nat → Nat) : Calls Try.prog 14 #[.pointer (some ⟨g, 0, none⟩), .int .i64 3, .agg (va 256 (iv .u8 f))] W fun e W' => e = .returned (.int .i64 (if (q.dd || evD C q.ev) = true then 4 else 0)) ∧ ∃ q', PS w W' g r m bm C acu ccu (i + 1) L q' v a2 c2 ∧ q'.ev = (if q.dd = true then q.ev else q.ev + 1) ∧ q'.dd = (q.dd || evD C q.ev) ∧ ∀ x t cs, Blk W x t cs → ¬ rdfoot g 16 q r m v x → Blk W' x t cs := by
  obtain ⟨F, k, lg, h1, h2, h3⟩ := h.rd
  cases hd : q.dd with
  | true =>
    refine (write_dead hd 3 f W h1.d).mono ?_
    rintro e W' ⟨he, hb⟩
    exact ⟨he, q, (h.below hb).mono (Nat.le_succ _), by simp, by rw [hd]; rfl, fun x t cs hx _ => hx.below hb hx.lt⟩
  | false =>
    have hq := h.qt
    rw [hd] at hq
    refine (write_c C hC hq (by omega) 3 f (by decide) (by decide) (by omega) (by omega) W h.low.size h1.d h1.c).mono ?_
    rintro e W' ⟨he, q', F', lg', g1, g2, g3, g4, g5⟩
    have hdd : q'.dd = (ahB q C || bhB q C) := g2.dd
    refine ⟨he, q', h.moved (Nat.le_succ _) ⟨F', k + 1, lg', h1.doD g1 g2.cu g3, by omega, by omega⟩ ?_ (.of_d g3), by rw [g4]; simp, by rw [hdd]; rfl, fun x t cs hx hn => (RDMoved.blk (.of_d g3) hx hn).1⟩
    obtain ⟨b1, b2, b3, b4, b5, b6⟩ := g2
    exact ⟨rfl, b2, rfl, b4, b5, b6⟩
/-- a raw read -/
theorem ps_read (at0 : Nat) (hat : at0 < 16) (hi : i < 1048577) (W : World) (h : PS w W g r m bm C acu ccu i L q v a2 c2) : Calls Try.prog 17 #[.pointer (some ⟨g, 0, none⟩), .int .i64 (at0 : Int)] W fun e W' => (∃ f er, e = .returned (.tuple #[.agg (va 256 (iv .u8 f)), .int .i64 er])) ∧ ∃ q', PS w W' g r m bm C acu ccu (i + 1) L q' v a2 c2 ∧ q'.ev = q.ev ∧ q'.dd = q.dd := by
  obtain ⟨F, k, lg, h1, h2, h3⟩ := h.rd
  cases hd : q.dd with
  | true =>
    refine (read_dead hd (at0 : Int) W h1.d).mono ?_
    rintro e W' ⟨he, hb⟩
    exact ⟨⟨_, _, he⟩, q, (h.below hb).mono (Nat.le_succ _), rfl, hd⟩
  | false =>
    have hq := h.qt
    rw [hd] at hq
    refine (read_ge hq at0 hat (by decide) (by omega) (by omega) W h.low.size h1.d).mono ?_
    rintro e W' ⟨he, q', g1, g2, g3, g4⟩
    refine ⟨⟨_, _, he⟩, q', h.moved (Nat.le_succ _) ⟨F, k + 1, lg + 1, h1.doD g1 g2.cu g3, by omega, by omega⟩ ?_ (.of_d g3), g4, g2.dd⟩
    obtain ⟨b1, b2, b3, b4, b5, b6⟩ := g2
    exact ⟨rfl, b2, rfl, b4, by omega, b6⟩
/-- the power comes back -/
theorem ps_revive (W : World) (h : PS w W g r m bm C acu ccu i L q v a2 c2) : Calls Try.prog 15 #[.pointer (some ⟨g, 0, none⟩)] W fun e W' => e = .returned (.tuple #[]) ∧ ∃ q', PS w W' g r m bm C acu ccu (i + 1) L q' v a2 c2 ∧ q'.ev = q.ev ∧ q'.dd = false := by
  obtain ⟨F, k, lg, h1, h2, h3⟩ := h.rd
  refine (rdRevive h.qt W h1).mono ?_
  rintro e W' ⟨he, q', g1, g2, g3, g4⟩
  have hdd := g2.dd
  refine ⟨he, q', h.moved (Nat.le_succ _) ⟨F, k, lg, g1, by omega, by omega⟩ ?_ g4, g3, hdd⟩
  rw [hdd]
  exact g2.mono (Nat.le_succ _)
/-- the slot with the counter that comes next was never written -/
theorem ps_was (s : Sl) (hs : L.length < s.1) (W : World) (h : PS w W g r m bm C acu ccu i L q v a2 c2) : Calls Try.prog 16 #[.pointer (some ⟨r, 0, none⟩), .agg (slC s)] W fun e W' => e = .returned (.bool false) ∧ Below W.heap.size W W' := by
  obtain ⟨F, k, lg, h1, h2, h3⟩ := h.rd
  have := was_at s W h1.reg
  rw [decide_eq_false (h.cn.fresh s hs)] at this
  exact this
theorem ps_stands (hi : i < 1048577) (W : World) (h : PS w W g r m bm C acu ccu i L q v a2 c2) : Calls Try.prog 18 #[.pointer (some ⟨r, 0, none⟩), .agg (rgC (lastS L) (.slice a2 L.length c2)), .bool q.dd] W fun e W' => e = .returned (.bool true) ∧ Below W.heap.size W W' := by
  obtain ⟨F, k, lg, h1, h2, h3⟩ := h.rd
  exact stands_any (by have := h.len; omega) h.cn W h1 a2 c2 w.heap.size h.own
theorem ps_events (W : World) (h : PS w W g r m bm C acu ccu i L q v a2 c2) : Calls Try.prog 19 #[.pointer (some ⟨g, 0, none⟩)] W fun e W' => e = .returned (.int .i64 q.ev) ∧ W = W' := by
  obtain ⟨F, k, lg, h1, h2, h3⟩ := h.rd
  exact events_c W h1.d
theorem ps_dead (W : World) (h : PS w W g r m bm C acu ccu i L q v a2 c2) : Calls Try.prog 20 #[.pointer (some ⟨g, 0, none⟩)] W fun e W' => e = .returned (.bool q.dd) ∧ W = W' := by
  obtain ⟨F, k, lg, h1, h2, h3⟩ := h.rd
  exact dead_c W h1.d
theorem ps_at (hC : C.length ≤ 64) (W : World) (h : PS w W g r m bm C acu ccu i L q v a2 c2) : Calls Try.prog 10 #[.slice acu C.length ccu, .int .i64 q.ev] W fun e W' => e = .returned (.agg #[.bool (evT C q.ev), .bool (evD C q.ev)]) ∧ Below W.heap.size W W' := at_any w.heap.size acu ccu C hC q.ev W h.cu
/-- a write of a slot: nothing comes of it, and the document says the same; or its event comes, and the list behind it is the document's -/
theorem ps_slot (hC : C.length ≤ 64) (hi : i < 1048577) (s : Sl) (hs64 : s.1 < 18446744073709551616) (W : World) (h : PS w W g r m bm C acu ccu i L q v a2 c2) :
    (∃ f : Int, (∀ W', Calls Try.prog 11 #[.agg (rgC (lastS L) (.slice a2 L.length c2)), .agg (slC s), .bool q.dd, .agg #[.bool (evT C q.ev), .bool (evD C q.ev)]] W' fun e W'' => e = .returned (.tuple #[.agg (rgC (lastS L) (.slice a2 L.length c2)), .bool false, .int .i64 f]) ∧ Below W'.heap.size W' W'') ∧
      ∀ W', PS w W' g r m bm C acu ccu i L q v a2 c2 → Calls Try.prog 13 #[.pointer (some ⟨r, 0, none⟩), .agg (slC s)] W' fun e W'' => e = .returned (.int .i64 f) ∧ Below W'.heap.size W' W'') ∨
    (q.dd = false ∧ ∃ (f : Int) (L' : List Sl), Cnt L' ∧ L'.length ≤ i + 1 ∧
      (∀ W', W'.ownsRow w.heap.size 36 34 (.slice a2 L.length c2) L.length (slL L) → w.heap.size ≤ W'.heap.size → Calls Try.prog 11 #[.agg (rgC (lastS L) (.slice a2 L.length c2)), .agg (slC s), .bool q.dd, .agg #[.bool (evT C q.ev), .bool (evD C q.ev)]] W' fun e W'' => ∃ a3 c3, e = .returned (.tuple #[.agg (rgC (lastS L') (.slice a3 L'.length c3)), .bool true, .int .i64 f]) ∧ W''.ownsRow w.heap.size 36 34 (.slice a3 L'.length c3) L'.length (slL L') ∧ ((Value.slice a3 L'.length c3).ownBlock = (Value.slice a2 L.length c2).ownBlock ∨ ∀ x, (Value.slice a3 L'.length c3).ownBlock = some x → W'.heap.size ≤ x) ∧ Below W'.heap.size W' W'') ∧
      ∀ W', PS w W' g r m bm C acu ccu i L q v a2 c2 → Calls Try.prog 13 #[.pointer (some ⟨r, 0, none⟩), .agg (slC s)] W' fun e W'' => e = .returned (.int .i64 f) ∧ ∃ q' v', (∃ F k lg, RD W'' w.heap.size g 16 F k lg q' C r m v' L' ∧ k ≤ i + 1 ∧ lg ≤ i + 1) ∧ QuietC q'.cu q'.dd q' (i + 1) ∧ q'.ev = q.ev + 1 ∧ q'.dd = evD C q.ev ∧ RDMoved g 16 q r m v q' v' W' W'') := by
  have hlast : (lastS L).1 = L.length := h.cn.last
  have hlen := h.len
  cases hd : q.dd with
  | true =>
    refine .inl ⟨4, fun W' => refWrite_dead _ s _ _ _ _ _ W', fun W' h' => ?_⟩
    obtain ⟨F, k, lg, h1, _, _⟩ := h'.rd
    exact regWrite_dead s W' h1.reg (h1.pw true hd)
  | false =>
    by_cases hs0 : s.2.1 = 0
    · refine .inl ⟨1, fun W' => refWrite_arg _ s _ _ _ _ _ hs0 W', fun W' h' => ?_⟩
      obtain ⟨F, k, lg, h1, _, _⟩ := h'.rd
      exact regWrite_arg s hs0 W' h1.reg (h1.pw false hd)
    · by_cases hf : s.1 = (lastS L).1 + 1
      · have hnew : s ∉ L := h.cn.fresh s (by omega)
        refine .inr ⟨rfl, if (ahB q C || bhB q C) = true then 4 else 0, if ahB q C = true then L else L ++ [s], ?_, ?_, ?_, ?_⟩
        · split
          · exact h.cn
          · exact h.cn.snoc s (by omega)
        · split
          · omega
          · rw [List.length_append]
            simp
            omega
        · intro W' ho hsz
          cases ha : ahB q C with
          | true =>
            have e1 : evT C q.ev = false := by
              show (!ahB q C) = false
              rw [ha]
              rfl
            have e2 : evD C q.ev = true := by
              show (ahB q C || bhB q C) = true
              rw [ha]
              rfl
            rw [e1, e2]
            refine (refWrite_not (lastS L) s a2 L.length c2 true hs0 (by omega) hf W').mono ?_
            rintro e W'' ⟨he, hb⟩
            exact ⟨a2, c2, he, kown_below ho hb, .inl rfl, hb⟩
          | false =>
            have e1 : evT C q.ev = true := by
              show (!ahB q C) = true
              rw [ha]
              rfl
            have e2 : evD C q.ev = bhB q C := by
              show (ahB q C || bhB q C) = bhB q C
              rw [ha]
              rfl
            rw [e1, e2]
            refine (refWrite_go (lastS L) s a2 c2 L (by omega) (bhB q C) hs0 (by omega) hf W' ho).mono ?_
            rintro e W'' ⟨a3, c3, he, ho3, hb⟩
            have el : (L ++ [s]).length = L.length + 1 := by simp
            refine ⟨a3, c3, ?_, ?_, .inr fun x hx => ?_, hb⟩
            · simp only [Bool.false_eq_true, if_false, lastS_snoc, el, Bool.false_or]
              exact he
            · simp only [Bool.false_eq_true, if_false, el]
              exact kown_mono ho3 hsz
            · simp only [Bool.false_eq_true, if_false, el] at hx
              exact (ho3.lt x hx).1
        · intro W' h'
          obtain ⟨F, k, lg, h1, h2, h3⟩ := h'.rd
          have hq := h'.qt
          rw [hd] at hq
          refine (rdWrite_go hC hq (by omega) (by omega) (by omega) s hs64 hs0 hf hnew W' h'.low.size h1).mono ?_
          rintro e W'' ⟨he, q', lg', v', g1, g2, g3, g4, g5⟩
          have hdd := g2.dd
          refine ⟨he, q', v', ⟨F, k, lg', g1, by omega, by omega⟩, ?_, g3, hdd, g5⟩
          obtain ⟨b1, b2, b3, b4, b5, b6⟩ := g2
          exact ⟨rfl, b2, rfl, b4, b5, b6⟩
      · refine .inl ⟨60, fun W' => refWrite_back _ s _ _ _ _ _ hs0 (by omega) hf W', fun W' h' => ?_⟩
        obtain ⟨F, k, lg, h1, _, _⟩ := h'.rd
        exact regWrite_back (by omega) s hs64 hs0 hf W' h1.reg (h1.pw false hd)
end
end Go.Proofs.Ytdhbjcnbdfidcaa
