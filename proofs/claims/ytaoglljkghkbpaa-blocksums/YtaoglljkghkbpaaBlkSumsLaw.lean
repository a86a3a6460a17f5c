/- The statement BlockSums, if what it calls returns what it does. -/
import Derived.Test.YtaoglljkghkbpaaBlkLogged
import Derived.Test.YtaoglljkghkbpaaBlkSeg
import Derived.Test.YtaoglljkghkbpaaLogColl
import Derived.Handy
namespace Go.Proofs.Ytaoglljkghkbpaa
open Go.RowKit
set_option linter.unusedSimpArgs false
set_option linter.unusedVariables false

abbrev smSame (X Y : Nat → Nat) : Prop := ∀ i, i < 32 → X i = Y i
theorem dg_same (a b : Nat × ByteArray) : dg a = dg b ↔ ∀ i, i < 32 → sumOf a i = sumOf b i := by
  constructor
  · intro h i hi
    have := congrArg (fun d : Vector Nat 32 => dF d i) h
    simp only [dF, dg] at this
    simpa [hi] using this
  · intro h
    refine dF_inj fun i hi => ?_
    simp only [dF, dg]
    simpa [hi] using h i hi
theorem put_one (e : Nat × ByteArray) : putE [] e = [e] := by simp [putE, isIn, findIn]
theorem put_two (e d : Nat × ByteArray) (h : d ≠ e) : putE [e] d = [e, d] := by simp [putE, isIn, findIn, h]
theorem put_same (e : Nat × ByteArray) : putE [e] e = [e] := by simp [putE, isIn, findIn]
theorem isIn_one (e : Nat × ByteArray) : isIn e [e] = true := by simp [isIn, findIn]

set_option maxRecDepth 100000 in
set_option maxHeartbeats 16000000 in
theorem blockSumsLaw (f g : Nat → Nat) (hf : ∀ i, f i < 256) (hg : ∀ i, g i < 256) (w : World) :
    Calls Try.prog 8 #[bkV f, bkV g] w fun e w' => e = .returned (.bool true) ∧ Below w.heap.size w w' := by
  have hA : Hid (∀ w : World, Calls Try.prog 9 #[] w fun e w' => e = .returned (.bool true) ∧ Below w.heap.size w w') := fun w => awake4_any w
  have hNL : Hid (∀ w : World, Calls Try.prog 30 #[] w fun e w' => ∃ l r, e = .returned (.pointer (some ⟨l, 0, none⟩)) ∧ w.heap.size ≤ l ∧ w.heap.size ≤ r ∧ LogAt w' l r (.slice none 0 0) [] ∧ Below w.heap.size w w') := fun w => newLog_any w
  obtain ⟨E2, hE2⟩ : ∃ E2, E2 = putE [((1 : Nat), strN f 256)] (1, strN g 256) := ⟨_, rfl⟩
  have HK1 : Hid (∀ (l r : Nat) (v : Value) (w : World), LogAt w l r v [] → Calls Try.prog 31 #[.pointer (some ⟨l, 0, none⟩), bkV f] w fun e w' => e = .returned (.agg (va 32 (iv .u8 (sumOf (1, strN f 256))))) ∧ ∃ v', LogAt w' l r v' [((1 : Nat), strN f 256)] ∧ LogKeeps l r v w w' ∧ (v'.ownBlock = v.ownBlock ∨ ∃ k, v'.ownBlock = some k ∧ w.heap.size ≤ k)) := fun l r v w h => by
    have := logged_keep f w l r v [] (by simp) h
    rw [put_one] at this
    exact this
  have HK2 : Hid (∀ (l r : Nat) (v : Value) (w : World), LogAt w l r v [((1 : Nat), strN f 256)] → Calls Try.prog 31 #[.pointer (some ⟨l, 0, none⟩), bkV g] w fun e w' => e = .returned (.agg (va 32 (iv .u8 (sumOf (1, strN g 256))))) ∧ ∃ v', LogAt w' l r v' E2 ∧ LogKeeps l r v w w' ∧ (v'.ownBlock = v.ownBlock ∨ ∃ k, v'.ownBlock = some k ∧ w.heap.size ≤ k)) := fun l r v w h => by
    have := logged_keep g w l r v [((1 : Nat), strN f 256)] (by simp) h
    rw [← hE2] at this
    exact this
  have HKO : Hid (∀ (l r : Nat) (v : Value) (w : World), LogAt w l r v [((1 : Nat), strN f 256)] → Calls Try.prog 31 #[.pointer (some ⟨l, 0, none⟩), bkV f] w fun e w' => e = .returned (.agg (va 32 (iv .u8 (sumOf (1, strN f 256))))) ∧ Below w.heap.size w w') := fun l r v w h =>
    logged_below f w (.pointer (some ⟨l, 0, none⟩)) fun w' hw => logOf_old 1 (strN f 256) l r v _ (isIn_one _) w' (h.below hw)
  have HKN : Hid (∀ w : World, Calls Try.prog 31 #[.pointer none, bkV f] w fun e w' => e = .returned (.agg (va 32 (iv .u8 (sumOf (1, strN f 256))))) ∧ Below w.heap.size w w') := fun w =>
    logged_below f w (.pointer none) fun w' _ => logOf_nil 1 (by decide) (strN f 256) (by rw [strN_size]; decide) w'
  have HS : Hid (∀ w : World, Calls Try.prog 32 #[bkV f] w fun e w' => e = .returned (.agg (va 32 (iv .u8 (sumOf (1, strN f 256))))) ∧ Below w.heap.size w w') := fun w => blkSum_any f w
  have HT : Hid (∀ w : World, Calls Try.prog 12 #[bkV f] w fun e w' => e = .returned (.string (strN f 256)) ∧ Below w.heap.size w w') := fun w => textOf_any f w
  have HO : Hid (∀ w : World, Calls Try.prog 33 #[.int .u8 1, .string (strN f 256)] w fun e w' => e = .returned (.agg (va 32 (iv .u8 (sumOf (1, strN f 256))))) ∧ Below w.heap.size w w') := fun w => of_any 1 (by decide) (strN f 256) (by rw [strN_size]; decide) w
  have HLEN1 : Hid (∀ (l r : Nat) (v : Value) (w : World), LogAt w l r v [((1 : Nat), strN f 256)] → Calls Try.prog 34 #[.pointer (some ⟨l, 0, none⟩)] w fun e w' => e = .returned (.int .i64 1) ∧ Below w.heap.size w w') := fun l r v w h => (logLen_any l r v _ w h).mono (by rintro e w' ⟨rfl, rfl⟩; exact ⟨rfl, Below.refl _ _⟩)
  have HHAS : Hid (∀ (l r : Nat) (v : Value) (w : World), LogAt w l r v [((1 : Nat), strN f 256)] → Calls Try.prog 35 #[.pointer (some ⟨l, 0, none⟩), .int .u8 1, .string (strN f 256)] w fun e w' => e = .returned (.bool true) ∧ Below w.heap.size w w') := fun l r v w h => by
    have := logHas_any 1 (strN f 256) l r v _ w h
    rw [isIn_one] at this
    exact this
  have HLEN2 : Hid (∀ (l r : Nat) (v : Value) (w : World), LogAt w l r v E2 → Calls Try.prog 34 #[.pointer (some ⟨l, 0, none⟩)] w fun e w' => e = .returned (.int .i64 (E2.length : Int)) ∧ w = w') := fun l r v w h => (logLen_any l r v _ w h).mono fun _ _ q => ⟨q.1, q.2.symm⟩
  have hlE : E2.length ≤ 2 := by rw [hE2]; exact len_put _ _
  have HCOLL : Hid (∀ (l r : Nat) (v : Value) (w : World), LogAt w l r v E2 → Calls Try.prog 36 #[.pointer (some ⟨l, 0, none⟩)] w fun e w' => ∃ i k b, e = .returned (.tuple #[.int .i64 ((i : Nat) : Int), .int .i64 ((k : Nat) : Int), .bool b]) ∧ CollIs (digAt E2) E2.length i k b ∧ Below w.heap.size w w') := fun l r v w h => logColl_any l r v E2 (by omega) w h
  have HSAME : Hid (bkSame f g → E2.length = 1 ∧ smSame (sumOf (1, strN f 256)) (sumOf (1, strN g 256)) ∧ ∀ i k b, CollIs (digAt E2) E2.length i k b → b = false) := fun hs => by
    have e1 : strN g 256 = strN f 256 := strN_congr fun j hj => (hs j hj).symm
    rw [hE2, e1, put_same]
    refine ⟨rfl, fun _ _ => rfl, fun i k b hc => ?_⟩
    rcases hc with ⟨_, h1, h2, _⟩ | ⟨h1, _⟩
    · simp at h2
      omega
    · exact h1
  have HDIFF : Hid (¬ bkSame f g → E2.length = 2 ∧ ∀ i k b, CollIs (digAt E2) E2.length i k b → b = decide (smSame (sumOf (1, strN f 256)) (sumOf (1, strN g 256)))) := fun hs => by
    have hne : strN g 256 ≠ strN f 256 := fun e => hs fun i hi => by
      rw [← strN_at f 256 i hi (hf i), ← strN_at g 256 i hi (hg i), e]
    have e1 : putE [((1 : Nat), strN f 256)] (1, strN g 256) = [((1 : Nat), strN f 256), (1, strN g 256)] := put_two _ _ (by simpa using hne)
    rw [hE2, e1]
    refine ⟨rfl, fun i k b hc => ?_⟩
    have d0 : digAt [((1 : Nat), strN f 256), (1, strN g 256)] 0 = dg (1, strN f 256) := rfl
    have d1 : digAt [((1 : Nat), strN f 256), (1, strN g 256)] 1 = dg (1, strN g 256) := rfl
    rcases hc with ⟨rfl, h1, h2, h3, _⟩ | ⟨rfl, _, _, h4⟩
    · simp at h2
      obtain rfl : i = 0 := by omega
      obtain rfl : k = 1 := by omega
      rw [d0, d1, dg_same] at h3
      exact (decide_eq_true h3).symm
    · have := h4 1 (by simp) 0 (by omega)
      rw [d0, d1, ne_eq, dg_same] at this
      exact (decide_eq_false this).symm
  have hqX := eq_sum (sumOf (1, strN f 256))
  have hqXY : ∀ w, (Op.equalIn 10000 69 (.agg (va 32 (iv .u8 (sumOf (1, strN f 256))))) (.agg (va 32 (iv .u8 (sumOf (1, strN g 256)))))).run Try.prog w = .ok (decide (smSame (sumOf (1, strN f 256)) (sumOf (1, strN g 256)))) w := fun w =>
    eq_bytes 69 5 32 Try.underlying69 Try.underlying5 ksizeU8 (by kernel_rfl) _ _ w
  have hqB := eq_bk 23 Try.underlying23 f g
  clear hE2 hf hg
  generalize sumOf (1, strN f 256) = X at *
  generalize sumOf (1, strN g 256) = Y at *
  generalize strN f 256 = TF at *
  generalize strN g 256 = TG at *
  unfold bkV at *
  have HQXY : Hid (∀ w, (Op.equalIn 10000 69 (.agg (va 32 (iv .u8 X))) (.agg (va 32 (iv .u8 Y)))).run Try.prog w = .ok (decide (smSame X Y)) w) := hqXY
  have HQB : Hid (∀ w, (Op.equalIn 10000 23 (.agg (va 256 (iv .u8 f))) (.agg (va 256 (iv .u8 g)))).run Try.prog w = .ok (decide (bkSame f g)) w) := hqB
  clear hqXY hqB
  have b0 : Blk ((w.alloc (Obj.cells (va 256 (iv IntKind.u8 f)) 23)).alloc (Obj.cells (va 256 (iv IntKind.u8 g)) 23)) w.heap.size 23 (va 256 (iv .u8 f)) := (Blk.new _ _ _).alloc _
  have b1 := Blk.new1 w (Obj.cells (va 256 (iv IntKind.u8 f)) 23) 23 (va 256 (iv IntKind.u8 g))
  have hb := below_new2 w (Obj.cells (va 256 (iv IntKind.u8 f)) 23) (Obj.cells (va 256 (iv IntKind.u8 g)) 23)
  go_enter Try.func8, Try.ntmps8
  go_wp2_with fail
  generalize (w.alloc (Obj.cells (va 256 (iv IntKind.u8 f)) 23)).alloc (Obj.cells (va 256 (iv IntKind.u8 g)) 23) = W at *
  refine (hA.out _).mono ?_
  rintro e w1 ⟨rfl, hh⟩
  have b0' := b0.below hh b0.lt
  have b1' := b1.below hh b1.lt
  have hb1 : Below w.heap.size w w1 := hb.trans (hh.mono hb.size)
  clear b0 b1 hb hh hA
  go_wp2_with fail
  refine (hNL.out _).mono ?_
  rintro e w2 ⟨l, r, rfl, hl0, hr0, hlog, hh⟩
  have b0 := b0'.below hh b0'.lt
  have b1 := b1'.below hh b1'.lt
  have hb2 : Below w.heap.size w w2 := hb1.trans (hh.mono hb1.size)
  have hfrom : LogFrom w.heap.size l r (.slice none 0 0) := ⟨Nat.le_trans hb1.size hl0, Nat.le_trans hb1.size hr0, fun k hk => nomatch hk⟩
  clear b0' b1' hb1 hh hNL hl0 hr0
  go_wp2_with (first
    | (refine wpList_load_row (by rfl) 23 _ (by rfl) (w.heap.size) (by rfl) 23 (va 256 (iv .u8 f)) (0, 0) _ b0 Try.underlying23 (by rfl) (sizeBk.trans (by rw [va_size])) ?_; simp only [Act.put, List.setIfInBounds_toArray, List.set_cons_zero, List.set_cons_succ])
    | fail)
  refine (HK1.out _ _ _ _ hlog).mono ?_
  rintro e w3 ⟨rfl, v3, hlog3, hk, hv⟩
  have b0' := hk.blk hlog b0 (by decide) (by decide)
  have b1' := hk.blk hlog b1 (by decide) (by decide)
  have hb3 : Below w.heap.size w w3 := hb2.trans (hk.below hfrom hb2.size)
  have hfrom3 := hfrom.grow hb2.size hv
  clear b0 b1 hlog hk hv hfrom hb2 HK1
  have n3 : Blk (w3.alloc (Obj.cells #[.int .u8 0, .int .u8 0, .int .u8 0, .int .u8 0, .int .u8 0, .int .u8 0, .int .u8 0, .int .u8 0, .int .u8 0, .int .u8 0, .int .u8 0, .int .u8 0, .int .u8 0, .int .u8 0, .int .u8 0, .int .u8 0, .int .u8 0, .int .u8 0, .int .u8 0, .int .u8 0, .int .u8 0, .int .u8 0, .int .u8 0, .int .u8 0, .int .u8 0, .int .u8 0, .int .u8 0, .int .u8 0, .int .u8 0, .int .u8 0, .int .u8 0, .int .u8 0] 69)) w3.heap.size 69 (va 32 (iv .u8 fun _ => 0)) := Blk.new _ _ _
  have b0 := (b0'.alloc (Obj.cells #[.int .u8 0, .int .u8 0, .int .u8 0, .int .u8 0, .int .u8 0, .int .u8 0, .int .u8 0, .int .u8 0, .int .u8 0, .int .u8 0, .int .u8 0, .int .u8 0, .int .u8 0, .int .u8 0, .int .u8 0, .int .u8 0, .int .u8 0, .int .u8 0, .int .u8 0, .int .u8 0, .int .u8 0, .int .u8 0, .int .u8 0, .int .u8 0, .int .u8 0, .int .u8 0, .int .u8 0, .int .u8 0, .int .u8 0, .int .u8 0, .int .u8 0, .int .u8 0] 69)).other (g := w3.heap.size) (va 32 (iv .u8 X)) (Nat.ne_of_lt b0'.lt)
  have b1 := (b1'.alloc (Obj.cells #[.int .u8 0, .int .u8 0, .int .u8 0, .int .u8 0, .int .u8 0, .int .u8 0, .int .u8 0, .int .u8 0, .int .u8 0, .int .u8 0, .int .u8 0, .int .u8 0, .int .u8 0, .int .u8 0, .int .u8 0, .int .u8 0, .int .u8 0, .int .u8 0, .int .u8 0, .int .u8 0, .int .u8 0, .int .u8 0, .int .u8 0, .int .u8 0, .int .u8 0, .int .u8 0, .int .u8 0, .int .u8 0, .int .u8 0, .int .u8 0, .int .u8 0, .int .u8 0] 69)).other (g := w3.heap.size) (va 32 (iv .u8 X)) (Nat.ne_of_lt b1'.lt)
  have gx := n3.set (va 32 (iv .u8 X))
  have hlog4 := (hlog3.below (below_new1 w3 (Obj.cells #[.int .u8 0, .int .u8 0, .int .u8 0, .int .u8 0, .int .u8 0, .int .u8 0, .int .u8 0, .int .u8 0, .int .u8 0, .int .u8 0, .int .u8 0, .int .u8 0, .int .u8 0, .int .u8 0, .int .u8 0, .int .u8 0, .int .u8 0, .int .u8 0, .int .u8 0, .int .u8 0, .int .u8 0, .int .u8 0, .int .u8 0, .int .u8 0, .int .u8 0, .int .u8 0, .int .u8 0, .int .u8 0, .int .u8 0, .int .u8 0, .int .u8 0, .int .u8 0] 69))).setRow n3 (by decide) (by decide) (va 32 (iv .u8 X))
  have hb4 : Below w.heap.size w ((w3.alloc (Obj.cells #[.int .u8 0, .int .u8 0, .int .u8 0, .int .u8 0, .int .u8 0, .int .u8 0, .int .u8 0, .int .u8 0, .int .u8 0, .int .u8 0, .int .u8 0, .int .u8 0, .int .u8 0, .int .u8 0, .int .u8 0, .int .u8 0, .int .u8 0, .int .u8 0, .int .u8 0, .int .u8 0, .int .u8 0, .int .u8 0, .int .u8 0, .int .u8 0, .int .u8 0, .int .u8 0, .int .u8 0, .int .u8 0, .int .u8 0, .int .u8 0, .int .u8 0, .int .u8 0] 69)).setRow w3.heap.size (va 32 (iv .u8 X))) := below_setRow (hb3.alloc hb3.size _) hb3.size _
  clear b0' b1' hlog3 hb3
  go_wp2_with (first
    | (refine wpList_store_row (by rfl) 69 _ _ (by rfl) (w3.heap.size) (va 32 (iv .u8 X)) (by rfl) (by rfl) 69 _ n3 (sizeSum.trans (by rw [va_size])) (by simp only [va_size]) (iv_one _ _ _) ?_; simp only [Act.put, List.setIfInBounds_toArray, List.set_cons_zero, List.set_cons_succ])
    | fail)
  clear n3
  generalize (w3.alloc (Obj.cells #[.int .u8 0, .int .u8 0, .int .u8 0, .int .u8 0, .int .u8 0, .int .u8 0, .int .u8 0, .int .u8 0, .int .u8 0, .int .u8 0, .int .u8 0, .int .u8 0, .int .u8 0, .int .u8 0, .int .u8 0, .int .u8 0, .int .u8 0, .int .u8 0, .int .u8 0, .int .u8 0, .int .u8 0, .int .u8 0, .int .u8 0, .int .u8 0, .int .u8 0, .int .u8 0, .int .u8 0, .int .u8 0, .int .u8 0, .int .u8 0, .int .u8 0, .int .u8 0] 69)).setRow w3.heap.size (va 32 (iv .u8 X)) = w4 at *
  as_aux_lemma =>
    refine wp_region_partsI [] [([], 0, true), ([], 1, false), ([], 2, false), ([], 3, false), ([4], 5, true), ([], 6, false), ([], 7, false), ([], 8, false), ([], 9, false), ([10, 11], 12, true), ([], 13, false), ([], 14, false), ([], 15, false), ([16, 17, 19], 18, true), ([], 20, false), ([], 21, false), ([], 22, false), ([23, 24, 25], 26, false), ([], 27, false), ([28, 29, 30], 31, false), ([], 32, false), ([], 33, false)] [34, 35] [] (w4.heap.size) (by kernel_rfl) (by kernel_rfl) (fun _ hx => nomatch hx) (partsI_yield ?_)
    simp only [List.cons_append, List.nil_append, List.append_nil, List.filterMap_cons, List.filterMap_nil, List.getElem?_toArray, List.getElem?_cons_zero, List.getElem?_cons_succ]
    have hS : Below (w4.heap.size) w4 w4.drew := (Below.refl _ _).drew
    go_wp2_with fail
    refine ⟨rfl, _, .agg (va 32 (iv .u8 X)), rfl, kyields_load (by rfl) 69 _ (by rfl) (w3.heap.size) 32 (iv .u8 X) (by rfl) _ 69 (fun W hW => gx.below hW gx.lt) Try.underlying69 rfl sizeSum, partsI_force ?_⟩
    simp only [Act.put, List.setIfInBounds_toArray, List.set_cons_zero, List.set_cons_succ]
    simp only [List.cons_append, List.nil_append, List.append_nil, List.filterMap_cons, List.filterMap_nil, List.getElem?_toArray, List.getElem?_cons_zero, List.getElem?_cons_succ]
    (refine wpList_load_rowg (by rfl) 23 _ (by rfl) (w.heap.size) (by rfl) 23 (va 256 (iv .u8 f)) (0, 0) _ (b0.below hS b0.lt) Try.underlying23 (by rfl) (sizeBk.trans (by rw [va_size])) ?_; simp only [Act.put, List.setIfInBounds_toArray, List.set_cons_zero, List.set_cons_succ])
    go_wp2_with fail
    refine ⟨rfl, hS, partsI_force ?_⟩
    simp only [List.cons_append, List.nil_append, List.append_nil, List.filterMap_cons, List.filterMap_nil, List.getElem?_toArray, List.getElem?_cons_zero, List.getElem?_cons_succ]
    go_wp2_with fail
    refine (HS.out _).mono ?_
    rintro e x1 ⟨rfl, hh⟩
    have hS2 : Below w4.heap.size w4 x1 := hS.trans (hh.mono hS.size)
    clear hS hh
    have hS := hS2
    clear hS2
    go_wp2_with fail
    refine ⟨rfl, hS, partsI_force ?_⟩
    simp only [List.cons_append, List.nil_append, List.append_nil, List.filterMap_cons, List.filterMap_nil, List.getElem?_toArray, List.getElem?_cons_zero, List.getElem?_cons_succ]
    go_wp2_with fail
    refine ⟨rfl, hS, partsI_yield ?_⟩
    simp only [List.cons_append, List.nil_append, List.append_nil, List.filterMap_cons, List.filterMap_nil, List.getElem?_toArray, List.getElem?_cons_zero, List.getElem?_cons_succ]
    as_aux_lemma =>
      go_wp2_with fail
      refine ⟨rfl, _, .agg (va 32 (iv .u8 X)), rfl, kyields_load (by rfl) 69 _ (by rfl) (w3.heap.size) 32 (iv .u8 X) (by rfl) _ 69 (fun W hW => gx.below hW gx.lt) Try.underlying69 rfl sizeSum, partsI_force ?_⟩
      simp only [Act.put, List.setIfInBounds_toArray, List.set_cons_zero, List.set_cons_succ]
      simp only [List.cons_append, List.nil_append, List.append_nil, List.filterMap_cons, List.filterMap_nil, List.getElem?_toArray, List.getElem?_cons_zero, List.getElem?_cons_succ]
      (refine wpList_load_rowg (by rfl) 23 _ (by rfl) (w.heap.size) (by rfl) 23 (va 256 (iv .u8 f)) (0, 0) _ (b0.below hS b0.lt) Try.underlying23 (by rfl) (sizeBk.trans (by rw [va_size])) ?_; simp only [Act.put, List.setIfInBounds_toArray, List.set_cons_zero, List.set_cons_succ])
      go_wp2_with fail
      refine ⟨rfl, hS, partsI_force ?_⟩
      simp only [List.cons_append, List.nil_append, List.append_nil, List.filterMap_cons, List.filterMap_nil, List.getElem?_toArray, List.getElem?_cons_zero, List.getElem?_cons_succ]
      go_wp2_with fail
      refine (HT.out _).mono ?_
      rintro e x2 ⟨rfl, hh⟩
      have hS2 : Below w4.heap.size w4 x2 := hS.trans (hh.mono hS.size)
      clear hS hh
      have hS := hS2
      clear hS2
      go_wp2_with fail
      refine ⟨rfl, hS, partsI_force ?_⟩
      simp only [List.cons_append, List.nil_append, List.append_nil, List.filterMap_cons, List.filterMap_nil, List.getElem?_toArray, List.getElem?_cons_zero, List.getElem?_cons_succ]
      go_wp2_with fail
      refine (HO.out _).mono ?_
      rintro e x3 ⟨rfl, hh⟩
      have hS2 : Below w4.heap.size w4 x3 := hS.trans (hh.mono hS.size)
      clear hS hh
      have hS := hS2
      clear hS2
      go_wp2_with fail
      refine ⟨rfl, hS, partsI_force ?_⟩
      simp only [List.cons_append, List.nil_append, List.append_nil, List.filterMap_cons, List.filterMap_nil, List.getElem?_toArray, List.getElem?_cons_zero, List.getElem?_cons_succ]
      as_aux_lemma =>
        go_wp2_with fail
        refine ⟨rfl, hS, partsI_yield ?_⟩
        simp only [List.cons_append, List.nil_append, List.append_nil, List.filterMap_cons, List.filterMap_nil, List.getElem?_toArray, List.getElem?_cons_zero, List.getElem?_cons_succ]
        go_wp2_with fail
        refine ⟨rfl, _, .agg (va 32 (iv .u8 X)), rfl, kyields_load (by rfl) 69 _ (by rfl) (w3.heap.size) 32 (iv .u8 X) (by rfl) _ 69 (fun W hW => gx.below hW gx.lt) Try.underlying69 rfl sizeSum, partsI_force ?_⟩
        simp only [Act.put, List.setIfInBounds_toArray, List.set_cons_zero, List.set_cons_succ]
        simp only [List.cons_append, List.nil_append, List.append_nil, List.filterMap_cons, List.filterMap_nil, List.getElem?_toArray, List.getElem?_cons_zero, List.getElem?_cons_succ]
        (refine wpList_load_rowg (by rfl) 23 _ (by rfl) (w.heap.size) (by rfl) 23 (va 256 (iv .u8 f)) (0, 0) _ (b0.below hS b0.lt) Try.underlying23 (by rfl) (sizeBk.trans (by rw [va_size])) ?_; simp only [Act.put, List.setIfInBounds_toArray, List.set_cons_zero, List.set_cons_succ])
        go_wp2_with fail
        refine ⟨rfl, hS, partsI_force ?_⟩
        simp only [List.cons_append, List.nil_append, List.append_nil, List.filterMap_cons, List.filterMap_nil, List.getElem?_toArray, List.getElem?_cons_zero, List.getElem?_cons_succ]
        go_wp2_with fail
        refine (HKN.out _).mono ?_
        rintro e x4 ⟨rfl, hh⟩
        have hS2 : Below w4.heap.size w4 x4 := hS.trans (hh.mono hS.size)
        clear hS hh
        have hS := hS2
        clear hS2
        go_wp2_with fail
        refine ⟨rfl, hS, partsI_force ?_⟩
        simp only [List.cons_append, List.nil_append, List.append_nil, List.filterMap_cons, List.filterMap_nil, List.getElem?_toArray, List.getElem?_cons_zero, List.getElem?_cons_succ]
        as_aux_lemma =>
          go_wp2_with fail
          refine ⟨rfl, hS, partsI_yield ?_⟩
          simp only [List.cons_append, List.nil_append, List.append_nil, List.filterMap_cons, List.filterMap_nil, List.getElem?_toArray, List.getElem?_cons_zero, List.getElem?_cons_succ]
          go_wp2_with fail
          refine ⟨rfl, _, .agg (va 32 (iv .u8 X)), rfl, kyields_load (by rfl) 69 _ (by rfl) (w3.heap.size) 32 (iv .u8 X) (by rfl) _ 69 (fun W hW => gx.below hW gx.lt) Try.underlying69 rfl sizeSum, partsI_force ?_⟩
          simp only [Act.put, List.setIfInBounds_toArray, List.set_cons_zero, List.set_cons_succ]
          simp only [List.cons_append, List.nil_append, List.append_nil, List.filterMap_cons, List.filterMap_nil, List.getElem?_toArray, List.getElem?_cons_zero, List.getElem?_cons_succ]
          (refine wpList_load_rowg (by rfl) 23 _ (by rfl) (w.heap.size) (by rfl) 23 (va 256 (iv .u8 f)) (0, 0) _ (b0.below hS b0.lt) Try.underlying23 (by rfl) (sizeBk.trans (by rw [va_size])) ?_; simp only [Act.put, List.setIfInBounds_toArray, List.set_cons_zero, List.set_cons_succ])
          go_wp2_with fail
          refine ⟨rfl, hS, partsI_force ?_⟩
          simp only [List.cons_append, List.nil_append, List.append_nil, List.filterMap_cons, List.filterMap_nil, List.getElem?_toArray, List.getElem?_cons_zero, List.getElem?_cons_succ]
          go_wp2_with fail
          refine (HKO.out _ _ _ _ (hlog4.below hS)).mono ?_
          rintro e x5 ⟨rfl, hh⟩
          have hS2 : Below w4.heap.size w4 x5 := hS.trans (hh.mono hS.size)
          clear hS hh
          have hS := hS2
          clear hS2
          go_wp2_with fail
          refine ⟨rfl, hS, partsI_force ?_⟩
          simp only [List.cons_append, List.nil_append, List.append_nil, List.filterMap_cons, List.filterMap_nil, List.getElem?_toArray, List.getElem?_cons_zero, List.getElem?_cons_succ]
          as_aux_lemma =>
            go_wp2_with fail
            refine ⟨rfl, hS, partsI_force ?_⟩
            simp only [List.cons_append, List.nil_append, List.append_nil, List.filterMap_cons, List.filterMap_nil, List.getElem?_toArray, List.getElem?_cons_zero, List.getElem?_cons_succ]
            go_wp2_with fail
            refine (HLEN1.out _ _ _ _ (hlog4.below hS)).mono ?_
            rintro e x6 ⟨rfl, hh⟩
            have hS2 : Below w4.heap.size w4 x6 := hS.trans (hh.mono hS.size)
            clear hS hh
            have hS := hS2
            clear hS2
            go_wp2_with fail
            refine ⟨rfl, hS, partsI_force ?_⟩
            simp only [List.cons_append, List.nil_append, List.append_nil, List.filterMap_cons, List.filterMap_nil, List.getElem?_toArray, List.getElem?_cons_zero, List.getElem?_cons_succ]
            go_wp2_with fail
            refine ⟨rfl, hS, partsI_force ?_⟩
            simp only [List.cons_append, List.nil_append, List.append_nil, List.filterMap_cons, List.filterMap_nil, List.getElem?_toArray, List.getElem?_cons_zero, List.getElem?_cons_succ]
            go_wp2_with fail
            refine Or.inl (wp_load_row 23 _ (by rfl) (w.heap.size) (by rfl) 23 (va 256 (iv .u8 f)) (0, 0) _ (b0.below hS b0.lt) Try.underlying23 (by rfl) (sizeBk.trans (by rw [va_size])) ?_)
            simp only [Act.put, List.setIfInBounds_toArray, List.set_cons_zero, List.set_cons_succ]
            go_wp2_with fail
            refine ⟨rfl, hS, partsI_force ?_⟩
            simp only [List.cons_append, List.nil_append, List.append_nil, List.filterMap_cons, List.filterMap_nil, List.getElem?_toArray, List.getElem?_cons_zero, List.getElem?_cons_succ]
            as_aux_lemma =>
              go_wp2_with fail
              refine (HT.out _).mono ?_
              rintro e x7 ⟨rfl, hh⟩
              have hS2 : Below w4.heap.size w4 x7 := hS.trans (hh.mono hS.size)
              clear hS hh
              have hS := hS2
              clear hS2
              go_wp2_with fail
              refine ⟨rfl, hS, partsI_force ?_⟩
              simp only [List.cons_append, List.nil_append, List.append_nil, List.filterMap_cons, List.filterMap_nil, List.getElem?_toArray, List.getElem?_cons_zero, List.getElem?_cons_succ]
              go_wp2_with fail
              refine (HHAS.out _ _ _ _ (hlog4.below hS)).mono ?_
              rintro e x8 ⟨rfl, hh⟩
              have hS2 : Below w4.heap.size w4 x8 := hS.trans (hh.mono hS.size)
              clear hS hh
              have hS := hS2
              clear hS2
              go_wp2_with fail
              refine ⟨rfl, hS, partsI_last ?_⟩
              simp only [List.cons_append, List.nil_append, List.append_nil, List.filterMap_cons, List.filterMap_nil, List.getElem?_toArray, List.getElem?_cons_zero, List.getElem?_cons_succ]
              as_aux_lemma =>
                go_wp2_with fail
                refine ⟨rfl, ?_⟩
                have b0' := b0.below hS b0.lt
                have b1' := b1.below hS b1.lt
                have gx' := gx.below hS gx.lt
                have hlog5 := hlog4.below hS
                have hb5 : Below w.heap.size w x8 := hb4.trans (hS.mono hb4.size)
                clear b0 b1 gx hlog4 hb4 hS HS HT HO HKN HKO HLEN1 HHAS hqX
                go_wp2_with (first
                  | (refine wpList_load_row (by rfl) 23 _ (by rfl) (w.heap.size + 1) (by rfl) 23 (va 256 (iv .u8 g)) (0, 0) _ b1' Try.underlying23 (by rfl) (sizeBk.trans (by rw [va_size])) ?_; simp only [Act.put, List.setIfInBounds_toArray, List.set_cons_zero, List.set_cons_succ])
                  | fail)
                refine (HK2.out _ _ _ _ hlog5).mono ?_
                rintro e w6 ⟨rfl, v6, hlog6, hk, hv⟩
                have b0 := hk.blk hlog5 b0' (by decide) (by decide)
                have b1 := hk.blk hlog5 b1' (by decide) (by decide)
                have gx := hk.blk hlog5 gx' (by decide) (by decide)
                have hb6 : Below w.heap.size w w6 := hb5.trans (hk.below hfrom3 hb5.size)
                have lgx : w3.heap.size < w6.heap.size := gx.lt
                clear b0' b1' gx' hlog5 hk hv hfrom3 hb5 HK2
                have n6 : Blk (w6.alloc (Obj.cells #[.int .u8 0, .int .u8 0, .int .u8 0, .int .u8 0, .int .u8 0, .int .u8 0, .int .u8 0, .int .u8 0, .int .u8 0, .int .u8 0, .int .u8 0, .int .u8 0, .int .u8 0, .int .u8 0, .int .u8 0, .int .u8 0, .int .u8 0, .int .u8 0, .int .u8 0, .int .u8 0, .int .u8 0, .int .u8 0, .int .u8 0, .int .u8 0, .int .u8 0, .int .u8 0, .int .u8 0, .int .u8 0, .int .u8 0, .int .u8 0, .int .u8 0, .int .u8 0] 69)) w6.heap.size 69 (va 32 (iv .u8 fun _ => 0)) := Blk.new _ _ _
                have b0' := (b0.alloc (Obj.cells #[.int .u8 0, .int .u8 0, .int .u8 0, .int .u8 0, .int .u8 0, .int .u8 0, .int .u8 0, .int .u8 0, .int .u8 0, .int .u8 0, .int .u8 0, .int .u8 0, .int .u8 0, .int .u8 0, .int .u8 0, .int .u8 0, .int .u8 0, .int .u8 0, .int .u8 0, .int .u8 0, .int .u8 0, .int .u8 0, .int .u8 0, .int .u8 0, .int .u8 0, .int .u8 0, .int .u8 0, .int .u8 0, .int .u8 0, .int .u8 0, .int .u8 0, .int .u8 0] 69)).other (g := w6.heap.size) (va 32 (iv .u8 Y)) (Nat.ne_of_lt b0.lt)
                have b1' := (b1.alloc (Obj.cells #[.int .u8 0, .int .u8 0, .int .u8 0, .int .u8 0, .int .u8 0, .int .u8 0, .int .u8 0, .int .u8 0, .int .u8 0, .int .u8 0, .int .u8 0, .int .u8 0, .int .u8 0, .int .u8 0, .int .u8 0, .int .u8 0, .int .u8 0, .int .u8 0, .int .u8 0, .int .u8 0, .int .u8 0, .int .u8 0, .int .u8 0, .int .u8 0, .int .u8 0, .int .u8 0, .int .u8 0, .int .u8 0, .int .u8 0, .int .u8 0, .int .u8 0, .int .u8 0] 69)).other (g := w6.heap.size) (va 32 (iv .u8 Y)) (Nat.ne_of_lt b1.lt)
                have gx' := (gx.alloc (Obj.cells #[.int .u8 0, .int .u8 0, .int .u8 0, .int .u8 0, .int .u8 0, .int .u8 0, .int .u8 0, .int .u8 0, .int .u8 0, .int .u8 0, .int .u8 0, .int .u8 0, .int .u8 0, .int .u8 0, .int .u8 0, .int .u8 0, .int .u8 0, .int .u8 0, .int .u8 0, .int .u8 0, .int .u8 0, .int .u8 0, .int .u8 0, .int .u8 0, .int .u8 0, .int .u8 0, .int .u8 0, .int .u8 0, .int .u8 0, .int .u8 0, .int .u8 0, .int .u8 0] 69)).other (g := w6.heap.size) (va 32 (iv .u8 Y)) (Nat.ne_of_lt gx.lt)
                have gy := n6.set (va 32 (iv .u8 Y))
                have hlog7 := (hlog6.below (below_new1 w6 (Obj.cells #[.int .u8 0, .int .u8 0, .int .u8 0, .int .u8 0, .int .u8 0, .int .u8 0, .int .u8 0, .int .u8 0, .int .u8 0, .int .u8 0, .int .u8 0, .int .u8 0, .int .u8 0, .int .u8 0, .int .u8 0, .int .u8 0, .int .u8 0, .int .u8 0, .int .u8 0, .int .u8 0, .int .u8 0, .int .u8 0, .int .u8 0, .int .u8 0, .int .u8 0, .int .u8 0, .int .u8 0, .int .u8 0, .int .u8 0, .int .u8 0, .int .u8 0, .int .u8 0] 69))).setRow n6 (by decide) (by decide) (va 32 (iv .u8 Y))
                have hb7 : Below w.heap.size w ((w6.alloc (Obj.cells #[.int .u8 0, .int .u8 0, .int .u8 0, .int .u8 0, .int .u8 0, .int .u8 0, .int .u8 0, .int .u8 0, .int .u8 0, .int .u8 0, .int .u8 0, .int .u8 0, .int .u8 0, .int .u8 0, .int .u8 0, .int .u8 0, .int .u8 0, .int .u8 0, .int .u8 0, .int .u8 0, .int .u8 0, .int .u8 0, .int .u8 0, .int .u8 0, .int .u8 0, .int .u8 0, .int .u8 0, .int .u8 0, .int .u8 0, .int .u8 0, .int .u8 0, .int .u8 0] 69)).setRow w6.heap.size (va 32 (iv .u8 Y))) := below_setRow (hb6.alloc hb6.size _) hb6.size _
                clear b0 b1 gx hlog6 hb6
                go_wp2_with (first
                  | (refine wpList_store_row (by rfl) 69 _ _ (by rfl) (w6.heap.size) (va 32 (iv .u8 Y)) (by rfl) (by rfl) 69 _ n6 (sizeSum.trans (by rw [va_size])) (by simp only [va_size]) (iv_one _ _ _) ?_; simp only [Act.put, List.setIfInBounds_toArray, List.set_cons_zero, List.set_cons_succ])
                  | fail)
                clear n6
                generalize (w6.alloc (Obj.cells #[.int .u8 0, .int .u8 0, .int .u8 0, .int .u8 0, .int .u8 0, .int .u8 0, .int .u8 0, .int .u8 0, .int .u8 0, .int .u8 0, .int .u8 0, .int .u8 0, .int .u8 0, .int .u8 0, .int .u8 0, .int .u8 0, .int .u8 0, .int .u8 0, .int .u8 0, .int .u8 0, .int .u8 0, .int .u8 0, .int .u8 0, .int .u8 0, .int .u8 0, .int .u8 0, .int .u8 0, .int .u8 0, .int .u8 0, .int .u8 0, .int .u8 0, .int .u8 0] 69)).setRow w6.heap.size (va 32 (iv .u8 Y)) = w7 at *
                refine (HCOLL.out _ _ _ _ hlog7).mono ?_
                rintro e w8 ⟨i, k, bb, rfl, hcoll, hh⟩
                have b0 := b0'.below hh b0'.lt
                have b1 := b1'.below hh b1'.lt
                have gx := gx'.below hh gx'.lt
                have gy' := gy.below hh gy.lt
                have hlog8 := hlog7.below hh
                have hb8 : Below w.heap.size w w8 := hb7.trans (hh.mono hb7.size)
                clear b0' b1' gx' gy hlog7 hb7 hh HCOLL
                have hqB := HQB.out
                have hqXY := HQXY.out
                by_cases hs : bkSame f g
                · obtain ⟨hl, hxy, hc⟩ := HSAME.out hs
                  obtain rfl := hc i k bb hcoll
                  rw [decide_eq_true hs] at hqB
                  rw [decide_eq_true hxy] at hqXY
                  rw [hl] at HLEN2
                  clear hs hxy hc hcoll HSAME HDIFF hl hlE HQB HQXY
                  go_wp2_with (first
                    | (refine wpList_load_row (by rfl) 23 _ (by rfl) (w.heap.size) (by rfl) 23 (va 256 (iv .u8 f)) (0, 0) _ b0 Try.underlying23 (by rfl) (sizeBk.trans (by rw [va_size])) ?_; simp only [Act.put, List.setIfInBounds_toArray, List.set_cons_zero, List.set_cons_succ])
                    | (refine wpList_load_row (by rfl) 23 _ (by rfl) (w.heap.size + 1) (by rfl) 23 (va 256 (iv .u8 g)) (0, 0) _ b1 Try.underlying23 (by rfl) (sizeBk.trans (by rw [va_size])) ?_; simp only [Act.put, List.setIfInBounds_toArray, List.set_cons_zero, List.set_cons_succ])
                    | (refine wpList_load_row (by rfl) 69 _ (by rfl) (w3.heap.size) (by rfl) 69 (va 32 (iv .u8 X)) (0, 0) _ gx Try.underlying69 (by rfl) (sizeSum.trans (by rw [va_size])) ?_; simp only [Act.put, List.setIfInBounds_toArray, List.set_cons_zero, List.set_cons_succ])
                    | (refine wpList_load_row (by rfl) 69 _ (by rfl) (w6.heap.size) (by rfl) 69 (va 32 (iv .u8 Y)) (0, 0) _ gy' Try.underlying69 (by rfl) (sizeSum.trans (by rw [va_size])) ?_; simp only [Act.put, List.setIfInBounds_toArray, List.set_cons_zero, List.set_cons_succ])
                    | fail)
                  refine (HLEN2.out _ _ _ _ hlog8).mono ?_
                  rintro e w9 ⟨rfl, rfl⟩
                  go_wp2_with fail
                  go_ret
                  exact ⟨rfl, hb8⟩
                · obtain ⟨hl, hc⟩ := HDIFF.out hs
                  obtain rfl := hc i k bb hcoll
                  rw [decide_eq_false hs] at hqB
                  rw [hl] at HLEN2
                  clear hs hc hcoll HSAME HDIFF hl hlE HQB HQXY
                  generalize decide (smSame X Y) = dd at *
                  go_wp2_with (first
                    | (refine wpList_load_row (by rfl) 23 _ (by rfl) (w.heap.size) (by rfl) 23 (va 256 (iv .u8 f)) (0, 0) _ b0 Try.underlying23 (by rfl) (sizeBk.trans (by rw [va_size])) ?_; simp only [Act.put, List.setIfInBounds_toArray, List.set_cons_zero, List.set_cons_succ])
                    | (refine wpList_load_row (by rfl) 23 _ (by rfl) (w.heap.size + 1) (by rfl) 23 (va 256 (iv .u8 g)) (0, 0) _ b1 Try.underlying23 (by rfl) (sizeBk.trans (by rw [va_size])) ?_; simp only [Act.put, List.setIfInBounds_toArray, List.set_cons_zero, List.set_cons_succ])
                    | fail)
                  refine (HLEN2.out _ _ _ _ hlog8).mono ?_
                  rintro e w9 ⟨rfl, rfl⟩
                  go_wp2_with (first
                    | (refine wpList_load_rowg (by rfl) 69 _ (by rfl) (w3.heap.size) (by rfl) 69 (va 32 (iv .u8 X)) (0, 0) _ gx Try.underlying69 (by rfl) (sizeSum.trans (by rw [va_size])) ?_; simp only [Act.put, List.setIfInBounds_toArray, List.set_cons_zero, List.set_cons_succ])
                    | (refine wpList_load_rowg (by rfl) 69 _ (by rfl) (w6.heap.size) (by rfl) 69 (va 32 (iv .u8 Y)) (0, 0) _ gy' Try.underlying69 (by rfl) (sizeSum.trans (by rw [va_size])) ?_; simp only [Act.put, List.setIfInBounds_toArray, List.set_cons_zero, List.set_cons_succ])
                    | fail)
                  go_ret
                  exact ⟨rfl, hb8⟩
end Go.Proofs.Ytaoglljkghkbpaa
