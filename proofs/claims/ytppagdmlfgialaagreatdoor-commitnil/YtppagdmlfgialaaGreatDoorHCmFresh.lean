/- Commits: the document's fresh tree. -/
import Derived.Test.YtppagdmlfgialaaGreatDoorHCmLay
import Derived.Test.YtppagdmlfgialaaGreatDoorHSuNum
import Derived.Test.YtppagdmlfgialaaGreatDoorHSuREnc
import Derived.Test.YtppagdmlfgialaaGreatDoorHSegsP
import Derived.Test.YtppagdmlfgialaaGreatDoorHIoRSize
import Derived.Test.YtppagdmlfgialaaGreatDoorHBiRLeaves

namespace Go.Proofs.YtppagdmlfgialaaGreatDoor
theorem sgLHCmFresh : (∀ (α : Type) (a : α) (l r : List α), (a :: l) ++ r = a :: (l ++ r)) ∧ (∀ (α : Type) (l : List α), [] ++ l = l) ∧ (∀ (α : Type) (l : List α), l ++ [] = l) ∧ (∀ (α β : Type) (f : α → Option β) (a : α) (l : List α), (a :: l).filterMap f = match f a with | none => l.filterMap f | some b => b :: l.filterMap f) ∧ (∀ (α β : Type) (f : α → Option β), [].filterMap f = []) ∧ (∀ (α : Type) (l : List α) (i : Nat), l.toArray[i]? = l[i]?) ∧ (∀ (α : Type) (a : α) (l : List α), (a :: l)[0]? = some a) ∧ (∀ (α : Type) (a : α) (l : List α) (i : Nat), (a :: l)[i + 1]? = l[i]?) :=
  ⟨fun _ _ _ _ => List.cons_append, fun _ _ => List.nil_append _, fun _ _ => List.append_nil _, fun _ _ _ _ _ => List.filterMap_cons, fun _ _ _ => List.filterMap_nil, fun _ _ _ => List.getElem?_toArray, fun _ _ _ => List.getElem?_cons_zero, fun _ _ _ _ => List.getElem?_cons_succ⟩
theorem sgPHCmFresh : (∀ (α : Type) (l : List α) (i : Nat) (a : α), l.toArray.setIfInBounds i a = (l.set i a).toArray) ∧ (∀ (α : Type) (a b : α) (l : List α), (a :: l).set 0 b = b :: l) ∧ (∀ (α : Type) (a b : α) (l : List α) (i : Nat), (a :: l).set (i + 1) b = a :: l.set i b) :=
  ⟨fun _ _ _ _ => List.setIfInBounds_toArray _ _ _, fun _ _ _ _ => List.set_cons_zero, fun _ _ _ _ _ => List.set_cons_succ⟩
end Go.Proofs.YtppagdmlfgialaaGreatDoor
namespace Go.Proofs.YtppagdmlfgialaaGreatDoor
open Go Go.RowKit
set_option linter.unusedSimpArgs false
set_option linter.unusedVariables false
/-- a fresh tree's root -/
def suFr (n : Nat) (t m : Rf) : Sup := ⟨(n : Int), 1, 0, t, 1, 0, m, 3⟩
theorem sck_fresh (n : Nat) (h16 : 16 ≤ n) (hn : n ≤ 1024) (t m : Rf) (ht : t.1 = 1) (hm : m.1 = 2) : sck (suFr n t m) = true := by
  have h4 : hL 4 1 = 0 := by unfold hL; rw [if_pos (by omega)]
  have h5 : hL 1024 (n : Int) = 0 := by unfold hL; rw [if_pos (by omega)]
  unfold sck sDisk sHgt sPl rBl onD suFr
  simp only [ht, hm, h4, h5]
  simp
  omega
theorem suFr_w (n : Nat) (hn : n ≤ 1024) (t m : Rf) (ht : t.1 = 1) (hm : m.1 = 2) (h1 : okD t.2) (h2 : okD m.2) : SuW (suFr n t m) := by
  refine ⟨?_, by show (1 : Nat) < _; decide, by show _ ≤ (0 : Int) ∧ (0 : Int) ≤ _; decide, ?_, h1, by show _ ≤ (1 : Int) ∧ (1 : Int) ≤ _; decide, by show _ ≤ (0 : Int) ∧ (0 : Int) ≤ _; decide, ?_, h2, by show _ ≤ (3 : Int) ∧ (3 : Int) ≤ _; decide⟩
  · show _ ≤ (n : Int) ∧ (n : Int) ≤ _
    omega
  · show t.1 < _
    omega
  · show m.1 < _
    omega
theorem fits_fresh (n : Nat) (h16 : 16 ≤ n) (hn : n ≤ 1024) (t m : Rf) (ht : t.1 = 1) (hm : m.1 = 2) : fitS (suFr n t m) 1 3 (n : Int) = true := by
  unfold fitS
  rw [sck_fresh n h16 hn t m ht hm]
  unfold onD suFr
  simp only [ht, hm]
  simp
  omega
theorem zero_slot21 (w : World) : (zeroValue 69).run Tryz.prog w = .ok (.agg (slC sl0)) w := zero_of (by kernel_rfl) w
theorem sizeSlot21 : (Tryz.prog.info? 69).map (·.size) = some 34 := by kernel_rfl
theorem built_slot21 (r : Rf) : Tryz.prog.built 69 [(0, .int .u64 1), (1, .agg (rfC r))] = some (slC (1, r)) := by kernel_rfl
theorem built_ti1 (r : Rf) : Tryz.prog.built 72 [(1, .agg (rfC r))] = some (tiC 0 r) := by kernel_rfl
theorem built_ti2 (r : Rf) : Tryz.prog.built 72 [(0, .int .i64 0), (1, .agg (rfC r))] = some (tiC 0 r) := by kernel_rfl
theorem built_suFr (n : Nat) (t m : Rf) : Tryz.prog.built 74 [(0, .int .i64 (n : Int)), (1, .int .u64 1), (2, .agg (tiC 0 t)), (3, .int .i64 1), (4, .agg (tiC 0 m)), (5, .int .i64 3)] = some (suC (suFr n t m)) := by kernel_rfl
theorem jm_one {β : Type} {a : Int} {v : β} : ∀ l : List (Int × β), (l.map (·.1)).Nodup → (∀ b, findIn b l = if b = a then some v else none) → l = [(a, v)]
  | [], _, h => by
    have := h a
    rw [if_pos rfl] at this
    cases this
  | [p], _, h => by
    have h1 := h p.1
    unfold findIn at h1
    rw [if_pos rfl] at h1
    by_cases e : p.1 = a
    · rw [if_pos e] at h1
      injection h1 with h1
      rw [← e, ← h1]
    · rw [if_neg e] at h1
      cases h1
  | p :: q :: t, hn, h => by
    have h1 := h p.1
    unfold findIn at h1
    rw [if_pos rfl] at h1
    have e : p.1 = a := by
      by_cases e : p.1 = a
      · exact e
      · rw [if_neg e] at h1
        cases h1
    have hne : q.1 ≠ p.1 := fun z => by
      simp only [List.map_cons, List.nodup_cons, List.mem_cons] at hn
      exact hn.1 (.inl z.symm)
    have h2 := h q.1
    rw [if_neg (by rw [← e]; exact hne)] at h2
    unfold findIn at h2
    rw [if_neg hne] at h2
    unfold findIn at h2
    rw [if_pos rfl] at h2
    cases h2
theorem jm_put1 {β : Type} {V : β → Value} {P : Program} {mt kt et : TypeId} (hm : P.underlying mt = some (.map kt et)) (hk : P.underlying kt = some (.int .i64)) {w : World} {m : Nat} (h : JM V w m []) (a : Int) (v : β) :
    ∃ w', (Instr.mapUpdate mt (.map (some m)) (.int .i64 a) (V v)).run P w = .ok () w' ∧ JM V w' m [(a, v)] ∧ Turns (fun z => z = m) w w' := by
  obtain ⟨w', l', h1, h2, h3, h4⟩ := JM.put hm hk h a v
  refine ⟨w', h1, ?_, h4⟩
  rw [← jm_one l' h2.nd fun b => (h3 b).trans (by rfl)]
  exact h2
/-- what stands while a fresh tree is made -/
structure FD (w wx : World) (N : Nat) (v : Value) (X : Nat → Nat) : Prop where
  img : Img wx w.heap.size v N X
  sl : Blk wx w.heap.size 69 (slC sl0)
  su : Blk wx (w.heap.size + 1) 74 (suC su0)
  below : Below w.heap.size w wx
theorem FD.keep {w wx wy : World} {N : Nat} {v : Value} {X : Nat → Nat} (H : FD w wx N v X) (hb : Below wx.heap.size wx wy) : FD w wy N v X := ⟨H.img.below hb, H.sl.below hb H.sl.lt, H.su.below hb H.su.lt, H.below.trans (hb.mono H.below.size)⟩
theorem FD.new {w wx wy : World} {N N' : Nat} {v v' : Value} {X X' : Nat → Nat} (H : FD w wx N v X) (hb : Below wx.heap.size wx wy) (hi : Img wy w.heap.size v' N' X') : FD w wy N' v' X' := ⟨hi, H.sl.below hb H.sl.lt, H.su.below hb H.su.lt, H.below.trans (hb.mono H.below.size)⟩
theorem img_setOne {w : World} {B n g u : Nat} {v : Value} {X : Nat → Nat} {cs old : Array Value} (h : Img w B v n X) (hg : Blk w g u old) (hu : 121 ≠ u) : Img (w.setRow g cs) B v n X := by
  refine ⟨⟨h.1.1, ?_⟩, h.2⟩
  rcases h.1.2 with hn | ⟨b, cap, cur, rfl, hb, hbb, rest⟩
  · exact .inl hn
  · exact .inr ⟨b, cap, cur, rfl, hb, (show Blk w b 121 cur from hbb).other cs (blk_apart hbb hg hu), rest⟩
theorem fIr_lt (j : Nat) : fIr j < 256 := by
  unfold fIr bkT fupN
  split
  · exact inB_lt iroot okD_zero j
  · show (0 : Nat) < 256
    decide
theorem run_built1 {P : Program} {o : Oper} {ev : Operand → Value} {w : World} {t : TypeId} {j0 : Nat} {x0 : Operand} {v0 : Value} {cells : Array Value} (ho : o.op = .build t #[(j0, x0)]) (h0 : ev x0 = v0) (hf : P.built t [(j0, v0)] = some cells) : (execOp ev o).run P w = .ok (.value (.agg cells)) w := by
  have e : (Array.map (fun (x : Nat × Operand) => match x with | (i, x) => (i, ev x)) #[(j0, x0)]).toList = [(j0, v0)] := by simp [h0]
  rw [← e] at hf
  unfold execOp
  simp only [ho, Sem.run_bind, run_build w t _ cells hf, Result.andThen_ok]
  rfl
theorem run_built6 {P : Program} {o : Oper} {ev : Operand → Value} {w : World} {t : TypeId} {j0 j1 j2 j3 j4 j5 : Nat} {x0 x1 x2 x3 x4 x5 : Operand} {v0 v1 v2 v3 v4 v5 : Value} {cells : Array Value} (ho : o.op = .build t #[(j0, x0), (j1, x1), (j2, x2), (j3, x3), (j4, x4), (j5, x5)]) (h0 : ev x0 = v0) (h1 : ev x1 = v1) (h2 : ev x2 = v2) (h3 : ev x3 = v3) (h4 : ev x4 = v4) (h5 : ev x5 = v5) (hf : P.built t [(j0, v0), (j1, v1), (j2, v2), (j3, v3), (j4, v4), (j5, v5)] = some cells) : (execOp ev o).run P w = .ok (.value (.agg cells)) w := by
  have e : (Array.map (fun (x : Nat × Operand) => match x with | (i, x) => (i, ev x)) #[(j0, x0), (j1, x1), (j2, x2), (j3, x3), (j4, x4), (j5, x5)]).toList = [(j0, v0), (j1, v1), (j2, v2), (j3, v3), (j4, v4), (j5, v5)] := by simp [h0, h1, h2, h3, h4, h5]
  rw [← e] at hf
  unfold execOp
  simp only [ho, Sem.run_bind, run_build w t _ cells hf, Result.andThen_ok]
  rfl
theorem isblks_turn {w w' : World} {b n m : Nat} {L : Nat → Nat → Nat} (h : IsBlks w (some ⟨b, 0, none⟩) n L) (ht : Turns (fun z => z = m) w w') (hne : b ≠ m) : IsBlks w' (some ⟨b, 0, none⟩) n L := fun i hi => by
  obtain ⟨b', o', e, hlt, hr⟩ := h i hi
  injection e with e
  injection e with e1 e2
  subst e1 e2
  exact ⟨b, 0, rfl, Nat.lt_of_lt_of_le hlt ht.size, fun j v hv => by
    rw [← hr j v hv]
    simp [World.cell?, ht.block b hlt hne]⟩
theorem results_two {P : Program} {fn : Func} {p1 p2 u : Tmp} {ty1 ty2 : TypeId} (h : fn.results = #[.tmp u, .cell p1 ty1, .cell p2 ty2]) (tmps : Array Value) (w : World) (g1 g2 : Nat) (t1 t2 : TypeId) (cs1 cs2 : Array Value) (d1 d2 : TypeDesc)
    (hp1 : tmps.getD p1 undef = .pointer (some ⟨g1, 0, none⟩)) (hg1 : Blk w g1 t1 cs1) (hp2 : tmps.getD p2 undef = .pointer (some ⟨g2, 0, none⟩)) (hg2 : Blk w g2 t2 cs2)
    (hu1 : P.underlying ty1 = some d1) (hd1 : (match d1 with | .struct _ | .array _ _ => true | _ => false) = true) (hi1 : (P.info? ty1).map (·.size) = some cs1.size)
    (hu2 : P.underlying ty2 = some d2) (hd2 : (match d2 with | .struct _ | .array _ _ => true | _ => false) = true) (hi2 : (P.info? ty2).map (·.size) = some cs2.size) :
    (results fn tmps).run P w = .ok (.tuple #[tmps.getD u undef, .agg cs1, .agg cs2]) w := by
  have hp1' : tmps[p1]?.getD undef = .pointer (some ⟨g1, 0, none⟩) := by simpa using hp1
  have hp2' : tmps[p2]?.getD undef = .pointer (some ⟨g2, 0, none⟩) := by simpa using hp2
  simp [results, h, hp1', hp2', asAddr, run_loadVar_row w g1 t1 ty1 cs1 (0, 0) d1 hg1 hu1 hd1 hi1, run_loadVar_row w g2 t2 ty2 cs2 (0, 0) d2 hg2 hu2 hd2 hi2]
/-- what Fresh answers -/
def FreshP (w : World) (n : Nat) (e : Ending) (w' : World) : Prop := ∃ (ib ic : Nat) (X : Nat → Nat) (t m s : Rf), e = .returned (.tuple #[.slice (some ⟨ib, 0, none⟩) n ic, .agg (slC (1, s)), .agg (suC (suFr n t m))]) ∧ Img w' w.heap.size (.slice (some ⟨ib, 0, none⟩) n ic) n X ∧ (t.1 = 1 ∧ m.1 = 2 ∧ s.1 = 3) ∧ (okD t.2 ∧ okD m.2 ∧ okD s.2) ∧ Below w.heap.size w w'
set_option maxRecDepth 100000 in
set_option maxHeartbeats 16000000 in
theorem fresh21_any (n : Nat) (h16 : 16 ≤ n) (hn : n ≤ 1024) (w : World) : Calls Tryz.prog 19 #[.int .i64 (n : Int)] w fun e w' => FreshP w n e w' := by
  have hzs := zero_slot21
  have hzu := zero_rsup
  have hzt := rtop_zero
  have hmm := @run_makeMap Tryz.prog
  have HN : Hid (16 ≤ n ∧ n ≤ 1024) := ⟨h16, hn⟩
  clear h16 hn
  have h1 : Blk ((w.alloc (.cells (slC sl0) 69)).alloc (.cells (suC su0) 74)) w.heap.size 69 (slC sl0) ∧ Blk ((w.alloc (.cells (slC sl0) 69)).alloc (.cells (suC su0) 74)) (w.heap.size + 1) 74 (suC su0) ∧ Below w.heap.size w ((w.alloc (.cells (slC sl0) 69)).alloc (.cells (suC su0) 74)) := ⟨(Blk.new _ _ _).alloc _, Blk.new1 _ _ _ _, below_new2 _ _ _⟩
  go_enter Tryz.func19, Tryz.ntmps19
  go_upto_region 1 with fail
  generalize ((w.alloc (.cells (slC sl0) 69)).alloc (.cells (suC su0) 74)) = w1 at *
  have hmk := make_img w1
  have HF1 : Hid (FD w (w1.alloc (.cells (va 256 (iv .u8 fun _ => 0)) 121)) 1 (.slice (some ⟨w1.heap.size, 0, none⟩) 1 1) fun _ => 0) := ⟨img_one (Blk.new _ _ _) h1.2.2.size, h1.1.alloc _, h1.2.1.alloc _, h1.2.2.trans ((below_new1 _ _).mono h1.2.2.size)⟩
  clear h1
  go_upto_region 2 with fail
  clear hmk hzs
  generalize (w1.alloc (.cells (va 256 (iv .u8 fun _ => 0)) 121)) = w2 at *
  generalize w1.heap.size = ig at *
  go_wp2_with (first
    | (refine wpList_build_at (by rfl) 116 _ (by rfl) ([(0, .int .i64 2), (1, .int .i64 1), (3, .int .u64 1)]) (by rfl) (inC iroot) (by exact built_iroot) ?_; simp only [Act.put, sgPHCmFresh])
    | fail)
  refine (rencode_ok iroot iroot_w iroot_chk _).mono ?_
  rintro e w3 ⟨rfl, hb3⟩
  have HF3 : Hid (FD w w3 1 (.slice (some ⟨ig, 0, none⟩) 1 1) fun _ => 0) := HF1.out.keep hb3
  clear hb3 HF1
  go_upto_region 3 with fail
  have hba : Below w3.heap.size w3 (w3.alloc (.map #[] 0)) := (Below.refl _ w3).alloc (Nat.le_refl _) _
  have HM4 : Hid (JM lfV (w3.alloc (.map #[] 0)) w3.heap.size [] ∧ w3.heap.size < (w3.alloc (.map #[] 0)).heap.size ∧ Below w3.heap.size w3 (w3.alloc (.map #[] 0))) := ⟨JM.new (heap_alloc_new _ _), by simp, hba⟩
  clear hba
  go_wp2_with fail
  generalize (w3.alloc (.map #[] 0)) = w4 at *
  generalize hmb : w3.heap.size = mb at *
  have HMB : Hid (w3.heap.size = mb) := hmb
  clear hmb
  refine (block21_any 64 (inB iroot) (by decide) (fun j _ => inB_lt iroot okD_zero j) w4).mono ?_
  rintro e w5 ⟨rfl, hb5⟩
  obtain ⟨w6, hput, hm6, ht6⟩ := jm_put1 (P := Tryz.prog) (V := lfV) Tryz.underlying95 Tryz.underlying3 (HM4.out.1.below hb5 HM4.out.2.1) 0 fIr
  unfold lfV fIr at hput
  have hb36 : Below w3.heap.size w3 w6 := by
    have h1 : Below mb w3 w5 := HM4.out.2.2.trans (hb5.mono (Nat.le_of_lt HM4.out.2.1))
    rw [HMB.out]
    exact h1.trans (ht6.below (B := mb) (Nat.le_trans (Nat.le_of_lt HM4.out.2.1) hb5.size) fun b e => by rw [e]; exact Nat.le_refl _)
  have HF6 : Hid (FD w w6 1 (.slice (some ⟨ig, 0, none⟩) 1 1) fun _ => 0) := HF3.out.keep hb36
  have HM6 : Hid (JM lfV w6 mb [((0 : Int), fIr)]) := hm6
  clear hb5 hm6 ht6 hb36 HF3 HM4
  go_wp2_with fail
  clear hput
  refine (lay0_one (B := w.heap.size) fIr fIr_lt (fun h => absurd ((h 0 (by decide)).symm.trans fIr_zero) (by decide)) (fun a h1 h2 => absurd h2 (by omega)) ⟨by decide, by decide⟩ w6 HF6.out.below.size HM6.out HF6.out.img).mono ?_
  rintro e w7 ⟨v7, X7, t, rfl, hi7, hx7, ht1, hbk7, htd, hb7⟩
  obtain ⟨b7, c7, rfl, _, _, _⟩ := own_some hi7.1 (by decide)
  have HF7 : Hid (FD w w7 2 (.slice (some ⟨b7, 0, none⟩) 2 c7) X7) := HF6.out.new hb7 hi7
  have HT7 : Hid (t.1 = 1 ∧ okD t.2 ∧ bkSame (blkAt X7 1) fIr) := ⟨ht1, htd, hbk7⟩
  clear hi7 hx7 ht1 hbk7 htd hb7 HF6 HM6
  have q0 : Blk (w7.alloc (.cells (trC 0 rf0) 118)) w7.heap.size 118 (trC 0 rf0) := Blk.new _ _ _
  have hb8 : Below w7.heap.size w7 ((w7.alloc (.cells (trC 0 rf0) 118)).setRow w7.heap.size (trC 0 t)) := below_setRow (below_new1 _ _) (Nat.le_refl _) _
  have HF8 : Hid (FD w ((w7.alloc (.cells (trC 0 rf0) 118)).setRow w7.heap.size (trC 0 t)) 2 (.slice (some ⟨b7, 0, none⟩) 2 c7) X7) := HF7.out.keep hb8
  have H8 : Hid (Blk ((w7.alloc (.cells (trC 0 rf0) 118)).setRow w7.heap.size (trC 0 t)) w7.heap.size 118 (trC 0 t) ∧ w.heap.size + 2 ≤ w7.heap.size) := ⟨q0.set _, by have := HF7.out.su.lt; omega⟩
  clear hb8 HF7
  go_upto_region 4 with (first
    | (refine wpList_store_row (by rfl) 118 _ _ (by rfl) (w7.heap.size) (trC 0 t) (by rfl) (by rfl) 118 (_) (by exact q0) (rsizeTr.trans (by rw [trC_size])) (by simp only [trC_size]) (trC_all _ _) ?_; simp only [Act.put, sgPHCmFresh])
    | fail)
  clear q0
  generalize ((w7.alloc (.cells (trC 0 rf0) 118)).setRow w7.heap.size (trC 0 t)) = w8 at *
  generalize w7.heap.size = a8 at *
  have HMp : Hid (∀ w : World, Calls Tryz.prog 44 #[.int .i64 (n : Int)] w fun e w' => e = .returned (.int .i64 1) ∧ w' = w) := fun w => map21_one n (by have := HN.out; omega) HN.out.2 w
  go_wp2_with fail
  refine (HMp.out _).mono ?_
  rintro e u ⟨rfl, hu⟩
  have hu := hu.symm
  subst hu
  go_upto_region 5 with fail
  have hmb := make_bools n (by have := HN.out; omega) w8
  have HB9 : Hid (BA (w8.alloc (.cells (va n fun _ => .bool false) 4)) w8.heap.size w8.heap.size n n (fun p => decide (1 ≤ p ∧ p < 1)) ∧ Below w8.heap.size w8 (w8.alloc (.cells (va n fun _ => .bool false) 4))) := ⟨BA.congr (F := fun _ => false) ⟨by have := HN.out; omega, own_made1 (f := fun _ => .bool false) (Blk.new _ _ _) (by have := HN.out; omega) _ (Nat.le_refl _)⟩ (fun i _ => (decide_eq_false (by omega)).symm), below_new1 _ _⟩
  go_upto_region 6 with fail
  clear hmb
  generalize (w8.alloc (.cells (va n fun _ => .bool false) 4)) = w9 at *
  generalize hkb : w8.heap.size = kb at *
  have HKB : Hid (w8.heap.size = kb) := hkb
  clear hkb
  go_wp2_with fail
  go_loopw [11] (fun v11 wr => Hid (∃ j : Nat, 1 ≤ j ∧ j ≤ 4 ∧ v11 = .int .i64 (j : Int) ∧ BA wr kb kb n n (fun p => decide (1 ≤ p ∧ p < j)) ∧ Below kb w8 wr)) (fun v11 _ => 4 - (intOf v11).toNat)
  case atStart => exact ⟨1, by decide, by decide, rfl, HB9.out⟩
  case round =>
    clear HB9
    obtain ⟨U0, rfl⟩ : ∃ u, u = wr := ⟨_, rfl⟩
    obtain ⟨j, hj1, hj4, rfl, hba, hb⟩ := Hid.out hrel
    have HBA : Hid (BA U0 kb kb n n (fun p => decide (1 ≤ p ∧ p < j)) ∧ Below kb w8 U0) := ⟨hba, hb⟩
    clear hrel hba hb
    by_cases hlt : j < 4
    · have i0 : (j : Int) ≤ 3 := by omega
      have i1 : (0 : Int) ≤ (j : Int) := by omega
      have i2 : (j : Int) < (n : Int) := by have := HN.out; omega
      have c0 := HBA.out.1.at (i := j) (by omega)
      have f0 := HBA.out.1.frozen j
      have HB2 : Hid (BA (U0.setCell ⟨kb, j, none⟩ (.bool true)) kb kb n n (fun p => decide (1 ≤ p ∧ p < j + 1)) ∧ Below kb w8 (U0.setCell ⟨kb, j, none⟩ (.bool true))) := ⟨(HBA.out.1.put j true).congr fun i _ => by
        by_cases e : i = j
        · rw [if_pos e]
          exact (decide_eq_true (by omega)).symm
        · rw [if_neg e, decide_eq_decide]
          omega, HBA.out.2.setCell (p := ⟨kb, j, none⟩) (Nat.le_refl _) _⟩
      clear HBA
      go_wp2_with fail
      go_roundw
      case rel => exact ⟨j + 1, by omega, by omega, by simp, HB2.out⟩
      case measure =>
        simp [intOf]
        omega
    · obtain rfl : j = 4 := by omega
      as_aux_lemma =>
        have HBU : Hid (BA U0 kb kb n n us3 ∧ Below kb w8 U0) := HBA.out
        clear HBA hlt
        go_upto_region 10 with fail
        have hbm : Below U0.heap.size U0 (U0.alloc (.map #[] 0)) := (Below.refl _ U0).alloc (Nat.le_refl _) _
        have HM9 : Hid (JM lfV (U0.alloc (.map #[] 0)) U0.heap.size [] ∧ BA (U0.alloc (.map #[] 0)) kb kb n n us3 ∧ Below kb w8 (U0.alloc (.map #[] 0)) ∧ kb ≤ U0.heap.size) := ⟨JM.new (heap_alloc_new _ _), HBU.out.1.below hbm, HBU.out.2.trans (hbm.mono (Nat.le_of_lt HBU.out.1.lt.2)), Nat.le_of_lt HBU.out.1.lt.2⟩
        clear hbm HBU
        go_upto_region 11 with fail
        generalize (U0.alloc (.map #[] 0)) = w10 at *
        generalize U0.heap.size = m2 at *
        go_wp2_with fail
        refine (rleaves11 w10 HM9.out.2.1).mono ?_
        rintro e w11 ⟨v11, rfl, ho11, hb11⟩
        rw [show lvN n = 1 by have := HN.out; show (n + 1023) / 1024 = 1; omega] at ho11
        obtain ⟨lb, lc, rfl, hlo, _, _⟩ := own_some ho11 (by decide)
        have HI11 : Hid (Img w11 w10.heap.size (.slice (some ⟨lb, 0, none⟩) 1 lc) 1 (rlA us3 n) ∧ JM lfV w11 m2 [] ∧ Below kb w8 w11 ∧ (m2 < w10.heap.size ∧ kb ≤ m2 ∧ w10.heap.size ≤ w11.heap.size)) := ⟨⟨ho11, fun x => by
          unfold rlA rlF
          split
          · exact by8_lt _
          · unfold hdB
            split
            · exact tbyte_lt _ _
            · split
              · exact dig_lt _ _
              · decide, by decide⟩, HM9.out.1.below hb11 HM9.out.1.lt, HM9.out.2.2.1.trans (hb11.mono (by have := HM9.out.2.2.2; have := HM9.out.1.lt; omega)), HM9.out.1.lt, HM9.out.2.2.2, hb11.size⟩
        have HML : Hid (kb ≤ m2 ∧ m2 < lb) := ⟨HM9.out.2.2.2, Nat.lt_of_lt_of_le HM9.out.1.lt hlo⟩
        clear ho11 hlo hb11 HM9
        go_wp2_with fail
        go_loopw [14] (fun v14 wr => Hid (Below kb w8 wr ∧ IsBlks wr (some ⟨lb, 0, none⟩) 1 (fun i => blkAt (rlA us3 n) i) ∧ ((v14 = .int .i64 0 ∧ JM lfV wr m2 []) ∨ (v14 = .int .i64 1 ∧ JM lfV wr m2 [((0 : Int), blkAt (rlA us3 n) 0)])))) (fun v14 _ => 1 - (intOf v14).toNat)
        case atStart => exact ⟨HI11.out.2.2.1, img_blks HI11.out.1, .inl ⟨rfl, HI11.out.2.1⟩⟩
        case round =>
          clear HI11
          obtain ⟨U1, rfl⟩ : ∃ u, u = wr := ⟨_, rfl⟩
          obtain ⟨hb, hib, ⟨rfl, hj⟩ | ⟨rfl, hj⟩⟩ := Hid.out hrel
          · clear hrel
            have HRG : Hid (U1.rangeAt lb 0 ((List.range 256).map (iv .u8 (blkAt (rlA us3 n) 0)))) := by
              obtain ⟨b', o', e, _, h⟩ := hib 0 (by decide)
              injection e with e
              injection e with e1 e2
              subst e1 e2
              exact h
            obtain ⟨w12, hput, hm12, ht12⟩ := jm_put1 (P := Tryz.prog) (V := lfV) Tryz.underlying95 Tryz.underlying3 hj 0 (blkAt (rlA us3 n) 0)
            unfold lfV at hput
            have HN12 : Hid (Below kb w8 w12 ∧ IsBlks w12 (some ⟨lb, 0, none⟩) 1 (fun i => blkAt (rlA us3 n) i) ∧ JM lfV w12 m2 [((0 : Int), blkAt (rlA us3 n) 0)]) := ⟨hb.trans (ht12.below (B := kb) (by have := hj.lt; have := HML.out; omega) fun b e => by rw [e]; exact HML.out.1), isblks_turn hib ht12 (fun e => by have := HML.out; omega), hm12⟩
            clear hb hib hj hm12 ht12
            go_wp2_with (first
              | (refine wpList_load_blk (by rfl) 121 _ (by rfl) (lb) (0) 256 (iv .u8 (blkAt (rlA us3 n) 0)) (by rfl) _ (by exact HRG.out) Tryz.underlying121 rfl size256 ?_; simp only [Act.put, sgPHCmFresh])
              | fail)
            clear hput
            go_roundw
            case rel => exact ⟨HN12.out.1, HN12.out.2.1, .inr ⟨by simp, HN12.out.2.2⟩⟩
            case measure => simp [intOf]
          · as_aux_lemma =>
              clear hrel
              have HU1 : Hid (FD w U1 2 (.slice (some ⟨b7, 0, none⟩) 2 c7) X7) := HF8.out.keep (by rw [HKB.out]; exact hb)
              have HA8 : Hid (Blk U1 a8 118 (trC 0 t) ∧ w.heap.size + 2 ≤ a8 ∧ a8 < kb) := ⟨H8.out.1.below (B := kb) hb (by rw [← HKB.out]; exact H8.out.1.lt), H8.out.2, by rw [← HKB.out]; exact H8.out.1.lt⟩
              have HJ1 : Hid (JM lfV U1 m2 [((0 : Int), blkAt (rlA us3 n) 0)]) := hj
              have HHt : Hid (∀ w : World, Calls Tryz.prog 46 #[.int .i64 1] w fun e w' => e = .returned (.int .i64 0) ∧ w = w') := fun w => refHeight_any 1 0 (by decide) (by decide) w
              clear hb hib hj HF8 H8
              go_wp2_with fail
              refine (HHt.out _).mono ?_
              rintro e u ⟨rfl, hu⟩
              subst hu
              go_wp2_with fail
              refine (lay0_one (B := w.heap.size) (blkAt (rlA us3 n) 0) (fun j => rlF_lt _ _ _ _ _) (fun h => absurd ((h 0 (by decide)).symm.trans (fMp_zero n)) (by decide)) (fun a h1 h2 h => by
                obtain rfl : a = 1 := by omega
                exact absurd ((fIr_zero.symm.trans ((HT7.out.2.2 0 (by decide)).symm.trans (h 0 (by decide)))).trans (fMp_zero n)) (by decide)) ⟨by decide, by decide⟩ U1 HU1.out.below.size HJ1.out HU1.out.img).mono ?_
              rintro e w16 ⟨v16, X16, m, rfl, hi16, hx16, hm1, hbk16, hmd, hb16⟩
              obtain ⟨b16, c16, rfl, _, _, _⟩ := own_some hi16.1 (by decide)
              have HF16 : Hid (FD w w16 3 (.slice (some ⟨b16, 0, none⟩) 3 c16) X16) := HU1.out.new hb16 hi16
              have HTM : Hid ((t.1 = 1 ∧ okD t.2) ∧ m.1 = 2 ∧ okD m.2) := ⟨⟨HT7.out.1, HT7.out.2.1⟩, hm1, hmd⟩
              have HA16 : Hid (Blk w16 a8 118 (trC 0 t) ∧ w.heap.size + 2 ≤ a8) := ⟨HA8.out.1.below hb16 HA8.out.1.lt, HA8.out.2.1⟩
              clear hi16 hx16 hm1 hbk16 hmd hb16 HU1 HJ1 HA8 HHt
              have q0 : Blk (w16.alloc (.cells (trC 0 rf0) 118)) w16.heap.size 118 (trC 0 rf0) := Blk.new _ _ _
              have hb17 : Below w16.heap.size w16 ((w16.alloc (.cells (trC 0 rf0) 118)).setRow w16.heap.size (trC 0 m)) := below_setRow (below_new1 _ _) (Nat.le_refl _) _
              have HF17 : Hid (FD w ((w16.alloc (.cells (trC 0 rf0) 118)).setRow w16.heap.size (trC 0 m)) 3 (.slice (some ⟨b16, 0, none⟩) 3 c16) X16) := HF16.out.keep hb17
              have HA17 : Hid (Blk ((w16.alloc (.cells (trC 0 rf0) 118)).setRow w16.heap.size (trC 0 m)) a8 118 (trC 0 t) ∧ Blk ((w16.alloc (.cells (trC 0 rf0) 118)).setRow w16.heap.size (trC 0 m)) w16.heap.size 118 (trC 0 m)) := ⟨HA16.out.1.below hb17 HA16.out.1.lt, q0.set _⟩
              clear hb17 HF16 HA16
              go_upto_region 17 with (first
                | (refine wpList_store_row (by rfl) 118 _ _ (by rfl) (w16.heap.size) (trC 0 m) (by rfl) (by rfl) 118 (_) (by exact q0) (rsizeTr.trans (by rw [trC_size])) (by simp only [trC_size]) (trC_all _ _) ?_; simp only [Act.put, sgPHCmFresh])
                | fail)
              clear q0
              generalize ((w16.alloc (.cells (trC 0 rf0) 118)).setRow w16.heap.size (trC 0 m)) = wb at *
              generalize w16.heap.size = a15 at *
              go_cut [16] (fun v16 wx => ∃ g, v16 = .pointer (some ⟨g, 0, none⟩) ∧ wb.heap.size ≤ g ∧ Blk wx g 74 (suC (suFr n t m)) ∧ Below wb.heap.size wb wx)
              case first =>
                as_aux_lemma =>
                  have hSd : Blk wb.drew a8 118 (trC 0 t) ∧ Blk wb.drew a15 118 (trC 0 m) ∧ Below wb.heap.size wb wb.drew := ⟨HA17.out.1, HA17.out.2, (Below.refl _ _).drew⟩
                  have HA8 : Hid (a8 < wb.heap.size ∧ a15 < wb.heap.size) := ⟨HA17.out.1.lt, HA17.out.2.lt⟩
                  clear HF17 HA17
                  refine wp_region_plan (fun W => Blk W a8 118 (trC 0 t) ∧ Blk W a15 118 (trC 0 m) ∧ Below wb.heap.size wb W) (.yield [0, 11] 1 (.yield [] 5 (.yield [] 7 (.yield [] 2 (.yield [] 6 (.yield [] 8 (.fork 3 13 (.yield [] 4 (.fork 9 13 (.yield [] 10 (.yield [] 12 (.force [] 13 (.force [] 14 (.fin []))))) (.force [] 9 (.yield [] 10 (.yield [] 12 (.force [] 14 (.fin []))))))) (.force [] 3 (.yield [] 4 (.force [] 9 (.yield [] 10 (.yield [] 12 (.force [] 14 (.fin [])))))))))))))) (by kernel_rfl) (by kernel_rfl) hSd (plan_yield ?_)
                  generalize wb.drew = wd at *
                  simp only [sgLHCmFresh]
                  go_wp2_with fail
                  refine ⟨rfl, _, .pointer (some ⟨a8, 1, none⟩), rfl, Or.inl ⟨by rfl, fun W hW => by go_simp⟩, plan_yield ?_⟩
                  simp only [Act.put, sgPHCmFresh]
                  simp only [sgLHCmFresh]
                  go_wp2_with fail
                  refine ⟨rfl, _, .pointer (some ⟨a15, 0, none⟩), rfl, Or.inl ⟨by rfl, fun W hW => by go_simp⟩, plan_yield ?_⟩
                  simp only [Act.put, sgPHCmFresh]
                  simp only [sgLHCmFresh]
                  go_wp2_with fail
                  refine ⟨rfl, _, .pointer (some ⟨a15, 1, none⟩), rfl, Or.inl ⟨by rfl, fun W hW => by go_simp⟩, plan_yield ?_⟩
                  simp only [Act.put, sgPHCmFresh]
                  simp only [sgLHCmFresh]
                  go_wp2_with fail
                  refine ⟨rfl, _, .agg (rfC t), rfl, yieldsIf_load_mid (by rfl) 67 _ (by rfl) a8 1 (by rfl) ((List.range 33).map (rfF t.1 t.2)) _ (fun W hW => tr_range hW.1) Tryz.underlying67 rfl (rsizeRef.trans (by simp)), plan_yield ?_⟩
                  simp only [Act.put, sgPHCmFresh]
                  simp only [sgLHCmFresh]
                  go_wp2_with fail
                  refine ⟨rfl, _, .int .i64 0, rfl, Or.inl ⟨by rfl, fun W hW => by have hc := ti_c0 hW.2.1; go_simp⟩, plan_yield ?_⟩
                  simp only [Act.put, sgPHCmFresh]
                  simp only [sgLHCmFresh]
                  go_wp2_with fail
                  refine ⟨rfl, _, .agg (rfC m), rfl, yieldsIf_load_mid (by rfl) 67 _ (by rfl) a15 1 (by rfl) ((List.range 33).map (rfF m.1 m.2)) _ (fun W hW => tr_range hW.2.1) Tryz.underlying67 rfl (rsizeRef.trans (by simp)), plan_fork ?_ ?_⟩
                  simp only [Act.put, sgPHCmFresh]
                  · simp only [sgLHCmFresh]
                    go_wp2_with fail
                    refine (rref21_any t _).mono ?_
                    rintro e wc3 ⟨rfl, hbc3⟩
                    have hSc3 : Blk wc3 a8 118 (trC 0 t) ∧ Blk wc3 a15 118 (trC 0 m) ∧ Below wb.heap.size wb wc3 := ⟨hSd.1.below hbc3 hSd.1.lt, hSd.2.1.below hbc3 hSd.2.1.lt, hSd.2.2.trans (hbc3.mono hSd.2.2.size)⟩
                    clear hbc3
                    go_wp2_with fail
                    refine ⟨rfl, hSc3, plan_yield ?_⟩
                    simp only [sgLHCmFresh]
                    go_wp2_with fail
                    refine ⟨rfl, _, .agg (tiC 0 t), rfl, Or.inl ⟨by rfl, fun W hW => run_built1 (by rfl) (by rfl) (built_ti1 t)⟩, plan_fork ?_ ?_⟩
                    simp only [Act.put, sgPHCmFresh]
                    · simp only [sgLHCmFresh]
                      go_wp2_with fail
                      refine (rref21_any m _).mono ?_
                      rintro e wc9 ⟨rfl, hbc9⟩
                      have hSc9 : Blk wc9 a8 118 (trC 0 t) ∧ Blk wc9 a15 118 (trC 0 m) ∧ Below wb.heap.size wb wc9 := ⟨hSc3.1.below hbc9 hSc3.1.lt, hSc3.2.1.below hbc9 hSc3.2.1.lt, hSc3.2.2.trans (hbc9.mono hSc3.2.2.size)⟩
                      clear hbc9
                      go_wp2_with fail
                      refine ⟨rfl, hSc9, plan_yield ?_⟩
                      simp only [sgLHCmFresh]
                      go_wp2_with fail
                      refine ⟨rfl, _, .agg (tiC 0 m), rfl, Or.inl ⟨by rfl, fun W hW => run_build_any (by rfl) (by rfl) (by rfl) (built_ti2 m)⟩, plan_yield ?_⟩
                      simp only [Act.put, sgPHCmFresh]
                      simp only [sgLHCmFresh]
                      go_wp2_with fail
                      refine ⟨rfl, _, .agg (suC (suFr n t m)), rfl, Or.inl ⟨by rfl, fun W hW => run_built6 (by rfl) (by rfl) (by rfl) (by rfl) (by rfl) (by rfl) (by rfl) (built_suFr n t m)⟩, plan_force ?_⟩
                      simp only [Act.put, sgPHCmFresh]
                      simp only [sgLHCmFresh]
                      go_wp2_with fail
                      have hbf : Below wc9.heap.size wc9 (wc9.alloc (.cells (suC su0) 74)) := below_new1 _ _
                      have hSf0 : Blk (wc9.alloc (.cells (suC su0) 74)) a8 118 (trC 0 t) ∧ Blk (wc9.alloc (.cells (suC su0) 74)) a15 118 (trC 0 m) ∧ Below wb.heap.size wb (wc9.alloc (.cells (suC su0) 74)) := ⟨hSc9.1.below hbf hSc9.1.lt, hSc9.2.1.below hbf hSc9.2.1.lt, hSc9.2.2.trans (hbf.mono hSc9.2.2.size)⟩
                      have hGf0 : Blk (wc9.alloc (.cells (suC su0) 74)) wc9.heap.size 74 (suC su0) ∧ wb.heap.size ≤ wc9.heap.size := ⟨Blk.new _ _ _, hSc9.2.2.size⟩
                      generalize (wc9.alloc (.cells (suC su0) 74)) = wf at *
                      generalize wc9.heap.size = gz at *
                      have hSf := hSf0
                      have hGf := hGf0
                      clear hbf hSf0 hGf0
                      refine ⟨rfl, hSf, plan_force ?_⟩
                      simp only [sgLHCmFresh]
                      (refine wpList_store_row (by rfl) 74 _ _ (by rfl) (gz) (suC (suFr n t m)) (by rfl) (by rfl) 74 (_) (by exact hGf.1) (sizeRSup.trans (by rw [suC_size])) (by simp only [suC_size]) (suC_all _) ?_; simp only [Act.put, sgPHCmFresh])
                      go_wp2_with fail
                      refine ⟨rfl, ⟨hSf.1.other _ (by have := hGf.2; have := HA8.out.1; omega), hSf.2.1.other _ (by have := hGf.2; have := HA8.out.2; omega), below_setRow hSf.2.2 hGf.2 _⟩, plan_fin ?_⟩
                      simp only [sgLHCmFresh]
                      go_wp2_with fail
                      refine ⟨rfl, ?_⟩
                      go_wp2_with fail
                      go_meet
                      exact ⟨gz, rfl, hGf.2, (hGf.1.set _), below_setRow hSf.2.2 hGf.2 _⟩
                    · simp only [sgLHCmFresh]
                      go_wp2_with fail
                      have hbf : Below wc3.heap.size wc3 (wc3.alloc (.cells (suC su0) 74)) := below_new1 _ _
                      have hSf0 : Blk (wc3.alloc (.cells (suC su0) 74)) a8 118 (trC 0 t) ∧ Blk (wc3.alloc (.cells (suC su0) 74)) a15 118 (trC 0 m) ∧ Below wb.heap.size wb (wc3.alloc (.cells (suC su0) 74)) := ⟨hSc3.1.below hbf hSc3.1.lt, hSc3.2.1.below hbf hSc3.2.1.lt, hSc3.2.2.trans (hbf.mono hSc3.2.2.size)⟩
                      have hGf0 : Blk (wc3.alloc (.cells (suC su0) 74)) wc3.heap.size 74 (suC su0) ∧ wb.heap.size ≤ wc3.heap.size := ⟨Blk.new _ _ _, hSc3.2.2.size⟩
                      generalize (wc3.alloc (.cells (suC su0) 74)) = wf at *
                      generalize wc3.heap.size = gz at *
                      have hSf := hSf0
                      have hGf := hGf0
                      clear hbf hSf0 hGf0
                      refine ⟨rfl, hSf, plan_force ?_⟩
                      simp only [sgLHCmFresh]
                      go_wp2_with fail
                      refine (rref21_any m _).mono ?_
                      rintro e wc9 ⟨rfl, hbc9⟩
                      have hSc9 : Blk wc9 a8 118 (trC 0 t) ∧ Blk wc9 a15 118 (trC 0 m) ∧ Below wb.heap.size wb wc9 := ⟨hSf.1.below hbc9 hSf.1.lt, hSf.2.1.below hbc9 hSf.2.1.lt, hSf.2.2.trans (hbc9.mono hSf.2.2.size)⟩
                      have hGc9 : Blk wc9 gz 74 (suC su0) ∧ wb.heap.size ≤ gz := ⟨hGf.1.below hbc9 hGf.1.lt, hGf.2⟩
                      clear hbc9
                      go_wp2_with fail
                      refine ⟨rfl, hSc9, plan_yield ?_⟩
                      simp only [sgLHCmFresh]
                      go_wp2_with fail
                      refine ⟨rfl, _, .agg (tiC 0 m), rfl, Or.inl ⟨by rfl, fun W hW => run_build_any (by rfl) (by rfl) (by rfl) (built_ti2 m)⟩, plan_yield ?_⟩
                      simp only [Act.put, sgPHCmFresh]
                      simp only [sgLHCmFresh]
                      go_wp2_with fail
                      refine ⟨rfl, _, .agg (suC (suFr n t m)), rfl, Or.inl ⟨by rfl, fun W hW => run_built6 (by rfl) (by rfl) (by rfl) (by rfl) (by rfl) (by rfl) (by rfl) (built_suFr n t m)⟩, plan_force ?_⟩
                      simp only [Act.put, sgPHCmFresh]
                      simp only [sgLHCmFresh]
                      (refine wpList_store_row (by rfl) 74 _ _ (by rfl) (gz) (suC (suFr n t m)) (by rfl) (by rfl) 74 (_) (by exact hGc9.1) (sizeRSup.trans (by rw [suC_size])) (by simp only [suC_size]) (suC_all _) ?_; simp only [Act.put, sgPHCmFresh])
                      go_wp2_with fail
                      refine ⟨rfl, ⟨hSc9.1.other _ (by have := hGc9.2; have := HA8.out.1; omega), hSc9.2.1.other _ (by have := hGc9.2; have := HA8.out.2; omega), below_setRow hSc9.2.2 hGc9.2 _⟩, plan_fin ?_⟩
                      simp only [sgLHCmFresh]
                      go_wp2_with fail
                      refine ⟨rfl, ?_⟩
                      go_wp2_with fail
                      go_meet
                      exact ⟨gz, rfl, hGc9.2, (hGc9.1.set _), below_setRow hSc9.2.2 hGc9.2 _⟩
                  · simp only [sgLHCmFresh]
                    go_wp2_with fail
                    have hbf : Below wd.heap.size wd (wd.alloc (.cells (suC su0) 74)) := below_new1 _ _
                    have hSf0 : Blk (wd.alloc (.cells (suC su0) 74)) a8 118 (trC 0 t) ∧ Blk (wd.alloc (.cells (suC su0) 74)) a15 118 (trC 0 m) ∧ Below wb.heap.size wb (wd.alloc (.cells (suC su0) 74)) := ⟨hSd.1.below hbf hSd.1.lt, hSd.2.1.below hbf hSd.2.1.lt, hSd.2.2.trans (hbf.mono hSd.2.2.size)⟩
                    have hGf0 : Blk (wd.alloc (.cells (suC su0) 74)) wd.heap.size 74 (suC su0) ∧ wb.heap.size ≤ wd.heap.size := ⟨Blk.new _ _ _, hSd.2.2.size⟩
                    generalize (wd.alloc (.cells (suC su0) 74)) = wf at *
                    generalize wd.heap.size = gz at *
                    have hSf := hSf0
                    have hGf := hGf0
                    clear hbf hSf0 hGf0
                    refine ⟨rfl, hSf, plan_force ?_⟩
                    simp only [sgLHCmFresh]
                    go_wp2_with fail
                    refine (rref21_any t _).mono ?_
                    rintro e wc3 ⟨rfl, hbc3⟩
                    have hSc3 : Blk wc3 a8 118 (trC 0 t) ∧ Blk wc3 a15 118 (trC 0 m) ∧ Below wb.heap.size wb wc3 := ⟨hSf.1.below hbc3 hSf.1.lt, hSf.2.1.below hbc3 hSf.2.1.lt, hSf.2.2.trans (hbc3.mono hSf.2.2.size)⟩
                    have hGc3 : Blk wc3 gz 74 (suC su0) ∧ wb.heap.size ≤ gz := ⟨hGf.1.below hbc3 hGf.1.lt, hGf.2⟩
                    clear hbc3
                    go_wp2_with fail
                    refine ⟨rfl, hSc3, plan_yield ?_⟩
                    simp only [sgLHCmFresh]
                    go_wp2_with fail
                    refine ⟨rfl, _, .agg (tiC 0 t), rfl, Or.inl ⟨by rfl, fun W hW => run_built1 (by rfl) (by rfl) (built_ti1 t)⟩, plan_force ?_⟩
                    simp only [Act.put, sgPHCmFresh]
                    simp only [sgLHCmFresh]
                    go_wp2_with fail
                    refine (rref21_any m _).mono ?_
                    rintro e wc9 ⟨rfl, hbc9⟩
                    have hSc9 : Blk wc9 a8 118 (trC 0 t) ∧ Blk wc9 a15 118 (trC 0 m) ∧ Below wb.heap.size wb wc9 := ⟨hSc3.1.below hbc9 hSc3.1.lt, hSc3.2.1.below hbc9 hSc3.2.1.lt, hSc3.2.2.trans (hbc9.mono hSc3.2.2.size)⟩
                    have hGc9 : Blk wc9 gz 74 (suC su0) ∧ wb.heap.size ≤ gz := ⟨hGc3.1.below hbc9 hGc3.1.lt, hGc3.2⟩
                    clear hbc9
                    go_wp2_with fail
                    refine ⟨rfl, hSc9, plan_yield ?_⟩
                    simp only [sgLHCmFresh]
                    go_wp2_with fail
                    refine ⟨rfl, _, .agg (tiC 0 m), rfl, Or.inl ⟨by rfl, fun W hW => run_build_any (by rfl) (by rfl) (by rfl) (built_ti2 m)⟩, plan_yield ?_⟩
                    simp only [Act.put, sgPHCmFresh]
                    simp only [sgLHCmFresh]
                    go_wp2_with fail
                    refine ⟨rfl, _, .agg (suC (suFr n t m)), rfl, Or.inl ⟨by rfl, fun W hW => run_built6 (by rfl) (by rfl) (by rfl) (by rfl) (by rfl) (by rfl) (by rfl) (built_suFr n t m)⟩, plan_force ?_⟩
                    simp only [Act.put, sgPHCmFresh]
                    simp only [sgLHCmFresh]
                    (refine wpList_store_row (by rfl) 74 _ _ (by rfl) (gz) (suC (suFr n t m)) (by rfl) (by rfl) 74 (_) (by exact hGc9.1) (sizeRSup.trans (by rw [suC_size])) (by simp only [suC_size]) (suC_all _) ?_; simp only [Act.put, sgPHCmFresh])
                    go_wp2_with fail
                    refine ⟨rfl, ⟨hSc9.1.other _ (by have := hGc9.2; have := HA8.out.1; omega), hSc9.2.1.other _ (by have := hGc9.2; have := HA8.out.2; omega), below_setRow hSc9.2.2 hGc9.2 _⟩, plan_fin ?_⟩
                    simp only [sgLHCmFresh]
                    go_wp2_with fail
                    refine ⟨rfl, ?_⟩
                    go_wp2_with fail
                    go_meet
                    exact ⟨gz, rfl, hGc9.2, (hGc9.1.set _), below_setRow hSc9.2.2 hGc9.2 _⟩
              case rest =>
                as_aux_lemma =>
                  obtain ⟨g16, rfl, hg16, hk16, hb16⟩ := hcut
                  obtain ⟨wd, rfl⟩ : ∃ u, u = wc := ⟨_, rfl⟩
                  have HFd : Hid (FD w wd 3 (.slice (some ⟨b16, 0, none⟩) 3 c16) X16) := HF17.out.keep hb16
                  have HG : Hid (Blk wd g16 74 (suC (suFr n t m)) ∧ w.heap.size + 1 < g16) := ⟨hk16, Nat.lt_of_lt_of_le HF17.out.su.lt hg16⟩
                  have HW : Hid (SuW (suFr n t m)) := suFr_w n HN.out.2 t m HTM.out.1.1 HTM.out.2.1 HTM.out.1.2 HTM.out.2.2
                  have HEN : Hid (∀ w : World, Calls Tryz.prog 48 #[.agg (suC (suFr n t m))] w fun e w' => e = .returned (.tuple #[.string (strN (suB (suFr n t m)) 256), .bool true]) ∧ Below w.heap.size w w') := rsencode_ok (suFr n t m) HW.out (sck_fresh n HN.out.1 HN.out.2 t m HTM.out.1.1 HTM.out.2.1)
                  have hf0 : suB (suFr n t m) 0 = 115 := rfl
                  have HBT : Hid ((∀ j, bkT 256 (suB (suFr n t m)) j < 256) ∧ bkT 256 (suB (suFr n t m)) 0 = 115) := ⟨fun j => by
                    unfold bkT fupN
                    split
                    · exact suB_lt _ HW.out j
                    · show (0 : Nat) < 256
                      decide, hf0⟩
                  clear hg16 hk16 hb16 HF17 HA17 hf0
                  go_wp2_with (first
                    | (refine wpList_load_rowg (by rfl) 74 _ (by rfl) (g16) (by rfl) 74 (suC (suFr n t m)) (0, 0) _ (by exact HG.out.1) Tryz.underlying74 (by rfl) (sizeRSup.trans (by rw [suC_size])) ?_; simp only [Act.put, sgPHCmFresh])
                    | fail)
                  refine (HEN.out wd).mono ?_
                  rintro e w18 ⟨rfl, hb18⟩
                  have HF18 : Hid (FD w w18 3 (.slice (some ⟨b16, 0, none⟩) 3 c16) X16) := HFd.out.keep hb18
                  have HG18 : Hid (Blk w18 g16 74 (suC (suFr n t m)) ∧ w.heap.size + 1 < g16) := ⟨HG.out.1.below hb18 HG.out.1.lt, HG.out.2⟩
                  clear hb18 HFd HG HEN
                  go_wp2_with fail
                  refine (block21_any 256 (suB (suFr n t m)) (Nat.le_refl _) (fun j _ => suB_lt _ HW.out j) w18).mono ?_
                  rintro e w19 ⟨rfl, hb19⟩
                  have HF19 : Hid (FD w w19 3 (.slice (some ⟨b16, 0, none⟩) 3 c16) X16) := HF18.out.keep hb19
                  have HG19 : Hid (Blk w19 g16 74 (suC (suFr n t m)) ∧ w.heap.size + 1 < g16) := ⟨HG18.out.1.below hb19 HG18.out.1.lt, HG18.out.2⟩
                  clear hb19 HF18 HG18
                  generalize bkT 256 (suB (suFr n t m)) = fS at *
                  go_wp2_with fail
                  refine (put9_any (B := w.heap.size) fS HBT.out.1 (by decide) w19 HF19.out.below.size HF19.out.img).mono ?_
                  rintro e w20 ⟨v20, n20, X20, r, rfl, hi20, hpr, hr32, hrd, hb20⟩
                  obtain ⟨hn20, hr3⟩ : n20 = 4 ∧ r.1 = 3 := by
                    rcases hpr with ⟨h, _⟩ | ⟨_, h1, _, h2⟩
                    · exact absurd (HBT.out.2.symm.trans (h 0 (by decide))) (by decide)
                    · exact ⟨h1, by rw [h2]⟩
                  subst hn20
                  obtain ⟨b20, c20, rfl, _, _, _⟩ := own_some hi20.1 (by decide)
                  have HF20 : Hid (FD w w20 4 (.slice (some ⟨b20, 0, none⟩) 4 c20) X20) := HF19.out.new hb20 hi20
                  have HG20 : Hid (Blk w20 g16 74 (suC (suFr n t m)) ∧ w.heap.size + 1 < g16) := ⟨HG19.out.1.below hb20 HG19.out.1.lt, HG19.out.2⟩
                  have HRR : Hid (r.1 = 3 ∧ okD r.2) := ⟨hr3, hrd⟩
                  clear hi20 hpr hr32 hr3 hrd hb20 HF19 HG19 HBT
                  have hzr := zero_rref
                  have q0 : Blk (w20.alloc (.cells (rfC rf0) 67)) w20.heap.size 67 (rfC rf0) := Blk.new _ _ _
                  have hb21 : Below w20.heap.size w20 ((w20.alloc (.cells (rfC rf0) 67)).setRow w20.heap.size (rfC r)) := below_setRow (below_new1 _ _) (Nat.le_refl _) _
                  have HF21 : Hid (FD w ((w20.alloc (.cells (rfC rf0) 67)).setRow w20.heap.size (rfC r)) 4 (.slice (some ⟨b20, 0, none⟩) 4 c20) X20) := HF20.out.keep hb21
                  have HG21 : Hid ((Blk ((w20.alloc (.cells (rfC rf0) 67)).setRow w20.heap.size (rfC r)) g16 74 (suC (suFr n t m)) ∧ w.heap.size + 1 < g16) ∧ Blk ((w20.alloc (.cells (rfC rf0) 67)).setRow w20.heap.size (rfC r)) w20.heap.size 67 (rfC r) ∧ w.heap.size + 1 < w20.heap.size) := ⟨⟨HG20.out.1.below hb21 HG20.out.1.lt, HG20.out.2⟩, q0.set _, HF20.out.su.lt⟩
                  clear hb21 HF20 HG20
                  go_upto_region 20 with (first
                    | (refine wpList_store_row (by rfl) 67 _ _ (by rfl) (w20.heap.size) (rfC r) (by rfl) (by rfl) 67 (_) (by exact q0) (rsizeRef.trans (by rw [rfC_size])) (by simp only [rfC_size]) (rfC_all _) ?_; simp only [Act.put, sgPHCmFresh])
                    | fail)
                  clear q0 hzr
                  generalize ((w20.alloc (.cells (rfC rf0) 67)).setRow w20.heap.size (rfC r)) = w21 at *
                  generalize w20.heap.size = a19 at *
                  obtain ⟨i0, hi0, hz0, hz1, hz2⟩ := tinfo_parts info256
                  go_wp2_with fail
                  go_loopw [5] (fun v5 wr => Hid (∃ (b N cc : Nat) (X' : Nat → Nat), v5 = .slice (some ⟨b, 0, none⟩) N cc ∧ 4 ≤ N ∧ N ≤ n ∧ FD w wr N (.slice (some ⟨b, 0, none⟩) N cc) X' ∧ Blk wr g16 74 (suC (suFr n t m)) ∧ Blk wr a19 67 (rfC r))) (fun v5 _ => n - imN v5)
                  case atStart => exact ⟨b20, 4, c20, X20, rfl, Nat.le_refl _, by have := HN.out; omega, HF21.out, HG21.out.1.1, HG21.out.2.1⟩
                  case round =>
                    have HGA : Hid (w.heap.size + 1 < g16 ∧ w.heap.size + 1 < a19) := ⟨HG21.out.1.2, HG21.out.2.2⟩
                    clear HF21 HG21
                    obtain ⟨U2, rfl⟩ : ∃ u, u = wr := ⟨_, rfl⟩
                    obtain ⟨b, N, cc, X', rfl, hN4, hNn, hfd, hg, ha⟩ := Hid.out hrel
                    have HFd : Hid (FD w U2 N (.slice (some ⟨b, 0, none⟩) N cc) X') := hfd
                    have HGd : Hid (Blk U2 g16 74 (suC (suFr n t m)) ∧ Blk U2 a19 67 (rfC r)) := ⟨hg, ha⟩
                    clear hrel hfd hg ha
                    by_cases hlt : N < n
                    · have j1 : (N : Int) < (n : Int) := by omega
                      have hbg : Below U2.heap.size U2 (U2.alloc (.cells (va 256 (iv .u8 fun _ => 0)) 121)) := below_new1 _ _
                      have g0 : Blk (U2.alloc (.cells (va 256 (iv .u8 fun _ => 0)) 121)) U2.heap.size 121 (va 256 (iv .u8 fun _ => 0)) := Blk.new _ _ _
                      have HF6 := HFd.out.keep hbg
                      have HG6 : Blk (U2.alloc (.cells (va 256 (iv .u8 fun _ => 0)) 121)) g16 74 (suC (suFr n t m)) ∧ Blk (U2.alloc (.cells (va 256 (iv .u8 fun _ => 0)) 121)) a19 67 (rfC r) := ⟨HGd.out.1.below hbg HGd.out.1.lt, HGd.out.2.below hbg HGd.out.2.lt⟩
                      have hN6 : N ≤ 100000 := by have := HN.out; omega
                      go_wp2_with (first
                        | (refine wpList_build1 (by rfl) 65 121 _ (by rfl) (va 256 (iv .u8 fun _ => 0)) (by rfl) i0 _ 256 Tryz.underlying65 hi0 hz0 hz1 (va_size _ _) (by decide) (by decide) ?_; simp only [Act.put, sgPHCmFresh])
                        | (refine wpList_append_bk (by rfl) _ _ 65 (by rfl) w.heap.size 121 i0 _ Tryz.underlying65 hi0 hz0 hz1 hz2 (va_size _ _) (.slice (some ⟨b, 0, none⟩) N cc) N X' (fun _ => 0) (by rfl) HF6.img.1 U2.heap.size 1 (by rfl) (by exact g0) hN6 HF6.below.size ?_; intro v7 w7 hown hb7 hgr hvb; simp only [Act.put, sgPHCmFresh])
                        | fail)
                      obtain ⟨b7', c7', rfl, _, _, _⟩ := own_some hown (by omega)
                      have HF7 : Hid (FD w w7 (N + 1) (.slice (some ⟨b7', 0, none⟩) (N + 1) c7') (apX X' N fun _ => 0)) := ⟨⟨hown, fun x => by
                        show (if _ then _ else _) < 256
                        split
                        · exact HF6.img.2.1 x
                        · exact Nat.zero_lt_succ _, by omega⟩, (hgr.block _ HF6.sl.lt (HF6.img.apart HF6.sl (by decide))).trans HF6.sl, (hgr.block _ HF6.su.lt (HF6.img.apart HF6.su (by decide))).trans HF6.su, HF6.below.trans hb7⟩
                      have HG7 : Hid (Blk w7 g16 74 (suC (suFr n t m)) ∧ Blk w7 a19 67 (rfC r)) := ⟨(hgr.block _ HG6.1.lt (HF6.img.apart HG6.1 (by decide))).trans HG6.1, (hgr.block _ HG6.2.lt (HF6.img.apart HG6.2 (by decide))).trans HG6.2⟩
                      clear HF6 HG6 hown hb7 hgr hvb hbg g0
                      go_roundw
                      case rel => exact ⟨b7', N + 1, c7', _, rfl, by omega, by omega, HF7.out, HG7.out⟩
                      case measure =>
                        simp only [imN]
                        omega
                    · obtain rfl : N = n := by omega
                      as_aux_lemma =>
                        have HF9 : Hid (FD w U2.drew N (.slice (some ⟨b, 0, none⟩) N cc) X') := HFd.out.keep (Below.refl _ _).drew
                        have hS : Blk U2.drew g16 74 (suC (suFr N t m)) ∧ Blk U2.drew a19 67 (rfC r) := ⟨HGd.out.1, HGd.out.2⟩
                        clear HFd HGd hlt
                        go_upto_region 22 with fail
                        refine wp_region_partsS (fun W => Blk W g16 74 (suC (suFr N t m)) ∧ Blk W a19 67 (rfC r)) [([0, 4], 1, true), ([], 2, true), ([], 3, true), ([], 5, false), ([], 6, false)] [] [] (by kernel_rfl) (by kernel_rfl) hS ?_
                        refine partsI_yield ?_
                        simp only [sgLHCmFresh]
                        go_wp2_with fail
                        refine ⟨rfl, _, .agg (rfC r), rfl, yieldsIf_row (by rfl) 67 _ (by rfl) a19 (by rfl) 67 (rfC r) (fun W hW => hW.2) Tryz.underlying67 rfl (rsizeRef.trans (by rw [rfC_size])), ?_⟩
                        simp only [Act.put, sgPHCmFresh]
                        refine partsI_yield0 (v := .agg (slC (1, r))) (by simp only [List.getElem?_toArray, List.getElem?_cons_zero, List.getElem?_cons_succ]; rfl) ?_ ?_
                        · exact Or.inl ⟨by rfl, fun W hW => run_build_any (by rfl) (by rfl) (by rfl) (built_slot21 r)⟩
                        simp only [Act.put, sgPHCmFresh]
                        refine partsI_yield0 (v := .agg (suC (suFr N t m))) (by simp only [List.getElem?_toArray, List.getElem?_cons_zero, List.getElem?_cons_succ]; rfl) ?_ ?_
                        · exact yieldsIf_row (by rfl) 74 _ (by rfl) g16 (by rfl) 74 (suC (suFr N t m)) (fun W hW => hW.1) Tryz.underlying74 rfl (sizeRSup.trans (by rw [suC_size]))
                        simp only [Act.put, sgPHCmFresh]
                        refine partsI_force ?_
                        simp only [sgLHCmFresh]
                        (refine wpList_store_row (by rfl) 69 _ _ (by rfl) (w.heap.size) (slC (1, r)) (by rfl) (by rfl) 69 (_) (by exact HF9.out.sl) (sizeSlot21.trans (by rw [slC_size])) (by simp only [slC_size]) (slC_all _) ?_; simp only [Act.put, sgPHCmFresh])
                        go_wp2_with fail
                        refine ⟨rfl, ⟨hS.1.other _ (by have := HGA.out.1; omega), hS.2.other _ (by have := HGA.out.2; omega)⟩, ?_⟩
                        refine partsI_force ?_
                        simp only [sgLHCmFresh]
                        (refine wpList_store_row (by rfl) 74 _ _ (by rfl) (w.heap.size + 1) (suC (suFr N t m)) (by rfl) (by rfl) 74 (_) (by exact (HF9.out.su.other _ (by omega))) (sizeRSup.trans (by rw [suC_size])) (by simp only [suC_size]) (suC_all _) ?_; simp only [Act.put, sgPHCmFresh])
                        go_wp2_with fail
                        refine ⟨rfl, ⟨(hS.1.other _ (by have := HGA.out.1; omega)).other _ (by have := HGA.out.1; omega), (hS.2.other _ (by have := HGA.out.2; omega)).other _ (by have := HGA.out.2; omega)⟩, ?_⟩
                        refine partsI_last ?_
                        simp only [sgLHCmFresh]
                        refine ⟨rfl, ?_⟩
                        go_wp2_with fail
                        try simp only [Exit.inBlock, Exit.then]
                        have k1 : Blk (U2.drew.setRow w.heap.size (slC (1, r))) (w.heap.size + 1) 74 (suC su0) := HF9.out.su.other _ (by omega)
                        refine bodyPost_ret (results_two Tryz.results19 _ _ (w.heap.size) (w.heap.size + 1) 69 74 (slC (1, r)) (suC (suFr N t m)) _ _ rfl ((HF9.out.sl.set _).other _ (by omega)) rfl (k1.set _) Tryz.underlying69 rfl (sizeSlot21.trans (by rw [slC_size])) Tryz.underlying74 rfl (sizeRSup.trans (by rw [suC_size]))) rfl ?_
                        exact ⟨b, cc, X', t, m, r, rfl, img_setOne (img_setOne HF9.out.img HF9.out.sl (by decide)) k1 (by decide), ⟨HTM.out.1.1, HTM.out.2.1, HRR.out.1⟩, ⟨HTM.out.1.2, HTM.out.2.2, HRR.out.2⟩, below_setRow (below_setRow HF9.out.below (Nat.le_refl _) _) (Nat.le_succ _) _⟩
end Go.Proofs.YtppagdmlfgialaaGreatDoor
