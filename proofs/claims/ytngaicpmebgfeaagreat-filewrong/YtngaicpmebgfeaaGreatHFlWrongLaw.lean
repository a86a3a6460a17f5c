/- The statement FileWrong: its walk. -/
import Derived.Test.YtngaicpmebgfeaaGreatHFlOne
import Derived.Handy
import Derived.Test.YtngaicpmebgfeaaGreatHInsPut
import Derived.Test.YtngaicpmebgfeaaGreatHInsMem
import Derived.Test.YtngaicpmebgfeaaGreatHInsCalls
import Derived.Test.YtngaicpmebgfeaaGreatHCaKit
import Derived.Test.YtngaicpmebgfeaaGreatHCaGet2
import Derived.Test.YtngaicpmebgfeaaGreatHIoKit
import Derived.Deep.DeepCutAuto

namespace Go.Proofs.YtngaicpmebgfeaaGreat
open Go Go.RowKit
set_option linter.unusedSimpArgs false
set_option linter.unusedVariables false
/-- one tells an error -/
def OneErr (w : World) (xp : Value) (n er : Int) : Prop := ∀ V, Below w.heap.size w V → Calls Tryz.prog 18 #[xp, .int .i64 n] V fun e w' => e = .returned (.tuple #[.agg if0, .int .i64 er]) ∧ Below V.heap.size V w'
/-- two tells an error -/
def TwoErr (w : World) (xp : Value) (a b er : Int) : Prop := ∀ V, Below w.heap.size w V → Calls Tryz.prog 22 #[xp, .int .i64 a, .int .i64 b] V fun e w' => e = .returned (.tuple #[.agg if0, .agg if0, .int .i64 er]) ∧ Below V.heap.size V w'
theorem one_err {w : World} {xp : Value} {n er : Int} (h : TwoErr w xp n n er) : OneErr w xp n er := fun V hV => one_gen 0 0 0 0 0 0 0 0 0 0 er fun U hU => h U (hV.trans (hU.mono hV.size))
theorem two_ea {w : World} {xp : Value} {a b er : Int} (her : er ≠ 0) (HA : ∀ V, Below w.heap.size w V → Calls Tryz.prog 44 #[xp, .int .i64 a] V fun e w' => e = .returned (.tuple #[.agg if0, .int .i64 er]) ∧ Below V.heap.size V w') : TwoErr w xp a b er := fun V hV => two_err1 er her fun U hU => HA U (hV.trans (hU.mono hV.size))
theorem two_eb {w : World} {xp : Value} {a b er n1 k1 l1 s1 : Int} {t1 : Nat} (her : er ≠ 0) (HA : ∀ V, Below w.heap.size w V → Calls Tryz.prog 44 #[xp, .int .i64 a] V fun e w' => e = .returned (.tuple #[.agg (ifC n1 k1 l1 s1 t1), .int .i64 0]) ∧ Below V.heap.size V w') (HB : ∀ V, Below w.heap.size w V → Calls Tryz.prog 44 #[xp, .int .i64 b] V fun e w' => e = .returned (.tuple #[.agg if0, .int .i64 er]) ∧ Below V.heap.size V w') : TwoErr w xp a b er := fun V hV => two_err2 n1 k1 l1 s1 t1 er her (fun U hU => HA U (hV.trans (hU.mono hV.size))) fun U hU => HB U (hV.trans (hU.mono hV.size))
theorem two_ed {w : World} {xp : Value} {a b n1 k1 l1 s1 n2 k2 l2 s2 : Int} {t1 t2 : Nat} (hk : k1 = 2 ∨ k2 = 2) (HA : ∀ V, Below w.heap.size w V → Calls Tryz.prog 44 #[xp, .int .i64 a] V fun e w' => e = .returned (.tuple #[.agg (ifC n1 k1 l1 s1 t1), .int .i64 0]) ∧ Below V.heap.size V w') (HB : ∀ V, Below w.heap.size w V → Calls Tryz.prog 44 #[xp, .int .i64 b] V fun e w' => e = .returned (.tuple #[.agg (ifC n2 k2 l2 s2 t2), .int .i64 0]) ∧ Below V.heap.size V w') : TwoErr w xp a b 161 := fun V hV => two_dir n1 k1 l1 s1 n2 k2 l2 s2 t1 t2 hk (fun U hU => HA U (hV.trans (hU.mono hV.size))) fun U hU => HB U (hV.trans (hU.mono hV.size))
section
variable {w : World} {xp : Value} {n er : Int}
end
end Go.Proofs.YtngaicpmebgfeaaGreat

namespace Go.Proofs.YtngaicpmebgfeaaGreat
open Go Go.RowKit
set_option linter.unusedSimpArgs false
set_option linter.unusedVariables false
theorem fi_all (n sz st : Nat) : (fiC n sz st).all (·.oneCell') = true := by simp [fiC, Value.oneCell']
theorem fi_cs {w : World} {b t n sz st : Nat} (H : Blk w b t (fiC n sz st)) : w.cell? ⟨b, 0, none⟩ = some (.int .i64 (n : Int)) ∧ w.cell? ⟨b, 1, none⟩ = some (.int .i64 1) ∧ w.cell? ⟨b, 2, none⟩ = some (.int .i64 1) ∧ w.cell? ⟨b, 3, none⟩ = some (.int .i64 (sz : Int)) ∧ w.cell? ⟨b, 4, none⟩ = some (.int .u64 ((st : Nat) : Int)) := ⟨(H.cell 0).trans rfl, (H.cell 1).trans rfl, (H.cell 2).trans rfl, (H.cell 3).trans rfl, (H.cell 4).trans rfl⟩
section
variable {w : World} {x mf ml mc : Nat} {cp : Option Addr} {top : Int} {H : Nat → Hd} {D : Nat → Nat → Nat → Nat} {n sz st n' sz' st' : Nat} {F F' : Nat → Nat}
theorem IM.twoF (h : IM w x mf ml mc cp top H D) (hf : Fi H D n sz st F) (hg : Fi H D n' sz' st' F') : Calls Tryz.prog 22 #[.pointer (some ⟨x, 0, none⟩), .int .i64 (n : Int), .int .i64 (n' : Int)] w fun e w' => e = .returned (.tuple #[.agg (fiC n sz st), .agg (fiC n' sz' st'), .int .i64 0]) ∧ Below w.heap.size w w' :=
  two_ok (n : Int) 1 1 (sz : Int) (n' : Int) 1 1 (sz' : Int) st st' (by decide) (by decide) (fun V hV => (h.below hV).getF hf) (fun V hV => (h.below hV).getF hg)
theorem IM.oneF (h : IM w x mf ml mc cp top H D) (hf : Fi H D n sz st F) : Calls Tryz.prog 18 #[.pointer (some ⟨x, 0, none⟩), .int .i64 (n : Int)] w fun e w' => e = .returned (.tuple #[.agg (fiC n sz st), .int .i64 0]) ∧ Below w.heap.size w w' :=
  one_gen (n : Int) 1 1 (sz : Int) (n : Int) 1 1 (sz : Int) st st 0 fun V hV => (h.below hV).twoF hf hf
set_option maxRecDepth 100000 in
set_option maxHeartbeats 4000000 in
theorem IM.readF (h : IM w x mf ml mc cp top H D) (hf : Fi H D n sz st F) (hF : ∀ p, p < sz → F p < 256) (a m : Nat) (ha : a ≤ 9223372036854775807) (hm : m ≤ 9223372036854775807) : Calls Tryz.prog 17 #[.pointer (some ⟨x, 0, none⟩), .int .i64 (n : Int), .int .i64 (a : Int), .int .i64 (m : Int)] w fun e w' => e = .returned (.tuple #[.string (strN (fun j => F (a + j)) (thN sz a m)), .int .i64 0]) ∧ Below w.heap.size w w' := by
  have H1 := h.oneF hf
  have hzi : ∀ w, (zeroValue 61).run Tryz.prog w = .ok (.agg if0) w := zero_info
  have HTX : Hid (∀ V, Below w.heap.size w V → Calls Tryz.prog 20 #[.pointer (some ⟨x, 0, none⟩), .agg (fiC n sz st), .int .i64 (a : Int), .int .i64 (thN sz a m : Int)] V fun e w' => e = .returned (.tuple #[.string (strN (fun j => F (a + j)) (thN sz a m)), .int .i64 0]) ∧ Below V.heap.size V w') := fun V hV => text_any (L := D n) hf.le hF (fun q i hi hp => hf.leaf q i hi hp) (fun U hU q hq => ((h.below hV).below hU).leafF hf q hq) a (thN sz a m) ha (by unfold thN; omega)
  have HTH : Hid (∀ V : World, Calls Tryz.prog 19 #[.agg (fiC n sz st), .int .i64 (a : Int), .int .i64 (m : Int)] V fun e w' => e = .returned (.int .i64 (thN sz a m : Int)) ∧ Below V.heap.size V w') := there_any n sz st a m hf.le ha hm
  have a0 : ¬ ((a : Int) < 0) := by omega
  have m0 : ¬ ((m : Int) < 0) := by omega
  clear h hf hF
  go_enter Tryz.func17, Tryz.ntmps17
  go_wp2_with fail
  refine H1.mono ?_
  rintro e w2 ⟨rfl, hb2⟩
  have u1 : Blk (w2.alloc (.cells if0 61)) w2.heap.size 61 if0 := Blk.new _ _ _
  have u2 := u1.set (fiC n sz st)
  have c3 : ((w2.alloc (.cells if0 61)).setRow w2.heap.size (fiC n sz st)).cell? ⟨w2.heap.size, 3, none⟩ = some (.int .i64 (sz : Int)) := (u2.cell 3).trans rfl
  have HE : Hid (Below w.heap.size w ((w2.alloc (.cells if0 61)).setRow w2.heap.size (fiC n sz st))) := below_setRow (hb2.alloc hb2.size _) hb2.size _
  clear hb2 H1
  have hS0 : Blk ((w2.alloc (.cells if0 61)).setRow w2.heap.size (fiC n sz st)).drew w2.heap.size 61 (fiC n sz st) := u2.drew
  go_wp2_with (first
    | (refine wpList_store_row (by rfl) 61 _ _ (by rfl) (w2.heap.size) (fiC n sz st) (by rfl) (by rfl) 61 if0 (by exact u1) (sizeInfo.trans (by rfl)) (by rfl) (fi_all _ _ _) ?_; simp only [Act.put, List.setIfInBounds_toArray, List.set_cons_zero, List.set_cons_succ])
    | fail)
  refine wp_region_plan (fun W => Blk W w2.heap.size 61 (fiC n sz st)) (.yield [0, 2, 4, 5] 1 (.force [] 3 (.force [] 6 (.force [] 7 (.fin [8, 9, 10, 11]))))) (by kernel_rfl) (by kernel_rfl) hS0 (plan_yield ?_)
  simp only [List.cons_append, List.nil_append, List.append_nil, List.filterMap_cons, List.filterMap_nil, List.getElem?_toArray, List.getElem?_cons_zero, List.getElem?_cons_succ]
  go_wp2_with fail
  refine ⟨rfl, _, .agg (fiC n sz st), rfl, Or.inl ⟨by rfl, fun W hW => by obtain ⟨d0, d1, d2, d3, d4⟩ := fi_cs hW; go_simp; rfl⟩, plan_force ?_⟩
  simp only [Act.put, List.setIfInBounds_toArray, List.set_cons_zero, List.set_cons_succ]
  simp only [List.cons_append, List.nil_append, List.append_nil, List.filterMap_cons, List.filterMap_nil, List.getElem?_toArray, List.getElem?_cons_zero, List.getElem?_cons_succ]
  (refine wpList_load_row (by rfl) 61 _ (by rfl) (w2.heap.size) (by rfl) 61 (fiC n sz st) (0, 0) _ (by exact hS0) Tryz.underlying61 (by rfl) (sizeInfo.trans (by rfl)) ?_; simp only [Act.put, List.setIfInBounds_toArray, List.set_cons_zero, List.set_cons_succ])
  go_wp2_with fail
  refine ⟨rfl, hS0, plan_force ?_⟩
  have hE := HE.out.drew
  clear HE u1 u2 c3
  generalize ((w2.alloc (.cells if0 61)).setRow w2.heap.size (fiC n sz st)).drew = w3 at *
  simp only [List.cons_append, List.nil_append, List.append_nil, List.filterMap_cons, List.filterMap_nil, List.getElem?_toArray, List.getElem?_cons_zero, List.getElem?_cons_succ]
  go_wp2_with fail
  refine (HTH.out w3).mono ?_
  rintro e w4 ⟨rfl, hb4⟩
  have hS4 : Blk w4 w2.heap.size 61 (fiC n sz st) := hS0.below hb4 hS0.lt
  have hE4 : Below w.heap.size w w4 := hE.trans (hb4.mono hE.size)
  have HT4 := HTX.out w4 hE4
  go_wp2_with fail
  refine ⟨rfl, hS4, plan_force ?_⟩
  simp only [List.cons_append, List.nil_append, List.append_nil, List.filterMap_cons, List.filterMap_nil, List.getElem?_toArray, List.getElem?_cons_zero, List.getElem?_cons_succ]
  go_wp2_with fail
  refine HT4.mono ?_
  rintro e w5 ⟨rfl, hb5⟩
  have hS5 : Blk w5 w2.heap.size 61 (fiC n sz st) := hS4.below hb5 hS4.lt
  have hE5 : Below w.heap.size w w5 := hE4.trans (hb5.mono hE4.size)
  go_wp2_with fail
  refine ⟨rfl, hS5, plan_fin ?_⟩
  simp only [List.cons_append, List.nil_append, List.append_nil, List.filterMap_cons, List.filterMap_nil, List.getElem?_toArray, List.getElem?_cons_zero, List.getElem?_cons_succ]
  go_wp2_with fail
  refine ⟨rfl, ?_⟩
  go_wp2_with fail
  go_ret2
  exact ⟨rfl, hE5⟩
end
end Go.Proofs.YtngaicpmebgfeaaGreat

namespace Go.Proofs.YtngaicpmebgfeaaGreat
open Go Go.RowKit
set_option linter.unusedSimpArgs false
set_option linter.unusedVariables false
section
variable {w : World} {x mf ml mc : Nat} {cp : Option Addr} {top : Int} {H : Nat → Hd} {D : Nat → Nat → Nat → Nat} {n sz st : Nat} {F : Nat → Nat}
theorem fl_full {t : ByteArray} (h : 0 < t.size) : t.toList.isEmpty = false := by
  rw [ByteArray.toList_eq]
  cases ht : t.data.toList with
  | nil =>
    have : t.data.toList.length = t.size := Array.length_toList
    rw [ht] at this
    simp at this
    omega
  | cons a l => rfl
set_option maxRecDepth 100000 in
set_option maxHeartbeats 4000000 in
theorem IM.write (h : IM w x mf ml mc cp top H D) (hf : Fi H D n sz st F) (s : ByteArray) (a s' : Nat) (hs : 0 < s.size) (ha : a + s.size ≤ 1048576) : Calls Tryz.prog 24 #[.pointer (some ⟨x, 0, none⟩), .agg (fiC n sz st), .int .i64 (a : Int), .string s, .int .u64 ((s' : Nat) : Int)] w fun e w' => e = .returned (.int .i64 0) ∧ Now w' x mf ml mc cp top H D n (max sz (a + s.size)) s' (wrF F sz s a) ∧ Turns (fun z => z = ml ∨ z = mf) w w' := by
  have HB := tooBig_any (a : Int) s.size (by omega) (by omega) (w.alloc (.cells (fiC n sz st) 61))
  rw [decide_eq_false (by omega)] at HB
  have hb1 : Below w.heap.size w (w.alloc (.cells (fiC n sz st) 61)) := below_new1 _ _
  have u2 : Blk (w.alloc (.cells (fiC n sz st) 61)) w.heap.size 61 (fiC n sz st) := Blk.new _ _ _
  have c3 := fi_c3 u2
  have HL := (h.below hb1).lay hf s a (max sz (a + s.size)) s' hs (by omega) (by have := hf.le; omega) (by omega)
  obtain ⟨S, hS⟩ : ∃ S : Nat, s.size = S := ⟨_, rfl⟩
  obtain ⟨en, hen⟩ : ∃ en : Nat, a + S = en := ⟨_, rfl⟩
  obtain ⟨z, hz⟩ : ∃ z : Nat, max sz en = z := ⟨_, rfl⟩
  rw [hS, hen, hz] at HL
  rw [hS, hen, hz]
  rw [hS] at HB
  have hne : s.toList.isEmpty = false := fl_full hs
  have e1 : (a : Int) + (S : Int) = (en : Int) := by omega
  have e2 : max (sz : Int) (en : Int) = (z : Int) := by omega
  have b1 : en ≤ 1048576 := by omega
  clear h hf hs ha hen hz
  go_enter Tryz.func24, Tryz.ntmps24
  go_wp2_with fail
  refine HB.mono ?_
  rintro e w1 ⟨rfl, hw⟩
  rw [hw]
  clear hw w1 HB
  go_wp2_with (first
    | (refine wpList_load_row (by rfl) 61 _ (by rfl) (w.heap.size) (by rfl) 61 (fiC n sz st) (0, 0) _ (by exact u2) Tryz.underlying61 (by rfl) (sizeInfo.trans (by rfl)) ?_; simp only [Act.put, List.setIfInBounds_toArray, List.set_cons_zero, List.set_cons_succ])
    | fail)
  refine HL.mono ?_
  rintro e w2 ⟨rfl, hN, hT⟩
  have HE : Hid (Now w2 x mf ml mc cp top H D n z s' (wrF F sz s a) ∧ Turns (fun z => z = ml ∨ z = mf) w w2) := ⟨hN, (Turns.bel hb1).tr hT⟩
  clear HL hN hT
  go_wp2_with fail
  go_ret
  exact ⟨rfl, HE.out⟩
set_option maxRecDepth 100000 in
set_option maxHeartbeats 4000000 in
theorem IM.writeOk (h : IM w x mf ml mc cp top H D) (hf : Fi H D n sz st F) (a s' : Nat) (s : ByteArray) (hs : 0 < s.size) (ha : a + s.size ≤ 1048576) : Calls Tryz.prog 16 #[.pointer (some ⟨x, 0, none⟩), .int .i64 (n : Int), .int .i64 (a : Int), .string s, .int .u64 ((s' : Nat) : Int)] w fun e w' => e = .returned (.tuple #[.int .i64 ((a + s.size : Nat) : Int), .int .i64 0]) ∧ Now w' x mf ml mc cp top H D n (max sz (a + s.size)) s' (wrF F sz s a) ∧ Turns (fun z => z = ml ∨ z = mf) w w' := by
  have H1 := h.oneF hf
  have hzi : ∀ w, (zeroValue 61).run Tryz.prog w = .ok (.agg if0) w := zero_info
  have HW : Hid (∀ V, Below w.heap.size w V → Calls Tryz.prog 24 #[.pointer (some ⟨x, 0, none⟩), .agg (fiC n sz st), .int .i64 (a : Int), .string s, .int .u64 ((s' : Nat) : Int)] V fun e w' => e = .returned (.int .i64 0) ∧ Now w' x mf ml mc cp top H D n (max sz (a + s.size)) s' (wrF F sz s a) ∧ Turns (fun z => z = ml ∨ z = mf) V w') := fun V hV => (h.below hV).write hf s a s' hs ha
  have a0 : ¬ ((a : Int) < 0) := by omega
  obtain ⟨S, hS⟩ : ∃ S : Nat, s.size = S := ⟨_, rfl⟩
  obtain ⟨en, hen⟩ : ∃ en : Nat, a + S = en := ⟨_, rfl⟩
  rw [hS, hen] at HW
  rw [hS, hen]
  have e1 : (a : Int) + (S : Int) = (en : Int) := by omega
  have b1 : en ≤ 1048576 := by omega
  clear hf hs ha hen
  go_enter Tryz.func16, Tryz.ntmps16
  go_wp2_with fail
  refine H1.mono ?_
  rintro e w2 ⟨rfl, hb2⟩
  have u1 : Blk (w2.alloc (.cells if0 61)) w2.heap.size 61 if0 := Blk.new _ _ _
  have u2 := u1.set (fiC n sz st)
  have c3 : ((w2.alloc (.cells if0 61)).setRow w2.heap.size (fiC n sz st)).cell? ⟨w2.heap.size, 3, none⟩ = some (.int .i64 (sz : Int)) := (u2.cell 3).trans rfl
  have HE : Hid (Below w.heap.size w ((w2.alloc (.cells if0 61)).setRow w2.heap.size (fiC n sz st))) := below_setRow (hb2.alloc hb2.size _) hb2.size _
  have HS2 : Hid (w.heap.size ≤ w2.heap.size) := hb2.size
  clear hb2 H1
  have H3 := HW.out _ HE.out
  go_wp2_with (first
    | (refine wpList_store_row (by rfl) 61 _ _ (by rfl) (w2.heap.size) (fiC n sz st) (by rfl) (by rfl) 61 if0 (by exact u1) (sizeInfo.trans (by rfl)) (by rfl) (fi_all _ _ _) ?_; simp only [Act.put, List.setIfInBounds_toArray, List.set_cons_zero, List.set_cons_succ])
    | (refine wpList_load_row (by rfl) 61 _ (by rfl) (w2.heap.size) (by rfl) 61 (fiC n sz st) (0, 0) _ (by exact u2) Tryz.underlying61 (by rfl) (sizeInfo.trans (by rfl)) ?_; simp only [Act.put, List.setIfInBounds_toArray, List.set_cons_zero, List.set_cons_succ])
    | fail)
  refine H3.mono ?_
  rintro e w4 ⟨rfl, hN, hT⟩
  have hlx := h.lts
  have c4 : w4.cell? ⟨w2.heap.size, 3, none⟩ = some (.int .i64 (sz : Int)) := fi_c3 ((hT.block _ u2.lt (by have := HS2.out; omega)).trans u2)
  have HE5 : Hid (_ ∧ _) := ⟨hN, (Turns.bel HE.out).tr hT⟩
  clear H3 c3 u1 u2 HE hN hT
  go_wp2_with fail
  go_ret2
  exact ⟨rfl, HE5.out⟩
end
end Go.Proofs.YtngaicpmebgfeaaGreat

namespace Go.Proofs.YtngaicpmebgfeaaGreat
open Go Go.RowKit
set_option linter.unusedSimpArgs false
set_option linter.unusedVariables false
theorem open_im (cp : Option Addr) (w : World) : Calls Tryz.prog 14 #[.pointer cp, .agg (trC 0 rf0), .int .i64 0] w fun e w' => ∃ x mf ml mc, e = .returned (.tuple #[.pointer (some ⟨x, 0, none⟩), .int .i64 0]) ∧ (w.heap.size ≤ x ∧ w.heap.size ≤ mf ∧ w.heap.size ≤ ml ∧ w.heap.size ≤ mc) ∧ IM w' x mf ml mc cp 0 (fun _ => hd00) (fun _ _ _ => 0) ∧ Below w.heap.size w w' := by
  refine (open_full (by decide) okD_zero (by decide) may00 w).mono ?_
  rintro e w' ⟨x, mf, ml, mc, h1, h2, h3, h4, h5, h6⟩
  refine ⟨x, mf, ml, mc, h1, ⟨h2.1, h2.2.1, h2.2.2.1, h2.2.2.2.1⟩, ⟨h3, ⟨fun _ => none, MapFn.new h5.2.2.2.1, fun i _ p _ => rfl⟩, ⟨fun _ => none, MapFn.new h5.2.2.2.2.1, fun n p j _ => rfl⟩, ⟨0, h5.2.2.2.2.2⟩, ?_⟩, h6⟩
  omega
end Go.Proofs.YtngaicpmebgfeaaGreat

namespace Go.Proofs.YtngaicpmebgfeaaGreat
open Go Go.RowKit
set_option linter.unusedSimpArgs false
set_option linter.unusedVariables false
/-- a directory and a file, as they are made -/
def bgH : Nat → Hd := hU (hU (fun _ => hd00) 1 (hdN hd00 1 2 1 0 1)) 2 (hdN hd00 2 1 1 0 1)
def bgD : Nat → Nat → Nat → Nat := fun _ _ _ => 0
theorem bg_file : Fi bgH bgD 2 0 1 (fun _ => 0) := ⟨by decide, by decide, rfl, rfl, rfl, rfl, rfl, rfl, by decide, fun q i hi => by rw [if_neg (by omega)]; rfl⟩
theorem bg_none (n : Nat) (h1 : n ≠ 1) (h2 : n ≠ 2) : bgH n = hd00 := by
  unfold bgH hU
  rw [if_neg h2, if_neg h1]
/-- inodes that were begun -/
def Beg (w w' : World) (x mf ml mc : Nat) (cp : Option Addr) : Prop := (w.heap.size ≤ x ∧ w.heap.size ≤ mf ∧ w.heap.size ≤ ml ∧ w.heap.size ≤ mc) ∧ IM w' x mf ml mc cp 2 bgH bgD ∧ Below w.heap.size w w'
set_option maxRecDepth 100000 in
set_option maxHeartbeats 4000000 in
theorem begun_any (w : World) : Calls Tryz.prog 4 #[] w fun e w' => ∃ x mf ml mc cp, e = .returned (.tuple #[.pointer (some ⟨x, 0, none⟩), .int .i64 2, .bool true]) ∧ Beg w w' x mf ml mc cp := by
  have hbt := built_tr0
  have HN : Hid (∀ w : World, Calls Tryz.prog 11 #[.int .i64 64] w fun e w' => ∃ g, e = .returned (.tuple #[.pointer (some ⟨g, 0, none⟩), .int .i64 0]) ∧ Below w.heap.size w w') := fun w => (diskNew_any 64 (by decide) (by decide) w).mono fun e w' ⟨g, q, h1, _, _, h2⟩ => ⟨g, h1, h2⟩
  have HG : Hid (∀ w : World, Calls Tryz.prog 13 #[] w fun e w' => ∃ g, e = .returned (.pointer (some ⟨g, 0, none⟩)) ∧ Below w.heap.size w w') := fun w => (newLog_any w).mono fun e w' ⟨g, r, h1, _, _, _, h2⟩ => ⟨g, h1, h2⟩
  have HC : Hid (∀ (g l : Nat) (w : World), Calls Tryz.prog 12 #[.pointer (some ⟨g, 0, none⟩), .pointer (some ⟨l, 0, none⟩), .int .i64 16] w fun e w' => ∃ c, e = .returned (.tuple #[.pointer (some ⟨c, 0, none⟩), .int .i64 0]) ∧ Below w.heap.size w w') := fun g l w => (caNew_ok g (some ⟨l, 0, none⟩) 16 (by decide) (by decide) w).mono fun e w' ⟨c, m, h1, _, _, _, h2⟩ => ⟨c, h1, h2⟩
  have HO : Hid (∀ (c : Nat) (w : World), Calls Tryz.prog 14 #[.pointer (some ⟨c, 0, none⟩), .agg (trC 0 rf0), .int .i64 0] w fun e w' => ∃ x mf ml mc, e = .returned (.tuple #[.pointer (some ⟨x, 0, none⟩), .int .i64 0]) ∧ (w.heap.size ≤ x ∧ w.heap.size ≤ mf ∧ w.heap.size ≤ ml ∧ w.heap.size ≤ mc) ∧ IM w' x mf ml mc (some ⟨c, 0, none⟩) 0 (fun _ => hd00) (fun _ _ _ => 0) ∧ Below w.heap.size w w') := fun c w => open_im (some ⟨c, 0, none⟩) w
  go_enter Tryz.func4, Tryz.ntmps4
  go_wp2_with fail
  refine (HN.out _).mono ?_
  rintro e w2 ⟨d, rfl, hb2⟩
  go_wp2_with fail
  refine (HG.out _).mono ?_
  rintro e w3 ⟨l, rfl, hb3⟩
  have hb13 := hb2.trans (hb3.mono hb2.size)
  clear hb2 hb3 HN HG
  go_wp2_with fail
  refine (HC.out _ _ _).mono ?_
  rintro e w4 ⟨c, rfl, hb4⟩
  have hb14 := hb13.trans (hb4.mono hb13.size)
  clear hb13 hb4 HC
  go_wp2_with (first
    | (refine wpList_buildTo (by rfl) 55 #[] (by rfl) _ rfl (trC 0 rf0) (by exact hbt) ?_; simp only [Act.put, List.setIfInBounds_toArray, List.set_cons_zero, List.set_cons_succ])
    | fail)
  refine (HO.out _ _).mono ?_
  rintro e w5 ⟨x, mf, ml, mc, rfl, hbs, hI5, hb5⟩
  have hb15 := hb14.trans (hb5.mono hb14.size)
  have hz := hb14.size
  have HX : Hid (w.heap.size ≤ x ∧ w.heap.size ≤ mf ∧ w.heap.size ≤ ml ∧ w.heap.size ≤ mc) := ⟨by omega, by omega, by omega, by omega⟩
  have HM1 := hI5.make 1 (by decide) (by decide) rfl (fun m h1 h2 => absurd h2 (by omega)) 2 (.inr rfl) 1 (by decide)
  have HB15 : Hid (Below w.heap.size w w5) := hb15
  clear hb14 hb5 hb15 HO hI5 hbt hbs
  go_wp2_with fail
  refine HM1.mono ?_
  rintro e w6 ⟨rfl, hI6, ht6⟩
  have HM2 := hI6.make 2 (by decide) (by decide) rfl (fun m h1 h2 => by
    have : m = 1 := by omega
    subst this
    decide) 1 (.inl rfl) 1 (by decide)
  have HT6 : Hid (Turns (fun z => z = x ∨ z = mf) w5 w6) := ht6
  clear HM1 hI6 ht6
  go_wp2_with fail
  refine HM2.mono ?_
  rintro e w7 ⟨rfl, hI7, ht7⟩
  have HE : Hid (Beg w w7 x mf ml mc (some ⟨c, 0, none⟩)) := by
    refine ⟨HX.out, hI7, ?_⟩
    have t7 := HT6.out.tr ht7
    have := HX.out
    exact HB15.out.trans (t7.below HB15.out.size (fun b hb => by rcases hb with rfl | rfl; exact this.1; exact this.2.1))
  clear HM2 hI7 ht7
  go_wp2_with fail
  go_ret3
  exact ⟨x, mf, ml, mc, _, rfl, HE.out⟩
end Go.Proofs.YtngaicpmebgfeaaGreat

namespace Go.Proofs.YtngaicpmebgfeaaGreat
open Go Go.RowKit
set_option linter.unusedSimpArgs false
set_option linter.unusedVariables false
theorem wrF_lt {F : Nat → Nat} {o : Nat} (hF : ∀ p, p < o → F p < 256) (s : ByteArray) (a p : Nat) : wrF F o s a p < 256 := by
  unfold wrF
  split
  · exact tbyte_lt _ _
  · split
    · rename_i h
      exact hF p h
    · decide
set_option maxRecDepth 100000 in
set_option maxHeartbeats 4000000 in
theorem awake16_any (w : World) : Calls Tryz.prog 5 #[] w fun e w' => e = .returned (.bool true) ∧ Below w.heap.size w w' := by
  have HB := begun_any w
  go_enter Tryz.func5, Tryz.ntmps5
  go_wp2_with fail
  refine HB.mono ?_
  rintro e w1 ⟨x, mf, ml, mc, cp, rfl, hx, hI, hb1⟩
  have HW := hI.writeOk bg_file 300 1 ⟨#[97, 98]⟩ (by decide) (by decide)
  have HX : Hid (w.heap.size ≤ x ∧ w.heap.size ≤ mf ∧ w.heap.size ≤ ml ∧ w.heap.size ≤ mc) := hx
  have HB1 : Hid (Below w.heap.size w w1) := hb1
  clear HB hI hb1 hx
  go_wp2_with fail
  refine HW.mono ?_
  rintro e w2 ⟨rfl, ⟨H', D', hI2, hf2, _⟩, hT2⟩
  have HR := hI2.readF hf2 (fun p _ => wrF_lt (fun p hp => absurd hp (by omega)) _ _ _) 299 9 (by decide) (by decide)
  have hs : strN (fun j => wrF (fun _ => 0) 0 ⟨#[97, 98]⟩ 300 (299 + j)) (thN (max 0 (300 + (⟨#[97, 98]⟩ : ByteArray).size)) 299 9) = ⟨#[0, 97, 98]⟩ := by decide
  rw [hs] at HR
  have HE : Hid (Below w.heap.size w w2) := by
    have := HX.out
    exact HB1.out.trans (hT2.below HB1.out.size (fun b hb => by rcases hb with rfl | rfl; exact this.2.2.1; exact this.2.1))
  clear HW hI2 hf2 hT2 hs
  go_wp2_with fail
  refine HR.mono ?_
  rintro e w3 ⟨rfl, hb3⟩
  have HE3 : Hid (Below w.heap.size w w3) := HE.out.trans (hb3.mono HE.out.size)
  clear HR hb3
  go_wp2_with fail
  go_ret
  exact ⟨rfl, HE3.out⟩
end Go.Proofs.YtngaicpmebgfeaaGreat

namespace Go.Proofs.YtngaicpmebgfeaaGreat
open Go Go.RowKit
set_option linter.unusedSimpArgs false
set_option linter.unusedVariables false
section
variable {w : World} {xp : Value} {n er : Int}
set_option maxRecDepth 100000 in
theorem insert_err (her : er ≠ 0) (HO : OneErr w xp n er) (a : Int) (s : ByteArray) (st : Nat) : Calls Tryz.prog 10 #[xp, .int .i64 n, .int .i64 a, .string s, .int .u64 ((st : Nat) : Int)] w fun e w' => e = .returned (.int .i64 er) ∧ Below w.heap.size w w' := by
  have H1 := HO w (Below.refl _ _)
  have hzi : ∀ w, (zeroValue 61).run Tryz.prog w = .ok (.agg if0) w := zero_info
  clear HO
  go_enter Tryz.func10, Tryz.ntmps10
  go_wp2_with fail
  refine H1.mono ?_
  rintro e w2 ⟨rfl, hb2⟩
  have u1 : Blk (w2.alloc (.cells if0 61)) w2.heap.size 61 if0 := Blk.new _ _ _
  have u2 := u1.set if0
  have c3 : ((w2.alloc (.cells if0 61)).setRow w2.heap.size if0).cell? ⟨w2.heap.size, 3, none⟩ = some (.int .i64 0) := (u2.cell 3).trans rfl
  have HE : Hid (Below w.heap.size w w2 ∧ Below w.heap.size w ((w2.alloc (.cells if0 61)).setRow w2.heap.size if0)) := ⟨hb2, below_setRow (hb2.alloc hb2.size _) hb2.size _⟩
  clear hb2 u2
  go_wp2_with (first
    | (refine wpList_store_row (by rfl) 61 _ _ (by rfl) (w2.heap.size) if0 (by rfl) (by rfl) 61 if0 (by exact u1) (sizeInfo.trans (by rfl)) (by rfl) (if_all _ _ _ _ _) ?_; simp only [Act.put, List.setIfInBounds_toArray, List.set_cons_zero, List.set_cons_succ])
    | fail)
  go_ret
  exact ⟨rfl, HE.out.2⟩
set_option maxRecDepth 100000 in
theorem remove_err (her : er ≠ 0) (HO : OneErr w xp n er) (a m : Int) (st : Nat) : Calls Tryz.prog 6 #[xp, .int .i64 n, .int .i64 a, .int .i64 m, .int .u64 ((st : Nat) : Int)] w fun e w' => e = .returned (.tuple #[.int .i64 0, .int .i64 er]) ∧ Below w.heap.size w w' := by
  have H1 := HO w (Below.refl _ _)
  have hzi : ∀ w, (zeroValue 61).run Tryz.prog w = .ok (.agg if0) w := zero_info
  clear HO
  go_enter Tryz.func6, Tryz.ntmps6
  go_wp2_with fail
  refine H1.mono ?_
  rintro e w2 ⟨rfl, hb2⟩
  have u1 : Blk (w2.alloc (.cells if0 61)) w2.heap.size 61 if0 := Blk.new _ _ _
  have u2 := u1.set if0
  have c3 : ((w2.alloc (.cells if0 61)).setRow w2.heap.size if0).cell? ⟨w2.heap.size, 3, none⟩ = some (.int .i64 0) := (u2.cell 3).trans rfl
  have HE : Hid (Below w.heap.size w w2 ∧ Below w.heap.size w ((w2.alloc (.cells if0 61)).setRow w2.heap.size if0)) := ⟨hb2, below_setRow (hb2.alloc hb2.size _) hb2.size _⟩
  clear hb2 u2
  go_wp2_with (first
    | (refine wpList_store_row (by rfl) 61 _ _ (by rfl) (w2.heap.size) if0 (by rfl) (by rfl) 61 if0 (by exact u1) (sizeInfo.trans (by rfl)) (by rfl) (if_all _ _ _ _ _) ?_; simp only [Act.put, List.setIfInBounds_toArray, List.set_cons_zero, List.set_cons_succ])
    | fail)
  go_ret2
  exact ⟨rfl, HE.out.2⟩
set_option maxRecDepth 100000 in
theorem find_err (her : er ≠ 0) (HO : OneErr w xp n er) (a : Int) (s : ByteArray) : Calls Tryz.prog 8 #[xp, .int .i64 n, .int .i64 a, .string s] w fun e w' => e = .returned (.tuple #[.int .i64 0, .int .i64 er]) ∧ Below w.heap.size w w' := by
  have H1 := HO w (Below.refl _ _)
  have hzi : ∀ w, (zeroValue 61).run Tryz.prog w = .ok (.agg if0) w := zero_info
  clear HO
  go_enter Tryz.func8, Tryz.ntmps8
  go_wp2_with fail
  refine H1.mono ?_
  rintro e w2 ⟨rfl, hb2⟩
  have u1 : Blk (w2.alloc (.cells if0 61)) w2.heap.size 61 if0 := Blk.new _ _ _
  have u2 := u1.set if0
  have c3 : ((w2.alloc (.cells if0 61)).setRow w2.heap.size if0).cell? ⟨w2.heap.size, 3, none⟩ = some (.int .i64 0) := (u2.cell 3).trans rfl
  have HE : Hid (Below w.heap.size w w2 ∧ Below w.heap.size w ((w2.alloc (.cells if0 61)).setRow w2.heap.size if0)) := ⟨hb2, below_setRow (hb2.alloc hb2.size _) hb2.size _⟩
  clear hb2 u2
  go_wp2_with (first
    | (refine wpList_store_row (by rfl) 61 _ _ (by rfl) (w2.heap.size) if0 (by rfl) (by rfl) 61 if0 (by exact u1) (sizeInfo.trans (by rfl)) (by rfl) (if_all _ _ _ _ _) ?_; simp only [Act.put, List.setIfInBounds_toArray, List.set_cons_zero, List.set_cons_succ])
    | fail)
  go_ret2
  exact ⟨rfl, HE.out.2⟩
set_option maxRecDepth 100000 in
theorem holes_err (her : er ≠ 0) (HO : OneErr w xp n er) : Calls Tryz.prog 9 #[xp, .int .i64 n] w fun e w' => e = .returned (.tuple #[.slice none 0 0, .int .i64 er]) ∧ Below w.heap.size w w' := by
  have H1 := HO w (Below.refl _ _)
  have hzi : ∀ w, (zeroValue 61).run Tryz.prog w = .ok (.agg if0) w := zero_info
  clear HO
  go_enter Tryz.func9, Tryz.ntmps9
  go_wp2_with fail
  refine H1.mono ?_
  rintro e w2 ⟨rfl, hb2⟩
  have u1 : Blk (w2.alloc (.cells if0 61)) w2.heap.size 61 if0 := Blk.new _ _ _
  have u2 := u1.set if0
  have c3 : ((w2.alloc (.cells if0 61)).setRow w2.heap.size if0).cell? ⟨w2.heap.size, 3, none⟩ = some (.int .i64 0) := (u2.cell 3).trans rfl
  have HE : Hid (Below w.heap.size w w2 ∧ Below w.heap.size w ((w2.alloc (.cells if0 61)).setRow w2.heap.size if0)) := ⟨hb2, below_setRow (hb2.alloc hb2.size _) hb2.size _⟩
  clear hb2 u2
  go_wp2_with (first
    | (refine wpList_store_row (by rfl) 61 _ _ (by rfl) (w2.heap.size) if0 (by rfl) (by rfl) 61 if0 (by exact u1) (sizeInfo.trans (by rfl)) (by rfl) (if_all _ _ _ _ _) ?_; simp only [Act.put, List.setIfInBounds_toArray, List.set_cons_zero, List.set_cons_succ])
    | fail)
  go_ret2
  exact ⟨rfl, HE.out.2⟩
set_option maxRecDepth 100000 in
theorem copy_err {a b : Int} (her : er ≠ 0) (HO : TwoErr w xp a b er) (at0 m pl : Int) (st : Nat) : Calls Tryz.prog 7 #[xp, .int .i64 a, .int .i64 at0, .int .i64 m, .int .i64 b, .int .i64 pl, .int .u64 ((st : Nat) : Int)] w fun e w' => e = .returned (.tuple #[.int .i64 0, .int .i64 er]) ∧ Below w.heap.size w w' := by
  have H1 := HO w (Below.refl _ _)
  have hzi : ∀ w, (zeroValue 61).run Tryz.prog w = .ok (.agg if0) w := zero_info
  clear HO
  go_enter Tryz.func7, Tryz.ntmps7
  go_wp2_with fail
  refine H1.mono ?_
  rintro e w2 ⟨rfl, hb2⟩
  have u1 : Blk ((w2.alloc (.cells if0 61)).alloc (.cells if0 61)) w2.heap.size 61 if0 := (Blk.new _ _ _).alloc _
  have v1 : Blk ((w2.alloc (.cells if0 61)).alloc (.cells if0 61)) (w2.heap.size + 1) 61 if0 := Blk.new1 _ _ _ _
  have v2 : Blk (((w2.alloc (.cells if0 61)).alloc (.cells if0 61)).setRow w2.heap.size if0) (w2.heap.size + 1) 61 if0 := v1.other _ (by omega)
  have u3 : Blk ((((w2.alloc (.cells if0 61)).alloc (.cells if0 61)).setRow w2.heap.size if0).setRow (w2.heap.size + 1) if0) w2.heap.size 61 if0 := (u1.set _).other _ (by omega)
  have v3 : Blk ((((w2.alloc (.cells if0 61)).alloc (.cells if0 61)).setRow w2.heap.size if0).setRow (w2.heap.size + 1) if0) (w2.heap.size + 1) 61 if0 := v2.set _
  have hb3 : Below w.heap.size w ((((w2.alloc (.cells if0 61)).alloc (.cells if0 61)).setRow w2.heap.size if0).setRow (w2.heap.size + 1) if0) := below_setRow (below_setRow ((hb2.alloc hb2.size _).alloc (by have := hb2.size; simp; omega) _) hb2.size _) (by have := hb2.size; omega) _
  clear v1 hb2 H1
  clear u3 v3
  go_wp2_with (first
    | (refine wpList_store_row (by rfl) 61 _ _ (by rfl) (w2.heap.size) (if0) (by rfl) (by rfl) 61 (if0) (by exact u1) (sizeInfo.trans (by rfl)) (by rfl) (if_all _ _ _ _ _) ?_; simp only [Act.put, List.setIfInBounds_toArray, List.set_cons_zero, List.set_cons_succ])
    | (refine wpList_store_row (by rfl) 61 _ _ (by rfl) (w2.heap.size + 1) (if0) (by rfl) (by rfl) 61 (if0) (by exact v2) (sizeInfo.trans (by rfl)) (by rfl) (if_all _ _ _ _ _) ?_; simp only [Act.put, List.setIfInBounds_toArray, List.set_cons_zero, List.set_cons_succ])
    | fail)
  go_ret2
  exact ⟨rfl, hb3⟩
end
end Go.Proofs.YtngaicpmebgfeaaGreat

namespace Go.Proofs.YtngaicpmebgfeaaGreat
open Go Go.RowKit
set_option linter.unusedSimpArgs false
set_option linter.unusedVariables false
theorem TwoErr.mono {w V : World} {xp : Value} {a b er : Int} (h : TwoErr w xp a b er) (hb : Below w.heap.size w V) : TwoErr V xp a b er := fun U hU => h U (hb.trans (hU.mono hb.size))
/-- what is told of a number that is no file's among those that were begun -/
theorem bg_err {w : World} {x mf ml mc : Nat} {cp : Option Addr} (h : IM w x mf ml mc cp 2 bgH bgD) (n : Int) (hn : -9223372036854775808 ≤ n ∧ n ≤ 9223372036854775807) (h1 : n ≠ 1) (h2 : n ≠ 2) (er : Int) (her : er = if 1 ≤ n ∧ n ≤ 4096 then 151 else 141) (b : Int) : TwoErr w (.pointer (some ⟨x, 0, none⟩)) n b er ∧ TwoErr w (.pointer (some ⟨x, 0, none⟩)) 2 n er := by
  have he : noE bgH n = er := by
    unfold noE
    rw [her]
    by_cases c : 1 ≤ n ∧ n ≤ 4096
    · rw [if_pos c, if_pos c, bg_none n.toNat (by omega) (by omega)]
      rfl
    · rw [if_neg c, if_neg c]
  have er0 : er ≠ 0 := by rw [her]; split <;> decide
  have HG : ∀ V, Below w.heap.size w V → Calls Tryz.prog 44 #[.pointer (some ⟨x, 0, none⟩), .int .i64 n] V fun e w' => e = .returned (.tuple #[.agg if0, .int .i64 er]) ∧ Below V.heap.size V w' := fun V hV => by
    have := (h.below hV).getNot n hn (by rw [he]; exact er0)
    rw [he] at this
    exact this
  exact ⟨two_ea er0 HG, two_eb (n1 := 2) (k1 := 1) (l1 := 1) (s1 := 0) (t1 := 1) er0 (fun V hV => (h.below hV).getF bg_file) HG⟩
theorem bg_dir {w : World} {x mf ml mc : Nat} {cp : Option Addr} (h : IM w x mf ml mc cp 2 bgH bgD) : TwoErr w (.pointer (some ⟨x, 0, none⟩)) 1 1 161 ∧ TwoErr w (.pointer (some ⟨x, 0, none⟩)) 1 2 161 ∧ TwoErr w (.pointer (some ⟨x, 0, none⟩)) 2 1 161 := by
  have HG : ∀ V, Below w.heap.size w V → Calls Tryz.prog 44 #[.pointer (some ⟨x, 0, none⟩), .int .i64 1] V fun e w' => e = .returned (.tuple #[.agg (ifC 1 2 1 0 1), .int .i64 0]) ∧ Below V.heap.size V w' := fun V hV => (h.below hV).get 1 (by decide) (by decide) (by decide)
  have HF : ∀ V, Below w.heap.size w V → Calls Tryz.prog 44 #[.pointer (some ⟨x, 0, none⟩), .int .i64 2] V fun e w' => e = .returned (.tuple #[.agg (ifC 2 1 1 0 1), .int .i64 0]) ∧ Below V.heap.size V w' := fun V hV => (h.below hV).getF bg_file
  exact ⟨two_ed (.inl rfl) HG HG, two_ed (.inl rfl) HG HF, two_ed (.inr rfl) HF HG⟩
end Go.Proofs.YtngaicpmebgfeaaGreat

namespace Go.Proofs.YtngaicpmebgfeaaGreat
open Go Go.RowKit
set_option linter.unusedSimpArgs false
set_option linter.unusedVariables false
/-- a move's cells -/
def mvC (kd a m p : Int) (s : ByteArray) (t : Nat) : Array Value := #[.int .i64 kd, .int .i64 a, .int .i64 m, .int .i64 p, .string s, .int .u64 ((t : Nat) : Int)]
theorem mv_cs {w : World} {b T : Nat} {kd a m p : Int} {s : ByteArray} {t : Nat} (H : Blk w b T (mvC kd a m p s t)) : w.cell? ⟨b, 1, none⟩ = some (.int .i64 a) ∧ w.cell? ⟨b, 2, none⟩ = some (.int .i64 m) ∧ w.cell? ⟨b, 3, none⟩ = some (.int .i64 p) ∧ w.cell? ⟨b, 4, none⟩ = some (.string s) ∧ w.cell? ⟨b, 5, none⟩ = some (.int .u64 ((t : Nat) : Int)) := ⟨(H.cell 1).trans rfl, (H.cell 2).trans rfl, (H.cell 3).trans rfl, (H.cell 4).trans rfl, (H.cell 5).trans rfl⟩
set_option maxRecDepth 100000 in
set_option maxHeartbeats 16000000 in
theorem fileWrongLaw (n : Int) (hn : -9223372036854775808 ≤ n ∧ n ≤ 9223372036854775807) (kd a m p : Int) (s : ByteArray) (t : Nat) (w : World) : Calls Tryz.prog 3 #[.int .i64 n, .agg (mvC kd a m p s t)] w fun e w' => e = .returned (.bool true) ∧ Below w.heap.size w w' := by
  have k0 : Blk (w.alloc (.cells (mvC kd a m p s t) 24)) w.heap.size 24 (mvC kd a m p s t) := Blk.new _ _ _
  have hb0 : Below w.heap.size w (w.alloc (.cells (mvC kd a m p s t) 24)) := below_new1 _ _
  have HB := begun_any (w.alloc (.cells (mvC kd a m p s t) 24))
  have HAW : Hid (∀ w : World, Calls Tryz.prog 5 #[] w fun e w' => e = .returned (.bool true) ∧ Below w.heap.size w w') := awake16_any
  go_enter Tryz.func3, Tryz.ntmps3
  go_wp2_with fail
  generalize (w.alloc (.cells (mvC kd a m p s t) 24)) = w0 at *
  refine HB.mono ?_
  rintro e w1 ⟨x, mf, ml, mc, cp, rfl, hBeg⟩
  have h1 := hBeg.2.1
  have k1 := k0.below hBeg.2.2 k0.lt
  have hb1 := hb0.trans (hBeg.2.2.mono hb0.size)
  have HA1 := HAW.out w1
  clear HB hBeg k0 hb0
  go_wp2_with fail
  refine HA1.mono ?_
  rintro e w2 ⟨rfl, hb2⟩
  have h2 := h1.below hb2
  have k2 := k1.below hb2 k1.lt
  have hb12 := hb1.trans (hb2.mono hb1.size)
  clear HA1 h1 k1 hb1 hb2
  by_cases n2 : n = 2
  · subst n2
    have HA2 := HAW.out w2
    have HE : Hid (Below w.heap.size w w2) := hb12
    clear h2 k2 hb12
    go_wp2_with fail
    refine HA2.mono ?_
    rintro e w3 ⟨rfl, hb3⟩
    have HE3 : Hid (Below w.heap.size w w3) := HE.out.trans (hb3.mono HE.out.size)
    clear HA2 hb3
    go_wp2_with fail
    go_ret
    exact ⟨rfl, HE3.out⟩
  · have n2b : (n == 2) = false := by simpa using n2
    have HS0 : Hid (IM w2 x mf ml mc cp 2 bgH bgD ∧ Blk w2 w.heap.size 24 (mvC kd a m p s t) ∧ Below w.heap.size w w2) := ⟨h2, k2, hb12⟩
    clear h2 k2 hb12
    obtain ⟨er, hT, her0, her1, hnn⟩ : ∃ er : Int, (∀ V, IM V x mf ml mc cp 2 bgH bgD → TwoErr V (.pointer (some ⟨x, 0, none⟩)) n n er ∧ TwoErr V (.pointer (some ⟨x, 0, none⟩)) n 2 er ∧ TwoErr V (.pointer (some ⟨x, 0, none⟩)) 2 n er) ∧ er ≠ 0 ∧ (n = 1 → er = 161) ∧ (n ≠ 1 → er = if 1 ≤ n ∧ n ≤ 4096 then 151 else 141) := by
      by_cases n1 : n = 1
      · subst n1
        exact ⟨161, fun V hV => bg_dir hV, by decide, fun _ => rfl, fun h => absurd rfl h⟩
      · refine ⟨if 1 ≤ n ∧ n ≤ 4096 then 151 else 141, fun V hV => ⟨(bg_err hV n hn n1 n2 _ rfl n).1, bg_err hV n hn n1 n2 _ rfl 2⟩, by split <;> decide, fun h => absurd h n1, fun _ => rfl⟩
    have HT : Hid (∀ V, IM V x mf ml mc cp 2 bgH bgD → TwoErr V (.pointer (some ⟨x, 0, none⟩)) n n er ∧ TwoErr V (.pointer (some ⟨x, 0, none⟩)) n 2 er ∧ TwoErr V (.pointer (some ⟨x, 0, none⟩)) 2 n er) := hT
    have HER : Hid ((n = 1 → er = 161) ∧ (n ≠ 1 → er = if 1 ≤ n ∧ n ≤ 4096 then 151 else 141)) := ⟨her1, hnn⟩
    clear hT her1 hnn
    go_upto_region 5 with fail
    go_cut [44] (fun v wx => (∃ z : Bool, v = .bool z ∧ Hid (z = true ↔ (n < 1 ∨ 4096 < n))) ∧ wx = w2)
    case first =>
      by_cases nlo : n < 1
      · go_wp2_with fail
        go_meet
        exact ⟨⟨true, rfl, ⟨fun _ => .inl nlo, fun _ => rfl⟩⟩, rfl⟩
      · by_cases nhi : 4096 < n
        · go_wp2_with fail
          go_meet
          exact ⟨⟨true, rfl, ⟨fun _ => .inr nhi, fun _ => rfl⟩⟩, rfl⟩
        · go_wp2_with fail
          go_meet
          exact ⟨⟨false, rfl, ⟨fun h => (by cases h), fun h => absurd h (by omega)⟩⟩, rfl⟩
    case rest =>
     obtain ⟨⟨bb, rfl, hbb⟩, hwc⟩ := hcut
     rw [hwc]
     clear hwc
     go_upto_if 44 with fail
     go_cut [8] (fun v wx => (∃ z : Int, v = .int .i64 z ∧ Hid (z = if 1 ≤ n ∧ n ≤ 4096 then 151 else 141)) ∧ wx = w2)
     case first =>
      cases bb with
      | true =>
        have h := (Hid.out hbb).1 rfl
        clear hbb
        go_wp2_with fail
        go_meet
        exact ⟨⟨141, rfl, by show _ = _; rw [if_neg (by omega)]⟩, rfl⟩
      | false =>
        have h : ¬ (n < 1 ∨ 4096 < n) := fun h => by have := (Hid.out hbb).2 h; cases this
        clear hbb
        go_wp2_with fail
        go_meet
        exact ⟨⟨151, rfl, by show _ = _; rw [if_pos (by omega)]⟩, rfl⟩
     case rest =>
      obtain ⟨⟨z, rfl, hz⟩, hwc⟩ := hcut
      rw [hwc]
      clear hwc
      go_upto_if 46 with fail
      go_cut [8] (fun v wx => v = .int .i64 er ∧ wx = w2)
      case first =>
        by_cases n1 : n = 1
        · have e := HER.out.1 n1
          subst n1
          go_wp2_with fail
          go_meet
          exact ⟨by rw [e], rfl⟩
        · have n1b : (n == 1) = false := by simpa using n1
          have e := (HER.out.2 n1).trans (Hid.out hz).symm
          go_wp2_with fail
          go_meet
          exact ⟨by rw [e], rfl⟩
      case rest =>
        obtain ⟨rfl, hwc⟩ := hcut
        rw [hwc]
        clear hwc hz
        have HTT : Hid (TwoErr w2 (.pointer (some ⟨x, 0, none⟩)) n n er ∧ TwoErr w2 (.pointer (some ⟨x, 0, none⟩)) n 2 er ∧ TwoErr w2 (.pointer (some ⟨x, 0, none⟩)) 2 n er) := HT.out w2 HS0.out.1
        have hbW : Below w2.heap.size w2 w2 := Below.refl _ _
        have HC := remove_err her0 (one_err (HTT.out.1.mono hbW)) a m t
        obtain ⟨a1, a2, a3, a4, a5⟩ := mv_cs (HS0.out.2.1.below hbW HS0.out.2.1.lt)
        go_wp2_with fail
        refine HC.mono ?_
        rintro e v1 ⟨rfl, hb_⟩
        have hbX : Below w2.heap.size w2 v1 := hbW.trans (hb_.mono hbW.size)
        clear HC hb_ a1 a2 a3 a4 a5 hbW
        have hbW := hbX
        clear hbX
        have HC := copy_err her0 (HTT.out.2.1.mono hbW) a m p t
        obtain ⟨a1, a2, a3, a4, a5⟩ := mv_cs (HS0.out.2.1.below hbW HS0.out.2.1.lt)
        go_wp2_with fail
        refine HC.mono ?_
        rintro e v2 ⟨rfl, hb_⟩
        have hbX : Below w2.heap.size w2 v2 := hbW.trans (hb_.mono hbW.size)
        clear HC hb_ a1 a2 a3 a4 a5 hbW
        have hbW := hbX
        clear hbX
        have HC := copy_err her0 (HTT.out.2.2.mono hbW) a m p t
        obtain ⟨a1, a2, a3, a4, a5⟩ := mv_cs (HS0.out.2.1.below hbW HS0.out.2.1.lt)
        go_wp2_with fail
        refine HC.mono ?_
        rintro e v3 ⟨rfl, hb_⟩
        have hbX : Below w2.heap.size w2 v3 := hbW.trans (hb_.mono hbW.size)
        clear HC hb_ a1 a2 a3 a4 a5 hbW
        have hbW := hbX
        clear hbX
        have HC := find_err her0 (one_err (HTT.out.1.mono hbW)) a s
        obtain ⟨a1, a2, a3, a4, a5⟩ := mv_cs (HS0.out.2.1.below hbW HS0.out.2.1.lt)
        go_wp2_with fail
        refine HC.mono ?_
        rintro e v4 ⟨rfl, hb_⟩
        have hbX : Below w2.heap.size w2 v4 := hbW.trans (hb_.mono hbW.size)
        clear HC hb_ a1 a2 a3 a4 a5 hbW
        have hbW := hbX
        clear hbX
        have HC := holes_err her0 (one_err (HTT.out.1.mono hbW))
        obtain ⟨a1, a2, a3, a4, a5⟩ := mv_cs (HS0.out.2.1.below hbW HS0.out.2.1.lt)
        go_wp2_with fail
        refine HC.mono ?_
        rintro e v5 ⟨rfl, hb_⟩
        have hbX : Below w2.heap.size w2 v5 := hbW.trans (hb_.mono hbW.size)
        clear HC hb_ a1 a2 a3 a4 a5 hbW
        have hbW := hbX
        clear hbX
        have HC := insert_err her0 (one_err (HTT.out.1.mono hbW)) a s t
        obtain ⟨a1, a2, a3, a4, a5⟩ := mv_cs (HS0.out.2.1.below hbW HS0.out.2.1.lt)
        go_wp2_with fail
        refine HC.mono ?_
        rintro e v6 ⟨rfl, hb_⟩
        have hbX : Below w2.heap.size w2 v6 := hbW.trans (hb_.mono hbW.size)
        clear HC hb_ a1 a2 a3 a4 a5 hbW
        have hbW := hbX
        clear hbX
        have HE : Hid (Below w.heap.size w v6) := HS0.out.2.2.trans (hbW.mono HS0.out.2.2.size)
        clear hbW
        go_wp2_with fail
        go_ret
        exact ⟨rfl, HE.out⟩
end Go.Proofs.YtngaicpmebgfeaaGreat
