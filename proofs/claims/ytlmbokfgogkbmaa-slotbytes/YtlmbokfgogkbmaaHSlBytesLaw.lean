/- The statement SlotBytes, called with whatever slots and text: it returns true. -/
import Derived.Test.YtlmbokfgogkbmaaHSlAwake
import Derived.Handy

namespace Go.Proofs.Ytlmbokfgogkbmaa
open Go Go.RowKit
set_option linter.unusedSimpArgs false
set_option linter.unusedVariables false

theorem decA_eq (s : ByteArray) (hs : s.size = 44) : decA s = if (decS s).2.1 = 0 ∧ decS s ≠ sl0 then (sl0, 61) else (decS s, 0) := by
  unfold decA
  by_cases hc : (decS s).2.1 = 0 ∧ decS s ≠ sl0
  · rw [if_neg (fun h => h.2 hc), if_pos hc]
  · rw [if_pos ⟨hs, hc⟩, if_neg hc]
theorem refDecode_any (s : ByteArray) (w : World) : Calls Try.prog 28 #[.string s] w fun e w' => e = .returned (.tuple #[.agg (slC (decA s).1), .int .i64 (decA s).2]) ∧ Below w.heap.size w w' := by
  by_cases hs : s.size = 44
  · exact refDecode_long s hs (decA s).1 (decA s).2 (decA_eq s hs) w
  · have e : decA s = (sl0, 61) := by
      unfold decA
      rw [if_neg (fun h => hs h.1)]
    rw [e]
    exact refDecode_short s hs w
/-- two structs of three fields compared -/
theorem run_eq_three {P : Program} {w : World} {d : Nat} {t t1 t2 t3 o1 o2 o3 : Nat} {cs ds : Array Value} {x1 y1 x2 y2 x3 y3 : Value} {b1 b2 b3 : Bool} (hu : P.underlying t = some (.struct (P.fieldsOf t))) (hp : P.stoodInHeld t = false)
    (hf : (P.fieldsOf t).toList.map (fun f => (f.name == "_", f.type, f.offset)) = [(false, t1, o1), (false, t2, o2), (false, t3, o3)])
    (p1 : (part t1 cs o1).run P w = .ok x1 w) (q1 : (part t1 ds o1).run P w = .ok y1 w) (p2 : (part t2 cs o2).run P w = .ok x2 w) (q2 : (part t2 ds o2).run P w = .ok y2 w) (p3 : (part t3 cs o3).run P w = .ok x3 w) (q3 : (part t3 ds o3).run P w = .ok y3 w)
    (h1 : (Op.equalIn d t1 x1 y1).run P w = .ok b1 w) (h2 : (Op.equalIn d t2 x2 y2).run P w = .ok b2 w) (h3 : (Op.equalIn d t3 x3 y3).run P w = .ok b3 w) : (Op.equalIn (d + 1) t (.agg cs) (.agg ds)).run P w = .ok (b1 && (b2 && b3)) w := by
  rw [run_equalIn_struct w d t cs ds hu hp]
  obtain ⟨f, l1, e1, hf1, hl1⟩ := List.map_eq_cons_iff.1 hf
  obtain ⟨g, l2, e2, hg1, hl2⟩ := List.map_eq_cons_iff.1 hl1
  obtain ⟨h, l3, e3, hh1, hl3⟩ := List.map_eq_cons_iff.1 hl2
  have e4 := List.map_eq_nil_iff.1 hl3
  subst e4 e3 e2
  rw [e1]
  simp only [Prod.mk.injEq] at hf1 hg1 hh1
  obtain ⟨n1, rfl, rfl⟩ := hf1
  obtain ⟨n2, rfl, rfl⟩ := hg1
  obtain ⟨n3, rfl, rfl⟩ := hh1
  have n1' : f.name ≠ "_" := by simpa using n1
  have n2' : g.name ≠ "_" := by simpa using n2
  have n3' : h.name ≠ "_" := by simpa using n3
  unfold Op.eqFields
  rw [if_pos n1']
  unfold Op.eqFields
  rw [if_pos n2']
  unfold Op.eqFields
  rw [if_pos n3']
  simp only [Sem.run_bind, p1, q1, Result.andThen_ok, h1]
  cases b1
  · simp
  · simp only [Bool.not_true, Bool.false_eq_true, if_false, Sem.run_bind, p2, q2, Result.andThen_ok, h2]
    cases b2
    · simp
    · simp only [Bool.not_true, Bool.false_eq_true, if_false, Sem.run_bind, p3, q3, Result.andThen_ok, h3]
      cases b3
      · simp
      · simp [Op.eqFields]
theorem part_rsum (s : Sl) (w : World) : (part 34 (slC s) 2).run Try.prog w = .ok (dK s.2.2) w := by
  have e : (slC s).extract 2 (2 + 32) = va 32 (iv .u8 (dF s.2.2)) := by
    unfold slC
    rw [va_extract 34 2 32 _ (by decide), sl_sum]
  simp [part, isAgg, run_underlying Try.underlying34, size_at _ _ sizeRsum]
  unfold dK
  rw [← e]
theorem eq_rslot (a b : Sl) (w : World) : (Op.equalIn 10000 36 (.agg (slC a)) (.agg (slC b))).run Try.prog w = .ok (decide (a = b)) w := by
  have h1 : (Op.equalIn 9999 31 (.int .u64 (a.1 : Int)) (.int .u64 (b.1 : Int))).run Try.prog w = .ok ((a.1 : Int) == (b.1 : Int)) w := run_equalIn_int w 9998 _ _ .u64 _ _ Try.underlying31
  have h2 : (Op.equalIn 9999 32 (.int .u32 (a.2.1 : Int)) (.int .u32 (b.2.1 : Int))).run Try.prog w = .ok ((a.2.1 : Int) == (b.2.1 : Int)) w := run_equalIn_int w 9998 _ _ .u32 _ _ Try.underlying32
  have h3 := eq_digAt 9997 34 Try.underlying34 a.2.2 b.2.2 w
  have hd : decide (a = b) = (((a.1 : Int) == (b.1 : Int)) && (((a.2.1 : Int) == (b.2.1 : Int)) && decide (a.2.2 = b.2.2))) := by
    obtain ⟨a1, a2, a3⟩ := a
    obtain ⟨b1, b2, b3⟩ := b
    rw [Bool.eq_iff_iff]
    simp only [decide_eq_true_eq, Bool.and_eq_true, beq_iff_eq, Prod.mk.injEq]
    constructor
    · rintro ⟨h, k, l⟩
      exact ⟨by omega, by omega, l⟩
    · rintro ⟨h, k, l⟩
      exact ⟨by omega, by omega, l⟩
  rw [hd]
  have p1 := part_counter a w
  have q1 := part_counter b w
  have p2 : (part 32 (slC a) 1).run Try.prog w = .ok (.int .u32 ((a.2.1 : Nat) : Int)) w := part_int _ _ Try.underlying32 _ _ _ (va_at (slF a) (by decide)) w
  have q2 : (part 32 (slC b) 1).run Try.prog w = .ok (.int .u32 ((b.2.1 : Nat) : Int)) w := part_int _ _ Try.underlying32 _ _ _ (va_at (slF b) (by decide)) w
  have p3 := part_rsum a w
  have q3 := part_rsum b w
  generalize slC a = cs at *
  generalize slC b = ds at *
  have hu : Try.prog.underlying 36 = some (.struct (Try.prog.fieldsOf 36)) := by kernel_rfl
  have hp : Try.prog.stoodInHeld 36 = false := by kernel_rfl
  have hf : (Try.prog.fieldsOf 36).toList.map (fun f => (f.name == "_", f.type, f.offset)) = [(false, 31, 0), (false, 32, 1), (false, 34, 2)] := by kernel_rfl
  exact run_eq_three hu hp hf p1 q1 p2 q2 p3 q3 h1 h2 h3
set_option maxRecDepth 100000 in
set_option maxHeartbeats 16000000 in
theorem slotBytesLaw (a b : Sl) (s : ByteArray) (ha1 : a.1 < 18446744073709551616) (ha2 : a.2.1 < 4294967296) (w : World) : Calls Try.prog 4 #[.agg (slC a), .agg (slC b), .string s] w fun e w' => e = .returned (.bool true) ∧ Below w.heap.size w w' := by
  have hz := zero_slot
  have hzr := zero_rslot
  have HAw : Hid (∀ w : World, Calls Try.prog 9 #[] w fun e w' => e = .returned (.bool true) ∧ Below w.heap.size w w') := awake6_any
  have HEn : Hid (∀ w : World, Calls Try.prog 24 #[.agg (slC a)] w fun e w' => e = .returned (.string (strN (encF a) 44)) ∧ Below w.heap.size w w') := encode_any a ha1 ha2
  have HGi : Hid (∀ (x : Sl) (w : World), Calls Try.prog 15 #[.agg (slC x)] w fun e w' => e = .returned (.agg (slC x)) ∧ Below w.heap.size w w') := given_any
  have HRe : Hid (∀ w : World, Calls Try.prog 25 #[.agg (slC a)] w fun e w' => e = .returned (.string (strN (encF a) 44)) ∧ Below w.heap.size w w') := refEncode_any a ha1 ha2
  have HAh : Hid (∀ w : World, Calls Try.prog 26 #[.agg (slC a), .agg (slC b)] w fun e w' => e = .returned (.bool (decide (b.1 < a.1))) ∧ Below w.heap.size w w') := ahead_any a b
  have HDe : Hid (∀ w : World, Calls Try.prog 27 #[.string s] w fun e w' => e = .returned (.tuple #[.agg (slC (decA s).1), .int .i64 (decA s).2]) ∧ Below w.heap.size w w') := decode_any s
  have HDr : Hid (∀ w : World, Calls Try.prog 28 #[.string s] w fun e w' => e = .returned (.tuple #[.agg (slC (decA s).1), .int .i64 (decA s).2]) ∧ Below w.heap.size w w') := refDecode_any s
  have heq : ∀ W, (Op.equalIn 10000 36 (.agg (slC (decA s).1)) (.agg (slC (decA s).1))).run Try.prog W = .ok true W := fun W => by
    have := eq_rslot (decA s).1 (decA s).1 W
    rw [decide_eq_true rfl] at this
    exact this
  have HBI : Hid (decide ((b.1 : Int) < (a.1 : Int)) = decide (b.1 < a.1)) := decide_eq_decide.2 (by omega)
  have ra1 : Blk ((w.alloc (.cells (slC a) 50)).alloc (.cells (slC b) 50)) w.heap.size 50 (slC a) := (Blk.new _ _ _).alloc _
  have rb1 : Blk ((w.alloc (.cells (slC a) 50)).alloc (.cells (slC b) 50)) (w.heap.size + 1) 50 (slC b) := Blk.new1 _ _ _ _
  have hb1 : Below w.heap.size w ((w.alloc (.cells (slC a) 50)).alloc (.cells (slC b) 50)) := below_new2 _ _ _
  generalize (decA s).2 = er at *
  generalize hx : (decA s).1 = x at *
  clear hx
  generalize strN (encF a) 44 = tx at *
  go_enter Try.func4, Try.ntmps4
  go_wp2_with fail
  generalize ((w.alloc (.cells (slC a) 50)).alloc (.cells (slC b) 50)) = w1 at *
  have ra1 : Blk w1.drew w.heap.size 50 (slC a) := ra1
  have rb1 : Blk w1.drew (w.heap.size + 1) 50 (slC b) := rb1
  have hb1 : Below w.heap.size w w1.drew := hb1.drew
  refine wp_region_partsS (fun W => Blk W w.heap.size 50 (slC a) ∧ Blk W (w.heap.size + 1) 50 (slC b)) [([], 0, false), ([1, 2], 3, true), ([], 5, true), ([], 4, false), ([], 6, false), ([], 7, false), ([], 8, false), ([9, 10], 11, true), ([], 12, true), ([], 14, true), ([], 15, true), ([], 16, true), ([], 17, true), ([], 18, true), ([], 13, false), ([], 19, false)] [20] [] (by kernel_rfl) (by kernel_rfl) ⟨ra1, rb1⟩ (partsI_force ?_)
  simp only [List.cons_append, List.nil_append, List.append_nil, List.filterMap_cons, List.filterMap_nil, List.getElem?_toArray, List.getElem?_cons_zero, List.getElem?_cons_succ]
  go_wp2_with fail
  refine (HAw.out _).mono ?_
  rintro e w2 ⟨rfl, hb⟩
  have ra2 := ra1.below hb ra1.lt
  have rb2 := rb1.below hb rb1.lt
  have hb2 : Below w.heap.size w w2 := hb1.trans (hb.mono hb1.size)
  clear hb ra1 rb1 hb1
  go_wp2_with fail
  refine ⟨rfl, ⟨ra2, rb2⟩, partsI_yield ?_⟩
  simp only [List.cons_append, List.nil_append, List.append_nil, List.filterMap_cons, List.filterMap_nil, List.getElem?_toArray, List.getElem?_cons_zero, List.getElem?_cons_succ]
  go_wp2_with fail
  refine ⟨rfl, _, .agg (slC a), rfl, kyields_load (by rfl) 50 _ (by rfl) (w.heap.size) 34 (slF a) (by rfl) _ 50 (fun W hW => hW.1) Try.underlying50 rfl sizeSlot, partsI_yield ?_⟩
  simp only [Act.put, List.setIfInBounds_toArray, List.set_cons_zero, List.set_cons_succ]
  simp only [List.cons_append, List.nil_append, List.append_nil, List.filterMap_cons, List.filterMap_nil, List.getElem?_toArray, List.getElem?_cons_zero, List.getElem?_cons_succ]
  go_wp2_with fail
  refine ⟨rfl, _, .agg (slC a), rfl, kyields_load (by rfl) 50 _ (by rfl) (w.heap.size) 34 (slF a) (by rfl) _ 50 (fun W hW => hW.1) Try.underlying50 rfl sizeSlot, partsI_force ?_⟩
  simp only [Act.put, List.setIfInBounds_toArray, List.set_cons_zero, List.set_cons_succ]
  simp only [List.cons_append, List.nil_append, List.append_nil, List.filterMap_cons, List.filterMap_nil, List.getElem?_toArray, List.getElem?_cons_zero, List.getElem?_cons_succ]
  go_wp2_with fail
  refine (HEn.out _).mono ?_
  rintro e w3 ⟨rfl, hb⟩
  have ra3 := ra2.below hb ra2.lt
  have rb3 := rb2.below hb rb2.lt
  have hb3 : Below w.heap.size w w3 := hb2.trans (hb.mono hb2.size)
  clear hb ra2 rb2 hb2
  go_wp2_with fail
  refine ⟨rfl, ⟨ra3, rb3⟩, partsI_force ?_⟩
  simp only [List.cons_append, List.nil_append, List.append_nil, List.filterMap_cons, List.filterMap_nil, List.getElem?_toArray, List.getElem?_cons_zero, List.getElem?_cons_succ]
  go_wp2_with fail
  refine (HGi.out a _).mono ?_
  rintro e w4 ⟨rfl, hb⟩
  have ra4 := ra3.below hb ra3.lt
  have rb4 := rb3.below hb rb3.lt
  have hb4 : Below w.heap.size w w4 := hb3.trans (hb.mono hb3.size)
  clear hb ra3 rb3 hb3
  go_wp2_with fail
  refine ⟨rfl, ⟨ra4, rb4⟩, partsI_force ?_⟩
  simp only [List.cons_append, List.nil_append, List.append_nil, List.filterMap_cons, List.filterMap_nil, List.getElem?_toArray, List.getElem?_cons_zero, List.getElem?_cons_succ]
  go_wp2_with fail
  refine (HRe.out _).mono ?_
  rintro e w5 ⟨rfl, hb⟩
  have ra5 := ra4.below hb ra4.lt
  have rb5 := rb4.below hb rb4.lt
  have hb5 : Below w.heap.size w w5 := hb4.trans (hb.mono hb4.size)
  clear hb ra4 rb4 hb4
  go_wp2_with fail
  refine ⟨rfl, ⟨ra5, rb5⟩, partsI_force ?_⟩
  simp only [List.cons_append, List.nil_append, List.append_nil, List.filterMap_cons, List.filterMap_nil, List.getElem?_toArray, List.getElem?_cons_zero, List.getElem?_cons_succ]
  go_wp2_with fail
  refine ⟨rfl, ⟨ra5, rb5⟩, partsI_yield ?_⟩
  simp only [List.cons_append, List.nil_append, List.append_nil, List.filterMap_cons, List.filterMap_nil, List.getElem?_toArray, List.getElem?_cons_zero, List.getElem?_cons_succ]
  go_wp2_with fail
  refine ⟨rfl, _, .agg (slC a), rfl, kyields_load (by rfl) 50 _ (by rfl) (w.heap.size) 34 (slF a) (by rfl) _ 50 (fun W hW => hW.1) Try.underlying50 rfl sizeSlot, partsI_yield ?_⟩
  simp only [Act.put, List.setIfInBounds_toArray, List.set_cons_zero, List.set_cons_succ]
  simp only [List.cons_append, List.nil_append, List.append_nil, List.filterMap_cons, List.filterMap_nil, List.getElem?_toArray, List.getElem?_cons_zero, List.getElem?_cons_succ]
  go_wp2_with fail
  refine ⟨rfl, _, .agg (slC b), rfl, kyields_load (by rfl) 50 _ (by rfl) (w.heap.size + 1) 34 (slF b) (by rfl) _ 50 (fun W hW => hW.2) Try.underlying50 rfl sizeSlot, partsI_yield ?_⟩
  simp only [Act.put, List.setIfInBounds_toArray, List.set_cons_zero, List.set_cons_succ]
  simp only [List.cons_append, List.nil_append, List.append_nil, List.filterMap_cons, List.filterMap_nil, List.getElem?_toArray, List.getElem?_cons_zero, List.getElem?_cons_succ]
  go_wp2_with fail
  refine ⟨rfl, _, .pointer (some ⟨w.heap.size, 0, none⟩), rfl, Or.inl ⟨by rfl, fun W hW => by go_simp⟩, partsI_yield ?_⟩
  simp only [Act.put, List.setIfInBounds_toArray, List.set_cons_zero, List.set_cons_succ]
  simp only [List.cons_append, List.nil_append, List.append_nil, List.filterMap_cons, List.filterMap_nil, List.getElem?_toArray, List.getElem?_cons_zero, List.getElem?_cons_succ]
  go_wp2_with fail
  refine ⟨rfl, _, .int .u64 (a.1 : Int), rfl, Or.inl ⟨by rfl, fun W hW => by have hW0 : W.cell? ⟨w.heap.size, 0, none⟩ = some (.int .u64 (a.1 : Int)) := (hW.1.cell 0).trans (va_at (slF a) (by decide)); go_simp⟩, partsI_yield ?_⟩
  simp only [Act.put, List.setIfInBounds_toArray, List.set_cons_zero, List.set_cons_succ]
  simp only [List.cons_append, List.nil_append, List.append_nil, List.filterMap_cons, List.filterMap_nil, List.getElem?_toArray, List.getElem?_cons_zero, List.getElem?_cons_succ]
  go_wp2_with fail
  refine ⟨rfl, _, .pointer (some ⟨w.heap.size + 1, 0, none⟩), rfl, Or.inl ⟨by rfl, fun W hW => by go_simp⟩, partsI_yield ?_⟩
  simp only [Act.put, List.setIfInBounds_toArray, List.set_cons_zero, List.set_cons_succ]
  simp only [List.cons_append, List.nil_append, List.append_nil, List.filterMap_cons, List.filterMap_nil, List.getElem?_toArray, List.getElem?_cons_zero, List.getElem?_cons_succ]
  go_wp2_with fail
  refine ⟨rfl, _, .int .u64 (b.1 : Int), rfl, Or.inl ⟨by rfl, fun W hW => by have hW0 : W.cell? ⟨w.heap.size + 1, 0, none⟩ = some (.int .u64 (b.1 : Int)) := (hW.2.cell 0).trans (va_at (slF b) (by decide)); go_simp⟩, partsI_yield ?_⟩
  simp only [Act.put, List.setIfInBounds_toArray, List.set_cons_zero, List.set_cons_succ]
  simp only [List.cons_append, List.nil_append, List.append_nil, List.filterMap_cons, List.filterMap_nil, List.getElem?_toArray, List.getElem?_cons_zero, List.getElem?_cons_succ]
  go_wp2_with fail
  refine ⟨rfl, _, .bool (decide (b.1 < a.1)), rfl, Or.inl ⟨by rfl, fun W hW => by go_simp⟩, partsI_force ?_⟩
  simp only [Act.put, List.setIfInBounds_toArray, List.set_cons_zero, List.set_cons_succ]
  simp only [List.cons_append, List.nil_append, List.append_nil, List.filterMap_cons, List.filterMap_nil, List.getElem?_toArray, List.getElem?_cons_zero, List.getElem?_cons_succ]
  go_wp2_with fail
  refine (HAh.out _).mono ?_
  rintro e w6 ⟨rfl, hb⟩
  have ra6 := ra5.below hb ra5.lt
  have rb6 := rb5.below hb rb5.lt
  have hb6 : Below w.heap.size w w6 := hb5.trans (hb.mono hb5.size)
  clear hb ra5 rb5 hb5
  go_wp2_with fail
  refine ⟨rfl, ⟨ra6, rb6⟩, partsI_force ?_⟩
  simp only [List.cons_append, List.nil_append, List.append_nil, List.filterMap_cons, List.filterMap_nil, List.getElem?_toArray, List.getElem?_cons_zero, List.getElem?_cons_succ]
  go_wp2_with fail
  refine ⟨rfl, ⟨ra6, rb6⟩, partsI_last ?_⟩
  simp only [List.cons_append, List.nil_append, List.append_nil, List.filterMap_cons, List.filterMap_nil, List.getElem?_toArray, List.getElem?_cons_zero, List.getElem?_cons_succ]
  go_wp2_with fail
  refine ⟨rfl, ?_⟩
  go_wp2_with fail
  refine (HDe.out _).mono ?_
  rintro e w7 ⟨rfl, hb⟩
  have hb7 : Below w.heap.size w w7 := hb6.trans (hb.mono hb6.size)
  clear hb hb6 ra6 rb6
  have x0 := Blk.new w7 50 (slC sl0)
  have x1 := x0.set (slC x)
  have hb8 : Below w.heap.size w ((w7.alloc (.cells (slC sl0) 50)).setRow w7.heap.size (slC x)) := below_setRow (hb7.alloc hb7.size _) hb7.size _
  go_wp2_with (first
    | (refine wpList_store_row (by rfl) 50 _ _ (by rfl) (w7.heap.size) (slC x) (by rfl) (by rfl) 50 _ x0 (sizeSlot.trans (by rw [slC_size])) (by simp only [slC_size]) (slC_all _) ?_; simp only [Act.put, List.setIfInBounds_toArray, List.set_cons_zero, List.set_cons_succ])
    | fail)
  clear x0
  generalize ((w7.alloc (.cells (slC sl0) 50)).setRow w7.heap.size (slC x)) = w8 at *
  refine (HDr.out _).mono ?_
  rintro e w9 ⟨rfl, hb⟩
  have hb9 : Below w.heap.size w w9 := hb8.trans (hb.mono hb8.size)
  have x9 := x1.below hb x1.lt
  clear hb hb8 x1
  have y0 := Blk.new w9 36 (slC sl0)
  have y1 := y0.set (slC x)
  have xa : Blk ((w9.alloc (.cells (slC sl0) 36)).setRow w9.heap.size (slC x)) w7.heap.size 50 (slC x) := (x9.alloc _).other _ (Nat.ne_of_lt x9.lt)
  have hba : Below w.heap.size w ((w9.alloc (.cells (slC sl0) 36)).setRow w9.heap.size (slC x)) := below_setRow (hb9.alloc hb9.size _) hb9.size _
  go_wp2_with (first
    | (refine wpList_store_row (by rfl) 36 _ _ (by rfl) (w9.heap.size) (slC x) (by rfl) (by rfl) 36 _ y0 (sizeRslot.trans (by rw [slC_size])) (by simp only [slC_size]) (slC_all _) ?_; simp only [Act.put, List.setIfInBounds_toArray, List.set_cons_zero, List.set_cons_succ])
    | fail)
  clear y0 x9 hb9
  generalize ((w9.alloc (.cells (slC sl0) 36)).setRow w9.heap.size (slC x)) = wa at *
  have xad : Blk wa.drew w7.heap.size 50 (slC x) := xa
  have yad : Blk wa.drew w9.heap.size 36 (slC x) := y1
  have hbad : Below w.heap.size w wa.drew := hba.drew
  refine wp_region_partsS (fun W => Blk W w7.heap.size 50 (slC x) ∧ Blk W w9.heap.size 36 (slC x)) [([], 0, true), ([], 2, true), ([], 1, false), ([], 3, false), ([4, 5, 6], 7, false)] [8, 9] [] (by kernel_rfl) (by kernel_rfl) ⟨xa, y1⟩ (partsI_yield ?_)
  simp only [List.cons_append, List.nil_append, List.append_nil, List.filterMap_cons, List.filterMap_nil, List.getElem?_toArray, List.getElem?_cons_zero, List.getElem?_cons_succ]
  go_wp2_with fail
  refine ⟨rfl, _, .agg (slC x), rfl, kyields_load (by rfl) 50 _ (by rfl) (w7.heap.size) 34 (slF x) (by rfl) _ 50 (fun W hW => hW.1) Try.underlying50 rfl sizeSlot, partsI_yield ?_⟩
  simp only [Act.put, List.setIfInBounds_toArray, List.set_cons_zero, List.set_cons_succ]
  simp only [List.cons_append, List.nil_append, List.append_nil, List.filterMap_cons, List.filterMap_nil, List.getElem?_toArray, List.getElem?_cons_zero, List.getElem?_cons_succ]
  go_wp2_with fail
  refine ⟨rfl, _, .agg (slC x), rfl, kyields_load (by rfl) 36 _ (by rfl) (w9.heap.size) 34 (slF x) (by rfl) _ 36 (fun W hW => hW.2) Try.underlying36 rfl sizeRslot, partsI_force ?_⟩
  simp only [Act.put, List.setIfInBounds_toArray, List.set_cons_zero, List.set_cons_succ]
  simp only [List.cons_append, List.nil_append, List.append_nil, List.filterMap_cons, List.filterMap_nil, List.getElem?_toArray, List.getElem?_cons_zero, List.getElem?_cons_succ]
  go_wp2_with fail
  refine (HGi.out x _).mono ?_
  rintro e wb ⟨rfl, hb⟩
  have xb := xad.below hb xad.lt
  have yb := yad.below hb yad.lt
  have hbb : Below w.heap.size w wb := hbad.trans (hb.mono hbad.size)
  clear hb
  go_wp2_with fail
  refine ⟨rfl, ⟨xb, yb⟩, partsI_force ?_⟩
  simp only [List.cons_append, List.nil_append, List.append_nil, List.filterMap_cons, List.filterMap_nil, List.getElem?_toArray, List.getElem?_cons_zero, List.getElem?_cons_succ]
  go_wp2_with fail
  refine ⟨rfl, ⟨xb, yb⟩, partsI_force ?_⟩
  simp only [List.cons_append, List.nil_append, List.append_nil, List.filterMap_cons, List.filterMap_nil, List.getElem?_toArray, List.getElem?_cons_zero, List.getElem?_cons_succ]
  go_wp2_with fail
  refine ⟨rfl, ⟨xb, yb⟩, partsI_last ?_⟩
  simp only [List.cons_append, List.nil_append, List.append_nil, List.filterMap_cons, List.filterMap_nil, List.getElem?_toArray, List.getElem?_cons_zero, List.getElem?_cons_succ]
  go_wp2_with fail
  refine ⟨rfl, ?_⟩
  go_wp2_with fail
  go_ret
  exact ⟨rfl, hbb⟩
end Go.Proofs.Ytlmbokfgogkbmaa
