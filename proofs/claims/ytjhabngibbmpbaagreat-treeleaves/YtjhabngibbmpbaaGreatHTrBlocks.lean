/- Trees: the program's Leaf, told as one, and its Blocks. -/
import Derived.Test.YtjhabngibbmpbaaGreatHTrFolM
import Derived.Test.YtjhabngibbmpbaaGreatHTrLeaf

namespace Go.Proofs.YtjhabngibbmpbaaGreat
open Go Go.RowKit
set_option linter.unusedSimpArgs false
set_option linter.unusedVariables false
/-- what Leaf answers -/
def leafV (F : Nat → Nat) (N : Nat) (h : Int) (R : Rf) (p : Int) : (Nat → Nat) × Int := if (refV F N h R 0 p).2 = 0 then (gotF F N (refV F N h R 0 p).1, gotE F N (refV F N h R 0 p).1) else (fun _ => 0, (refV F N h R 0 p).2)
/-- what Blocks answers, of a way -/
def bksV (F : Nat → Nat) (N : Nat) (h : Int) (R : Rf) (ps : List Nat) : List (Nat → Nat) × Int :=
  if (folR F N h R ps).2 = 0 then (if (folR F N h R ps).1 = rf0 then (folB F N h R ps, 0) else if gotE F N (folR F N h R ps).1 = 0 then (folB F N h R ps ++ [gotF F N (folR F N h R ps).1], 0) else ([], gotE F N (folR F N h R ps).1)) else ([], (folR F N h R ps).2)
/-- what Blocks answers -/
def blocksV (F : Nat → Nat) (N : Nat) (h : Int) (R : Rf) (p : Int) : List (Nat → Nat) × Int := if trOk h R then (if outP h 0 p then ([], 90) else bksV F N h R (wayTo9 h 0 p)) else ([], 1)
theorem folR_lt9 (F : Nat → Nat) (N : Nat) : ∀ (ps : List Nat) (h : Int) (R : Rf), R.1 < 4294967296 → (folR F N h R ps).1.1 < 4294967296
  | [], _, _, hR => hR
  | p :: ps, h, R, hR => by
    unfold folR
    split
    · exact (by decide : (0 : Nat) < 4294967296)
    · split
      · exact folR_lt9 F N ps _ _ (decK_lt _ _)
      · exact (by decide : (0 : Nat) < 4294967296)
theorem folB_len (F : Nat → Nat) (N : Nat) : ∀ (ps : List Nat) (h : Int) (R : Rf), (folB F N h R ps).length ≤ ps.length
  | [], _, _ => by simp [folB]
  | p :: ps, h, R => by
    unfold folB
    split
    · simp
    · split
      · have := folB_len F N ps (h - 1) (decK (gotF F N R) p)
        simp
        omega
      · simp
theorem refV_lt (F : Nat → Nat) (N : Nat) (h : Int) (R : Rf) (hR : R.1 < 4294967296) (l p : Int) : (refV F N h R l p).1.1 < 4294967296 := by
  unfold refV
  split
  · split
    · exact (by decide : (0 : Nat) < 4294967296)
    · exact folR_lt9 F N _ _ _ hR
  · exact (by decide : (0 : Nat) < 4294967296)
theorem own_nil9 (w : World) (B : Nat) : w.ownsRow B 38 256 (.slice none 0 0) ([] : List (Nat → Nat)).length (bkL []) := ⟨rfl, .inl ⟨rfl, rfl⟩⟩
section
variable {B g N c m room i : Nat} {F : Nat → Nat} {U : Nat → Prop}
theorem leaf9_any (h : Int) (R : Rf) (hR : R.1 < 4294967296) (hD : okD R.2) (hF : ∀ a, F a < 256) (p : Int) (hi : i < 34359738368) (w : World) (H : TD w B g N F c m room i U) : Calls Tryz.prog 13 #[.pointer (some ⟨c, 0, none⟩), .agg (trC h R), .int .i64 p] w fun x w' => x = .returned (.tuple #[.agg (va 256 (iv .u8 (leafV F N h R p).1)), .int .i64 (leafV F N h R p).2]) ∧ TDStep w w' B g N F c m room (i + 7) U := by
  have hRef := fun w H => ref9_any (B := B) (g := g) (N := N) (c := c) (m := m) (room := room) (i := i) (F := F) (U := U) h R hR hD hF 0 p hi w H
  have hlt := refV_lt F N h R hR 0 p
  unfold leafV
  generalize refV F N h R 0 p = rv at *
  obtain ⟨r, er⟩ := rv
  by_cases h0 : er = 0
  · simp only [if_pos h0]
    exact leaf_ok h R p er r hlt h0 (by omega) hRef w H
  · simp only [if_neg h0]
    exact (leaf_no h R p er r h0 hRef w H).mono fun x w' ⟨e, V, h1, h2⟩ => ⟨e, V, h1.mono (by omega), h2⟩
set_option maxRecDepth 100000 in
set_option maxHeartbeats 4000000 in
theorem blocks_no (h : Int) (R : Rf) (p er : Int) (her : er ≠ 0) (hWT : ∀ w, Calls Tryz.prog 42 #[.agg (trC h R), .int .i64 0, .int .i64 p] w fun x w' => x = .returned (.tuple #[.slice none 0 0, .int .i64 er]) ∧ Below w.heap.size w w') (cp : Option Addr) (w : World) : Calls Tryz.prog 15 #[.pointer cp, .agg (trC h R), .int .i64 p] w fun x w' => x = .returned (.tuple #[.slice none 0 0, .int .i64 er]) ∧ Below w.heap.size w w' := by
  have hb1 : Below w.heap.size w (w.alloc (.cells (trC h R) 46)) := below_new1 _ _
  have t1 : Blk (w.alloc (.cells (trC h R) 46)) w.heap.size 46 (trC h R) := Blk.new _ _ _
  have hne2 : (er != 0) = true := by simp [her]
  have hne3 : decide (er = 0) = false := decide_eq_false her
  have HW : Hid (∀ w, Calls Tryz.prog 42 #[.agg (trC h R), .int .i64 0, .int .i64 p] w fun x w' => x = .returned (.tuple #[.slice none 0 0, .int .i64 er]) ∧ Below w.heap.size w w') := hWT
  clear hWT
  go_enter Tryz.func15, Tryz.ntmps15
  go_wp2_with (first
    | (refine wpList_load_rowg (by rfl) 46 _ (by rfl) (w.heap.size) (by rfl) 46 (trC h R) (0, 0) _ (by exact t1) Tryz.underlying46 (by rfl) (sizeTr.trans (by rw [trC_size])) ?_; simp only [Act.put, List.setIfInBounds_toArray, List.set_cons_zero, List.set_cons_succ])
    | fail)
  generalize (w.alloc (.cells (trC h R) 46)) = w1 at *
  refine (HW.out w1).mono ?_
  rintro x w2 ⟨rfl, hb2⟩
  have hb12 : Below w.heap.size w w2 := hb1.trans (hb2.mono hb1.size)
  clear t1 hb2 hb1
  go_wp2_with fail
  go_ret2
  exact ⟨rfl, hb12⟩
/-- what Blocks leaves -/
def BlP (w w' : World) (B g N : Nat) (F : Nat → Nat) (c m room i : Nat) (U : Nat → Prop) (e : Ending) (L : List (Nat → Nat)) (er : Int) : Prop := ∃ v, e = .returned (.tuple #[v, .int .i64 er]) ∧ w'.ownsRow w.heap.size 38 256 v L.length (bkL L) ∧ TDStep w w' B g N F c m room i U
set_option maxRecDepth 100000 in
set_option maxHeartbeats 16000000 in
theorem blocks_ok (h : Int) (R : Rf) (hR : R.1 < 4294967296) (hD : okD R.2) (hF : ∀ a, F a < 256) (hok : trOk h R) (q : Nat) (n : Nat) (hn : h = (n : Int)) (hp : q < 4 ^ n) (hi : i < 34359738368) (w : World) (H : TD w B g N F c m room i U) : Calls Tryz.prog 15 #[.pointer (some ⟨c, 0, none⟩), .agg (trC h R), .int .i64 (q : Int)] w fun x w' => BlP w w' B g N F c m room (i + 7) U x (bksV F N h R ((List.range n).map (wayN n q))).1 (bksV F N h R ((List.range n).map (wayN n q))).2 := by
  have hz := zero_ref
  have hzb := zero_bk
  obtain ⟨i0, hi0, hz0, hz1, hz2⟩ := info_parts infoBkA
  have hb1 : Below w.heap.size w (w.alloc (.cells (trC h R) 46)) := below_new1 _ _
  have t1 : Blk (w.alloc (.cells (trC h R) 46)) w.heap.size 46 (trC h R) := Blk.new _ _ _
  have HB1 : Hid (Below w.heap.size w (w.alloc (.cells (trC h R) 46))) := hb1
  have HW : Hid (∀ w, Calls Tryz.prog 42 #[.agg (trC h R), .int .i64 0, .int .i64 (q : Int)] w fun x w' => ∃ b, x = .returned (.tuple #[.slice (some ⟨b, 0, none⟩) n n, .int .i64 0]) ∧ w.heap.size ≤ b ∧ Blk w' b 3 (va n (iv .i64 (wayN n q))) ∧ Below w.heap.size w w') := fun w => wayTo_ok h R hR hD hok 0 q (q : Int) rfl ⟨Int.le_refl _, hok.2.1⟩ n (by omega) hp w
  have HFo : Hid (∀ (wb bx Bm : Nat) (mv : Value) (w : World), TD w B g N F c m room i U → Blk w wb 3 (va n (iv .i64 (wayN n q))) → ¬ U wb → MB w bx Bm mv [] → (∀ b, gft bx mv b → ¬ U b) → ¬ gft bx mv wb → Bm ≤ w.heap.size → Calls Tryz.prog 43 #[.pointer (some ⟨c, 0, none⟩), .agg (trC h R), .slice (some ⟨wb, 0, none⟩) n n, .func (.func 44) #[] #[.pointer (some ⟨bx, 0, none⟩)]] w fun x w' => x = .returned (.tuple #[.agg (rfC (folR F N h R ((List.range n).map (wayN n q))).1), .int .i64 (folR F N h R ((List.range n).map (wayN n q))).2]) ∧ FolM w w' B g N F c m room (i + 6) U bx Bm mv (folB F N h R ((List.range n).map (wayN n q)))) := fun wb bx Bm mv w h1 h2 h3 h4 h5 h6 h7 => by
    have := follow_met h hok.2 R hR hF ((List.range n).map (wayN n q)) (fun p hp => by
      obtain ⟨j, _, rfl⟩ := List.mem_map.1 hp
      exact wayN_lt _ _ _) (by rw [List.length_map, List.length_range]; have := hok.2; omega) hi wb n w h1 (way_cells h2) h2.lt h3 h4 h5 h6 h7
    rw [List.length_map, List.length_range] at this
    exact this
  have HT0 : Hid (TD w B g N F c m room i U) := H
  have hlt := folR_lt9 F N ((List.range n).map (wayN n q)) h R hR
  have hlen := folB_len F N ((List.range n).map (wayN n q)) h R
  rw [List.length_map, List.length_range] at hlen
  have h2 := hok.2
  have hl6 : (folB F N h R ((List.range n).map (wayN n q))).length ≤ 6 := by omega
  have HI : Hid (i < 34359738368) := hi
  clear H hR hD hF hok hn hp hi hb1 hlen h2
  unfold bksV
  generalize folR F N h R ((List.range n).map (wayN n q)) = an at *
  generalize folB F N h R ((List.range n).map (wayN n q)) = L at *
  obtain ⟨a1, a2⟩ := an
  have HGt : Hid (∀ (V : Nat → Prop) (w : World), TD w B g N F c m room (i + 6) V → Calls Tryz.prog 41 #[.pointer (some ⟨c, 0, none⟩), .agg (rfC a1)] w fun x w' => x = .returned (.tuple #[.agg (va 256 (iv .u8 (gotF F N a1))), .int .i64 (gotE F N a1)]) ∧ TDStep w w' B g N F c m room (i + 7) V) := fun V w h1 => get_td a1 hlt (by have := HI.out; omega) w h1
  obtain ⟨ln, hln⟩ : ∃ ln, L.length = ln := ⟨_, rfl⟩
  have HLN : Hid (L.length = ln ∧ ln ≤ 6) := ⟨hln, hln ▸ hl6⟩
  clear hlt hl6 hln
  simp only
  generalize gotF F N a1 = gf at *
  generalize gotE F N a1 = ge at *
  obtain ⟨bl, be, hbv⟩ : ∃ bl be, (if a2 = 0 then (if a1 = rf0 then (L, 0) else if ge = 0 then (L ++ [gf], 0) else ([], ge)) else ([], a2)) = ((bl, be) : List (Nat → Nat) × Int) := ⟨_, _, rfl⟩
  rw [hbv]
  have HBV : Hid ((if a2 = 0 then (if a1 = rf0 then (L, 0) else if ge = 0 then (L ++ [gf], 0) else ([], ge)) else ([], a2)) = ((bl, be) : List (Nat → Nat) × Int)) := hbv
  clear hbv
  go_enter Tryz.func15, Tryz.ntmps15
  go_wp2_with (first
    | (refine wpList_load_rowg (by rfl) 46 _ (by rfl) (w.heap.size) (by rfl) 46 (trC h R) (0, 0) _ (by exact t1) Tryz.underlying46 (by rfl) (sizeTr.trans (by rw [trC_size])) ?_; simp only [Act.put, List.setIfInBounds_toArray, List.set_cons_zero, List.set_cons_succ])
    | fail)
  generalize (w.alloc (.cells (trC h R) 46)) = w1 at *
  refine (HW.out w1).mono ?_
  rintro x w2 ⟨b, rfl, hbb, kb, hb2⟩
  have t2 := t1.below hb2 t1.lt
  have hb12 : Below w.heap.size w w2 := HB1.out.trans (hb2.mono HB1.out.size)
  have t3 : Blk (w2.alloc (.cells #[.slice none 0 0] 48)) w.heap.size 46 (trC h R) := t2.alloc _
  have hb3 : Below w.heap.size w (w2.alloc (.cells #[.slice none 0 0] 48)) := hb12.trans ((below_new1 _ _).mono hb12.size)
  have HB3 : Hid (Below w.heap.size w (w2.alloc (.cells #[.slice none 0 0] 48))) := hb3
  have HKB : Hid (Blk (w2.alloc (.cells #[.slice none 0 0] 48)) b 3 (va n (iv .i64 (wayN n q)))) := kb.alloc _
  have HT3 : Hid (TD (w2.alloc (.cells #[.slice none 0 0] 48)) B g N F c m room i U) := HT0.out.below hb3
  have HM3 : Hid (MB (w2.alloc (.cells #[.slice none 0 0] 48)) w2.heap.size w.heap.size (.slice none 0 0) []) := ⟨Blk.new _ _ _, own_nil9 _ _, by simp [Value.ownBlock]⟩
  have HXB : Hid (w.heap.size ≤ w2.heap.size ∧ (∀ z, gft w2.heap.size (.slice none 0 0) z → z = w2.heap.size) ∧ ¬ U b ∧ b < w2.heap.size) := ⟨hb12.size, fun z q => by
    rcases q with q | q
    · exact q
    · simp [Value.ownBlock] at q, fun z => by have h1 := (HT0.out.lt _ z).2; have h2 := HB1.out.size; omega, kb.lt⟩
  clear hb2 hbb kb t1 t2 hb12 hb3
  go_upto_region 5 with fail
  generalize (w2.alloc (.cells #[.slice none 0 0] 48)) = w3 at *
  generalize w2.heap.size = bx at *
  go_wp2_with (first
    | (refine wpList_load_rowg (by rfl) 46 _ (by rfl) (w.heap.size) (by rfl) 46 (trC h R) (0, 0) _ (by exact t3) Tryz.underlying46 (by rfl) (sizeTr.trans (by rw [trC_size])) ?_; simp only [Act.put, List.setIfInBounds_toArray, List.set_cons_zero, List.set_cons_succ])
    | fail)
  refine (HFo.out b bx w.heap.size (.slice none 0 0) w3 HT3.out HKB.out HXB.out.2.2.1 HM3.out (fun z q q2 => by have h1 := HXB.out.2.1 z q; have h2 := (HT0.out.lt _ q2).2; have h3 := HXB.out.1; omega) (fun q => by have h1 := HXB.out.2.1 _ q; have h2 := HXB.out.2.2.2; omega) HB3.out.size).mono ?_
  rintro x w4 ⟨rfl, V, v, ht4, hm4, hn4, hv4, hg4, ha4⟩
  have hT4 : Turns U w w4 := (Turns.of_below (S := U) HB3.out).trans hn4 fun z q => by
    rcases q with q | q
    · exact .inl q
    · have := HXB.out.2.1 z q
      have := HXB.out.1
      exact .inr (by omega)
  have hV4 : ∀ x, V x → U x ∨ w.heap.size ≤ x := fun z q => (hv4 z q).imp id fun u => Nat.le_trans HB3.out.size u
  have q0 : Blk (w4.alloc (.cells (rfC rf0) 44)) w4.heap.size 44 (rfC rf0) := Blk.new _ _ _
  have hb5 : Below w4.heap.size w4 ((w4.alloc (.cells (rfC rf0) 44)).setRow w4.heap.size (rfC a1)) := below_setRow (below_new1 _ _) (Nat.le_refl _) _
  have r5 : Blk ((w4.alloc (.cells (rfC rf0) 44)).setRow w4.heap.size (rfC a1)) w4.heap.size 44 (rfC a1) := q0.set _
  have HT5 : Hid (TD ((w4.alloc (.cells (rfC rf0) 44)).setRow w4.heap.size (rfC a1)) B g N F c m room (i + 6) V) := ht4.below hb5
  have HM5 : Hid (MB ((w4.alloc (.cells (rfC rf0) 44)).setRow w4.heap.size (rfC a1)) bx w.heap.size v L) := hm4.below hb5
  have HN5 : Hid (Turns U w ((w4.alloc (.cells (rfC rf0) 44)).setRow w4.heap.size (rfC a1))) := hT4.trans (Turns.of_below (S := U) hb5) fun z q => .inl q
  have HV5 : Hid ((∀ x, V x → U x ∨ w.heap.size ≤ x) ∧ (∀ x, gft bx v x → ¬ V x) ∧ ¬ V w4.heap.size) := ⟨hV4, ha4, fun q => by have := (ht4.lt _ q).2; omega⟩
  clear ht4 hm4 hn4 hv4 hg4 ha4 hT4 hV4 hb5 t3 HFo HW HT3 HM3 HKB HB3
  go_upto_region 6 with (first
    | (refine wpList_store_row (by rfl) 44 _ _ (by rfl) (w4.heap.size) (rfC a1) (by rfl) (by rfl) 44 (_) (by exact q0) (tsizeRef.trans (by rw [rfC_size])) (by simp only [rfC_size]) (rfC_all _) ?_; simp only [Act.put, List.setIfInBounds_toArray, List.set_cons_zero, List.set_cons_succ])
    | fail)
  clear q0
  generalize ((w4.alloc (.cells (rfC rf0) 44)).setRow w4.heap.size (rfC a1)) = w5 at *
  generalize w4.heap.size = rb at *
  by_cases he0 : a2 = 0
  · subst he0
    by_cases hr0 : a1 = rf0
    · subst hr0
      obtain ⟨rfl, rfl⟩ : L = bl ∧ 0 = be := by
        have e := HBV.out
        simp only [eq_self_iff_true, if_true] at e
        exact Prod.mk.inj e
      have hNn : Hid (∀ w, Calls Tryz.prog 45 #[.agg (rfC rf0)] w fun e w' => e = .returned (.bool true) ∧ Below w.heap.size w w') := fun w => by
        have := none_any rf0 w
        rw [decide_eq_true rfl] at this
        exact this
      go_wp2_with (first
        | (refine wpList_load_rowg (by rfl) 44 _ (by rfl) (rb) (by rfl) 44 (rfC rf0) (0, 0) _ (by exact r5) Tryz.underlying44 (by rfl) (tsizeRef.trans (by rw [rfC_size])) ?_; simp only [Act.put, List.setIfInBounds_toArray, List.set_cons_zero, List.set_cons_succ])
        | fail)
      refine (hNn.out w5).mono ?_
      rintro x w6 ⟨rfl, hb6⟩
      have HM6 : Hid (MB w6 bx w.heap.size v L) := HM5.out.below hb6
      have HT6 : Hid (TD w6 B g N F c m room (i + 6) V) := HT5.out.below hb6
      have HN6 : Hid (Turns U w w6) := HN5.out.trans (Turns.of_below (S := U) hb6) fun z q => .inl q
      have c6 : w6.cell? ⟨bx, 0, none⟩ = some v := (HM6.out.1.cell 0).trans rfl
      clear hb6 r5 HM5 HT5 HN5
      go_wp2_with fail
      go_ret2
      exact ⟨v, rfl, HM6.out.2.1, V, HT6.out.mono (by omega), HN6.out, HV5.out.1⟩
    · have hNn : Hid (∀ w, Calls Tryz.prog 45 #[.agg (rfC a1)] w fun e w' => e = .returned (.bool false) ∧ Below w.heap.size w w') := fun w => by
        have := none_any a1 w
        rw [decide_eq_false hr0] at this
        exact this
      go_wp2_with (first
        | (refine wpList_load_rowg (by rfl) 44 _ (by rfl) (rb) (by rfl) 44 (rfC a1) (0, 0) _ (by exact r5) Tryz.underlying44 (by rfl) (tsizeRef.trans (by rw [rfC_size])) ?_; simp only [Act.put, List.setIfInBounds_toArray, List.set_cons_zero, List.set_cons_succ])
        | fail)
      refine (hNn.out w5).mono ?_
      rintro x w6 ⟨rfl, hb6⟩
      have r6 := r5.below hb6 r5.lt
      have HM6 : Hid (MB w6 bx w.heap.size v L) := HM5.out.below hb6
      have HT6 : Hid (TD w6 B g N F c m room (i + 6) V) := HT5.out.below hb6
      have HN6 : Hid (Turns U w w6) := HN5.out.trans (Turns.of_below (S := U) hb6) fun z q => .inl q
      clear hb6 r5 HM5 HT5 HN5 hNn
      go_wp2_with (first
        | (refine wpList_load_rowg (by rfl) 44 _ (by rfl) (rb) (by rfl) 44 (rfC a1) (0, 0) _ (by exact r6) Tryz.underlying44 (by rfl) (tsizeRef.trans (by rw [rfC_size])) ?_; simp only [Act.put, List.setIfInBounds_toArray, List.set_cons_zero, List.set_cons_succ])
        | fail)
      refine (HGt.out V w6 HT6.out).mono ?_
      rintro x w7 ⟨rfl, V7, ht7, hn7, hv7⟩
      have hm7 : MB w7 bx w.heap.size v L := HM6.out.keep hn7 fun z q q2 => HV5.out.2.1 z q2 q
      have hN7 : Turns U w w7 := HN6.out.trans hn7 HV5.out.1
      have hV7 : (∀ x, V7 x → U x ∨ w.heap.size ≤ x) := fun z q => by
        rcases hv7 z q with u | u
        · exact HV5.out.1 z u
        · exact .inr (Nat.le_trans HN6.out.size u)
      have ha7 : ∀ x, gft bx v x → ¬ V7 x := fun z q q2 => by
        rcases hv7 z q2 with u | u
        · exact HV5.out.2.1 z q u
        · have := HM6.out.lt z q
          omega
      have q0 : Blk (w7.alloc (.cells (va 256 (iv .u8 fun _ => 0)) 38)) w7.heap.size 38 (va 256 (iv .u8 fun _ => 0)) := Blk.new _ _ _
      have hb8 : Below w7.heap.size w7 ((w7.alloc (.cells (va 256 (iv .u8 fun _ => 0)) 38)).setRow w7.heap.size (va 256 (iv .u8 gf))) := below_setRow (below_new1 _ _) (Nat.le_refl _) _
      have k8 : Blk ((w7.alloc (.cells (va 256 (iv .u8 fun _ => 0)) 38)).setRow w7.heap.size (va 256 (iv .u8 gf))) w7.heap.size 38 (va 256 (iv .u8 gf)) := q0.set _
      have HT8 : Hid (TD ((w7.alloc (.cells (va 256 (iv .u8 fun _ => 0)) 38)).setRow w7.heap.size (va 256 (iv .u8 gf))) B g N F c m room (i + 7) V7) := ht7.below hb8
      have HM8 : Hid (MB ((w7.alloc (.cells (va 256 (iv .u8 fun _ => 0)) 38)).setRow w7.heap.size (va 256 (iv .u8 gf))) bx w.heap.size v L) := hm7.below hb8
      have HN8 : Hid (Turns U w ((w7.alloc (.cells (va 256 (iv .u8 fun _ => 0)) 38)).setRow w7.heap.size (va 256 (iv .u8 gf)))) := hN7.trans (Turns.of_below (S := U) hb8) fun z q => .inl q
      have HV8 : Hid ((∀ x, V7 x → U x ∨ w.heap.size ≤ x) ∧ (∀ x, gft bx v x → ¬ V7 x)) := ⟨hV7, ha7⟩
      clear ht7 hn7 hv7 hm7 hN7 hV7 ha7 hb8 r6 HT6 HM6 HN6 HV5 HGt
      go_upto_region 11 with (first
        | (refine wpList_store_row (by rfl) 38 _ _ (by rfl) (w7.heap.size) (va 256 (iv .u8 gf)) (by rfl) (by rfl) 38 _ q0 (sizeBk.trans (by rw [va_size])) (by simp only [va_size]) (iv_one _ _ _) ?_; simp only [Act.put, List.setIfInBounds_toArray, List.set_cons_zero, List.set_cons_succ])
        | fail)
      clear q0
      generalize ((w7.alloc (.cells (va 256 (iv .u8 fun _ => 0)) 38)).setRow w7.heap.size (va 256 (iv .u8 gf))) = w8 at *
      generalize w7.heap.size = kb at *
      by_cases hg0 : ge = 0
      · subst hg0
        obtain ⟨rfl, rfl⟩ : L ++ [gf] = bl ∧ 0 = be := by
          have e := HBV.out
          simp only [eq_self_iff_true, if_true, if_neg hr0] at e
          exact Prod.mk.inj e
        obtain ⟨qa, ka, hv⟩ := kown_slice HM8.out.2.1
        rw [HLN.out.1] at hv
        subst hv
        have c8 : w8.cell? ⟨bx, 0, none⟩ = some (.slice qa ln ka) := (HM8.out.1.cell 0).trans rfl
        have HO9 : Hid ((w8.alloc (.cells (va 256 (iv .u8 gf)) 38)).ownsRow w.heap.size 38 256 (.slice qa ln ka) ln (bkL L)) := by
          have := (HM8.out.below (below_new1 w8 (.cells (va 256 (iv .u8 gf)) 38))).2.1
          rw [HLN.out.1] at this
          exact this
        have HNEW : Hid (∀ j u, (va 256 (iv .u8 gf)).toList[j]? = some u → (w8.alloc (.cells (va 256 (iv .u8 gf)) 38)).cell? ((⟨w8.heap.size, 0, none⟩ : Addr).add j) = some u) := cells_new w8 _ _
        have HMEM : Hid (∀ u ∈ (va 256 (iv .u8 gf)).toList, u.oneCell' = true) := kva_mem_one 256 gf
        have HLEN : Hid ((va 256 (iv .u8 gf)).toList.length = 1 * 256) := by
          show _ = _
          rw [va_toList]
          simp
        have HS9 : Hid (w.heap.size ≤ (w8.alloc (.cells (va 256 (iv .u8 gf)) 38)).heap.size) := by
          have := HN8.out.size
          show _ ≤ _
          simp
          omega
        have l6 := HLN.out.2
        go_wp2_with (first
          | (refine wpList_load_row (by rfl) 38 _ (by rfl) (kb) (by rfl) 38 (va 256 (iv .u8 gf)) (0, 0) _ k8 Tryz.underlying38 (by rfl) (sizeBk.trans (by rw [va_size])) ?_; simp only [Act.put, List.setIfInBounds_toArray, List.set_cons_zero, List.set_cons_succ])
          | (refine wpList_build1 (by rfl) 48 38 _ (by rfl) (va 256 (iv .u8 gf)) (by rfl) i0 _ 256 Tryz.underlying48 hi0 hz0 hz1 (va_size _ _) (by decide) (by decide) ?_; simp only [Act.put, List.setIfInBounds_toArray, List.set_cons_zero, List.set_cons_succ])
          | (at_builtin; refine wpList_append_own_at (by rfl) _ _ 48 (by rfl) w.heap.size 38 i0 (.agg (va 256 (iv .u8 fun _ => 0))) 256 256 Tryz.underlying48 hi0 hz0 hz1 hz2 (va_size _ _) (by decide) _ ln _ (by rfl) (by exact HO9.out) ⟨w8.heap.size, 0, none⟩ 1 1 (va 256 (iv .u8 gf)).toList (by rfl) HLEN.out (by exact HNEW.out) (by exact HMEM.out) (by unfold maxLen; omega) (by omega) (by exact HS9.out) (fun v2 U2 ho2 hg2 ha2 => ?_); obtain ⟨q2, k2, rfl⟩ := kown_slice ho2; simp only [Act.put, List.setIfInBounds_toArray, List.set_cons_zero, List.set_cons_succ])
          | fail)
        go_ret2
        have hb9 : Below w8.heap.size w8 (w8.alloc (.cells (va 256 (iv .u8 gf)) 38)) := below_new1 _ _
        have hT9 := HT8.out.below hb9
        obtain ⟨g1, g2, g3, g4, g5⟩ := hg2
        have tg : Turns (fun z => some z = (Value.slice qa ln ka).ownBlock) (w8.alloc (.cells (va 256 (iv .u8 gf)) 38)) U2 := ⟨g1, g2, g3, g4, fun b hb hn => g5 b hb fun q => hn q⟩
        refine ⟨_, rfl, ?_, V7, hT9.kept tg.size fun z hz => tg.block z (hT9.lt z hz).2 fun q => HV8.out.2 z (.inr q.symm) hz, ?_, HV8.out.1⟩
        · rw [List.length_append, HLN.out.1, bkL_snoc]
          exact ho2
        · refine (HN8.out.trans (Turns.of_below (S := U) hb9) fun z q => .inl q).trans tg fun z q => ?_
          exact .inr (HO9.out.lt z q.symm).1
      · obtain ⟨rfl, rfl⟩ : [] = bl ∧ ge = be := by
          have e := HBV.out
          simp only [eq_self_iff_true, if_true, if_neg hr0, if_neg hg0] at e
          exact Prod.mk.inj e
        have hne2 : (ge != 0) = true := by simp [hg0]
        have hne3 : decide (ge = 0) = false := decide_eq_false hg0
        go_wp2_with fail
        go_ret2
        exact ⟨_, rfl, own_nil9 _ _, V7, HT8.out, HN8.out, HV8.out.1⟩
  · obtain ⟨rfl, rfl⟩ : [] = bl ∧ a2 = be := by
      have e := HBV.out
      simp only [if_neg he0] at e
      exact Prod.mk.inj e
    have hne2 : (a2 != 0) = true := by simp [he0]
    have hne3 : decide (a2 = 0) = false := decide_eq_false he0
    go_wp2_with fail
    go_ret2
    exact ⟨_, rfl, own_nil9 _ _, V, HT5.out.mono (by omega), HN5.out, HV5.out.1⟩
theorem blocks9_any (h : Int) (R : Rf) (hR : R.1 < 4294967296) (hD : okD R.2) (hF : ∀ a, F a < 256) (p : Int) (hi : i < 34359738368) (w : World) (H : TD w B g N F c m room i U) : Calls Tryz.prog 15 #[.pointer (some ⟨c, 0, none⟩), .agg (trC h R), .int .i64 p] w fun x w' => BlP w w' B g N F c m room (i + 7) U x (blocksV F N h R p).1 (blocksV F N h R p).2 := by
  have no : ∀ er : Int, er ≠ 0 → blocksV F N h R p = ([], er) → (∀ w, Calls Tryz.prog 42 #[.agg (trC h R), .int .i64 0, .int .i64 p] w fun x w' => x = .returned (.tuple #[.slice none 0 0, .int .i64 er]) ∧ Below w.heap.size w w') → Calls Tryz.prog 15 #[.pointer (some ⟨c, 0, none⟩), .agg (trC h R), .int .i64 p] w fun x w' => BlP w w' B g N F c m room (i + 7) U x (blocksV F N h R p).1 (blocksV F N h R p).2 := fun er h1 h2 h3 => by
    rw [h2]
    exact (blocks_no h R p er h1 h3 _ w).mono fun x w' ⟨e, hb⟩ => ⟨_, e, own_nil9 _ _, .of_below (H.mono (by omega)) hb⟩
  by_cases hok : trOk h R
  · by_cases hout : outP h 0 p
    · refine no 90 (by decide) (by unfold blocksV; rw [if_pos hok, if_pos hout]) ?_
      rcases hout with h1 | h1 | h1
      · exact absurd h1 (by decide)
      · exact wayTo_hi h R hR hD hok 0 p h1
      · exact wayTo_place h R hR hD hok 0 p ⟨Int.le_refl _, hok.2.1⟩ (h - 0).toNat (by have := hok.2; omega) h1
    · unfold outP at hout
      have hp : 0 ≤ p := by omega
      have h02 := hok.2
      have := blocks_ok h R hR hD hF hok p.toNat h.toNat (by omega) (by rw [show h - 0 = h by omega] at hout; omega) hi w H
      rw [Int.toNat_of_nonneg hp] at this
      have e : blocksV F N h R p = bksV F N h R ((List.range h.toNat).map (wayN h.toNat p.toNat)) := by
        unfold blocksV wayTo9
        rw [if_pos hok, if_neg (show ¬ outP h 0 p from hout), show h - 0 = h by omega]
      rw [e]
      exact this
  · exact no 1 (by decide) (by unfold blocksV; rw [if_neg hok]) (wayTo_arg h R hR hD hok 0 p)
end
end Go.Proofs.YtjhabngibbmpbaaGreat
