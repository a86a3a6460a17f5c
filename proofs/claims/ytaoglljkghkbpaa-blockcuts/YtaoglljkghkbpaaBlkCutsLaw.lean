/- The statement BlockCuts, if what it calls returns what it does. -/
import Derived.Test.YtaoglljkghkbpaaBlkRefCut
import Derived.Test.YtaoglljkghkbpaaBlkJoin
import Derived.Test.YtaoglljkghkbpaaBlkDiff
import Derived.Laws.AppendOwnNone
import Derived.Laws.Concat
import Derived.Handy
namespace Go.Proofs.Ytaoglljkghkbpaa
open Go.RowKit
set_option linter.unusedSimpArgs false
set_option linter.unusedVariables false

theorem IsBlks.cell {w : World} {ad : Addr} {n : Nat} {L : Nat → Nat → Nat} (h : IsBlks w (some ad) n L) : ∀ j u, (byL (flatL L) (n * 256))[j]? = some u → w.cell? (ad.add j) = some u := fun j u hu => by
  have hj : j < n * 256 := by
    have := (List.getElem?_eq_some_iff.1 hu).1
    rwa [byL_length] at this
  obtain ⟨b, o, e, _, hr⟩ := h (j / 256) (by omega)
  obtain rfl := Option.some.inj e
  rw [byL_at _ _ _ hj] at hu
  have := hr (j % 256) (iv .u8 (L (j / 256)) (j % 256)) (by simp [Nat.mod_lt])
  rw [Addr.add_mid, show o + j = o + j / 256 * 256 + j % 256 by omega, this]
  exact hu
set_option maxRecDepth 100000 in
/-- blocks that came in, appended to none -/
theorem wpList_append_blks {P : Program} {ops : Array Oper} {rest : List Oper} {o : Oper} {a : Act} {w : World} {Q : Exit → Act → World → Prop} (hgd : o.guard = none) (s x : Operand) (t : TypeId)
    (ho : o.op = .call { callee := .builtin .append, args := #[s, x], argTypes := #[t, t] }) (B : Nat) (e : TypeId) (i : TypeInfo) (z : Value) (ht : P.underlying t = some (.slice e)) (hi : P.info? e = some i) (hz : i.zero = some z) (hsize : i.size = 256) (hby : i.bytes = 256) (hzs : z.cells.size = 256)
    (v : Value) (hs : a.eval s = v) (hown : w.ownsRow B e 256 v 0 []) (a1 : Option Addr) (n c : Nat) (L : Nat → Nat → Nat) (hx : a.eval x = .slice a1 n c) (hB : IsBlks w a1 n L) (hN : a1 = none → n = 0 ∧ c = 0) (hn : n * 256 ≤ 140737488351232) (hbase : B ≤ w.heap.size)
    (h : ∀ v' w', w'.ownsRow B e 256 v' n (byL (flatL L) (n * 256)) → Below B w w' → wpList P ops Q rest (a.put o.dst v') w') : wpList P ops Q (o :: rest) a w := by
  cases a1 with
  | none =>
    obtain ⟨rfl, rfl⟩ := hN rfl
    exact wpList_append_own_none hgd s x t ho B e i 256 ht hi v 0 [] hs hown hx (h v w hown (Below.refl _ _))
  | some ad =>
    have hv := hown.lt
    refine wpList_append_own w hgd s x t ho B e i z 256 256 ht hi hz hsize hby hzs (by decide) v 0 [] hs hown ad n c (byL (flatL L) (n * 256)) hx (byL_length _ _) hB.cell (mem_iv_one _ _ _) (by unfold maxLen; omega) (by omega) hbase fun v' w' h1 h2 _ => ?_
    rw [List.nil_append, Nat.zero_add] at h1
    exact h v' w' h1 ((Below.refl _ _).grown h2 hbase (fun k hk => (hv k hk).1))
theorem flat_text (L : Nat → Nat → Nat) (k : Nat) : strN (flatL L) (256 * k) ++ strN (L k) 256 = strN (flatL L) (256 * (k + 1)) := by
  refine text_ext (by rw [ByteArray.size_append, strN_size, strN_size, strN_size]; omega) fun j hj => ?_
  rw [ByteArray.size_append, strN_size, strN_size] at hj
  rw [strN_mod _ _ _ (by omega)]
  unfold tbyte
  have hs1 : (strN (flatL L) (256 * k)).data.toList.length = 256 * k := (Array.length_toList).trans (strN_size _ _)
  have hs2 : (strN (L k) 256).data.toList.length = 256 := (Array.length_toList).trans (strN_size _ _)
  rw [show (strN (flatL L) (256 * k) ++ strN (L k) 256).data.toList = (strN (flatL L) (256 * k)).data.toList ++ (strN (L k) 256).data.toList by simp]
  by_cases h : j < 256 * k
  · have := strN_mod (flatL L) (256 * k) j h
    unfold tbyte at this
    rw [← this, List.getD_eq_getElem?_getD, List.getD_eq_getElem?_getD, List.getElem?_append_left (by omega)]
  · have := strN_mod (L k) 256 (j - 256 * k) (by omega)
    unfold tbyte at this
    rw [List.getD_eq_getElem?_getD, List.getElem?_append_right (by omega), hs1, ← List.getD_eq_getElem?_getD, this]
    unfold flatL
    rw [show j / 256 = k by omega, show j % 256 = j - 256 * k by omega]

set_option maxRecDepth 100000 in
set_option maxHeartbeats 16000000 in
theorem blockCutsLaw (s : ByteArray) (hs : s.size ≤ 140737488351232) (a1 : Option Addr) (n c : Nat) (hn : n * 256 ≤ 140737488351232) (L : Nat → Nat → Nat) (hL : ∀ i j, L i j < 256) (m : Int) (hm : -9223372036854775808 ≤ m ∧ m ≤ 9223372036854775807) (w : World) (h : IsBlks w a1 n L) (hN : a1 = none → n = 0 ∧ c = 0) :
    Calls Try.prog 5 #[.string s, .slice a1 n c, .int .i64 m] w fun e w' => e = .returned (.bool true) ∧ Below w.heap.size w w' := by
  have hA : Hid (∀ w : World, Calls Try.prog 9 #[] w fun e w' => e = .returned (.bool true) ∧ Below w.heap.size w w') := fun w => awake4_any w
  have hC : Hid (∀ w : World, Calls Try.prog 25 #[.string s] w fun e w' => ∃ q cap, e = .returned (.slice q (leavesN s.size) cap) ∧ IsBlks w' q (leavesN s.size) (fun i j => tbyte s (256 * i + j)) ∧ Below w.heap.size w w') := fun w => (cut_any s hs w).mono (by
    rintro e w' ⟨v, rfl, hown, hb⟩
    obtain ⟨q, cap, rfl, hq⟩ := own_blks hown
    exact ⟨q, cap, rfl, hq, hb⟩)
  have hR : Hid (∀ w : World, Calls Try.prog 26 #[.string s] w fun e w' => ∃ q cap, e = .returned (.slice q (leavesN s.size) cap) ∧ IsBlks w' q (leavesN s.size) (fun i j => tbyte s (256 * i + j)) ∧ Below w.heap.size w w') := fun w => (refCut_any s hs w).mono (by
    rintro e w' ⟨v, rfl, hown, hb⟩
    obtain ⟨q, cap, rfl, hq⟩ := own_blks hown
    exact ⟨q, cap, rfl, hq, hb⟩)
  have hX : Hid (∀ (k : Nat) (w : World), Calls Try.prog 13 #[.agg (va 256 (iv .u8 (L k)))] w fun e w' => e = .returned (.string (strN (L k) 256)) ∧ Below w.heap.size w w') := fun k w => refText_any (L k) w
  obtain ⟨J, e0, hJ0, hJe⟩ : ∃ (J : ByteArray) (e0 : Int), (∀ (q : Option Addr) (cap : Nat) (w : World), IsBlks w q n L → Calls Try.prog 27 #[.slice q n cap, .int .i64 m] w fun e w' => e = .returned (.tuple #[.string J, .int .i64 e0]) ∧ Below w.heap.size w w') ∧
      ((e0 = 1 ∧ J = { data := #[] } ∧ (m < 0 ∨ ((n * 256 : Nat) : Int) < m)) ∨ (e0 = 0 ∧ ∃ k : Nat, m = (k : Int) ∧ k ≤ n * 256 ∧ J = strN (flatL L) k)) := by
    by_cases hbad : m < 0 ∨ ((n * 256 : Nat) : Int) < m
    · exact ⟨_, 1, fun q cap w _ => (join_bad q n cap hn m hm hbad w).mono (by rintro e w' ⟨rfl, rfl⟩; exact ⟨rfl, Below.refl _ _⟩), .inl ⟨rfl, rfl, hbad⟩⟩
    · obtain ⟨k, rfl⟩ : ∃ k : Nat, m = (k : Int) := ⟨m.toNat, by omega⟩
      exact ⟨_, 0, fun q cap w hq => join_ok q n cap hn L k (by omega) w hq, .inr ⟨rfl, k, rfl, by omega, rfl⟩⟩
  have hJ : Hid (∀ (q : Option Addr) (cap : Nat) (w : World), IsBlks w q n L → Calls Try.prog 27 #[.slice q n cap, .int .i64 m] w fun e w' => e = .returned (.tuple #[.string J, .int .i64 e0]) ∧ Below w.heap.size w w') := hJ0
  have HJE : Hid ((e0 = 1 ∧ J = { data := #[] } ∧ (m < 0 ∨ ((n * 256 : Nat) : Int) < m)) ∨ (e0 = 0 ∧ ∃ k : Nat, m = (k : Int) ∧ k ≤ n * 256 ∧ J = strN (flatL L) k)) := hJe
  have HB : Hid (IsBlks w a1 n L) := h
  have HNN : Hid (a1 = none → n = 0 ∧ c = 0) := hN
  have hlv : leavesN s.size ≤ 549755813900 := by unfold leavesN; omega
  generalize hLs : (fun i j => tbyte s (256 * i + j) : Nat → Nat → Nat) = Ls at *
  generalize leavesN s.size = lv at *
  clear hJ0 hJe h hN hLs hs
  obtain ⟨i0, hi, hz0, hz1, hz2⟩ := info_parts infoBk
  have hz := zero_bk
  go_enter Try.func5, Try.ntmps5
  go_wp2_with fail
  refine (hA.out _).mono ?_
  rintro e w1 ⟨rfl, hb1⟩
  clear hA
  go_wp2_with fail
  refine (hC.out _).mono ?_
  rintro e w2 ⟨q1, cap1, rfl, hq1, hh⟩
  have hb2 : Below w.heap.size w w2 := hb1.trans (hh.mono hb1.size)
  clear hb1 hh hC
  go_wp2_with fail
  refine (hR.out _).mono ?_
  rintro e w3 ⟨q2, cap2, rfl, hq2, hh⟩
  have hq1' := hq1.below hh
  have hb3 : Below w.heap.size w w3 := hb2.trans (hh.mono hb2.size)
  clear hb2 hh hR hq1
  have hlv' : ¬ ((lv : Int) < 0) := by omega
  go_wp2_with fail
  go_loopw [30] (fun i wr => ∃ k : Nat, k ≤ lv ∧ i = .int .i64 k ∧ IsBlks wr q1 lv Ls ∧ IsBlks wr q2 lv Ls ∧ Below w.heap.size w wr) (fun i _ => lv - (intOf i).toNat)
  case atStart => exact ⟨0, Nat.zero_le _, rfl, hq1', hq2, hb3⟩
  case round =>
    clear hq1' hq2 hb3
    obtain ⟨k, hk, rfl, hq1, hq2, hb⟩ := hrel
    by_cases hlt : k < lv
    · obtain ⟨b1, o1, rfl, l1, r1⟩ := hq1 k hlt
      obtain ⟨b2, o2, rfl, l2, r2⟩ := hq2 k hlt
      have R1 : Hid (wr.rangeAt b1 (o1 + k * 256) ((List.range 256).map (iv .u8 (Ls k)))) := r1
      have R2 : Hid (wr.rangeAt b2 (o2 + k * 256) ((List.range 256).map (iv .u8 (Ls k)))) := r2
      have HI1 : Hid (IsBlks wr (some ⟨b1, o1, none⟩) lv Ls) := hq1
      have HI2 : Hid (IsBlks wr (some ⟨b2, o2, none⟩) lv Ls) := hq2
      have k0 : (0 : Int) ≤ (k : Int) := by omega
      have k1 : (k : Int) < (lv : Int) := by omega
      have hq : ∀ w, (Op.equalIn 10000 23 (.agg (va 256 (iv .u8 (Ls k)))) (.agg (va 256 (iv .u8 (Ls k))))).run Try.prog w = .ok true w := fun w => by
        have := eq_bk 23 Try.underlying23 (Ls k) (Ls k) w
        rw [decide_eq_true (fun _ _ => rfl)] at this
        exact this
      clear r1 r2 hq1 hq2
      go_wp2_with fail
      refine wp_region_partsI [] [([0, 1, 2, 4, 5, 6], 3, true), ([], 7, false), ([], 8, false)] [] [] (wr.heap.size) (by kernel_rfl) (by kernel_rfl) (fun _ hx => nomatch hx) (partsI_yield ?_)
      simp only [List.cons_append, List.nil_append, List.append_nil, List.filterMap_cons, List.filterMap_nil, List.getElem?_toArray, List.getElem?_cons_zero, List.getElem?_cons_succ]
      have hS : Below (wr.heap.size) wr wr.drew := (Below.refl _ _).drew
      go_wp2_with fail
      refine ⟨rfl, _, .agg (va 256 (iv .u8 (Ls k))), rfl, yieldsIf_load_mid (by rfl) 23 _ (by rfl) (b1) (o1 + k * 256) (by rfl) ((List.range 256).map (iv .u8 (Ls k))) _ (fun W hW => range_below R1.out hW l1) Try.underlying23 rfl (sizeBk.trans (by simp)), partsI_force ?_⟩
      simp only [Act.put, List.setIfInBounds_toArray, List.set_cons_zero, List.set_cons_succ]
      simp only [List.cons_append, List.nil_append, List.append_nil, List.filterMap_cons, List.filterMap_nil, List.getElem?_toArray, List.getElem?_cons_zero, List.getElem?_cons_succ]
      refine wpList_load_blk (by rfl) 28 _ (by rfl) (b2) (o2 + k * 256) 256 (iv .u8 (Ls k)) (by rfl) _ (range_below R2.out hS l2) Try.underlying28 rfl sizeRbk ?_
      simp only [Act.put, List.setIfInBounds_toArray, List.set_cons_zero, List.set_cons_succ]
      go_wp2_with fail
      refine ⟨rfl, hS, partsI_force ?_⟩
      simp only [List.cons_append, List.nil_append, List.append_nil, List.filterMap_cons, List.filterMap_nil, List.getElem?_toArray, List.getElem?_cons_zero, List.getElem?_cons_succ]
      go_wp2_with fail
      refine ⟨rfl, hS, partsI_last ?_⟩
      simp only [List.cons_append, List.nil_append, List.append_nil, List.filterMap_cons, List.filterMap_nil, List.getElem?_toArray, List.getElem?_cons_zero, List.getElem?_cons_succ]
      refine ⟨rfl, ?_⟩
      go_wp2_with fail
      refine ⟨⟨k + 1, by omega, by simp, HI1.out.below hS, HI2.out.below hS, hb.trans (hS.mono hb.size)⟩, ?_⟩
      simp [intOf]
      omega
    · obtain rfl : k = lv := by omega
      clear hq1 hq2
      have hsz := hb.size
      have v0 := Blk.new wr 23 #[]
      have hbN := hb.alloc hsz (Obj.cells #[] 23)
      have HOWN : Hid ((wr.alloc (Obj.cells #[] 23)).ownsRow w.heap.size 23 256 (.slice (some ⟨wr.heap.size, 0, none⟩) 0 0) 0 []) := kown_empty v0 hsz
      have HBN : Hid (IsBlks (wr.alloc (Obj.cells #[] 23)) a1 n L) := HB.out.below hbN
      clear v0 hb
      go_wp2_with (first
        | (at_builtin; refine wpList_append_blks rfl _ _ 54 rfl w.heap.size 23 i0 _ Try.underlying54 hi hz0 hz1 hz2 (va_size _ _) _ rfl HOWN.out a1 n c L rfl HBN.out HNN.out hn (by simp; omega) ?_)
        | go_in)
      intro vI w5 hown5 hh
      have hb5 : Below w.heap.size w w5 := hbN.trans hh
      obtain ⟨qI, capI, rfl, hqI0⟩ := own_blks hown5
      have hqI : IsBlks w5 qI n L := fun i hi => by
        obtain ⟨b, o, e, h1, h2⟩ := hqI0 i hi
        refine ⟨b, o, e, h1, ?_⟩
        rw [show (List.range 256).map (iv .u8 (L i)) = (List.range 256).map (iv .u8 (fun j => flatL L (256 * i + j))) from List.map_congr_left fun j hj => by
          have hj2 := List.mem_range.1 hj
          show Value.int .u8 ((L i j : Nat) : Int) = Value.int .u8 ((L ((256 * i + j) / 256) ((256 * i + j) % 256) : Nat) : Int)
          rw [show (256 * i + j) / 256 = i by omega, show (256 * i + j) % 256 = j by omega]]
        exact h2
      clear hown5 hqI0 hbN hh HOWN HBN
      go_wp2_with fail
      go_loopw [11, 48] (fun t i wr => ∃ k : Nat, k ≤ n ∧ i = .int .i64 k ∧ t = .string (strN (flatL L) (256 * k)) ∧ IsBlks wr qI n L ∧ Below w.heap.size w wr) (fun _ i _ => n - (intOf i).toNat)
      case atStart => exact ⟨0, Nat.zero_le _, rfl, rfl, hqI, hb5⟩
      case round =>
        clear hqI hb5
        obtain ⟨k, hk, rfl, rfl, hqI, hb⟩ := hrel
        by_cases hlt : k < n
        · obtain ⟨b, o, rfl, hbl, hr⟩ := HB.out k hlt
          have HR : Hid (wr.rangeAt b (o + k * 256) ((List.range 256).map (iv .u8 (L k)))) := range_below hr hb hbl
          have k0 : (0 : Int) ≤ (k : Int) := by omega
          have k1 : (k : Int) < (n : Int) := by omega
          have hsz := hb.size
          have c1 := Blk.new wr 23 (va 256 (iv .u8 fun _ => 0))
          have c2 := c1.set (va 256 (iv .u8 (L k)))
          have hbB : Below wr.heap.size wr ((wr.alloc (Obj.cells (va 256 (iv IntKind.u8 fun _ => 0)) 23)).setRow wr.heap.size (va 256 (iv .u8 (L k)))) := below_setRow (below_new1 wr _) (Nat.le_refl _) _
          have hXk : Hid (∀ w : World, Calls Try.prog 13 #[.agg (va 256 (iv .u8 (L k)))] w fun e w' => e = .returned (.string (strN (L k) 256)) ∧ Below w.heap.size w w') := hX.out k
          have hadd2 : ∀ w, (Op.stringOp .add (strN (flatL L) (256 * k)) (strN (L k) 256)).run Try.prog w = .ok (.string (strN (flatL L) (256 * (k + 1)))) w := fun w => by
            rw [run_string_add_sum w _ _ (by rw [strN_size, strN_size]; omega), flat_text]
          clear hr hbl
          go_wp2_with (first
            | (refine wpList_load_blk (by rfl) 23 _ (by rfl) b (o + k * 256) 256 (iv .u8 (L k)) (by rfl) _ HR.out Try.underlying23 rfl sizeBk ?_; simp only [Act.put, List.setIfInBounds_toArray, List.set_cons_zero, List.set_cons_succ])
            | (refine wpList_store_row (by rfl) 23 _ _ (by rfl) (wr.heap.size) (va 256 (iv .u8 (L k))) (by rfl) (by rfl) 23 _ c1 (sizeBk.trans (by rw [va_size])) (by simp only [va_size]) (iv_one _ _ _) ?_; simp only [Act.put, List.setIfInBounds_toArray, List.set_cons_zero, List.set_cons_succ])
            | (refine wpList_load_row (by rfl) 23 _ (by rfl) (wr.heap.size) (by rfl) 23 (va 256 (iv .u8 (L k))) (0, 0) _ c2 Try.underlying23 (by rfl) (sizeBk.trans (by rw [va_size])) ?_; simp only [Act.put, List.setIfInBounds_toArray, List.set_cons_zero, List.set_cons_succ])
            | fail)
          generalize (wr.alloc (Obj.cells (va 256 (iv IntKind.u8 fun _ => 0)) 23)).setRow wr.heap.size (va 256 (iv .u8 (L k))) = w6 at *
          refine (hXk.out _).mono ?_
          rintro e w7 ⟨rfl, hh⟩
          have hbC : Below wr.heap.size wr w7 := hbB.trans (hh.mono hbB.size)
          clear hh hbB c1 c2 hXk HR
          go_wp2_with fail
          refine ⟨⟨k + 1, by omega, by simp, rfl, hqI.below hbC, hb.trans (hbC.mono hsz)⟩, ?_⟩
          simp [intOf]
          omega
        · obtain rfl : k = n := by omega
          have HQI : Hid (IsBlks wr qI k L) := hqI
          clear hqI
          go_wp2_with fail
          refine (hJ.out _ _ _ HQI.out).mono ?_
          rintro e w8 ⟨rfl, hh⟩
          have hqJ := HQI.out.below hh
          have hb8 : Below w.heap.size w w8 := hb.trans (hh.mono hb.size)
          clear HQI hh hb hJ
          go_wp2_with fail
          go_loopw [65] (fun i wr => ∃ q : Nat, q ≤ k ∧ i = .int .i64 q ∧ IsBlks wr qI k L ∧ Below w.heap.size w wr) (fun i _ => k - (intOf i).toNat)
          case atStart => exact ⟨0, Nat.zero_le _, rfl, hqJ, hb8⟩
          case round =>
            clear hqJ hb8
            obtain ⟨q, hq0, rfl, hqJ, hb⟩ := hrel
            by_cases hlt : q < k
            · obtain ⟨b1, o1, rfl, l1, r1⟩ := hqJ q hlt
              obtain ⟨b2, o2, rfl, l2, r2⟩ := HB.out.below hb q hlt
              have R1 : Hid (wr.rangeAt b1 (o1 + q * 256) ((List.range 256).map (iv .u8 (L q)))) := r1
              have R2 : Hid (wr.rangeAt b2 (o2 + q * 256) ((List.range 256).map (iv .u8 (L q)))) := r2
              have HI1 : Hid (IsBlks wr (some ⟨b1, o1, none⟩) k L) := hqJ
              have k0 : (0 : Int) ≤ (q : Int) := by omega
              have k1 : (q : Int) < (k : Int) := by omega
              have hq : ∀ w, (Op.equalIn 10000 23 (.agg (va 256 (iv .u8 (L q)))) (.agg (va 256 (iv .u8 (L q))))).run Try.prog w = .ok true w := fun w => by
                have := eq_bk 23 Try.underlying23 (L q) (L q) w
                rw [decide_eq_true (fun _ _ => rfl)] at this
                exact this
              clear r1 r2 hqJ
              go_wp2_with fail
              refine wp_region_partsI [] [([0, 1, 2, 4, 5, 6], 3, true), ([], 7, false), ([], 8, false)] [] [] (wr.heap.size) (by kernel_rfl) (by kernel_rfl) (fun _ hx => nomatch hx) (partsI_yield ?_)
              simp only [List.cons_append, List.nil_append, List.append_nil, List.filterMap_cons, List.filterMap_nil, List.getElem?_toArray, List.getElem?_cons_zero, List.getElem?_cons_succ]
              have hS : Below (wr.heap.size) wr wr.drew := (Below.refl _ _).drew
              go_wp2_with fail
              refine ⟨rfl, _, .agg (va 256 (iv .u8 (L q))), rfl, yieldsIf_load_mid (by rfl) 23 _ (by rfl) (b1) (o1 + q * 256) (by rfl) ((List.range 256).map (iv .u8 (L q))) _ (fun W hW => range_below R1.out hW l1) Try.underlying23 rfl (sizeBk.trans (by simp)), partsI_force ?_⟩
              simp only [Act.put, List.setIfInBounds_toArray, List.set_cons_zero, List.set_cons_succ]
              simp only [List.cons_append, List.nil_append, List.append_nil, List.filterMap_cons, List.filterMap_nil, List.getElem?_toArray, List.getElem?_cons_zero, List.getElem?_cons_succ]
              refine wpList_load_blk (by rfl) 23 _ (by rfl) (b2) (o2 + q * 256) 256 (iv .u8 (L q)) (by rfl) _ (range_below R2.out hS l2) Try.underlying23 rfl sizeBk ?_
              simp only [Act.put, List.setIfInBounds_toArray, List.set_cons_zero, List.set_cons_succ]
              go_wp2_with fail
              refine ⟨rfl, hS, partsI_force ?_⟩
              simp only [List.cons_append, List.nil_append, List.append_nil, List.filterMap_cons, List.filterMap_nil, List.getElem?_toArray, List.getElem?_cons_zero, List.getElem?_cons_succ]
              go_wp2_with fail
              refine ⟨rfl, hS, partsI_last ?_⟩
              simp only [List.cons_append, List.nil_append, List.append_nil, List.filterMap_cons, List.filterMap_nil, List.getElem?_toArray, List.getElem?_cons_zero, List.getElem?_cons_succ]
              refine ⟨rfl, ?_⟩
              go_wp2_with fail
              refine ⟨⟨q + 1, by omega, by simp, HI1.out.below hS, hb.trans (hS.mono hb.size)⟩, ?_⟩
              simp [intOf]
              omega
            · obtain rfl : q = k := by omega
              clear hqJ
              have hsz := strN_size (flatL L) (256 * q)
              rcases HJE.out with ⟨rfl, rfl, hbad⟩ | ⟨rfl, z, rfl, hz1, rfl⟩
              · generalize strN (flatL L) (256 * q) = TT at *
                by_cases h0 : m < 0
                · go_wp2_with fail
                  go_ret
                  exact ⟨rfl, hb⟩
                · have h1 : ((256 * q : Nat) : Int) < m := by omega
                  obtain ⟨Z, hZ⟩ : ∃ Z : Nat, Z = 256 * q := ⟨_, rfl⟩
                  rw [← hZ] at hsz h1
                  clear hZ hbad
                  go_wp2_with fail
                  go_ret
                  exact ⟨rfl, hb⟩
              · have hex : (strN (flatL L) (256 * q)).extract 0 z = strN (flatL L) z := by
                  rw [strN_extract (flatL L) (256 * q) 0 z (by omega), Nat.sub_zero]
                  exact strN_congr fun j _ => by rw [Nat.zero_add]
                obtain ⟨Z, hZ⟩ : ∃ Z : Nat, Z = 256 * q := ⟨_, rfl⟩
                rw [← hZ] at hex hsz ⊢
                have h1 : ¬ (Z : Int) < (z : Int) := by omega
                have h2 : (z : Int) ≤ (Z : Int) := by omega
                have h3 : Z ≤ 140737488351232 := by omega
                clear hZ hz1
                generalize strN (flatL L) Z = TT at *
                generalize strN (flatL L) z = JJ at *
                go_wp2_with fail
                go_ret
                exact ⟨rfl, hb⟩
end Go.Proofs.Ytaoglljkghkbpaa
