/- Maps of bits asked: Count, seek, Free, Next: the contracts. -/
import Derived.Test.YtjlngldmdfbbaaaDoorHBlkCut
import Derived.Laws.MakeOwn
import Derived.Laws.OwnMore
import Derived.OwnWalk
import Derived.Maps.AppendAt
import Derived.Handy

namespace Go.Proofs.YtjlngldmdfbbaaaDoor
open Go Go.RowKit
set_option linter.unusedVariables false
set_option linter.unusedSimpArgs false

theorem made_one1 (v : Value) (n : Nat) : madeCells #[v] n = va n fun _ => v := by
  refine va_ext (size_madeCells _ _) fun i hi => ?_
  unfold madeCells
  simp [hi, Nat.mod_one]
theorem infoU64 : (Tryd.prog.info? 61).map (fun i => (i.zero, i.size, i.bytes)) = some (some (.int .u64 0), 1, 8) := by kernel_rfl
theorem make_words (n : Nat) (hn : n ≤ 8192) (w : World) : (Instr.makeSlice 74 (.int .i64 (n : Int)) (.int .i64 (n : Int))).run Tryd.prog w = .ok (.slice (some ⟨w.heap.size, 0, none⟩) n n) (w.alloc (.cells (va n fun _ => .int .u64 0) 61)) := by
  obtain ⟨i0, hi, hz0, hz1, hz2⟩ := info_parts infoU64
  have := run_make (P := Tryd.prog) w 74 61 i0 (.int .u64 0) Tryd.underlying74 hi hz0 .i64 .i64 (n : Int) (n : Int) (by omega) (Int.le_refl _) (by rw [hz2]; omega) (by omega)
  rw [hz1] at this
  simp only [Int.toNat_natCast, Value.cells, made_one1, Nat.mul_one] at this
  exact this
theorem own_made1 {w : World} {g t n : Nat} {f : Nat → Value} (h : Blk w g t (va n f)) (hn : n ≤ 8192) (B : Nat) (hB : B ≤ g) : w.ownsRow B t 1 (.slice (some ⟨g, 0, none⟩) n n) n ((List.range n).map f) :=
  ⟨by simp, .inr ⟨g, n, _, rfl, hB, h, Nat.le_refl _, by unfold maxLen; omega, by rw [va_size, Nat.mul_one], by rw [va_toList, List.take_of_length_le (by simp)]⟩⟩
theorem bitF_zero (p : Nat) : bitF (fun _ => 0) p = false := by simp [bitF]
set_option maxHeartbeats 1000000 in
theorem newM_ok (n : Nat) (h1 : 1 ≤ n) (h2 : n ≤ 8192) (w : World) : Calls Tryd.prog 17 #[.int .i64 (n : Int)] w fun e w' => ∃ g b c, e = .returned (.tuple #[.pointer (some ⟨g, 0, none⟩), .int .i64 0]) ∧ BM w' w.heap.size g n b c (fun _ => 0) ∧ Below w.heap.size w w' := by
  have a1 : ¬ ((n : Int) < 1) := by omega
  have a2 : ¬ ((8192 : Int) < (n : Int)) := by omega
  have hl := lvN_le h2
  have hm : wrap64 ((lvN n : Int) * 16) = ((16 * lvN n : Nat) : Int) := by rw [w64, wrapI64_id _ (by omega) (by omega)]; omega
  have hk := make_words (16 * lvN n) (by omega)
  have HF : Hid (∀ w : World, BM ((w.alloc (.cells (va (16 * lvN n) fun _ => .int .u64 0) 61)).alloc (.cells #[.int .i64 (n : Int), .slice (some ⟨w.heap.size, 0, none⟩) (16 * lvN n) (16 * lvN n)] 76)) w.heap.size (w.heap.size + 1) n w.heap.size (16 * lvN n) (fun _ => 0)) := fun w =>
    ⟨h1, h2, by omega, Blk.new1 _ _ _ _, own_made1 (f := iv .u64 fun _ => 0) ((Blk.new _ _ _).alloc _) (by omega) _ (Nat.le_refl _), fun _ => by decide, fun p _ => bitF_zero p⟩
  clear hl
  generalize 16 * lvN n = k at *
  go_enter Tryd.func17, Tryd.ntmps17
  go_wp2_with fail
  refine (leaves_any n h2 _).mono ?_
  rintro e w1 ⟨rfl, rfl⟩
  go_wp2_with fail
  go_ret2
  exact ⟨_, _, _, rfl, HF.out w1, below_new2 _ _ _⟩
theorem bi_append_at {P : Program} {ops : Array Oper} {rest : List Oper} {o : Oper} {a : Act} {w : World} {Q : Exit → Act → World → Prop} (hgd : o.guard = none) (s x : Operand) (t : TypeId)
    (ho : o.op = .call { callee := .builtin .append, args := #[s, x], argTypes := #[t, t] })
    (base : Nat) (e : TypeId) (i : TypeInfo) (z : Value) (size bytes : Nat) (ht : P.underlying t = some (.slice e)) (hi : P.info? e = some i) (hz : i.zero = some z)
    (hsize : i.size = size) (hby : i.bytes = bytes) (hzs : z.cells.size = size) (hsz : 0 < size)
    (v : Value) (n : Nat) (xs : List Value) (hs : a.eval s = v) (hown : w.ownsRow base e size v n xs)
    (ad : Addr) (m c : Nat) (news : List Value) (hx : a.eval x = .slice (some ad) m c) (hl : news.length = m * size) (hnews : ∀ j u, news[j]? = some u → w.cell? (ad.add j) = some u) (h1 : ∀ u ∈ news, u.oneCell' = true)
    (h63 : n + m ≤ maxLen) (hbytes : (n + m) * bytes ≤ 140737488355328) (hbase : base ≤ w.heap.size)
    (h : ∀ v' w', w'.ownsRow base e size v' (n + m) (xs ++ news) → w.grownBy w' v.ownBlock → (v'.ownBlock = v.ownBlock ∨ v'.ownBlock = some w.heap.size) → wpList P ops Q rest (a.put o.dst v') w') :
    wpList P ops Q (o :: rest) a w := by
  obtain ⟨v', w', hr, g1, g2, g3, g4⟩ := run_append_own_at (P := P) w base t o.type e i z size bytes ht hi hz hsize hby hzs hsz v n xs hown ad m c news hl hnews h1 h63 hbytes hbase
  refine wpList_plain hgd fun K hK => ?_
  unfold Oper.wp
  simp [execOp, ho, resolve, invoke, builtin, hs, hx, hr, Result.andThen]
  exact hK _ _ (h v' w' g1 g2 g4)
theorem nil_words_in (d : Nat) (p : Option Addr) (n cap : Nat) (w : World) : (Op.equalIn (d + 1) 74 (.slice p n cap) (.slice none 0 0)).run Tryd.prog w = .ok p.isNone w := by
  cases p <;> simp [Op.equalIn, run_underlying Tryd.underlying74]
theorem nil_words (p : Option Addr) (n cap : Nat) (w : World) : Sem.run Tryd.prog (binOp .eql 74 (.slice p n cap) (.slice none 0 0)) w = .ok (.bool p.isNone) w := by
  simp only [binOp]
  simp [show Op.equal 74 (.slice p n cap) (.slice none 0 0) = Op.equalIn (9999 + 1) 74 (.slice p n cap) (.slice none 0 0) from rfl, nil_words_in 9999 p n cap w]
set_option maxHeartbeats 2000000 in
theorem cloneWords_any (B n b cap : Nat) (hn : n ≤ 8192) (hn0 : 0 < n) (xs : List Value) (hone : ∀ u ∈ xs, u.oneCell' = true) (w : World) (h : w.ownsRow B 61 1 (.slice (some ⟨b, 0, none⟩) n cap) n xs) :
    Calls Tryd.prog 53 #[.slice (some ⟨b, 0, none⟩) n cap] w fun e w' => ∃ b' c, e = .returned (.slice (some ⟨b', 0, none⟩) n c) ∧ w'.ownsRow w.heap.size 61 1 (.slice (some ⟨b', 0, none⟩) n c) n xs ∧ Below w.heap.size w w' := by
  obtain ⟨i0, hi, hz0, hz1, hz2⟩ := info_parts infoU64
  have hq := nil_words (some ⟨b, 0, none⟩) n cap
  have HC : Hid (∀ j u, xs[j]? = some u → (w.alloc (.cells #[] 61)).cell? ((⟨b, 0, none⟩ : Addr).add j) = some u) := (h.alloc _).cells rfl
  have HO : Hid ((w.alloc (.cells #[] 61)).ownsRow w.heap.size 61 1 (.slice (some ⟨w.heap.size, 0, none⟩) 0 0) 0 []) := World.ownsRow_lit w #[] 0 (Nat.le_refl _) (by decide) rfl
  have hl := h.1
  go_enter Tryd.func53, Tryd.ntmps53
  go_wp2_with (first
    | (at_builtin; refine bi_append_at rfl _ _ 74 rfl w.heap.size 61 i0 (.int .u64 0) 1 8 Tryd.underlying74 hi hz0 hz1 hz2 rfl (by decide) _ _ _ rfl HO.out ⟨b, 0, none⟩ n cap xs rfl hl HC.out hone (by unfold maxLen; omega) (by omega) (by simp) ?_)
    | go_in)
  intro v2 w2 hown2 hgrow2 _
  have hb2 : Below w.heap.size w w2 := ((Below.refl _ _).alloc (Nat.le_refl _) _).grown hgrow2 (by simp) (fun k hk => by simp [Value.ownBlock] at hk; omega)
  obtain ⟨va0, vc0, hve, _⟩ := kown_form hown2 (by omega)
  subst hve
  go_wp2_with fail
  go_ret
  exact ⟨_, _, rfl, hown2, hb2⟩
section
variable {B g n b c : Nat} {W : Nat → Nat}
set_option maxHeartbeats 2000000 in
theorem bclone_any (w : World) (h : BM w B g n b c W) : Calls Tryd.prog 38 #[.pointer (some ⟨g, 0, none⟩)] w fun e w' => ∃ g' b' c', e = .returned (.pointer (some ⟨g', 0, none⟩)) ∧ BM w' w.heap.size g' n b' c' W ∧ Below w.heap.size w w' := by
  have hl := lvN_le h.n2
  have hl1 := lvN_pos h.n1
  have HC : Hid (∀ V : World, BM V B g n b c W → Calls Tryd.prog 53 #[.slice (some ⟨b, 0, none⟩) (16 * lvN n) c] V fun e w' => ∃ b' c', e = .returned (.slice (some ⟨b', 0, none⟩) (16 * lvN n) c') ∧ w'.ownsRow V.heap.size 61 1 (.slice (some ⟨b', 0, none⟩) (16 * lvN n) c') (16 * lvN n) (wdL W (16 * lvN n)) ∧ Below V.heap.size V w') := fun V hV => cloneWords_any B (16 * lvN n) b c (by omega) (by omega) _ (wdL_one _ _) V hV.row
  have HF : Hid (∀ (V : World) (b' c' : Nat), V.ownsRow w.heap.size 61 1 (.slice (some ⟨b', 0, none⟩) (16 * lvN n) c') (16 * lvN n) (wdL W (16 * lvN n)) → w.heap.size ≤ V.heap.size → BM (V.alloc (.cells #[.int .i64 (n : Int), .slice (some ⟨b', 0, none⟩) (16 * lvN n) c'] 76)) w.heap.size V.heap.size n b' c' W) := fun V b' c' hr hs => ⟨h.n1, h.n2, hs, Blk.new _ _ _, hr.alloc _, h.lt, h.tail⟩
  clear hl hl1
  go_enter Tryd.func38, Tryd.ntmps38
  go_wp2_with fail
  have c1 : w.drew.cell? ⟨g, 1, none⟩ = some (.slice (some ⟨b, 0, none⟩) (16 * lvN n) c) := h.c1
  generalize 16 * lvN n = k at *
  have S0 : w.drew.cell? ⟨g, 0, none⟩ = some (.int .i64 (n : Int)) ∧ BM w.drew B g n b c W ∧ Below w.heap.size w w.drew := ⟨h.c0, h.keep rfl rfl, (Below.refl _ _).drew⟩
  refine wp_region_partsS (fun V => V.cell? ⟨g, 0, none⟩ = some (.int .i64 (n : Int)) ∧ BM V B g n b c W ∧ Below w.heap.size w V) [([0, 4], 1, true), ([], 2, true), ([], 3, true), ([], 5, false), ([], 6, false), ([], 7, false), ([], 8, false), ([], 9, false), ([], 10, false)] [11] [] (by kernel_rfl) (by kernel_rfl) S0 (partsI_yield ?_)
  simp only [List.cons_append, List.nil_append, List.append_nil, List.filterMap_cons, List.filterMap_nil, List.getElem?_toArray, List.getElem?_cons_zero, List.getElem?_cons_succ]
  go_wp2_with fail
  refine ⟨rfl, _, .pointer (some ⟨g, 0, none⟩), rfl, Or.inl ⟨by rfl, fun W hW => by go_simp⟩, partsI_yield ?_⟩
  simp only [Act.put, List.setIfInBounds_toArray, List.set_cons_zero, List.set_cons_succ]
  simp only [List.cons_append, List.nil_append, List.append_nil, List.filterMap_cons, List.filterMap_nil, List.getElem?_toArray, List.getElem?_cons_zero, List.getElem?_cons_succ]
  go_wp2_with fail
  refine ⟨rfl, _, .pointer (some ⟨g, 0, none⟩), rfl, Or.inl ⟨by rfl, fun W hW => by go_simp⟩, partsI_yield ?_⟩
  simp only [Act.put, List.setIfInBounds_toArray, List.set_cons_zero, List.set_cons_succ]
  simp only [List.cons_append, List.nil_append, List.append_nil, List.filterMap_cons, List.filterMap_nil, List.getElem?_toArray, List.getElem?_cons_zero, List.getElem?_cons_succ]
  go_wp2_with fail
  refine ⟨rfl, _, .int .i64 (n : Int), rfl, Or.inl ⟨by rfl, fun W hW => by have c0 := hW.1; go_simp⟩, partsI_force ?_⟩
  simp only [Act.put, List.setIfInBounds_toArray, List.set_cons_zero, List.set_cons_succ]
  simp only [List.cons_append, List.nil_append, List.append_nil, List.filterMap_cons, List.filterMap_nil, List.getElem?_toArray, List.getElem?_cons_zero, List.getElem?_cons_succ]
  go_wp2_with fail
  refine ⟨rfl, S0, partsI_force ?_⟩
  simp only [List.cons_append, List.nil_append, List.append_nil, List.filterMap_cons, List.filterMap_nil, List.getElem?_toArray, List.getElem?_cons_zero, List.getElem?_cons_succ]
  go_wp2_with fail
  refine ⟨rfl, S0, partsI_force ?_⟩
  simp only [List.cons_append, List.nil_append, List.append_nil, List.filterMap_cons, List.filterMap_nil, List.getElem?_toArray, List.getElem?_cons_zero, List.getElem?_cons_succ]
  go_wp2_with fail
  refine ⟨rfl, S0, partsI_force ?_⟩
  simp only [List.cons_append, List.nil_append, List.append_nil, List.filterMap_cons, List.filterMap_nil, List.getElem?_toArray, List.getElem?_cons_zero, List.getElem?_cons_succ]
  go_wp2_with fail
  refine (HC.out _ S0.2.1).mono ?_
  rintro e w2 ⟨b2, c2, rfl, hr2, hb2⟩
  have S1 : w2.cell? ⟨g, 0, none⟩ = some (.int .i64 (n : Int)) ∧ BM w2 B g n b c W ∧ Below w.heap.size w w2 := ⟨(S0.2.1.below hb2).c0, S0.2.1.below hb2, S0.2.2.trans (hb2.mono S0.2.2.size)⟩
  have hs2 : w.drew.heap.size < w2.heap.size := by have := hr2.lt b2 rfl; omega
  go_wp2_with fail
  refine ⟨rfl, S1, partsI_force ?_⟩
  simp only [List.cons_append, List.nil_append, List.append_nil, List.filterMap_cons, List.filterMap_nil, List.getElem?_toArray, List.getElem?_cons_zero, List.getElem?_cons_succ]
  go_wp2_with fail
  refine ⟨rfl, S1, partsI_force ?_⟩
  simp only [List.cons_append, List.nil_append, List.append_nil, List.filterMap_cons, List.filterMap_nil, List.getElem?_toArray, List.getElem?_cons_zero, List.getElem?_cons_succ]
  go_wp2_with fail
  refine ⟨rfl, ⟨(S1.2.1.below (below_new1 _ _)).c0, S1.2.1.below (below_new1 _ _), S1.2.2.trans ((below_new1 _ _).mono S1.2.2.size)⟩, partsI_last ?_⟩
  simp only [List.cons_append, List.nil_append, List.append_nil, List.filterMap_cons, List.filterMap_nil, List.getElem?_toArray, List.getElem?_cons_zero, List.getElem?_cons_succ]
  go_wp2_with fail
  refine ⟨rfl, ?_⟩
  go_wp2_with fail
  go_ret
  exact ⟨_, _, _, rfl, HF.out w2 b2 c2 hr2 hb2.size, S1.2.2.trans ((below_new1 _ _).mono S1.2.2.size)⟩
/-- all bits from a stretch one -/
def filF (F : Nat → Bool) (x y : Nat) (p : Nat) : Bool := (decide (x ≤ p) && decide (p < y)) || F p
set_option maxHeartbeats 2000000 in
theorem fill_ok (w : World) (h : BM w B g n b c W) (x y : Nat) (hxy : x ≤ y) (hy : y ≤ n) : Calls Tryd.prog 59 #[.pointer (some ⟨g, 0, none⟩), .int .i64 (x : Int), .int .i64 (y : Int)] w fun e w' => e = .returned (.int .i64 0) ∧ ∃ W', BM w' B g n b c W' ∧ (∀ p, bitF W' p = filF (bitF W) x y p) ∧ Only b w w' := by
  have c0 := h.c0
  have a1 : ¬ ((x : Int) < 0) := by omega
  have a2 : ¬ ((y : Int) < (x : Int)) := by omega
  have a3 : ¬ ((n : Int) < (y : Int)) := by omega
  have hn2 := h.n2
  have H : Hid (BM w B g n b c W) := h
  clear h
  go_enter Tryd.func59, Tryd.ntmps59
  go_wp2_with fail
  go_loopw [7] (fun t wr => ∃ (k : Nat) (W' : Nat → Nat), x ≤ k ∧ k ≤ y ∧ t = .int .i64 (k : Int) ∧ BM wr B g n b c W' ∧ (∀ p, bitF W' p = filF (bitF W) x k p) ∧ Only b w wr) (fun t _ => y - (intOf t).toNat)
  case atStart =>
    refine ⟨x, W, Nat.le_refl _, hxy, rfl, H.out, fun p => ?_, Only.of_below (Below.refl _ _)⟩
    unfold filF
    have : (decide (x ≤ p) && decide (p < x)) = false := by simp
    rw [this]
    rfl
  case round =>
    obtain ⟨k, W', k1, k2, rfl, hM, hbits, ho⟩ := hrel
    by_cases hlt : k < y
    · have a4 : (k : Int) < (y : Int) := by omega
      go_wp2_with fail
      refine (set_in wr hM k (by omega)).mono ?_
      rintro e w2 ⟨rfl, hM2, ho2⟩
      go_wp2_with fail
      refine ⟨⟨k + 1, putW W' k, by omega, by omega, by go_num, hM2, fun p => ?_, ho.trans ho2 (.inl rfl)⟩, ?_⟩
      · rw [bitF_put, hbits]
        unfold filF
        by_cases hp : p = k
        · subst hp
          simp; omega
        · have e1 : decide (p = k) = false := by simp [hp]
          have e2 : decide (p < k + 1) = decide (p < k) := by
            apply decide_eq_decide.2; omega
          rw [e1, e2]
          rfl
      · simp [intOf]; omega
    · obtain rfl : k = y := by omega
      have a4 : ¬ ((k : Int) < (k : Int)) := by omega
      go_wp2_with fail
      go_ret
      exact ⟨rfl, W', hM, hbits, ho⟩
end
end Go.Proofs.YtjlngldmdfbbaaaDoor

namespace Go.Proofs.YtjlngldmdfbbaaaDoor
open Go Go.RowKit
set_option linter.unusedVariables false
set_option linter.unusedSimpArgs false
section
variable {B g n b c : Nat} {W : Nat → Nat}
theorem sumW_le (W : Nat → Nat) (k : Nat) : sumW W k ≤ 64 * k := by rw [sumW_cnt]; exact cntF_le _ _
set_option maxHeartbeats 1000000 in
theorem count_any (w : World) (h : BM w B g n b c W) : Calls Tryd.prog 42 #[.pointer (some ⟨g, 0, none⟩)] w fun e w' => e = .returned (.int .i64 (cntF (bitF W) n : Int)) ∧ w' = w := by
  have c1 := h.c1
  have hl := lvN_le h.n2
  have HW : Hid (∀ i, i < 16 * lvN n → w.cell? ⟨b, i, none⟩ = some (.int .u64 ((W i : Nat) : Int))) := fun i hi => h.word hi
  have HL : Hid (∀ i, W i < 18446744073709551616) := h.lt
  have HE : Hid (sumW W (16 * lvN n) = cntF (bitF W) n) := by
    show sumW W (16 * lvN n) = cntF (bitF W) n
    rw [sumW_cnt]
    exact cntF_tail _ _ _ (by have := lvN_ge (n := n); omega) h.tail
  clear h
  have hk : 16 * lvN n ≤ 128 := by omega
  clear hl
  generalize 16 * lvN n = k at *
  go_enter Tryd.func42, Tryd.ntmps42
  go_wp2_with fail
  go_loop [3, 13] (fun t i => ∃ j : Nat, j ≤ k ∧ i = .int .i64 (j : Int) ∧ t = .int .i64 (sumW W j : Int)) (fun _ i => k - (intOf i).toNat)
  case atStart => exact ⟨0, by omega, rfl, rfl⟩
  case round =>
    obtain ⟨j, hj, rfl, rfl⟩ := hrel
    have hs := sumW_le W j
    by_cases hlt : j < k
    · have cw := HW.out j hlt
      have a1 : (j : Int) < (k : Int) := by omega
      have HS : Hid (wrap64 ((sumW W j : Int) + (onesTo (W j) 64 : Int)) = (sumW W (j + 1) : Int)) := by
        show wrap64 ((sumW W j : Int) + (onesTo (W j) 64 : Int)) = (sumW W (j + 1) : Int)
        have := onesTo_le (W j) 64
        rw [w64, wrapI64_id _ (by omega) (by omega)]
        show _ = ((sumW W j + onesTo (W j) 64 : Nat) : Int)
        omega
      go_wp2_with fail
      refine (ones_any (W j) (HL.out j) _).mono ?_
      rintro e w' ⟨rfl, rfl⟩
      go_wp2
      go_round
      case rel => exact ⟨j + 1, by omega, by go_num, by rw [HS.out]⟩
      case measure => simp [intOf]; omega
    · obtain rfl : j = k := by omega
      have a1 : ¬ ((j : Int) < (j : Int)) := by omega
      go_wp2_with fail
      go_ret
      exact ⟨by rw [← HE.out]; rfl, rfl⟩
/-- a word with its bits turned over, or not -/
def Turn (tn : Nat) (is : Bool) : Prop := (tn = 0 ∧ is = true) ∨ (tn = 18446744073709551615 ∧ is = false)
theorem Turn.bit {tn : Nat} {is : Bool} (h : Turn tn is) (W : Nat → Nat) (i j : Nat) (hj : j < 64) : (W i ^^^ tn).testBit j = (bitF W (64 * i + j) == is) := by
  rw [bitF_at W i j hj, Nat.testBit_xor]
  rcases h with ⟨rfl, rfl⟩ | ⟨rfl, rfl⟩
  · cases (W i).testBit j <;> simp
  · rw [show (18446744073709551615 : Nat) = 2 ^ 64 - 1 from rfl, Nat.testBit_two_pow_sub_one]
    cases (W i).testBit j <;> simp [hj]
theorem Turn.lt {tn : Nat} {is : Bool} (h : Turn tn is) : tn < 18446744073709551616 := by
  rcases h with ⟨rfl, rfl⟩ | ⟨rfl, rfl⟩ <;> decide
/-- what is left of a word behind the places ahead -/
def Left (W : Nat → Nat) (is : Bool) (f a x : Nat) : Prop := f < 64 * (a + 1) ∧ x < 18446744073709551616 ∧ (∀ j, j < 64 → x.testBit j = (decide (f ≤ 64 * a + j) && (bitF W (64 * a + j) == is))) ∧ (∀ q, f ≤ q → q < 64 * a → bitF W q = !is)
theorem beq_not {b is : Bool} (h : (b == is) = false) : b = !is := by cases b <;> cases is <;> first | rfl | exact absurd h (by decide)
theorem left_first {tn : Nat} {is : Bool} (h : Turn tn is) (hl : ∀ i, W i < 18446744073709551616) (f : Nat) : Left W is f (f / 64) ((W (f / 64) ^^^ tn) &&& notN (2 ^ (f % 64) - 1)) := by
  refine ⟨by omega, and_lt64 _ _ (xor_lt64 _ _ (hl _) h.lt), fun j hj => ?_, fun q h1 h2 => by omega⟩
  have hp : 2 ^ (f % 64) < 18446744073709551616 := pow_lt_u64 _ (by omega)
  rw [Nat.testBit_and, notN_bit _ _ (by omega) hj, h.bit W _ _ hj, Nat.testBit_two_pow_sub_one]
  have : (!decide (j < f % 64)) = decide (f ≤ 64 * (f / 64) + j) := by
    rw [← decide_not]; apply decide_eq_decide.2; omega
  rw [this, Bool.and_comm]
theorem left_all {is : Bool} {f a : Nat} (h0 : Left W is f a 0) : ∀ q, f ≤ q → q < 64 * (a + 1) → bitF W q = !is := fun q h1 h2 => by
  by_cases hq : q < 64 * a
  · exact h0.2.2.2 q h1 hq
  · have := h0.2.2.1 (q - 64 * a) (by omega)
    rw [show 64 * a + (q - 64 * a) = q from by omega] at this
    simp only [Nat.zero_testBit, h1, decide_true, Bool.true_and] at this
    exact beq_not this.symm
theorem left_next {tn : Nat} {is : Bool} (h : Turn tn is) (hl : ∀ i, W i < 18446744073709551616) {f a : Nat} (h0 : Left W is f a 0) : Left W is f (a + 1) (W (a + 1) ^^^ tn) := by
  refine ⟨by have := h0.1; omega, xor_lt64 _ _ (hl _) h.lt, fun j hj => ?_, left_all h0⟩
  rw [h.bit W _ _ hj]
  have hf : f ≤ 64 * (a + 1) + j := by have := h0.1; omega
  simp [hf]
/-- the lowest bit of what is left is the place that is looked for -/
theorem left_low {is : Bool} {f a x : Nat} (h : Left W is f a x) (h0 : x ≠ 0) : f ≤ 64 * a + Lib.ctz 64 x ∧ bitF W (64 * a + Lib.ctz 64 x) = is ∧ (∀ q, f ≤ q → q < 64 * a + Lib.ctz 64 x → bitF W q = !is) ∧ Lib.ctz 64 x < 64 := by
  obtain ⟨l1, l2, l3⟩ := low_at x h.2.1 h0
  have e := h.2.2.1 _ l3
  rw [l1] at e
  have e2 := (Bool.and_eq_true_iff.1 e.symm)
  refine ⟨of_decide_eq_true e2.1, eq_of_beq e2.2, fun q h1 h2 => ?_, l3⟩
  by_cases hq : q < 64 * a
  · exact h.2.2.2 q h1 hq
  · have := h.2.2.1 (q - 64 * a) (by omega)
    rw [show 64 * a + (q - 64 * a) = q from by omega, l2 _ (by omega)] at this
    simp only [h1, decide_true, Bool.true_and] at this
    exact beq_not this.symm
theorem seek_out (w : World) (h : BM w B g n b c W) (f : Int) (tn : Nat) (hf : (n : Int) ≤ f) : Calls Tryd.prog 56 #[.pointer (some ⟨g, 0, none⟩), .int .i64 f, .int .u64 (tn : Int)] w fun e w' => e = .returned (.int .i64 (-1)) ∧ w' = w := by
  have a0 : max f 0 = f := by have := h.n1; omega
  have HI : Hid (Calls Tryd.prog 35 #[.pointer (some ⟨g, 0, none⟩), .int .i64 f] w fun e w' => e = .returned (.bool false) ∧ w' = w) := inside_no _ h f (.inr hf)
  clear h
  go_enter Tryd.func56, Tryd.ntmps56
  go_wp2_with fail
  refine HI.out.mono ?_
  rintro e w' ⟨rfl, rfl⟩
  go_wp2_with fail
  go_ret
  exact ⟨rfl, rfl⟩
theorem nat_ne_neg (k : Nat) : ((k : Nat) : Int) ≠ -1 := by omega
set_option maxHeartbeats 4000000 in
theorem seek_in (w : World) (hT : TabAt w) (h : BM w B g n b c W) (f : Int) (m : Nat) (hm : max f 0 = (m : Int)) (hf : m < n) (tn : Nat) (is : Bool) (ht : Turn tn is) : Calls Tryd.prog 56 #[.pointer (some ⟨g, 0, none⟩), .int .i64 f, .int .u64 (tn : Int)] w fun e w' => e = .returned (.int .i64 (nxt (bitF W) is n m)) ∧ w' = w := by
  have c1 := h.c1
  have hq := quo64 m
  have hn2 := h.n2
  have hwq : IntKind.i64.wrap ((m / 64 : Nat) : Int) = ((m / 64 : Nat) : Int) := wrapI64_id _ (by omega) (by omega)
  have hk0 := lvN_le hn2
  have hkn : n ≤ 64 * (16 * lvN n) := by have := lvN_ge (n := n); omega
  have HI : Hid (Calls Tryd.prog 35 #[.pointer (some ⟨g, 0, none⟩), .int .i64 (m : Int)] w fun e w' => e = .returned (.bool true) ∧ w' = w) := inside_yes _ h m hf
  have HJ : Hid (∀ p : Nat, p < n → Calls Tryd.prog 35 #[.pointer (some ⟨g, 0, none⟩), .int .i64 (p : Int)] w fun e w' => e = .returned (.bool true) ∧ w' = w) := fun p hp => inside_yes _ h p hp
  have HK : Hid (∀ p : Nat, n ≤ p → Calls Tryd.prog 35 #[.pointer (some ⟨g, 0, none⟩), .int .i64 (p : Int)] w fun e w' => e = .returned (.bool false) ∧ w' = w) := fun p hp => inside_no _ h p (.inr (by omega))
  have HO := one_any m (by omega) w
  have HW : Hid (∀ i, i < 16 * lvN n → w.cell? ⟨b, i, none⟩ = some (.int .u64 ((W i : Nat) : Int))) := fun i hi => h.word hi
  have HX : Hid (∀ i, bits .xor .u64 ((W i : Nat) : Int) (tn : Int) = ((W i ^^^ tn : Nat) : Int)) := fun i => u64_xor_nat _ _ (h.lt i) ht.lt
  have hpow : 2 ^ (m % 64) < 18446744073709551616 := pow_lt_u64 _ (by omega)
  have hpos : 0 < 2 ^ (m % 64) := Nat.two_pow_pos _
  have HA : IntKind.u64.wrap (((2 ^ (m % 64) : Nat) : Int) - 1) = ((2 ^ (m % 64) - 1 : Nat) : Int) := by
    rw [show ((2 ^ (m % 64) : Nat) : Int) - 1 = ((2 ^ (m % 64) - 1 : Nat) : Int) from by omega]
    exact wrapU64 _ (by omega)
  have HN : bits .andNot .u64 ((W (m / 64) ^^^ tn : Nat) : Int) ((2 ^ (m % 64) - 1 : Nat) : Int) = (((W (m / 64) ^^^ tn) &&& notN (2 ^ (m % 64) - 1) : Nat) : Int) := u64_andNot_nat _ _ (xor_lt64 _ _ (h.lt _) ht.lt) (by omega)
  have HL := left_first ht h.lt m
  have HNX : Hid (∀ a, Left W is m a 0 → Left W is m (a + 1) (W (a + 1) ^^^ tn)) := fun a ha => left_next ht h.lt ha
  have cw := HW.out (m / 64) (by omega)
  have HX0 := HX.out (m / 64)
  have i0 : ((m / 64 : Nat) : Int) < ((16 * lvN n : Nat) : Int) := by omega
  clear h ht hpow hpos
  generalize hx1 : W (m / 64) ^^^ tn = x1 at *
  generalize 2 ^ (m % 64) - 1 = x2 at *
  generalize 2 ^ (m % 64) = x3 at *
  generalize x1 &&& notN x2 = x4 at *
  generalize W (m / 64) = x0 at *
  have hk : 16 * lvN n ≤ 128 := by omega
  clear hk0 hx1
  generalize hq0 : m / 64 = a0 at *
  generalize 16 * lvN n = k at *
  have a0k : a0 < k := by omega
  by_cases hneg : f < 0
  · obtain rfl : m = 0 := by omega
    obtain rfl : a0 = 0 := by omega
    go_enter Tryd.func56, Tryd.ntmps56
    go_wp2_with fail
    refine HI.out.mono ?_
    rintro e w' ⟨rfl, rfl⟩
    go_wp2_with fail
    refine HO.mono ?_
    rintro e w' ⟨rfl, rfl⟩
    go_wp2_with fail
    have HL0 : Hid (Left W is 0 0 x4) := HL
    clear HI HO HA HN HX0 cw HL hq0 hq hwq i0 hm hneg
    go_loop [7, 9] (fun t x => ∃ a y : Nat, a < k ∧ t = .int .i64 (a : Int) ∧ x = .int .u64 (y : Int) ∧ Left W is 0 a y) (fun t _ => k - (intOf t).toNat)
    case atStart => exact ⟨0, x4, a0k, rfl, rfl, HL0.out⟩
    case round =>
      obtain ⟨a, y, ha, rfl, rfl, hy⟩ := hrel
      have hy1 := hy.2.1
      by_cases h0 : y = 0
      · subst h0
        have HY : Hid (Left W is 0 a 0) := hy
        clear hy
        by_cases hlt : a + 1 < k
        · have hw : wrap64 ((a : Int) + 1) = ((a + 1 : Nat) : Int) := by rw [w64, wrapI64_id _ (by omega) (by omega)]; omega
          have cw := HW.out (a + 1) hlt
          have b1 : ¬ (((a + 1 : Nat) : Int) = (k : Int)) := by omega
          have b2 : ((a + 1 : Nat) : Int) < (k : Int) := by omega
          have HX0 := HX.out (a + 1)
          have HY2 := HNX.out a HY.out
          have HY3 : Hid (Left W is 0 (a + 1) (W (a + 1) ^^^ tn)) := HY2
          clear HY2
          have HM : Hid (a + 1 < k ∧ a < k) := ⟨hlt, ha⟩
          generalize W (a + 1) ^^^ tn = y2 at *
          generalize hA1 : a + 1 = a1 at *
          go_wp2
          go_round
          case rel => exact ⟨a1, y2, HM.out.1, by rw [← hA1]; rfl, rfl, HY3.out⟩
          case measure => simp [intOf]; have := HM.out; omega
        · have hw : wrap64 ((a : Int) + 1) = (k : Int) := by rw [w64, wrapI64_id _ (by omega) (by omega)]; omega
          have hr : NextIs (bitF W) is n 0 (-1) := ⟨fun _ p h1 h2 => left_all HY.out p h1 (by omega), fun e => absurd rfl e⟩
          have HR : Hid ((-1 : Int) = nxt (bitF W) is n 0) := nxt_eq hr
          clear hr
          go_wp2
          go_ret
          exact ⟨by rw [← HR.out]; rfl, rfl⟩
      · obtain ⟨l1, l2, l3, l4⟩ := left_low hy h0
        have HLow := low_any y hy1 h0 _ hT
        have ep : ((64 * a + Lib.ctz 64 y : Nat) : Int) = (a : Int) * 64 + (Lib.ctz 64 y : Int) := by omega
        have e0 : ((y : Int) == 0) = false := by simp; omega
        generalize Lib.ctz 64 y = z at *
        by_cases hpn : 64 * a + z < n
        · have hr : NextIs (bitF W) is n 0 ((64 * a + z : Nat) : Int) := ⟨fun e => absurd e (nat_ne_neg _), fun _ => ⟨64 * a + z, Eq.refl _, l1, hpn, l2, l3⟩⟩
          have HR : Hid (((64 * a + z : Nat) : Int) = nxt (bitF W) is n 0) := nxt_eq hr
          clear hr
          have HIN := HJ.out _ hpn
          clear l1 l2 l3 hy hpn
          rw [ep] at HIN HR
          clear ep
          go_wp2_with fail
          refine HLow.mono ?_
          intro e w2 hw2
          obtain ⟨he2, hw2⟩ := hw2
          subst he2
          subst hw2
          go_wp2_with fail
          refine HIN.mono ?_
          intro e w2 hw2
          obtain ⟨he2, hw2⟩ := hw2
          subst he2
          subst hw2
          go_wp2_with fail
          go_ret
          exact ⟨by rw [← HR.out]; rfl, rfl⟩
        · have hr : NextIs (bitF W) is n 0 (-1) := ⟨fun _ p h1 h2 => l3 p h1 (Nat.lt_of_lt_of_le h2 (Nat.le_of_not_lt hpn)), fun e => absurd rfl e⟩
          have HR : Hid ((-1 : Int) = nxt (bitF W) is n 0) := nxt_eq hr
          clear hr
          have HIN := HK.out (64 * a + z) (Nat.le_of_not_lt hpn)
          clear l1 l2 l3 hy hpn
          rw [ep] at HIN
          clear ep
          go_wp2_with fail
          refine HLow.mono ?_
          intro e w2 hw2
          obtain ⟨he2, hw2⟩ := hw2
          subst he2
          subst hw2
          go_wp2_with fail
          refine HIN.mono ?_
          intro e w2 hw2
          obtain ⟨he2, hw2⟩ := hw2
          subst he2
          subst hw2
          go_wp2_with fail
          go_ret
          exact ⟨by rw [← HR.out]; rfl, rfl⟩
  · obtain rfl : f = (m : Int) := by omega
    clear hm hneg
    have hneg2 : (0 : Int) ≤ (m : Int) := by omega
    go_enter Tryd.func56, Tryd.ntmps56
    go_wp2_with fail
    refine HI.out.mono ?_
    rintro e w' ⟨rfl, rfl⟩
    go_wp2_with fail
    refine HO.mono ?_
    rintro e w' ⟨rfl, rfl⟩
    go_wp2_with fail
    have HL0 : Hid (Left W is m a0 x4) := HL
    clear HI HO HA HN HX0 cw HL hq0 hq hwq i0
    go_loop [7, 9] (fun t x => ∃ a y : Nat, a < k ∧ t = .int .i64 (a : Int) ∧ x = .int .u64 (y : Int) ∧ Left W is m a y) (fun t _ => k - (intOf t).toNat)
    case atStart => exact ⟨a0, x4, a0k, rfl, rfl, HL0.out⟩
    case round =>
      obtain ⟨a, y, ha, rfl, rfl, hy⟩ := hrel
      have hy1 := hy.2.1
      by_cases h0 : y = 0
      · subst h0
        have HY : Hid (Left W is m a 0) := hy
        clear hy
        by_cases hlt : a + 1 < k
        · have hw : wrap64 ((a : Int) + 1) = ((a + 1 : Nat) : Int) := by rw [w64, wrapI64_id _ (by omega) (by omega)]; omega
          have cw := HW.out (a + 1) hlt
          have b1 : ¬ (((a + 1 : Nat) : Int) = (k : Int)) := by omega
          have b2 : ((a + 1 : Nat) : Int) < (k : Int) := by omega
          have HX0 := HX.out (a + 1)
          have HY2 := HNX.out a HY.out
          have HY3 : Hid (Left W is m (a + 1) (W (a + 1) ^^^ tn)) := HY2
          clear HY2
          have HM : Hid (a + 1 < k ∧ a < k) := ⟨hlt, ha⟩
          generalize W (a + 1) ^^^ tn = y2 at *
          generalize hA1 : a + 1 = a1 at *
          go_wp2
          go_round
          case rel => exact ⟨a1, y2, HM.out.1, by rw [← hA1]; rfl, rfl, HY3.out⟩
          case measure => simp [intOf]; have := HM.out; omega
        · have hw : wrap64 ((a : Int) + 1) = (k : Int) := by rw [w64, wrapI64_id _ (by omega) (by omega)]; omega
          have hr : NextIs (bitF W) is n m (-1) := ⟨fun _ p h1 h2 => left_all HY.out p h1 (by omega), fun e => absurd rfl e⟩
          have HR : Hid ((-1 : Int) = nxt (bitF W) is n m) := nxt_eq hr
          clear hr
          go_wp2
          go_ret
          exact ⟨by rw [← HR.out]; rfl, rfl⟩
      · obtain ⟨l1, l2, l3, l4⟩ := left_low hy h0
        have HLow := low_any y hy1 h0 _ hT
        have ep : ((64 * a + Lib.ctz 64 y : Nat) : Int) = (a : Int) * 64 + (Lib.ctz 64 y : Int) := by omega
        have e0 : ((y : Int) == 0) = false := by simp; omega
        generalize Lib.ctz 64 y = z at *
        by_cases hpn : 64 * a + z < n
        · have hr : NextIs (bitF W) is n m ((64 * a + z : Nat) : Int) := ⟨fun e => absurd e (nat_ne_neg _), fun _ => ⟨64 * a + z, Eq.refl _, l1, hpn, l2, l3⟩⟩
          have HR : Hid (((64 * a + z : Nat) : Int) = nxt (bitF W) is n m) := nxt_eq hr
          clear hr
          have HIN := HJ.out _ hpn
          clear l1 l2 l3 hy hpn
          rw [ep] at HIN HR
          clear ep
          go_wp2_with fail
          refine HLow.mono ?_
          intro e w2 hw2
          obtain ⟨he2, hw2⟩ := hw2
          subst he2
          subst hw2
          go_wp2_with fail
          refine HIN.mono ?_
          intro e w2 hw2
          obtain ⟨he2, hw2⟩ := hw2
          subst he2
          subst hw2
          go_wp2_with fail
          go_ret
          exact ⟨by rw [← HR.out]; rfl, rfl⟩
        · have hr : NextIs (bitF W) is n m (-1) := ⟨fun _ p h1 h2 => l3 p h1 (Nat.lt_of_lt_of_le h2 (Nat.le_of_not_lt hpn)), fun e => absurd rfl e⟩
          have HR : Hid ((-1 : Int) = nxt (bitF W) is n m) := nxt_eq hr
          clear hr
          have HIN := HK.out (64 * a + z) (Nat.le_of_not_lt hpn)
          clear l1 l2 l3 hy hpn
          rw [ep] at HIN
          clear ep
          go_wp2_with fail
          refine HLow.mono ?_
          intro e w2 hw2
          obtain ⟨he2, hw2⟩ := hw2
          subst he2
          subst hw2
          go_wp2_with fail
          refine HIN.mono ?_
          intro e w2 hw2
          obtain ⟨he2, hw2⟩ := hw2
          subst he2
          subst hw2
          go_wp2_with fail
          go_ret
          exact ⟨by rw [← HR.out]; rfl, rfl⟩
/-- Next and Free: the least place from one on that is one, that is nought -/
def fromN (f : Int) : Nat := (max f 0).toNat
theorem seek_any (w : World) (hT : TabAt w) (h : BM w B g n b c W) (f : Int) (tn : Nat) (is : Bool) (ht : Turn tn is) : Calls Tryd.prog 56 #[.pointer (some ⟨g, 0, none⟩), .int .i64 f, .int .u64 (tn : Int)] w fun e w' => e = .returned (.int .i64 (nxt (bitF W) is n (fromN f))) ∧ w' = w := by
  by_cases hf : (n : Int) ≤ f
  · refine (seek_out w h f tn hf).mono ?_
    rintro e w' ⟨rfl, rfl⟩
    have hr : NextIs (bitF W) is n (fromN f) (-1) := ⟨fun _ p h1 h2 => by unfold fromN at h1; omega, fun e => absurd rfl e⟩
    exact ⟨by rw [← nxt_eq hr], rfl⟩
  · exact seek_in w hT h f (fromN f) (by unfold fromN; omega) (by have := h.n1; unfold fromN; omega) tn is ht
theorem next_any (w : World) (hT : TabAt w) (h : BM w B g n b c W) (f : Int) : Calls Tryd.prog 48 #[.pointer (some ⟨g, 0, none⟩), .int .i64 f] w fun e w' => e = .returned (.int .i64 (nxt (bitF W) true n (fromN f))) ∧ w' = w := by
  have HS : Hid (Calls Tryd.prog 56 #[.pointer (some ⟨g, 0, none⟩), .int .i64 f, .int .u64 0] w fun e w' => e = .returned (.int .i64 (nxt (bitF W) true n (fromN f))) ∧ w' = w) := seek_any w hT h f 0 true (.inl ⟨rfl, rfl⟩)
  clear h
  generalize nxt (bitF W) true n (fromN f) = r at *
  go_enter Tryd.func48, Tryd.ntmps48
  go_wp2_with fail
  refine HS.out.mono ?_
  rintro e w' ⟨rfl, rfl⟩
  go_wp2_with fail
  go_ret
  exact ⟨rfl, rfl⟩
theorem free_any (w : World) (hT : TabAt w) (h : BM w B g n b c W) (f : Int) : Calls Tryd.prog 41 #[.pointer (some ⟨g, 0, none⟩), .int .i64 f] w fun e w' => e = .returned (.int .i64 (nxt (bitF W) false n (fromN f))) ∧ w' = w := by
  have HS : Hid (Calls Tryd.prog 56 #[.pointer (some ⟨g, 0, none⟩), .int .i64 f, .int .u64 18446744073709551615] w fun e w' => e = .returned (.int .i64 (nxt (bitF W) false n (fromN f))) ∧ w' = w) := seek_any w hT h f 18446744073709551615 false (.inr ⟨rfl, rfl⟩)
  clear h
  generalize nxt (bitF W) false n (fromN f) = r at *
  go_enter Tryd.func41, Tryd.ntmps41
  go_wp2_with fail
  refine HS.out.mono ?_
  rintro e w' ⟨rfl, rfl⟩
  go_wp2_with fail
  go_ret
  exact ⟨rfl, rfl⟩
end
end Go.Proofs.YtjlngldmdfbbaaaDoor
