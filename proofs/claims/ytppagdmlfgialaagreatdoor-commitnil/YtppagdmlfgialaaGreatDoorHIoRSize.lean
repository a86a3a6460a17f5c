/- Which inodes may be: the document's answer. -/
import Derived.Test.YtppagdmlfgialaaGreatDoorHBiKit
import Derived.Test.YtppagdmlfgialaaGreatDoorHNdKit
import Derived.Laws.MakeOwn
import Derived.Laws.OwnMore
import Derived.OwnWalk
import Derived.Maps.AppendAt
import Derived.Handy
import Derived.Test.YtppagdmlfgialaaGreatDoorHDigSum
import Derived.Deep.RegionLaw
import Derived.Laws.CopyOwn
import Derived.Test.YtppagdmlfgialaaGreatDoorHSuKit
import Derived.BigQuiet
import Derived.Deep.QuietTactic

namespace Go.Proofs.YtppagdmlfgialaaGreatDoor
theorem sgLHIoRSize : (∀ (α : Type) (a : α) (l r : List α), (a :: l) ++ r = a :: (l ++ r)) ∧ (∀ (α : Type) (l : List α), [] ++ l = l) ∧ (∀ (α : Type) (l : List α), l ++ [] = l) ∧ (∀ (α β : Type) (f : α → Option β) (a : α) (l : List α), (a :: l).filterMap f = match f a with | none => l.filterMap f | some b => b :: l.filterMap f) ∧ (∀ (α β : Type) (f : α → Option β), [].filterMap f = []) ∧ (∀ (α : Type) (l : List α) (i : Nat), l.toArray[i]? = l[i]?) ∧ (∀ (α : Type) (a : α) (l : List α), (a :: l)[0]? = some a) ∧ (∀ (α : Type) (a : α) (l : List α) (i : Nat), (a :: l)[i + 1]? = l[i]?) :=
  ⟨fun _ _ _ _ => List.cons_append, fun _ _ => List.nil_append _, fun _ _ => List.append_nil _, fun _ _ _ _ _ => List.filterMap_cons, fun _ _ _ => List.filterMap_nil, fun _ _ _ => List.getElem?_toArray, fun _ _ _ => List.getElem?_cons_zero, fun _ _ _ _ => List.getElem?_cons_succ⟩
theorem sgPHIoRSize : (∀ (α : Type) (l : List α) (i : Nat) (a : α), l.toArray.setIfInBounds i a = (l.set i a).toArray) ∧ (∀ (α : Type) (a b : α) (l : List α), (a :: l).set 0 b = b :: l) ∧ (∀ (α : Type) (a b : α) (l : List α) (i : Nat), (a :: l).set (i + 1) b = a :: l.set i b) :=
  ⟨fun _ _ _ _ => List.setIfInBounds_toArray _ _ _, fun _ _ _ _ => List.set_cons_zero, fun _ _ _ _ _ => List.set_cons_succ⟩
end Go.Proofs.YtppagdmlfgialaaGreatDoor
namespace Go.Proofs.YtppagdmlfgialaaGreatDoor
open Go Go.RowKit
set_option linter.unusedVariables false
set_option linter.unusedSimpArgs false

theorem made_one1 (v : Value) (n : Nat) : madeCells #[v] n = va n fun _ => v := by
  refine va_ext (size_madeCells _ _) fun i hi => ?_
  unfold madeCells
  simp [hi, Nat.mod_one]
theorem infoU64 : (Tryz.prog.info? 36).map (fun i => (i.zero, i.size, i.bytes)) = some (some (.int .u64 0), 1, 8) := by kernel_rfl
theorem infoBool : (Tryz.prog.info? 4).map (fun i => (i.zero, i.size, i.bytes)) = some (some (.bool false), 1, 1) := by kernel_rfl
theorem make_words (n : Nat) (hn : n ≤ 8192) (w : World) : (Instr.makeSlice 215 (.int .i64 (n : Int)) (.int .i64 (n : Int))).run Tryz.prog w = .ok (.slice (some ⟨w.heap.size, 0, none⟩) n n) (w.alloc (.cells (va n fun _ => .int .u64 0) 36)) := by
  obtain ⟨i0, hi, hz0, hz1, hz2⟩ := info_parts infoU64
  have := run_make (P := Tryz.prog) w 215 36 i0 (.int .u64 0) Tryz.underlying215 hi hz0 .i64 .i64 (n : Int) (n : Int) (by omega) (Int.le_refl _) (by rw [hz2]; omega) (by omega)
  rw [hz1] at this
  simp only [Int.toNat_natCast, Value.cells, made_one1, Nat.mul_one] at this
  exact this
theorem make_bools (n : Nat) (hn : n ≤ 8192) (w : World) : (Instr.makeSlice 124 (.int .i64 (n : Int)) (.int .i64 (n : Int))).run Tryz.prog w = .ok (.slice (some ⟨w.heap.size, 0, none⟩) n n) (w.alloc (.cells (va n fun _ => .bool false) 4)) := by
  obtain ⟨i0, hi, hz0, hz1, hz2⟩ := info_parts infoBool
  have := run_make (P := Tryz.prog) w 124 4 i0 (.bool false) Tryz.underlying124 hi hz0 .i64 .i64 (n : Int) (n : Int) (by omega) (Int.le_refl _) (by rw [hz2]; omega) (by omega)
  rw [hz1] at this
  simp only [Int.toNat_natCast, Value.cells, made_one1, Nat.mul_one] at this
  exact this
theorem own_made1 {w : World} {g t n : Nat} {f : Nat → Value} (h : Blk w g t (va n f)) (hn : n ≤ 8192) (B : Nat) (hB : B ≤ g) : w.ownsRow B t 1 (.slice (some ⟨g, 0, none⟩) n n) n ((List.range n).map f) :=
  ⟨by simp, .inr ⟨g, n, _, rfl, hB, h, Nat.le_refl _, by unfold maxLen; omega, by rw [va_size, Nat.mul_one], by rw [va_toList, List.take_of_length_le (by simp)]⟩⟩
theorem bitF_zero (p : Nat) : bitF (fun _ => 0) p = false := by simp [bitF]
set_option maxHeartbeats 1000000 in
theorem newM_ok (n : Nat) (h1 : 1 ≤ n) (h2 : n ≤ 8192) (w : World) : Calls Tryz.prog 55 #[.int .i64 (n : Int)] w fun e w' => ∃ g b c, e = .returned (.tuple #[.pointer (some ⟨g, 0, none⟩), .int .i64 0]) ∧ BM w' w.heap.size g n b c (fun _ => 0) ∧ Below w.heap.size w w' := by
  have a1 : ¬ ((n : Int) < 1) := by omega
  have a2 : ¬ ((8192 : Int) < (n : Int)) := by omega
  have hl := lvN_le h2
  have hm : wrap64 ((lvN n : Int) * 16) = ((16 * lvN n : Nat) : Int) := by rw [w64, wrapI64_id _ (by omega) (by omega)]; omega
  have hk := make_words (16 * lvN n) (by omega)
  have HF : Hid (∀ w : World, BM ((w.alloc (.cells (va (16 * lvN n) fun _ => .int .u64 0) 36)).alloc (.cells #[.int .i64 (n : Int), .slice (some ⟨w.heap.size, 0, none⟩) (16 * lvN n) (16 * lvN n)] 217)) w.heap.size (w.heap.size + 1) n w.heap.size (16 * lvN n) (fun _ => 0)) := fun w =>
    ⟨h1, h2, by omega, Blk.new1 _ _ _ _, own_made1 (f := iv .u64 fun _ => 0) ((Blk.new _ _ _).alloc _) (by omega) _ (Nat.le_refl _), fun _ => by decide, fun p _ => bitF_zero p⟩
  clear hl
  generalize 16 * lvN n = k at *
  go_enter Tryz.func55, Tryz.ntmps55
  go_wp2_with fail
  refine (leaves_any n h2 _).mono ?_
  rintro e w1 ⟨rfl, rfl⟩
  go_wp2_with fail
  go_ret2
  exact ⟨_, _, _, rfl, HF.out w1, below_new2 _ _ _⟩
theorem bi_append_at {P : Program} {ops : Array Oper} {rest : List Oper} {o : Oper} {a : Act} {w : World} {Q : Exit → Act → World → Prop} (hgd : o.guard = none) (s x : Operand) (t : TypeId)
    (ho : o.op = .call { callee := .builtin .append, args := #[s, x], argTypes := #[t, t] })
    (base : Nat) (e : TypeId) (i : TypeInfo) (z : Value) (size bytes : Nat) (ht : P.underlying t = some (.slice e)) (hi : P.info? e = some i) (hz : i.zero = some z)
    (hsize : i.size = size) (hby : i.bytes = bytes) (hzs : z.cells.size = size) (hsz : 0 < size)
    (v : Value) (n : Nat) (xs : List Value) (hs : a.eval s = v) (hown : w.ownsRow base e size v n xs)
    (ad : Addr) (m c : Nat) (news : List Value) (hx : a.eval x = .slice (some ad) m c) (hl : news.length = m * size) (hnews : ∀ j u, news[j]? = some u → w.cell? (ad.add j) = some u) (h1 : ∀ u ∈ news, u.oneCell' = true)
    (h63 : n + m ≤ maxLen) (hbytes : (n + m) * bytes ≤ 140737488355328) (hbase : base ≤ w.heap.size)
    (h : ∀ v' w', w'.ownsRow base e size v' (n + m) (xs ++ news) → w.grownBy w' v.ownBlock → (v'.ownBlock = v.ownBlock ∨ v'.ownBlock = some w.heap.size) → wpList P ops Q rest (a.put o.dst v') w') :
    wpList P ops Q (o :: rest) a w := by
  obtain ⟨v', w', hr, g1, g2, g3, g4⟩ := run_append_own_at (P := P) w base t o.type e i z size bytes ht hi hz hsize hby hzs hsz v n xs hown ad m c news hl hnews h1 h63 hbytes hbase
  refine wpList_plain hgd fun K hK => ?_
  unfold Oper.wp
  simp [execOp, ho, resolve, invoke, builtin, hs, hx, hr, Result.andThen]
  exact hK _ _ (h v' w' g1 g2 g4)
theorem nil_words_in (d : Nat) (p : Option Addr) (n cap : Nat) (w : World) : (Op.equalIn (d + 1) 215 (.slice p n cap) (.slice none 0 0)).run Tryz.prog w = .ok p.isNone w := by
  cases p <;> simp [Op.equalIn, run_underlying Tryz.underlying215]
theorem nil_words (p : Option Addr) (n cap : Nat) (w : World) : Sem.run Tryz.prog (binOp .eql 215 (.slice p n cap) (.slice none 0 0)) w = .ok (.bool p.isNone) w := by
  simp only [binOp]
  simp [show Op.equal 215 (.slice p n cap) (.slice none 0 0) = Op.equalIn (9999 + 1) 215 (.slice p n cap) (.slice none 0 0) from rfl, nil_words_in 9999 p n cap w]
set_option maxHeartbeats 2000000 in
theorem cloneWords_any (B n b cap : Nat) (hn : n ≤ 8192) (hn0 : 0 < n) (xs : List Value) (hone : ∀ u ∈ xs, u.oneCell' = true) (w : World) (h : w.ownsRow B 36 1 (.slice (some ⟨b, 0, none⟩) n cap) n xs) :
    Calls Tryz.prog 113 #[.slice (some ⟨b, 0, none⟩) n cap] w fun e w' => ∃ b' c, e = .returned (.slice (some ⟨b', 0, none⟩) n c) ∧ w'.ownsRow w.heap.size 36 1 (.slice (some ⟨b', 0, none⟩) n c) n xs ∧ Below w.heap.size w w' := by
  obtain ⟨i0, hi, hz0, hz1, hz2⟩ := info_parts infoU64
  have hq := nil_words (some ⟨b, 0, none⟩) n cap
  have HC : Hid (∀ j u, xs[j]? = some u → (w.alloc (.cells #[] 36)).cell? ((⟨b, 0, none⟩ : Addr).add j) = some u) := (h.alloc _).cells rfl
  have HO : Hid ((w.alloc (.cells #[] 36)).ownsRow w.heap.size 36 1 (.slice (some ⟨w.heap.size, 0, none⟩) 0 0) 0 []) := World.ownsRow_lit w #[] 0 (Nat.le_refl _) (by decide) rfl
  have hl := h.1
  go_enter Tryz.func113, Tryz.ntmps113
  go_wp2_with (first
    | (at_builtin; refine bi_append_at rfl _ _ 215 rfl w.heap.size 36 i0 (.int .u64 0) 1 8 Tryz.underlying215 hi hz0 hz1 hz2 rfl (by decide) _ _ _ rfl HO.out ⟨b, 0, none⟩ n cap xs rfl hl HC.out hone (by unfold maxLen; omega) (by omega) (by simp) ?_)
    | go_in)
  intro v2 w2 hown2 hgrow2 _
  have hb2 : Below w.heap.size w w2 := ((Below.refl _ _).alloc (Nat.le_refl _) _).grown hgrow2 (by simp) (fun k hk => by simp [Value.ownBlock] at hk; omega)
  obtain ⟨va0, vc0, hve, _⟩ := kown_form hown2 (by omega)
  subst hve
  go_wp2_with fail
  go_ret
  exact ⟨_, _, rfl, hown2, hb2⟩
section
variable {B g n b c : Nat} {W : Nat → Nat}
set_option maxHeartbeats 2000000 in
theorem bclone_any (w : World) (h : BM w B g n b c W) : Calls Tryz.prog 71 #[.pointer (some ⟨g, 0, none⟩)] w fun e w' => ∃ g' b' c', e = .returned (.pointer (some ⟨g', 0, none⟩)) ∧ BM w' w.heap.size g' n b' c' W ∧ Below w.heap.size w w' := by
  have hl := lvN_le h.n2
  have hl1 := lvN_pos h.n1
  have HC : Hid (∀ V : World, BM V B g n b c W → Calls Tryz.prog 113 #[.slice (some ⟨b, 0, none⟩) (16 * lvN n) c] V fun e w' => ∃ b' c', e = .returned (.slice (some ⟨b', 0, none⟩) (16 * lvN n) c') ∧ w'.ownsRow V.heap.size 36 1 (.slice (some ⟨b', 0, none⟩) (16 * lvN n) c') (16 * lvN n) (wdL W (16 * lvN n)) ∧ Below V.heap.size V w') := fun V hV => cloneWords_any B (16 * lvN n) b c (by omega) (by omega) _ (wdL_one _ _) V hV.row
  have HF : Hid (∀ (V : World) (b' c' : Nat), V.ownsRow w.heap.size 36 1 (.slice (some ⟨b', 0, none⟩) (16 * lvN n) c') (16 * lvN n) (wdL W (16 * lvN n)) → w.heap.size ≤ V.heap.size → BM (V.alloc (.cells #[.int .i64 (n : Int), .slice (some ⟨b', 0, none⟩) (16 * lvN n) c'] 217)) w.heap.size V.heap.size n b' c' W) := fun V b' c' hr hs => ⟨h.n1, h.n2, hs, Blk.new _ _ _, hr.alloc _, h.lt, h.tail⟩
  clear hl hl1
  go_enter Tryz.func71, Tryz.ntmps71
  go_wp2_with fail
  have c1 : w.drew.cell? ⟨g, 1, none⟩ = some (.slice (some ⟨b, 0, none⟩) (16 * lvN n) c) := h.c1
  generalize 16 * lvN n = k at *
  have S0 : w.drew.cell? ⟨g, 0, none⟩ = some (.int .i64 (n : Int)) ∧ BM w.drew B g n b c W ∧ Below w.heap.size w w.drew := ⟨h.c0, h.keep rfl rfl, (Below.refl _ _).drew⟩
  refine wp_region_partsS (fun V => V.cell? ⟨g, 0, none⟩ = some (.int .i64 (n : Int)) ∧ BM V B g n b c W ∧ Below w.heap.size w V) [([0, 4], 1, true), ([], 2, true), ([], 3, true), ([], 5, false), ([], 6, false), ([], 7, false), ([], 8, false), ([], 9, false), ([], 10, false)] [11] [] (by kernel_rfl) (by kernel_rfl) S0 (partsI_yield ?_)
  simp only [sgLHIoRSize]
  go_wp2_with fail
  refine ⟨rfl, _, .pointer (some ⟨g, 0, none⟩), rfl, Or.inl ⟨by rfl, fun W hW => by go_simp⟩, partsI_yield ?_⟩
  simp only [Act.put, sgPHIoRSize]
  simp only [sgLHIoRSize]
  go_wp2_with fail
  refine ⟨rfl, _, .pointer (some ⟨g, 0, none⟩), rfl, Or.inl ⟨by rfl, fun W hW => by go_simp⟩, partsI_yield ?_⟩
  simp only [Act.put, sgPHIoRSize]
  simp only [sgLHIoRSize]
  go_wp2_with fail
  refine ⟨rfl, _, .int .i64 (n : Int), rfl, Or.inl ⟨by rfl, fun W hW => by have c0 := hW.1; go_simp⟩, partsI_force ?_⟩
  simp only [Act.put, sgPHIoRSize]
  simp only [sgLHIoRSize]
  go_wp2_with fail
  refine ⟨rfl, S0, partsI_force ?_⟩
  simp only [sgLHIoRSize]
  go_wp2_with fail
  refine ⟨rfl, S0, partsI_force ?_⟩
  simp only [sgLHIoRSize]
  go_wp2_with fail
  refine ⟨rfl, S0, partsI_force ?_⟩
  simp only [sgLHIoRSize]
  go_wp2_with fail
  refine (HC.out _ S0.2.1).mono ?_
  rintro e w2 ⟨b2, c2, rfl, hr2, hb2⟩
  have S1 : w2.cell? ⟨g, 0, none⟩ = some (.int .i64 (n : Int)) ∧ BM w2 B g n b c W ∧ Below w.heap.size w w2 := ⟨(S0.2.1.below hb2).c0, S0.2.1.below hb2, S0.2.2.trans (hb2.mono S0.2.2.size)⟩
  have hs2 : w.drew.heap.size < w2.heap.size := by have := hr2.lt b2 rfl; omega
  go_wp2_with fail
  refine ⟨rfl, S1, partsI_force ?_⟩
  simp only [sgLHIoRSize]
  go_wp2_with fail
  refine ⟨rfl, S1, partsI_force ?_⟩
  simp only [sgLHIoRSize]
  go_wp2_with fail
  refine ⟨rfl, ⟨(S1.2.1.below (below_new1 _ _)).c0, S1.2.1.below (below_new1 _ _), S1.2.2.trans ((below_new1 _ _).mono S1.2.2.size)⟩, partsI_last ?_⟩
  simp only [sgLHIoRSize]
  go_wp2_with fail
  refine ⟨rfl, ?_⟩
  go_wp2_with fail
  go_ret
  exact ⟨_, _, _, rfl, HF.out w2 b2 c2 hr2 hb2.size, S1.2.2.trans ((below_new1 _ _).mono S1.2.2.size)⟩
/-- all bits from a stretch one -/
def filF (F : Nat → Bool) (x y : Nat) (p : Nat) : Bool := (decide (x ≤ p) && decide (p < y)) || F p
set_option maxHeartbeats 2000000 in
theorem fill_ok (w : World) (h : BM w B g n b c W) (x y : Nat) (hxy : x ≤ y) (hy : y ≤ n) : Calls Tryz.prog 272 #[.pointer (some ⟨g, 0, none⟩), .int .i64 (x : Int), .int .i64 (y : Int)] w fun e w' => e = .returned (.int .i64 0) ∧ ∃ W', BM w' B g n b c W' ∧ (∀ p, bitF W' p = filF (bitF W) x y p) ∧ Only b w w' := by
  have c0 := h.c0
  have a1 : ¬ ((x : Int) < 0) := by omega
  have a2 : ¬ ((y : Int) < (x : Int)) := by omega
  have a3 : ¬ ((n : Int) < (y : Int)) := by omega
  have hn2 := h.n2
  have H : Hid (BM w B g n b c W) := h
  clear h
  go_enter Tryz.func272, Tryz.ntmps272
  go_wp2_with fail
  go_loopw [7] (fun t wr => ∃ (k : Nat) (W' : Nat → Nat), x ≤ k ∧ k ≤ y ∧ t = .int .i64 (k : Int) ∧ BM wr B g n b c W' ∧ (∀ p, bitF W' p = filF (bitF W) x k p) ∧ Only b w wr) (fun t _ => y - (intOf t).toNat)
  case atStart =>
    refine ⟨x, W, Nat.le_refl _, hxy, rfl, H.out, fun p => ?_, Only.of_below (Below.refl _ _)⟩
    unfold filF
    have : (decide (x ≤ p) && decide (p < x)) = false := by simp
    rw [this]
    rfl
  case round =>
    obtain ⟨k, W', k1, k2, rfl, hM, hbits, ho⟩ := hrel
    by_cases hlt : k < y
    · have a4 : (k : Int) < (y : Int) := by omega
      go_wp2_with fail
      refine (set_in wr hM k (by omega)).mono ?_
      rintro e w2 ⟨rfl, hM2, ho2⟩
      go_wp2_with fail
      refine ⟨⟨k + 1, putW W' k, by omega, by omega, by go_num, hM2, fun p => ?_, ho.trans ho2 (.inl rfl)⟩, ?_⟩
      · rw [bitF_put, hbits]
        unfold filF
        by_cases hp : p = k
        · subst hp
          simp; omega
        · have e1 : decide (p = k) = false := by simp [hp]
          have e2 : decide (p < k + 1) = decide (p < k) := by
            apply decide_eq_decide.2; omega
          rw [e1, e2]
          rfl
      · simp [intOf]; omega
    · obtain rfl : k = y := by omega
      have a4 : ¬ ((k : Int) < (k : Int)) := by omega
      go_wp2_with fail
      go_ret
      exact ⟨rfl, W', hM, hbits, ho⟩
end
end Go.Proofs.YtppagdmlfgialaaGreatDoor

namespace Go.Proofs.YtppagdmlfgialaaGreatDoor
open Go Go.RowKit
set_option linter.unusedVariables false
set_option linter.unusedSimpArgs false
section
variable {B g n b c : Nat} {W : Nat → Nat}
theorem sumW_le (W : Nat → Nat) (k : Nat) : sumW W k ≤ 64 * k := by rw [sumW_cnt]; exact cntF_le _ _
set_option maxHeartbeats 1000000 in
theorem count_any (w : World) (h : BM w B g n b c W) : Calls Tryz.prog 162 #[.pointer (some ⟨g, 0, none⟩)] w fun e w' => e = .returned (.int .i64 (cntF (bitF W) n : Int)) ∧ w' = w := by
  have c1 := h.c1
  have hl := lvN_le h.n2
  have HW : Hid (∀ i, i < 16 * lvN n → w.cell? ⟨b, i, none⟩ = some (.int .u64 ((W i : Nat) : Int))) := fun i hi => h.word hi
  have HL : Hid (∀ i, W i < 18446744073709551616) := h.lt
  have HE : Hid (sumW W (16 * lvN n) = cntF (bitF W) n) := by
    show sumW W (16 * lvN n) = cntF (bitF W) n
    rw [sumW_cnt]
    exact cntF_tail _ _ _ (by have := lvN_ge (n := n); omega) h.tail
  clear h
  have hk : 16 * lvN n ≤ 128 := by omega
  clear hl
  generalize 16 * lvN n = k at *
  go_enter Tryz.func162, Tryz.ntmps162
  go_wp2_with fail
  go_loop [3, 13] (fun t i => ∃ j : Nat, j ≤ k ∧ i = .int .i64 (j : Int) ∧ t = .int .i64 (sumW W j : Int)) (fun _ i => k - (intOf i).toNat)
  case atStart => exact ⟨0, by omega, rfl, rfl⟩
  case round =>
    obtain ⟨j, hj, rfl, rfl⟩ := hrel
    have hs := sumW_le W j
    by_cases hlt : j < k
    · have cw := HW.out j hlt
      have a1 : (j : Int) < (k : Int) := by omega
      have HS : Hid (wrap64 ((sumW W j : Int) + (onesTo (W j) 64 : Int)) = (sumW W (j + 1) : Int)) := by
        show wrap64 ((sumW W j : Int) + (onesTo (W j) 64 : Int)) = (sumW W (j + 1) : Int)
        have := onesTo_le (W j) 64
        rw [w64, wrapI64_id _ (by omega) (by omega)]
        show _ = ((sumW W j + onesTo (W j) 64 : Nat) : Int)
        omega
      go_wp2_with fail
      refine (ones_any (W j) (HL.out j) _).mono ?_
      rintro e w' ⟨rfl, rfl⟩
      go_wp2
      go_round
      case rel => exact ⟨j + 1, by omega, by go_num, by rw [HS.out]⟩
      case measure => simp [intOf]; omega
    · obtain rfl : j = k := by omega
      have a1 : ¬ ((j : Int) < (j : Int)) := by omega
      go_wp2_with fail
      go_ret
      exact ⟨by rw [← HE.out]; rfl, rfl⟩
/-- a word with its bits turned over, or not -/
def Turn (tn : Nat) (is : Bool) : Prop := (tn = 0 ∧ is = true) ∨ (tn = 18446744073709551615 ∧ is = false)
theorem Turn.bit {tn : Nat} {is : Bool} (h : Turn tn is) (W : Nat → Nat) (i j : Nat) (hj : j < 64) : (W i ^^^ tn).testBit j = (bitF W (64 * i + j) == is) := by
  rw [bitF_at W i j hj, Nat.testBit_xor]
  rcases h with ⟨rfl, rfl⟩ | ⟨rfl, rfl⟩
  · cases (W i).testBit j <;> simp
  · rw [show (18446744073709551615 : Nat) = 2 ^ 64 - 1 from rfl, Nat.testBit_two_pow_sub_one]
    cases (W i).testBit j <;> simp [hj]
theorem Turn.lt {tn : Nat} {is : Bool} (h : Turn tn is) : tn < 18446744073709551616 := by
  rcases h with ⟨rfl, rfl⟩ | ⟨rfl, rfl⟩ <;> decide
/-- what is left of a word behind the places ahead -/
def Left (W : Nat → Nat) (is : Bool) (f a x : Nat) : Prop := f < 64 * (a + 1) ∧ x < 18446744073709551616 ∧ (∀ j, j < 64 → x.testBit j = (decide (f ≤ 64 * a + j) && (bitF W (64 * a + j) == is))) ∧ (∀ q, f ≤ q → q < 64 * a → bitF W q = !is)
end
end Go.Proofs.YtppagdmlfgialaaGreatDoor

namespace Go.Proofs.YtppagdmlfgialaaGreatDoor
open Go Go.RowKit
set_option linter.unusedVariables false
set_option linter.unusedSimpArgs false
def boL (F : Nat → Bool) (n : Nat) : List Value := (List.range n).map fun i => Value.bool (F i)
theorem boL_at (F : Nat → Bool) (n i : Nat) (h : i < n) : (boL F n)[i]? = some (.bool (F i)) := by simp [boL, h]
theorem boL_len (F : Nat → Bool) (n : Nat) : (boL F n).length = n := by simp [boL]
theorem boL_congr {F G : Nat → Bool} {n : Nat} (h : ∀ i, i < n → F i = G i) : boL F n = boL G n := List.map_congr_left fun i hi => by rw [h i (List.mem_range.1 hi)]
theorem boL_set (F : Nat → Bool) (n i : Nat) (x : Bool) : (boL F n).set i (.bool x) = boL (fun j => if j = i then x else F j) n := by
  apply List.ext_getElem?
  intro j
  rw [List.getElem?_set]
  by_cases hj : j < n
  · rw [boL_at (fun j => if j = i then x else F j) _ _ hj]
    by_cases he : i = j
    · subst he
      rw [if_pos rfl, boL_len, if_pos hj]
      simp
    · rw [if_neg he, boL_at _ _ _ hj]
      simp [Ne.symm he]
  · have e1 : (boL F n)[j]? = none := List.getElem?_eq_none (by rw [boL_len]; omega)
    have e2 : (boL (fun j => if j = i then x else F j) n)[j]? = none := List.getElem?_eq_none (by rw [boL_len]; omega)
    rw [e1, e2, boL_len]
    split
    · rw [if_neg (by omega)]
    · rfl
/-- a list of n bools in block k -/
structure BA (w : World) (B k n c : Nat) (F : Nat → Bool) : Prop where
  n2 : n ≤ 8192
  row : w.ownsRow B 4 1 (.slice (some ⟨k, 0, none⟩) n c) n (boL F n)
section
variable {w w' : World} {B k n c : Nat} {F : Nat → Bool}
theorem BA.lt (h : BA w B k n c F) : B ≤ k ∧ k < w.heap.size := h.row.lt k rfl
theorem BA.keep (h : BA w B k n c F) (hk : w'.heap[k]? = w.heap[k]?) : BA w' B k n c F := ⟨h.n2, kown_kept h.row fun j _ hv => by
    have : j = k := by simp [Value.ownBlock] at hv; omega
    subst this
    exact hk⟩
theorem BA.below (h : BA w B k n c F) (hb : Below w.heap.size w w') : BA w' B k n c F := h.keep (hb.block k h.lt.2)
theorem BA.only {b : Nat} (h : BA w B k n c F) (ho : Only b w w') (hne : k ≠ b) : BA w' B k n c F := h.keep (ho.block k h.lt.2 hne)
theorem BA.dN (h : BA w B k n c F) (m : Nat) : BA (w.drewN m) B k n c F := h.keep rfl
theorem BA.mono {B' : Nat} (h : BA w B k n c F) (hB : B' ≤ B) : BA w B' k n c F := ⟨h.n2, kown_mono h.row hB⟩
theorem BA.congr {G : Nat → Bool} (h : BA w B k n c F) (he : ∀ i, i < n → F i = G i) : BA w B k n c G := ⟨h.n2, by rw [← boL_congr he]; exact h.row⟩
theorem BA.at (h : BA w B k n c F) {i : Nat} (hi : i < n) : w.cell? ⟨k, i, none⟩ = some (.bool (F i)) := by rw [h.row.cellAt i (by omega), boL_at _ _ _ hi]
theorem BA.frozen (h : BA w B k n c F) (i : Nat) : w.frozen? ⟨k, i, none⟩ = false := h.row.frozenAt i
theorem BA.put (h : BA w B k n c F) (i : Nat) (x : Bool) : BA (w.setCell ⟨k, i, none⟩ (.bool x)) B k n c (fun j => if j = i then x else F j) := ⟨h.n2, by
  have := (h.row.stored i (.bool x)).1
  rw [boL_set] at this
  exact this⟩
theorem BA.ne {g n' b' c' : Nat} {W : Nat → Nat} (h : BA w B k n c F) {B' : Nat} (hM : BM w B' g n' b' c' W) : k ≠ g ∧ k ≠ b' := by
  rcases h.row.2 with ⟨hn, _⟩ | ⟨g', cap', cur, hv, hb, hg, _⟩
  · cases hn
  · injection hv with hv1 hv2 hv3
    injection hv1 with hv1
    injection hv1 with hv1
    subst hv1
    refine ⟨fun e => ?_, fun e => ?_⟩
    · rw [e] at hg
      have := hM.cells
      unfold Blk at this
      rw [hg] at this
      injection this with this
      injection this with h1 h2
      exact absurd h2 (by decide)
    · rcases hM.row.2 with ⟨hn, _⟩ | ⟨g2, cap2, cur2, hv2, hb2, hg2, _⟩
      · cases hn
      · injection hv2 with hw1 hw2 hw3
        injection hw1 with hw1
        injection hw1 with hw1
        subst hw1
        rw [e, hg2] at hg
        injection hg with hg
        injection hg with h1 h2
        exact absurd h2 (by decide)
end
end Go.Proofs.YtppagdmlfgialaaGreatDoor

namespace Go.Proofs.YtppagdmlfgialaaGreatDoor
open Go Go.RowKit
set_option linter.unusedVariables false
set_option linter.unusedSimpArgs false
def bitsT : ByteArray := { data := #[98, 105, 116, 115] }
section
variable {w : World} {B g n b c : Nat} {W : Nat → Nat}
theorem BM.cap (h : BM w B g n b c W) : 16 * lvN n ≤ c := by
  rcases h.row.2 with ⟨hn, _⟩ | ⟨g', cap', cur, hv, hb, hg, hc, _⟩
  · cases hn
  · injection hv with hv1 hv2 hv3
    omega
end
end Go.Proofs.YtppagdmlfgialaaGreatDoor

namespace Go.Proofs.YtppagdmlfgialaaGreatDoor
set_option maxRecDepth 20000
open Go Go.RowKit
set_option linter.unusedVariables false
set_option linter.unusedSimpArgs false
/-- eight bits as a byte -/
def by8 (g : Nat → Bool) : Nat := (g 0).toNat + (g 1).toNat * 2 + (g 2).toNat * 4 + (g 3).toNat * 8 + (g 4).toNat * 16 + (g 5).toNat * 32 + (g 6).toNat * 64 + (g 7).toNat * 128
theorem by8_lt (g : Nat → Bool) : by8 g < 256 := by
  have h : ∀ b : Bool, b.toNat ≤ 1 := fun b => by cases b <;> decide
  have := h (g 0); have := h (g 1); have := h (g 2); have := h (g 3); have := h (g 4); have := h (g 5); have := h (g 6); have := h (g 7)
  unfold by8
  omega
theorem by8_congr {g h : Nat → Bool} (e : ∀ i, i < 8 → g i = h i) : by8 g = by8 h := by
  unfold by8
  rw [e 0 (by decide), e 1 (by decide), e 2 (by decide), e 3 (by decide), e 4 (by decide), e 5 (by decide), e 6 (by decide), e 7 (by decide)]
/-- one bit more -/
theorem or8 : ∀ b0 b1 b2 b3 b4 b5 b6 b7 : Bool, ∀ i, i < 8 → ([b0, b1, b2, b3, b4, b5, b6, b7].getD i false = false) →
    (b0.toNat + b1.toNat * 2 + b2.toNat * 4 + b3.toNat * 8 + b4.toNat * 16 + b5.toNat * 32 + b6.toNat * 64 + b7.toNat * 128) ||| 2 ^ i = (b0.toNat + b1.toNat * 2 + b2.toNat * 4 + b3.toNat * 8 + b4.toNat * 16 + b5.toNat * 32 + b6.toNat * 64 + b7.toNat * 128) + 2 ^ i := by decide
theorem by8_or (g : Nat → Bool) (i : Nat) (hi : i < 8) (hg : g i = false) : by8 g ||| 2 ^ i = by8 fun j => if j = i then true else g j := by
  have h := or8 (g 0) (g 1) (g 2) (g 3) (g 4) (g 5) (g 6) (g 7) i hi (by
    match i, hi with
    | 0, _ => exact hg
    | 1, _ => exact hg
    | 2, _ => exact hg
    | 3, _ => exact hg
    | 4, _ => exact hg
    | 5, _ => exact hg
    | 6, _ => exact hg
    | 7, _ => exact hg)
  show (_ : Nat) ||| 2 ^ i = _
  unfold by8
  rw [h]
  match i, hi with
  | 0, _ => rw [hg]; simp <;> omega
  | 1, _ => rw [hg]; simp <;> omega
  | 2, _ => rw [hg]; simp <;> omega
  | 3, _ => rw [hg]; simp <;> omega
  | 4, _ => rw [hg]; simp <;> omega
  | 5, _ => rw [hg]; simp <;> omega
  | 6, _ => rw [hg]; simp <;> omega
  | 7, _ => rw [hg]; simp <;> omega
/-- the head of a leaf: four letters, its number -/
def hdB (k j : Nat) : Nat := if j < 4 then tbyte bitsT j else if j < 8 then dig k (j - 4) else 0
/-- the document's leaf k, its first m bits laid -/
def rlF (F : Nat → Bool) (n k m j : Nat) : Nat := if 128 ≤ j ∧ j < 256 then by8 (fun i => decide (8 * (j - 128) + i < m) && (decide (1024 * k + 8 * (j - 128) + i < n) && F (1024 * k + 8 * (j - 128) + i))) else hdB k j
theorem rlF_zero (F : Nat → Bool) (n k j : Nat) : rlF F n k 0 j = hdB k j := by
  unfold rlF
  split
  · rw [by8_congr (h := fun _ => false) fun i _ => by simp]
    unfold hdB
    rw [if_neg (by omega), if_neg (by omega)]
    rfl
  · rfl
theorem rlF_skip (F : Nat → Bool) (n k m j : Nat) (h : F (1024 * k + m) = false ∨ n ≤ 1024 * k + m) : rlF F n k (m + 1) j = rlF F n k m j := by
  unfold rlF
  split
  · refine by8_congr fun i hi => ?_
    by_cases e : 8 * (j - 128) + i = m
    · have e2 : 1024 * k + 8 * (j - 128) + i = 1024 * k + m := by omega
      rw [e2]
      rcases h with h | h
      · rw [h]; simp
      · rw [decide_eq_false (show ¬ 1024 * k + m < n by omega)]; simp
    · have : decide (8 * (j - 128) + i < m + 1) = decide (8 * (j - 128) + i < m) := by
        rw [decide_eq_decide]; omega
      rw [this]
  · rfl
theorem rlF_bit (F : Nat → Bool) (n k m : Nat) (hm : m < 1024) (hn : 1024 * k + m < n) (h : F (1024 * k + m) = true) : rlF F n k m (128 + m / 8) ||| 2 ^ (m % 8) = rlF F n k (m + 1) (128 + m / 8) := by
  unfold rlF
  rw [if_pos (by omega), if_pos (by omega), by8_or _ (m % 8) (Nat.mod_lt _ (by decide)) (by rw [decide_eq_false (by omega)]; rfl)]
  refine by8_congr fun i hi => ?_
  by_cases e : i = m % 8
  · rw [if_pos e]
    have e2 : 1024 * k + 8 * (128 + m / 8 - 128) + i = 1024 * k + m := by omega
    rw [e2, h, decide_eq_true hn, decide_eq_true (by omega)]
    rfl
  · rw [if_neg e]
    have : decide (8 * (128 + m / 8 - 128) + i < m + 1) = decide (8 * (128 + m / 8 - 128) + i < m) := by
      rw [decide_eq_decide]; omega
    rw [this]
theorem rlF_other (F : Nat → Bool) (n k m j : Nat) (hm : m < 1024) (hj : j ≠ 128 + m / 8) : rlF F n k (m + 1) j = rlF F n k m j := by
  unfold rlF
  split
  · refine by8_congr fun i hi => ?_
    have : decide (8 * (j - 128) + i < m + 1) = decide (8 * (j - 128) + i < m) := by
      rw [decide_eq_decide]; omega
    rw [this]
  · rfl
def rlA (F : Nat → Bool) (n x : Nat) : Nat := rlF F n (x / 256) 1024 (x % 256)
theorem rlA_cells (F : Nat → Bool) (n k : Nat) : byL (rlA F n) ((k + 1) * 256) = byL (rlA F n) (k * 256) ++ (va 256 (iv .u8 (rlF F n k 1024))).toList := by
  rw [Nat.succ_mul, byL_add, va_toList]
  refine congrArg (fun l => byL (rlA F n) (k * 256) ++ l) ?_
  unfold byL
  refine List.map_congr_left fun j hj => ?_
  have hj' : j < 256 := List.mem_range.1 hj
  show Value.int .u8 ((rlF F n ((k * 256 + j) / 256) 1024 ((k * 256 + j) % 256) : Nat) : Int) = Value.int .u8 ((rlF F n k 1024 j : Nat) : Int)
  rw [show (k * 256 + j) / 256 = k by omega, show (k * 256 + j) % 256 = j by omega]
theorem infoRb : (Tryz.prog.info? 121).map (fun i => (i.zero, i.size, i.bytes)) = some (some (.agg (va 256 (iv .u8 fun _ => 0))), 256, 256) := by kernel_rfl
theorem sizeRb : (Tryz.prog.info? 121).map (·.size) = some 256 := by kernel_rfl
theorem zero_rb (w : World) : (zeroValue 121).run Tryz.prog w = .ok (.agg (va 256 (iv .u8 fun _ => 0))) w := by
  have h : (Tryz.prog.info? 121).map (·.zero) = some (some (.agg (va 256 (iv .u8 fun _ => 0)))) := by kernel_rfl
  cases hq : Tryz.prog.info? 121 with
  | none => simp [hq] at h
  | some i =>
    have hz : i.zero = some (.agg (va 256 (iv .u8 fun _ => 0))) := by simpa [hq] using h
    simp [zeroValue, typeInfo, hq, hz]
def hd0 (j : Nat) : Nat := if j = 0 then 98 else if j = 1 then 105 else if j = 2 then 116 else if j = 3 then 115 else 0
theorem built_hd : Tryz.prog.built 121 [(0, .int .u8 98), (1, .int .u8 105), (2, .int .u8 116), (3, .int .u8 115)] = some (va 256 (iv .u8 hd0)) := by kernel_rfl
theorem wpList_build4c {P : Program} {ops : Array Oper} {rest : List Oper} {o : Oper} {a : Act} {w : World} {Q : Exit → Act → World → Prop} (hg : o.guard = none) (t : TypeId) (x0 x1 x2 x3 : Operand) (ho : o.op = .build t #[(0, x0), (1, x1), (2, x2), (3, x3)]) (v0 v1 v2 v3 : Value) (h0 : a.eval x0 = v0) (h1 : a.eval x1 = v1) (h2 : a.eval x2 = v2) (h3 : a.eval x3 = v3)
    (cells : Array Value) (hf : P.built t [(0, v0), (1, v1), (2, v2), (3, v3)] = some cells) (h : wpList P ops Q rest (a.put o.dst (.agg cells)) w) : wpList P ops Q (o :: rest) a w := by
  refine wpList_buildTo hg t _ ho o.dst rfl cells ?_ h
  have e : (Array.map (fun (x : Nat × Operand) => match x with | (i, x) => (i, a.eval x)) #[(0, x0), (1, x1), (2, x2), (3, x3)]).toList = [(0, v0), (1, v1), (2, v2), (3, v3)] := by simp [h0, h1, h2, h3]
  rw [e]
  exact hf
end Go.Proofs.YtppagdmlfgialaaGreatDoor

namespace Go.Proofs.YtppagdmlfgialaaGreatDoor
open Go Go.RowKit
set_option linter.unusedSimpArgs false
set_option linter.unusedVariables false
set_option maxRecDepth 20000
theorem io_dN {B : Nat} {w0 w : World} (h : Below B w0 w) (n : Nat) : Below B w0 (w.drewN n) := ⟨h.1, h.2, h.3, h.4, h.5⟩
def lnk (x : Ino) : Bool := if x.k = 1 then decide (1 ≤ x.l) && decide (x.l ≤ 1000) else if x.k = 2 then decide (x.l = 1) else false
def siz (x : Ino) : Bool := if x.k = 2 ∧ ¬ x.s.tmod 64 = 0 then false else decide (0 ≤ x.s) && decide (x.s ≤ 1048576)
def tre (x : Ino) : Bool := if x.h ≠ hL 256 x.s ∨ 8192 ≤ x.r.1 then false else decide (x.r = rf0) || (decide (x.r.1 ≠ 0) && decide (x.s ≠ 0))
def chk (x : Ino) : Bool := decide (x = in0) || (lnk x && (siz x && tre x))
theorem ino_c0 {w : World} {g T : Nat} {x : Ino} (h : Blk w g T (inC x)) : w.cell? ⟨g, 0, none⟩ = some (.int .i64 x.k) := by rw [h.cell]; exact va_at (inF x) (by decide)
theorem ino_c1 {w : World} {g T : Nat} {x : Ino} (h : Blk w g T (inC x)) : w.cell? ⟨g, 1, none⟩ = some (.int .i64 x.l) := by rw [h.cell]; exact va_at (inF x) (by decide)
theorem ino_c2 {w : World} {g T : Nat} {x : Ino} (h : Blk w g T (inC x)) : w.cell? ⟨g, 2, none⟩ = some (.int .i64 x.s) := by rw [h.cell]; exact va_at (inF x) (by decide)
theorem ino_c3 {w : World} {g T : Nat} {x : Ino} (h : Blk w g T (inC x)) : w.cell? ⟨g, 3, none⟩ = some (.int .u64 ((x.t : Nat) : Int)) := by rw [h.cell]; exact va_at (inF x) (by decide)
theorem ino_c4 {w : World} {g T : Nat} {x : Ino} (h : Blk w g T (inC x)) : w.cell? ⟨g, 4, none⟩ = some (.int .i64 x.h) := by rw [h.cell]; exact va_at (inF x) (by decide)
theorem ino_c5 {w : World} {g T : Nat} {x : Ino} (h : Blk w g T (inC x)) : w.cell? ⟨g, 5, none⟩ = some (.int .u32 ((x.r.1 : Nat) : Int)) := by rw [h.cell]; exact va_at (inF x) (by decide)
end Go.Proofs.YtppagdmlfgialaaGreatDoor

namespace Go.Proofs.YtppagdmlfgialaaGreatDoor
open Go Go.RowKit
set_option linter.unusedSimpArgs false
set_option linter.unusedVariables false
set_option maxRecDepth 20000
theorem tdiv_nn2 (a b : Int) (h : 0 ≤ a) : a.tdiv b = a / b := Int.tdiv_eq_ediv_of_nonneg h
set_option maxHeartbeats 4000000 in
theorem rleaves_any (n : Int) (h0 : 0 ≤ n) (h1 : n ≤ 1048576) (w : World) : Calls Tryz.prog 209 #[.int .i64 n] w fun e w' => e = .returned (.int .i64 ((n + 255) / 256)) ∧ w' = w := by
  have HE : Hid ((n + 255).tdiv 256 = (n + 255) / 256) := tdiv_nn2 _ _ (by omega)
  go_enter Tryz.func209, Tryz.ntmps209
  go_wp2_with fail
  go_ret
  exact ⟨by first | rfl | (rw [← HE.out]; rfl), rfl⟩
set_option maxHeartbeats 4000000 in
theorem rheight_any (n : Int) (h0 : 0 ≤ n) (h1 : n ≤ 1048576) (w : World) : Calls Tryz.prog 147 #[.int .i64 n] w fun e w' => e = .returned (.int .i64 (hL 256 n)) ∧ w' = w := by
  have HA : Hid (∀ w, Calls Tryz.prog 209 #[.int .i64 n] w fun e w' => e = .returned (.int .i64 ((n + 255) / 256)) ∧ w' = w) := rleaves_any n h0 h1
  have HC : Hid (∀ w, Calls Tryz.prog 150 #[.int .i64 ((n + 255) / 256)] w fun e w' => e = .returned (.int .i64 (hL 256 n)) ∧ w' = w) := by
    have := rleast ((n + 255) / 256) (by omega) (by omega)
    rw [hL_256 n h0] at this
    exact this
  generalize (n + 255) / 256 = m at *
  generalize hL 256 n = H at *
  go_enter Tryz.func147, Tryz.ntmps147
  go_wp2_with fail
  refine (HA.out _).mono ?_
  intro e w2 hw2
  obtain ⟨he2, hb2⟩ := hw2
  subst he2 hb2
  go_wp2_with fail
  refine (HC.out _).mono ?_
  intro e w2 hw2
  obtain ⟨he2, hb2⟩ := hw2
  subst he2 hb2
  go_wp2_with fail
  go_ret
  exact ⟨rfl, rfl⟩
end Go.Proofs.YtppagdmlfgialaaGreatDoor
