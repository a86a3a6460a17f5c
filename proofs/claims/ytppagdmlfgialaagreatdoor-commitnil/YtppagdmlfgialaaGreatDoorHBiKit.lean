/- A map of bits in the memory: what its cells are, what keeps them; Size, inside, Has, Set, Clear: the contracts. -/
import Derived.Test.YtppagdmlfgialaaGreatDoorHTrRGet
import Derived.Test.YtppagdmlfgialaaGreatDoorHLvStep
import Derived.Test.YtppagdmlfgialaaGreatDoorHSuKit
import Derived.Handy
import Derived.Test.YtppagdmlfgialaaGreatDoorProg
import Derived.Test.YtppagdmlfgialaaGreatDoorHRowf
import Derived.Lib.Tables
import Derived.Lib.BitFns
import Derived.Lib.TrailingZeros
import Derived.WalkKit
import Derived.ProofKit
import Derived.OpenShut
import Derived.WalkSpells
import Derived.Below
import Derived.Test.YtppagdmlfgialaaGreatDoorHNdKit
import Derived.Deep.Light
import Derived.Test.YtppagdmlfgialaaGreatDoorHSegsP
import Derived.Deep.QuietTactic
import Derived.BigQuiet
import Derived.Deep.Heap

namespace Go.Proofs.YtppagdmlfgialaaGreatDoor
theorem sgLHBiKit : (∀ (α : Type) (a : α) (l r : List α), (a :: l) ++ r = a :: (l ++ r)) ∧ (∀ (α : Type) (l : List α), [] ++ l = l) ∧ (∀ (α : Type) (l : List α), l ++ [] = l) ∧ (∀ (α β : Type) (f : α → Option β) (a : α) (l : List α), (a :: l).filterMap f = match f a with | none => l.filterMap f | some b => b :: l.filterMap f) ∧ (∀ (α β : Type) (f : α → Option β), [].filterMap f = []) ∧ (∀ (α : Type) (l : List α) (i : Nat), l.toArray[i]? = l[i]?) ∧ (∀ (α : Type) (a : α) (l : List α), (a :: l)[0]? = some a) ∧ (∀ (α : Type) (a : α) (l : List α) (i : Nat), (a :: l)[i + 1]? = l[i]?) :=
  ⟨fun _ _ _ _ => List.cons_append, fun _ _ => List.nil_append _, fun _ _ => List.append_nil _, fun _ _ _ _ _ => List.filterMap_cons, fun _ _ _ => List.filterMap_nil, fun _ _ _ => List.getElem?_toArray, fun _ _ _ => List.getElem?_cons_zero, fun _ _ _ _ => List.getElem?_cons_succ⟩
theorem sgPHBiKit : (∀ (α : Type) (l : List α) (i : Nat) (a : α), l.toArray.setIfInBounds i a = (l.set i a).toArray) ∧ (∀ (α : Type) (a b : α) (l : List α), (a :: l).set 0 b = b :: l) ∧ (∀ (α : Type) (a b : α) (l : List α) (i : Nat), (a :: l).set (i + 1) b = a :: l.set i b) :=
  ⟨fun _ _ _ _ => List.setIfInBounds_toArray _ _ _, fun _ _ _ _ => List.set_cons_zero, fun _ _ _ _ _ => List.set_cons_succ⟩
end Go.Proofs.YtppagdmlfgialaaGreatDoor
namespace Go.Proofs.YtppagdmlfgialaaGreatDoor
open Go Go.RowKit
set_option linter.unusedSimpArgs false
set_option linter.unusedVariables false

/-- a text's block: its bytes, then zeros -/
def bkT (n : Nat) (f : Nat → Nat) : Nat → Nat := fupN n f fun _ => 0
set_option maxRecDepth 100000 in
set_option maxHeartbeats 4000000 in
theorem block21_any (n : Nat) (f : Nat → Nat) (hn : n ≤ 256) (hf : ∀ j, j < n → f j < 256) (w : World) : Calls Tryz.prog 43 #[.string (strN f n)] w fun e w' => e = .returned (.agg (va 256 (iv .u8 (bkT n f)))) ∧ Below w.heap.size w w' := by
  have hz := zero_256
  have hln : (strN f n).size = n := strN_size _ _
  have r0 : Blk ((w.alloc (.cells (va 256 (iv .u8 fun _ => 0)) 121)).alloc (.cells (va 256 (iv .u8 fun _ => 0)) 121)) w.heap.size 121 (va 256 (iv .u8 fun _ => 0)) := (Blk.new _ _ _).alloc _
  have r1 : Blk ((w.alloc (.cells (va 256 (iv .u8 fun _ => 0)) 121)).alloc (.cells (va 256 (iv .u8 fun _ => 0)) 121)) (w.heap.size + 1) 121 (va 256 (iv .u8 fun _ => 0)) := Blk.new1 _ _ _ _
  have hb0 : Below w.heap.size w ((w.alloc (.cells (va 256 (iv .u8 fun _ => 0)) 121)).alloc (.cells (va 256 (iv .u8 fun _ => 0)) 121)) := below_new2 _ _ _
  go_enter Tryz.func43, Tryz.ntmps43
  go_wp2_with (first
    | (refine wpList_store_row (by rfl) 121 _ _ (by rfl) (w.heap.size + 1) (va 256 (iv .u8 (fun _ => 0))) (by rfl) (by rfl) 121 _ r1 (size256.trans (by rw [va_size])) (by simp only [va_size]) (iv_one _ _ _) ?_; simp only [Act.put, sgPHBiKit])
    | fail)
  go_loopw [4] (fun t wr => ∃ k : Nat, k ≤ n ∧ t = .int .i64 (k : Int) ∧ Blk wr w.heap.size 121 (va 256 (iv .u8 fun _ => 0)) ∧ Blk wr (w.heap.size + 1) 121 (va 256 (iv .u8 (fupN k f fun _ => 0))) ∧ Below w.heap.size w wr) (fun t _ => n - (intOf t).toNat)
  case atStart =>
    refine ⟨0, Nat.zero_le _, rfl, r0.other _ (by omega), ?_, below_setRow hb0 (by omega) _⟩
    rw [fup_zero]
    exact r1.set _
  case round =>
    obtain ⟨k, hk, rfl, q0, q1, hb⟩ := hrel
    clear r0 r1 hb0
    by_cases hlt : k < n
    · have hk256 : k < 256 := by omega
      have c0 := q1.cv (i := k) hk256
      have f0 := q1.frozen k
      have k0 : (0 : Int) ≤ (k : Int) := by omega
      have k1 : (k : Int) < (n : Int) := by omega
      have k2 : (k : Int) < 256 := by omega
      have hin : k < (strN f n).size := by rw [hln]; exact hlt
      have hg : ((strN f n)[k]'hin).toNat = f k := (tbyte_get (strN f n) k hin).symm.trans (strN_at f n k hlt (hf k hlt))
      have q2 : Blk (wr.setCell ⟨w.heap.size + 1, k, none⟩ (.int .u8 (f k : Int))) (w.heap.size + 1) 121 (va 256 (iv .u8 (fupN (k + 1) f fun _ => 0))) := by
        have := q1.put k (.int .u8 (f k : Int))
        rw [va_set] at this
        have e := fup_step .u8 256 k f (fun _ => 0)
        rw [e] at this
        exact this
      have q3 : Blk (wr.setCell ⟨w.heap.size + 1, k, none⟩ (.int .u8 (f k : Int))) w.heap.size 121 (va 256 (iv .u8 fun _ => 0)) := q0.put_other _ _ (by omega)
      have hb2 : Below w.heap.size w (wr.setCell ⟨w.heap.size + 1, k, none⟩ (.int .u8 (f k : Int))) := hb.setCell (p := ⟨w.heap.size + 1, k, none⟩) (Nat.le_succ _) _
      go_wp2_with fail
      refine ⟨⟨k + 1, by omega, by simp, q3, q2, hb2⟩, ?_⟩
      simp [intOf]
      omega
    · obtain rfl : k = n := by omega
      go_wp2_with (first
        | (refine wpList_load_row (by rfl) 121 _ (by rfl) (w.heap.size + 1) (by rfl) 121 (va 256 (iv .u8 (fupN k f fun _ => 0))) (0, 0) _ q1 Tryz.underlying121 (by rfl) (size256.trans (by rw [va_size])) ?_; simp only [Act.put, sgPHBiKit])
        | (refine wpList_store_row (by rfl) 121 _ _ (by rfl) (w.heap.size) (va 256 (iv .u8 (fupN k f fun _ => 0))) (by rfl) (by rfl) 121 _ q0 (size256.trans (by rw [va_size])) (by simp only [va_size]) (iv_one _ _ _) ?_; simp only [Act.put, sgPHBiKit])
        | fail)
      try simp only [Exit.inBlock, Exit.then]
      refine bodyPost_ret (results_cell_row Tryz.results43 _ _ w.heap.size 121 (va 256 (iv .u8 (fupN k f fun _ => 0))) (0, 0) _ rfl (q0.set _) Tryz.underlying121 rfl (size256.trans (by rw [va_size]))) rfl ?_
      exact ⟨rfl, below_setRow hb (Nat.le_refl _) _⟩
set_option maxRecDepth 100000 in
set_option maxHeartbeats 4000000 in
theorem map21_one (n : Nat) (h1 : 1 ≤ n) (h2 : n ≤ 1024) (w : World) : Calls Tryz.prog 44 #[.int .i64 (n : Int)] w fun e w' => e = .returned (.int .i64 1) ∧ w' = w := by
  have hw : wrap64 ((n : Int) + 1023) = (n : Int) + 1023 := wrap64_at _ (by omega)
  have hq : ((n : Int) + 1023).tdiv 1024 = 1 := by
    rw [Int.tdiv_eq_ediv_of_nonneg (by omega)]
    omega
  go_enter Tryz.func44, Tryz.ntmps44
  go_wp2_with fail
  go_loopw [3, 4] (fun v3 v4 wr => v3 = .int .i64 1 ∧ v4 = .int .i64 1 ∧ wr = w) (fun _ _ _ => 0)
  case atStart => exact ⟨by first | rfl | rw [hq] | simp [hq], by first | rfl | rw [hq] | simp [hq], rfl⟩
  case round =>
    obtain ⟨rfl, rfl, rfl⟩ := hrel
    go_wp2_with fail
    go_ret
    exact ⟨rfl, rfl⟩
set_option maxRecDepth 100000 in
set_option maxHeartbeats 4000000 in
theorem lref21_any (r : Rf) (w : World) : Calls Tryz.prog 25 #[.int .u32 (r.1 : Int), .agg (va 32 (iv .u8 (dF r.2)))] w fun x w' => x = .returned (.agg (rfC r)) ∧ Below w.heap.size w w' := by
  have hz := zero_ref
  have r0 : Blk ((w.alloc (.cells (va 32 (iv .u8 (dF r.2))) 38)).alloc (.cells (rfC rf0) 41)) w.heap.size 38 (va 32 (iv .u8 (dF r.2))) := (Blk.new _ _ _).alloc _
  have r1 : Blk ((w.alloc (.cells (va 32 (iv .u8 (dF r.2))) 38)).alloc (.cells (rfC rf0) 41)) (w.heap.size + 1) 41 (rfC rf0) := Blk.new1 _ _ _ _
  have hb : Below w.heap.size w ((w.alloc (.cells (va 32 (iv .u8 (dF r.2))) 38)).alloc (.cells (rfC rf0) 41)) := below_new2 _ _ _
  have HBT : Hid (Tryz.prog.built 41 [(0, .int .u32 (r.1 : Int)), (1, .agg (va 32 (iv .u8 (dF r.2))))] = some (rfC r)) := built_refC r.1 r.2
  go_enter Tryz.func25, Tryz.ntmps25
  go_wp2_with (first
    | (refine wpList_load_row (by rfl) 38 _ (by rfl) (w.heap.size) (by rfl) 38 (va 32 (iv .u8 (dF r.2))) (0, 0) _ r0 Tryz.underlying38 (by rfl) (rsizeSum.trans (by rw [va_size])) ?_; simp only [Act.put, sgPHBiKit])
    | (refine tr_build2 (by rfl) 41 0 1 _ _ (by rfl) (.int .u32 (r.1 : Int)) (.agg (va 32 (iv .u8 (dF r.2)))) (by rfl) (by rfl) (rfC r) (by exact HBT.out) ?_; simp only [Act.put, sgPHBiKit])
    | (refine wpList_store_row (by rfl) 41 _ _ (by rfl) (w.heap.size + 1) (rfC r) (by rfl) (by rfl) 41 (_) (by exact r1) (tsizeRef.trans (by rw [rfC_size])) (by simp only [rfC_size]) (rfC_all _) ?_; simp only [Act.put, sgPHBiKit])
    | fail)
  try simp only [Exit.inBlock, Exit.then]
  refine bodyPost_ret (results_cell_row Tryz.results25 _ _ (w.heap.size + 1) 41 (rfC r) (0, 0) _ rfl (r1.set _) Tryz.underlying41 rfl (tsizeRef.trans (by rw [rfC_size]))) rfl ?_
  exact ⟨rfl, below_setRow hb (by omega) _⟩
theorem zero_ref14 (w : World) : (zeroValue 70).run Tryz.prog w = .ok (.agg (rfC rf0)) w := zero_of (by kernel_rfl) w
theorem built_ref14 (a : Nat) (s : Vector Nat 32) : Tryz.prog.built 70 [(0, .int .u32 (a : Int)), (1, .agg (va 32 (iv .u8 (dF s))))] = some (rfC (a, s)) := by kernel_rfl
theorem sizeRef14 : (Tryz.prog.info? 70).map (·.size) = some 33 := by kernel_rfl
set_option maxRecDepth 100000 in
set_option maxHeartbeats 4000000 in
theorem rref21_any (r : Rf) (w : World) : Calls Tryz.prog 47 #[.agg (rfC r)] w fun x w' => x = .returned (.agg (rfC r)) ∧ Below w.heap.size w w' := by
  have hz := zero_ref14
  have r0 : Blk ((w.alloc (.cells (rfC r) 67)).alloc (.cells (rfC rf0) 70)) w.heap.size 67 (rfC r) := (Blk.new _ _ _).alloc _
  have r1 : Blk ((w.alloc (.cells (rfC r) 67)).alloc (.cells (rfC rf0) 70)) (w.heap.size + 1) 70 (rfC rf0) := Blk.new1 _ _ _ _
  have hb : Below w.heap.size w ((w.alloc (.cells (rfC r) 67)).alloc (.cells (rfC rf0) 70)) := below_new2 _ _ _
  have x1 : ((w.alloc (.cells (rfC r) 67)).alloc (.cells (rfC rf0) 70)).cell? ⟨w.heap.size, 0, none⟩ = some (.int .u32 (r.1 : Int)) := (r0.cell 0).trans (va_at (rfF r.1 r.2) (by decide))
  have HR : Hid (((w.alloc (.cells (rfC r) 67)).alloc (.cells (rfC rf0) 70)).rangeAt w.heap.size 1 ((List.range 32).map (iv .u8 (dF r.2)))) := rref_range r0
  have HBT : Hid (Tryz.prog.built 70 [(0, .int .u32 (r.1 : Int)), (1, .agg (va 32 (iv .u8 (dF r.2))))] = some (rfC r)) := built_ref14 r.1 r.2
  go_enter Tryz.func47, Tryz.ntmps47
  go_wp2_with (first
    | (refine wpList_load_blk (by rfl) 38 _ (by rfl) (w.heap.size) (1) 32 (iv .u8 (dF r.2)) (by rfl) _ (by exact HR.out) Tryz.underlying38 rfl rsizeSum ?_; simp only [Act.put, sgPHBiKit])
    | (refine tr_build2 (by rfl) 70 0 1 _ _ (by rfl) (.int .u32 (r.1 : Int)) (.agg (va 32 (iv .u8 (dF r.2)))) (by rfl) (by rfl) (rfC r) (by exact HBT.out) ?_; simp only [Act.put, sgPHBiKit])
    | (refine wpList_store_row (by rfl) 70 _ _ (by rfl) (w.heap.size + 1) (rfC r) (by rfl) (by rfl) 70 (_) (by exact r1) (sizeRef14.trans (by rw [rfC_size])) (by simp only [rfC_size]) (rfC_all _) ?_; simp only [Act.put, sgPHBiKit])
    | fail)
  try simp only [Exit.inBlock, Exit.then]
  refine bodyPost_ret (results_cell_row Tryz.results47 _ _ (w.heap.size + 1) 70 (rfC r) (0, 0) _ rfl (r1.set _) Tryz.underlying70 rfl (sizeRef14.trans (by rw [rfC_size]))) rfl ?_
  exact ⟨rfl, below_setRow hb (by omega) _⟩
end Go.Proofs.YtppagdmlfgialaaGreatDoor

namespace Go.Proofs.YtppagdmlfgialaaGreatDoor
open Go Go.RowKit
set_option linter.unusedVariables false

/-- the bit of a place, of words of 64 -/
def bitF (W : Nat → Nat) (p : Nat) : Bool := (W (p / 64)).testBit (p % 64)
def notN (b : Nat) : Nat := 18446744073709551615 - b
theorem notN_bit (b j : Nat) (hb : b < 18446744073709551616) (hj : j < 64) : (notN b).testBit j = !b.testBit j := by
  have e : notN b = 2 ^ 64 - (b + 1) := by unfold notN; omega
  rw [e, Nat.testBit_two_pow_sub_succ (by omega)]
  simp [hj]
theorem and_lt64 (a b : Nat) (ha : a < 18446744073709551616) : a &&& b < 18446744073709551616 := Nat.lt_of_le_of_lt Nat.and_le_left ha
theorem or_lt64 (a b : Nat) (ha : a < 18446744073709551616) (hb : b < 18446744073709551616) : a ||| b < 18446744073709551616 := Nat.or_lt_two_pow (n := 64) (by omega) (by omega)
theorem word_ext {a b : Nat} (ha : a < 18446744073709551616) (hb : b < 18446744073709551616) (h : ∀ j, j < 64 → a.testBit j = b.testBit j) : a = b := by
  apply Nat.eq_of_testBit_eq
  intro j
  by_cases hj : j < 64
  · exact h j hj
  · rw [lt64_bit a j ha (by omega), lt64_bit b j hb (by omega)]
theorem bitF_at (W : Nat → Nat) (i j : Nat) (hj : j < 64) : bitF W (64 * i + j) = (W i).testBit j := by
  unfold bitF
  rw [show (64 * i + j) / 64 = i from by omega, show (64 * i + j) % 64 = j from by omega]
/-- one bit made 1, made 0 -/
def putW (W : Nat → Nat) (p : Nat) : Nat → Nat := updN W (p / 64) (W (p / 64) ||| 2 ^ (p % 64))
theorem bitF_put (W : Nat → Nat) (p q : Nat) : bitF (putW W p) q = (decide (q = p) || bitF W q) := by
  unfold bitF putW updN
  by_cases h : q / 64 = p / 64
  · rw [if_pos h, Nat.testBit_or, Nat.testBit_two_pow, h]
    by_cases h2 : q = p
    · subst h2; simp
    · have : ¬ p % 64 = q % 64 := by omega
      simp [h2, this]
  · rw [if_neg h]
    have : ¬ q = p := fun e => h (by rw [e])
    simp [this]
theorem putW_lt {W : Nat → Nat} (h : ∀ i, W i < 18446744073709551616) (p : Nat) : ∀ i, putW W p i < 18446744073709551616 := fun i => by
  unfold putW updN
  split
  · exact or_lt64 _ _ (h _) (pow_lt_u64 _ (by omega))
  · exact h i
/-- whether a bit is one, as the program asks -/
theorem and_pow_ne (x k : Nat) : (((x &&& 2 ^ k : Nat) : Int) == 0) = !x.testBit k := by
  have e : x &&& 2 ^ k = if x.testBit k then 2 ^ k else 0 := by
    apply Nat.eq_of_testBit_eq
    intro j
    rw [Nat.testBit_and, Nat.testBit_two_pow]
    by_cases h : k = j
    · subst h
      cases hb : x.testBit k <;> simp
    · cases hb : x.testBit k <;> simp [h]
  rw [e]
  cases hb : x.testBit k
  · simp
  · simp only [if_true, Bool.not_true, beq_eq_false_iff_ne]
    have := Nat.two_pow_pos k
    omega
/-- two tables of words that hold the same bits -/
theorem words_ext {V W : Nat → Nat} (hV : ∀ i, V i < 18446744073709551616) (hW : ∀ i, W i < 18446744073709551616) (h : ∀ p, bitF V p = bitF W p) (i : Nat) : V i = W i :=
  word_ext (hV i) (hW i) fun j hj => by rw [← bitF_at V i j hj, ← bitF_at W i j hj, h]

/-- how many of the first places are one -/
def cntF (F : Nat → Bool) : Nat → Nat
  | 0 => 0
  | n + 1 => cntF F n + if F n then 1 else 0
theorem cntF_le (F : Nat → Bool) (n : Nat) : cntF F n ≤ n := by
  induction n with
  | zero => simp [cntF]
  | succ n ih => unfold cntF; split <;> omega
theorem cntF_congr {F G : Nat → Bool} {n : Nat} (h : ∀ p, p < n → F p = G p) : cntF F n = cntF G n := by
  induction n with
  | zero => rfl
  | succ n ih => unfold cntF; rw [ih fun p hp => h p (by omega), h n (by omega)]
theorem cntF_add (F : Nat → Bool) (a : Nat) : ∀ b, cntF F (a + b) = cntF F a + cntF (fun j => F (a + j)) b
  | 0 => by simp [cntF]
  | b + 1 => by
    show cntF F (a + b) + (if F (a + b) then 1 else 0) = cntF F a + (cntF (fun j => F (a + j)) b + if F (a + b) then 1 else 0)
    rw [cntF_add F a b]
    omega
theorem cntF_none (F : Nat → Bool) (n : Nat) (h : ∀ p, p < n → F p = false) : cntF F n = 0 := by
  induction n with
  | zero => rfl
  | succ n ih => unfold cntF; rw [ih fun p hp => h p (by omega), h n (by omega)]; rfl
theorem cntF_tail (F : Nat → Bool) (a b : Nat) (hab : a ≤ b) (h : ∀ p, a ≤ p → F p = false) : cntF F b = cntF F a := by
  obtain ⟨d, rfl⟩ := Nat.exists_eq_add_of_le hab
  rw [cntF_add, cntF_none (fun j => F (a + j)) d fun p _ => h _ (by omega)]
  rfl
theorem onesTo_cnt (x : Nat) : ∀ k, onesTo x k = cntF (fun j => x.testBit j) k
  | 0 => rfl
  | k + 1 => by
    unfold onesTo cntF
    rw [onesTo_cnt x k]
def sumW (W : Nat → Nat) : Nat → Nat
  | 0 => 0
  | i + 1 => sumW W i + onesTo (W i) 64
theorem sumW_cnt (W : Nat → Nat) : ∀ i, sumW W i = cntF (bitF W) (64 * i)
  | 0 => rfl
  | i + 1 => by
    unfold sumW
    rw [sumW_cnt W i, Nat.mul_add, Nat.mul_one, cntF_add, onesTo_cnt]
    congr 1
    exact cntF_congr fun j hj => (bitF_at W i j hj).symm

end Go.Proofs.YtppagdmlfgialaaGreatDoor

namespace Go.Proofs.YtppagdmlfgialaaGreatDoor

theorem and64 (a b : Nat) (c : Int) (hc : c = b) (ha : a < 18446744073709551616) (hb : b < 18446744073709551616) : bits .and .u64 (a : Int) c = ((a &&& b : Nat) : Int) := by
  subst hc; exact u64_and_nat a b ha hb

theorem pop_facts (x : Nat) (hx : x < 18446744073709551616) : ∃ y1 y2 ys y3 z1 z2 z3 : Nat,
    IntKind.u64.wrap (bits .and .u64 ((x : Int) / 2) 6148914691236517205 + bits .and .u64 (x : Int) 6148914691236517205) = (y1 : Int) ∧
    IntKind.u64.wrap (bits .and .u64 ((y1 : Int) / 4) 3689348814741910323 + bits .and .u64 (y1 : Int) 3689348814741910323) = (y2 : Int) ∧
    IntKind.u64.wrap ((y2 : Int) / 16 + (y2 : Int)) = (ys : Int) ∧ bits .and .u64 (ys : Int) 1085102592571150095 = (y3 : Int) ∧
    IntKind.u64.wrap ((y3 : Int) + (y3 : Int) / 256) = (z1 : Int) ∧ IntKind.u64.wrap ((z1 : Int) + (z1 : Int) / 65536) = (z2 : Int) ∧ IntKind.u64.wrap ((z2 : Int) + (z2 : Int) / 4294967296) = (z3 : Int) ∧
    z3 < 9223372036854775808 ∧ z3 % 128 = onesTo x 64 := by
  have hl : (bytesOf x).length = 8 := rfl
  have hlt := bytesOf_lt x
  have ok := fun b (hb : b ∈ bytesOf x) => bytes_ok ⟨b, hlt b hb⟩
  have s1 := step1 x hx
  have s2 := step2 ((bytesOf x).map f1) (by simp [hl]) (fun c hc => by
    obtain ⟨b, hb, rfl⟩ := List.mem_map.1 hc
    exact (ok b hb).1)
  have s3 := step3 (((bytesOf x).map f1).map f2) (by simp [hl]) (fun c hc => by
    obtain ⟨b', hb', rfl⟩ := List.mem_map.1 hc
    obtain ⟨b, hb, rfl⟩ := List.mem_map.1 hb'
    exact ⟨(ok b hb).2.1, (ok b hb).2.2.1⟩)
  have e3 : (((bytesOf x).map f1).map f2).map f3 = (bytesOf x).map fun b => onesTo b 8 := by
    rw [List.map_map, List.map_map]
    exact List.map_congr_left fun b hb => (ok b hb).2.2.2
  rw [e3] at s3
  have o := onesTo_val (bytesOf x) hlt
  rw [val_bytesOf x hx, hl] at o
  have b1 : (x / 2 &&& 6148914691236517205) ≤ 6148914691236517205 := Nat.and_le_right
  have b2 : (x &&& 6148914691236517205) ≤ 6148914691236517205 := Nat.and_le_right
  generalize hy1 : val ((bytesOf x).map f1) = y1 at *
  have c1 : (y1 / 4 &&& 3689348814741910323) ≤ 3689348814741910323 := Nat.and_le_right
  have c2 : (y1 &&& 3689348814741910323) ≤ 3689348814741910323 := Nat.and_le_right
  generalize hy2 : val (((bytesOf x).map f1).map f2) = y2 at *
  have l1 : y1 < 18446744073709551616 := by omega
  have l2 : y2 ≤ 7378697629483820646 := by omega
  obtain ⟨g0, g1, g2, g3, g4⟩ := fold8 (onesTo (x % 256) 8) (onesTo (x / 256 % 256) 8) (onesTo (x / 65536 % 256) 8) (onesTo (x / 16777216 % 256) 8) (onesTo (x / 4294967296 % 256) 8) (onesTo (x / 1099511627776 % 256) 8) (onesTo (x / 281474976710656 % 256) 8) (onesTo (x / 72057594037927936 % 256) 8)
    (onesTo_le _ 8) (onesTo_le _ 8) (onesTo_le _ 8) (onesTo_le _ 8) (onesTo_le _ 8) (onesTo_le _ 8) (onesTo_le _ 8) (onesTo_le _ 8) _ _ _ _ rfl rfl rfl rfl
  have hv : val ((bytesOf x).map fun b => onesTo b 8) = val [onesTo (x % 256) 8, onesTo (x / 256 % 256) 8, onesTo (x / 65536 % 256) 8, onesTo (x / 16777216 % 256) 8, onesTo (x / 4294967296 % 256) 8, onesTo (x / 1099511627776 % 256) 8, onesTo (x / 281474976710656 % 256) 8, onesTo (x / 72057594037927936 % 256) 8] := rfl
  have hsum : sum ((bytesOf x).map fun b => onesTo b 8) = onesTo (x % 256) 8 + onesTo (x / 256 % 256) 8 + onesTo (x / 65536 % 256) 8 + onesTo (x / 16777216 % 256) 8 + onesTo (x / 4294967296 % 256) 8 + onesTo (x / 1099511627776 % 256) 8 + onesTo (x / 281474976710656 % 256) 8 + onesTo (x / 72057594037927936 % 256) 8 := by
    simp only [bytesOf, List.map_cons, List.map_nil, sum]; omega
  rw [hsum] at o
  rw [hv] at s3
  clear hv hsum ok hlt e3
  generalize val [onesTo (x % 256) 8, onesTo (x / 256 % 256) 8, onesTo (x / 65536 % 256) 8, onesTo (x / 16777216 % 256) 8, onesTo (x / 4294967296 % 256) 8, onesTo (x / 1099511627776 % 256) 8, onesTo (x / 281474976710656 % 256) 8, onesTo (x / 72057594037927936 % 256) 8] = y3 at *
  refine ⟨y1, y2, y2 / 16 + y2, y3, y3 + y3 / 256, y3 + y3 / 256 + (y3 + y3 / 256) / 65536, _, ?_, ?_, ?_, ?_, ?_, ?_, ?_, g3, g4.trans o.symm⟩
  · have d : ((x : Int) / 2) = ((x / 2 : Nat) : Int) := by simp
    rw [d, and64 (x / 2) 6148914691236517205 6148914691236517205 rfl (by omega) (by decide), and64 x 6148914691236517205 6148914691236517205 rfl hx (by decide), IntKind.wrap_u64]; omega
  · have d : ((y1 : Int) / 4) = ((y1 / 4 : Nat) : Int) := by simp
    rw [d, and64 (y1 / 4) 3689348814741910323 3689348814741910323 rfl (by omega) (by decide), and64 y1 3689348814741910323 3689348814741910323 rfl l1 (by decide), IntKind.wrap_u64]; omega
  · rw [IntKind.wrap_u64]; omega
  · rw [and64 _ 1085102592571150095 1085102592571150095 rfl (by omega) (by decide), s3]
  · rw [IntKind.wrap_u64]; omega
  · rw [IntKind.wrap_u64]; omega
  · rw [IntKind.wrap_u64]; omega

theorem and127 (z : Nat) (hz : z < 9223372036854775808) : bits .and .i64 (z : Int) 127 = ((z % 128 : Nat) : Int) := by
  have h1 : (BitVec.ofInt 64 (z : Int)).toNat = z := by
    rw [BitVec.ofInt_natCast, BitVec.toNat_ofNat]; exact Nat.mod_eq_of_lt (by omega)
  have h2 : (BitVec.ofInt 64 (127 : Int)).toNat = 127 := by decide
  show IntKind.i64.wrap ((BitVec.ofInt 64 (z : Int) &&& BitVec.ofInt 64 (127 : Int)).toNat : Int) = _
  rw [BitVec.toNat_and, h1, h2, Nat.and_two_pow_sub_one_eq_mod z 7]
  exact wrapI64_id _ (by omega) (by omega)

end Go.Proofs.YtppagdmlfgialaaGreatDoor

namespace Go.Proofs.YtppagdmlfgialaaGreatDoor
open Go.RowKit
set_option linter.unusedVariables false

theorem w64 (a : Int) : wrap64 a = IntKind.i64.wrap a := (IntWalk.i64_left a).symm

theorem onesCount_core (x y1 y2 ys y3 z1 z2 z3 r : Nat)
    (r1 : IntKind.u64.wrap (bits .and .u64 ((x : Int) / 2) 6148914691236517205 + bits .and .u64 (x : Int) 6148914691236517205) = (y1 : Int))
    (r2 : IntKind.u64.wrap (bits .and .u64 ((y1 : Int) / 4) 3689348814741910323 + bits .and .u64 (y1 : Int) 3689348814741910323) = (y2 : Int))
    (r3 : IntKind.u64.wrap ((y2 : Int) / 16 + (y2 : Int)) = (ys : Int)) (r4 : bits .and .u64 (ys : Int) 1085102592571150095 = (y3 : Int))
    (r5 : IntKind.u64.wrap ((y3 : Int) + (y3 : Int) / 256) = (z1 : Int)) (r6 : IntKind.u64.wrap ((z1 : Int) + (z1 : Int) / 65536) = (z2 : Int)) (r7 : IntKind.u64.wrap ((z2 : Int) + (z2 : Int) / 4294967296) = (z3 : Int))
    (r8 : wrap64 (z3 : Int) = (z3 : Int)) (r9 : bits .and .i64 (z3 : Int) 127 = (r : Int)) (w : World) :
    Calls Tryz.prog 275 #[.int .u64 (x : Int)] w fun e w' => e = .returned (.int .i64 (r : Int)) ∧ w' = w := by
  go_enter Tryz.func275, Tryz.ntmps275
  go_wp2
  go_ret
  exact ⟨rfl, rfl⟩

theorem ones_any (x : Nat) (hx : x < 18446744073709551616) (w : World) :
    Calls Tryz.prog 223 #[.int .u64 (x : Int)] w fun e w' => e = .returned (.int .i64 (onesTo x 64 : Int)) ∧ w' = w := by
  obtain ⟨y1, y2, ys, y3, z1, z2, z3, r1, r2, r3, r4, r5, r6, r7, l, o⟩ := pop_facts x hx
  have c := onesCount_core x y1 y2 ys y3 z1 z2 z3 (onesTo x 64) r1 r2 r3 r4 r5 r6 r7 (by rw [w64]; exact wrapI64_id _ (by omega) (by omega)) (by rw [and127 z3 l, o])
  clear r1 r2 r3 r4 r5 r6 r7 l o
  have C : Hid (∀ w : World, Calls Tryz.prog 275 #[.int .u64 (x : Int)] w fun e w' => e = .returned (.int .i64 (onesTo x 64 : Int)) ∧ w' = w) := c
  clear c
  go_enter Tryz.func223, Tryz.ntmps223
  go_wp2_with fail
  refine (C.out _).mono ?_
  rintro e w' ⟨rfl, rfl⟩
  go_wp2
  go_ret
  exact ⟨rfl, rfl⟩

end Go.Proofs.YtppagdmlfgialaaGreatDoor

namespace Go.Proofs.YtppagdmlfgialaaGreatDoor
open Go Go.RowKit
set_option linter.unusedVariables false
set_option linter.unusedSimpArgs false

/-- how many leaves -/
def lvN (n : Nat) : Nat := (n + 1023) / 1024
theorem over10_any (n : Nat) (hn : n ≤ 8192) (w : World) :
    Calls Tryz.prog 152 #[.int .i64 (n : Int), .int .i64 10] w fun e w' => e = .returned (.tuple #[.int .i64 (lvN n : Int), .int .i64 0]) ∧ w' = w := by
  by_cases h : n % 1024 = 0
  · have ht : (wrap64 ((n : Int) / 1024 * 1024) != (n : Int)) = false := by
      rw [w64, wrapI64_id _ (by omega) (by omega)]
      simp; omega
    have H : Hid ((n : Int) / 1024 = (lvN n : Int)) := by
      show (n : Int) / 1024 = (lvN n : Int)
      unfold lvN; omega
    clear h hn
    go_enter Tryz.func152, Tryz.ntmps152
    go_wp2
    go_ret2
    exact ⟨ret_int2 H.out, rfl⟩
  · have ht : (wrap64 ((n : Int) / 1024 * 1024) != (n : Int)) = true := by
      rw [w64, wrapI64_id _ (by omega) (by omega), bne_iff_ne]
      omega
    have H : Hid (wrap64 ((n : Int) / 1024 + 1) = (lvN n : Int)) := by
      show wrap64 ((n : Int) / 1024 + 1) = (lvN n : Int)
      rw [w64, wrapI64_id _ (by omega) (by omega)]; unfold lvN; omega
    clear h hn
    go_enter Tryz.func152, Tryz.ntmps152
    go_wp2
    go_ret2
    exact ⟨ret_int2 H.out, rfl⟩
theorem leaves_any (n : Nat) (hn : n ≤ 8192) (w : World) :
    Calls Tryz.prog 99 #[.int .i64 (n : Int)] w fun e w' => e = .returned (.int .i64 (lvN n : Int)) ∧ w' = w := by
  go_enter Tryz.func99, Tryz.ntmps99
  go_wp2_with fail
  refine (over10_any n hn _).mono ?_
  rintro e w' ⟨rfl, rfl⟩
  go_wp2
  go_ret
  exact ⟨rfl, rfl⟩
theorem one_any (p : Nat) (hp : p ≤ 8192) (w : World) :
    Calls Tryz.prog 102 #[.int .i64 (p : Int)] w fun e w' => e = .returned (.int .u64 ((2 ^ (p % 64) : Nat) : Int)) ∧ w' = w := by
  have e1 : ((p : Int).tmod 64) = ((p % 64 : Nat) : Int) := by
    rw [Int.tmod_eq_emod_of_nonneg (by omega)]; omega
  have h1 : p % 64 < 64 := by omega
  have H : Hid (IntKind.u64.wrap ((2 : Int) ^ (p % 64)) = ((2 ^ (p % 64) : Nat) : Int)) := by
    show IntKind.u64.wrap ((2 : Int) ^ (p % 64)) = ((2 ^ (p % 64) : Nat) : Int)
    rw [← wrapU64 _ (pow_lt_u64 _ h1)]
    simp
  generalize hm : p % 64 = m at *
  clear hm
  go_enter Tryz.func102, Tryz.ntmps102
  go_wp2
  go_ret
  exact ⟨ret_int H.out, rfl⟩
/-- the table of Go's package math/bits in its variable -/
def TabAt (w : World) : Prop := ∀ j, j < 64 → w.cell? ⟨0, j, none⟩ = some (.int .u8 ((Lib.deBruijn64tab.getD j 0 : Nat) : Int))
theorem TabAt.below {w w' : World} {B : Nat} (hT : TabAt w) (h0 : 0 < B) (hb : Below B w w') : TabAt w' := fun j hj => (hb.cell (p := ⟨0, j, none⟩) h0).trans (hT j hj)
end Go.Proofs.YtppagdmlfgialaaGreatDoor

namespace Go.Proofs.YtppagdmlfgialaaGreatDoor
open Go Go.RowKit
set_option linter.unusedVariables false
set_option linter.unusedSimpArgs false

def wdL (W : Nat → Nat) (m : Nat) : List Value := (List.range m).map (iv .u64 W)
theorem wdL_at (W : Nat → Nat) (m i : Nat) (h : i < m) : (wdL W m)[i]? = some (.int .u64 ((W i : Nat) : Int)) := by simp [wdL, iv, h]
theorem wdL_len (W : Nat → Nat) (m : Nat) : (wdL W m).length = m := by simp [wdL]
theorem wdL_one (W : Nat → Nat) (m : Nat) : ∀ u ∈ wdL W m, u.oneCell' = true := fun u hu => by
  obtain ⟨i, _, rfl⟩ := List.mem_map.1 hu
  rfl
theorem wdL_set (W : Nat → Nat) (m i x : Nat) : (wdL W m).set i (.int .u64 ((x : Nat) : Int)) = wdL (updN W i x) m := by
  apply List.ext_getElem?
  intro j
  rw [List.getElem?_set]
  by_cases hj : j < m
  · rw [wdL_at (updN W i x) _ _ hj]
    by_cases he : i = j
    · subst he
      rw [if_pos rfl, wdL_len, if_pos hj]
      unfold updN
      rw [if_pos rfl]
    · rw [if_neg he, wdL_at _ _ _ hj]
      unfold updN
      rw [if_neg (Ne.symm he)]
  · have e1 : (wdL W m)[j]? = none := List.getElem?_eq_none (by rw [wdL_len]; omega)
    have e2 : (wdL (updN W i x) m)[j]? = none := List.getElem?_eq_none (by rw [wdL_len]; omega)
    rw [e1, e2, wdL_len]
    split
    · rw [if_neg (by omega)]
    · rfl
/-- only one block turns -/
structure Only (b : Nat) (w w' : World) : Prop where
  os : w'.os = w.os
  tape : w'.tape = w.tape
  output : w'.output = w.output
  size : w.heap.size ≤ w'.heap.size
  block : ∀ k, k < w.heap.size → k ≠ b → w'.heap[k]? = w.heap[k]?
theorem Only.of_below {b : Nat} {w w' : World} (h : Below w.heap.size w w') : Only b w w' := ⟨h.os, h.tape, h.output, h.size, fun k hk _ => h.block k hk⟩
theorem Only.below {b B : Nat} {w w' : World} (h : Only b w w') (hB : B ≤ w.heap.size) (hb : B ≤ b) : Below B w w' := ⟨h.os, h.tape, h.output, h.size, fun k hk => h.block k (by omega) (by omega)⟩
theorem Only.trans {b b' : Nat} {w v u : World} (h : Only b w v) (k : Only b' v u) (hb : b' = b ∨ w.heap.size ≤ b') : Only b w u :=
  ⟨k.os.trans h.os, k.tape.trans h.tape, k.output.trans h.output, Nat.le_trans h.size k.size, fun j hj hne => (k.block j (Nat.lt_of_lt_of_le hj h.size) fun e => by rcases hb with z | z <;> omega).trans (h.block j hj hne)⟩
theorem Only.set (w : World) (b j : Nat) (x : Value) : Only b w (w.setCell ⟨b, j, none⟩ x) := ⟨rfl, rfl, rfl, by rw [Deep.nblk_setCell]; exact Nat.le_refl _, fun k _ hk => Deep.blk_setCell_other w ⟨b, j, none⟩ x k hk⟩
theorem Only.drew (b : Nat) (w : World) : Only b w w.drew := ⟨rfl, rfl, rfl, Nat.le_refl _, fun _ _ _ => rfl⟩
theorem Only.drewN (b : Nat) (w : World) (m : Nat) : Only b w (w.drewN m) := ⟨rfl, rfl, rfl, Nat.le_refl _, fun _ _ _ => rfl⟩
theorem below_dN {B : Nat} {w0 w : World} (h : Below B w0 w) (n : Nat) : Below B w0 (w.drewN n) := ⟨h.1, h.2, h.3, h.4, h.5⟩

/-- a map of n bits in block g, its words in block b -/
structure BM (w : World) (B g n b c : Nat) (W : Nat → Nat) : Prop where
  n1 : 1 ≤ n
  n2 : n ≤ 8192
  gB : B ≤ g
  cells : Blk w g 217 #[.int .i64 (n : Int), .slice (some ⟨b, 0, none⟩) (16 * lvN n) c]
  row : w.ownsRow B 36 1 (.slice (some ⟨b, 0, none⟩) (16 * lvN n) c) (16 * lvN n) (wdL W (16 * lvN n))
  lt : ∀ i, W i < 18446744073709551616
  tail : ∀ p, n ≤ p → bitF W p = false
section
variable {w w' : World} {B g n b c : Nat} {W : Nat → Nat}
theorem lvN_le (h : n ≤ 8192) : lvN n ≤ 8 := by unfold lvN; omega
theorem lvN_ge : n ≤ 1024 * lvN n := by unfold lvN; omega
theorem lvN_pos (h : 1 ≤ n) : 1 ≤ lvN n := by unfold lvN; omega
theorem BM.glt (h : BM w B g n b c W) : g < w.heap.size := h.cells.lt
theorem BM.blt (h : BM w B g n b c W) : B ≤ b ∧ b < w.heap.size := h.row.lt b rfl
theorem BM.ne (h : BM w B g n b c W) : b ≠ g := by
  rcases h.row.2 with ⟨hn, _⟩ | ⟨g', cap', cur, hv, hb, hg, _⟩
  · cases hn
  · injection hv with hv1 hv2 hv3
    injection hv1 with hv1
    injection hv1 with hv1
    subst hv1
    intro e
    rw [e] at hg
    have := h.cells
    unfold Blk at this
    rw [hg] at this
    injection this with this
    injection this with h1 h2
    exact absurd h2 (by decide)
theorem BM.keep (h : BM w B g n b c W) (hg : w'.heap[g]? = w.heap[g]?) (hb : w'.heap[b]? = w.heap[b]?) : BM w' B g n b c W :=
  ⟨h.n1, h.n2, h.gB, hg.trans h.cells, kown_kept h.row fun k _ hv => by
    have : k = b := by simp [Value.ownBlock] at hv; omega
    subst this
    exact hb, h.lt, h.tail⟩
theorem BM.below (h : BM w B g n b c W) (hb : Below w.heap.size w w') : BM w' B g n b c W := h.keep (hb.block g h.glt) (hb.block b h.blt.2)
theorem BM.only {b' : Nat} (h : BM w B g n b c W) (ho : Only b' w w') (h1 : b' ≠ g) (h2 : b' ≠ b) : BM w' B g n b c W := h.keep (ho.block g h.glt (Ne.symm h1)) (ho.block b h.blt.2 (Ne.symm h2))
theorem BM.dN (h : BM w B g n b c W) (m : Nat) : BM (w.drewN m) B g n b c W := h.keep rfl rfl
theorem BM.mono {B' : Nat} (h : BM w B g n b c W) (hB : B' ≤ B) : BM w B' g n b c W := ⟨h.n1, h.n2, Nat.le_trans hB h.gB, h.cells, kown_mono h.row hB, h.lt, h.tail⟩
theorem BM.congr {V : Nat → Nat} (h : BM w B g n b c W) (hV : ∀ i, V i < 18446744073709551616) (he : ∀ p, bitF V p = bitF W p) : BM w B g n b c V := by
  have : V = W := funext fun i => words_ext hV h.lt he i
  rw [this]
  exact h
theorem BM.c0 (h : BM w B g n b c W) : w.cell? ⟨g, 0, none⟩ = some (.int .i64 (n : Int)) := by rw [h.cells.cell]; rfl
theorem BM.c1 (h : BM w B g n b c W) : w.cell? ⟨g, 1, none⟩ = some (.slice (some ⟨b, 0, none⟩) (16 * lvN n) c) := by rw [h.cells.cell]; rfl
theorem BM.word (h : BM w B g n b c W) {i : Nat} (hi : i < 16 * lvN n) : w.cell? ⟨b, i, none⟩ = some (.int .u64 ((W i : Nat) : Int)) := by
  rw [h.row.cellAt i (by omega), wdL_at _ _ _ hi]
theorem BM.word_in (h : BM w B g n b c W) {p : Nat} (hp : p < n) : p / 64 < 16 * lvN n := by
  have := lvN_ge (n := n)
  omega
theorem BM.frozen (h : BM w B g n b c W) (i : Nat) : w.frozen? ⟨b, i, none⟩ = false := h.row.frozenAt i
/-- a word laid -/
theorem BM.put (h : BM w B g n b c W) {i x : Nat} (hi : i < 16 * lvN n) (hx : x < 18446744073709551616) (ht : ∀ p, n ≤ p → bitF (updN W i x) p = false) : BM (w.setCell ⟨b, i, none⟩ (.int .u64 ((x : Nat) : Int))) B g n b c (updN W i x) :=
  ⟨h.n1, h.n2, h.gB, h.cells.put_other _ _ (Ne.symm h.ne), by
    have := (h.row.stored i (.int .u64 ((x : Nat) : Int))).1
    rw [wdL_set] at this
    exact this, fun j => by unfold updN; split; exact hx; exact h.lt j, ht⟩

theorem bsize_any (w : World) (h : BM w B g n b c W) : Calls Tryz.prog 153 #[.pointer (some ⟨g, 0, none⟩)] w fun e w' => e = .returned (.int .i64 (n : Int)) ∧ w' = w := by
  have c0 := h.c0
  clear h
  go_enter Tryz.func153, Tryz.ntmps153
  go_wp2
  go_ret
  exact ⟨rfl, rfl⟩
theorem inside_yes (w : World) (h : BM w B g n b c W) (p : Nat) (hp : p < n) : Calls Tryz.prog 100 #[.pointer (some ⟨g, 0, none⟩), .int .i64 (p : Int)] w fun e w' => e = .returned (.bool true) ∧ w' = w := by
  have hp' : (p : Int) < (n : Int) := by omega
  have HS : Hid (Calls Tryz.prog 153 #[.pointer (some ⟨g, 0, none⟩)] w fun e w' => e = .returned (.int .i64 (n : Int)) ∧ w' = w) := bsize_any w h
  clear h hp
  go_enter Tryz.func100, Tryz.ntmps100
  go_wp2_with fail
  refine HS.out.mono ?_
  rintro e w' ⟨rfl, rfl⟩
  go_wp2
  go_ret
  exact ⟨by simp [hp'], rfl⟩
theorem inside_no (w : World) (h : BM w B g n b c W) (p : Int) (hp : p < 0 ∨ (n : Int) ≤ p) : Calls Tryz.prog 100 #[.pointer (some ⟨g, 0, none⟩), .int .i64 p] w fun e w' => e = .returned (.bool false) ∧ w' = w := by
  have HS : Hid (Calls Tryz.prog 153 #[.pointer (some ⟨g, 0, none⟩)] w fun e w' => e = .returned (.int .i64 (n : Int)) ∧ w' = w) := bsize_any w h
  clear h
  by_cases h0 : p < 0
  · clear HS
    have h1 : ¬ (0 ≤ p) := by omega
    go_enter Tryz.func100, Tryz.ntmps100
    go_wp2
    go_ret
    exact ⟨rfl, rfl⟩
  · have h1 : 0 ≤ p := by omega
    have h2 : ¬ (p < (n : Int)) := by omega
    go_enter Tryz.func100, Tryz.ntmps100
    go_wp2_with fail
    refine HS.out.mono ?_
    rintro e w' ⟨rfl, rfl⟩
    go_wp2
    go_ret
    exact ⟨by simp [h2], rfl⟩
theorem quo64 (p : Nat) : (p : Int).tdiv 64 = ((p / 64 : Nat) : Int) := by
  rw [Int.tdiv_eq_ediv_of_nonneg (by omega)]; omega
set_option maxHeartbeats 1000000 in
theorem has_yes (w : World) (h : BM w B g n b c W) (p : Nat) (hp : p < n) : Calls Tryz.prog 101 #[.pointer (some ⟨g, 0, none⟩), .int .i64 (p : Int)] w fun e w' => e = .returned (.bool (bitF W p)) ∧ ∃ m, w' = w.drewN m := by
  have c1 := h.c1
  have cw := h.word (h.word_in hp)
  have hq := quo64 p
  have hwq : IntKind.i64.wrap ((p / 64 : Nat) : Int) = ((p / 64 : Nat) : Int) := wrapI64_id _ (by omega) (by have := h.n2; omega)
  have i0 : ((p / 64 : Nat) : Int) < ((16 * lvN n : Nat) : Int) := by have := h.word_in hp; omega
  have HI : Hid (∀ m, Calls Tryz.prog 100 #[.pointer (some ⟨g, 0, none⟩), .int .i64 (p : Int)] (w.drewN m) fun e w' => e = .returned (.bool true) ∧ w' = (w.drewN m)) := fun m => inside_yes _ (h.dN m) p hp
  have HO : Hid (∀ m, Calls Tryz.prog 102 #[.int .i64 (p : Int)] (w.drewN m) fun e w' => e = .returned (.int .u64 ((2 ^ (p % 64) : Nat) : Int)) ∧ w' = (w.drewN m)) := fun m => one_any p (by have := h.n2; omega) _
  have HB : Hid (((bits .and .u64 ((W (p / 64) : Nat) : Int) ((2 ^ (p % 64) : Nat) : Int)) != 0) = bitF W p) := by
    show ((bits .and .u64 ((W (p / 64) : Nat) : Int) ((2 ^ (p % 64) : Nat) : Int)) != 0) = bitF W p
    rw [u64_and_nat _ _ (h.lt _) (pow_lt_u64 _ (by omega))]
    unfold bitF
    rw [bne, and_pow_ne]
    simp
  clear h hp
  generalize p / 64 = q at *
  generalize W q = x at *
  generalize 2 ^ (p % 64) = y at *
  generalize 16 * lvN n = k at *
  go_enter Tryz.func101, Tryz.ntmps101
  go_wp2_with fail
  go_quiet (first
    | (go_at_call 100; exact Calls.quiet_of_same (HI.out _))
    | (go_at_call 102; exact Calls.quiet_of_same (HO.out _)))
  go_wp2_with fail
  go_ret
  exact ⟨by rw [← HB.out]; rfl, _, rfl⟩
set_option maxHeartbeats 2000000 in
theorem set_new (w : World) (h : BM w B g n b c W) (p : Nat) (hp : p < n) (hf : bitF W p = false) : Calls Tryz.prog 56 #[.pointer (some ⟨g, 0, none⟩), .int .i64 (p : Int)] w fun e w' => e = .returned (.bool true) ∧ BM w' B g n b c (putW W p) ∧ Only b w w' := by
  have hq := quo64 p
  have hwq : IntKind.i64.wrap ((p / 64 : Nat) : Int) = ((p / 64 : Nat) : Int) := wrapI64_id _ (by omega) (by have := h.n2; omega)
  have i0 : ((p / 64 : Nat) : Int) < ((16 * lvN n : Nat) : Int) := by have := h.word_in hp; omega
  have HI : Hid (Calls Tryz.prog 100 #[.pointer (some ⟨g, 0, none⟩), .int .i64 (p : Int)] w fun e w' => e = .returned (.bool true) ∧ w' = w) := inside_yes _ h p hp
  have HH : Hid (Calls Tryz.prog 101 #[.pointer (some ⟨g, 0, none⟩), .int .i64 (p : Int)] w fun e w' => e = .returned (.bool (bitF W p)) ∧ ∃ m, w' = w.drewN m) := has_yes w h p hp
  have HO : Hid (∀ w : World, Calls Tryz.prog 102 #[.int .i64 (p : Int)] w fun e w' => e = .returned (.int .u64 ((2 ^ (p % 64) : Nat) : Int)) ∧ w' = w) := fun w => one_any p (by have := h.n2; omega) _
  have HV : Hid (bits .or .u64 ((W (p / 64) : Nat) : Int) ((2 ^ (p % 64) : Nat) : Int) = ((putW W p (p / 64) : Nat) : Int)) := by
    show bits .or .u64 ((W (p / 64) : Nat) : Int) ((2 ^ (p % 64) : Nat) : Int) = ((putW W p (p / 64) : Nat) : Int)
    rw [u64_or_nat _ _ (h.lt _) (pow_lt_u64 _ (by omega))]
    unfold putW updN
    rw [if_pos rfl]

  have HP : Hid (∀ V : World, BM V B g n b c W → BM (V.setCell ⟨b, p / 64, none⟩ (.int .u64 ((putW W p (p / 64) : Nat) : Int))) B g n b c (putW W p)) := fun V hV => by
    have e : putW W p = updN W (p / 64) (putW W p (p / 64)) := by
      unfold putW
      funext i
      unfold updN
      split <;> simp_all
    have ht : ∀ r, n ≤ r → bitF (putW W p) r = false := fun r hr => by
      rw [bitF_put, hV.tail r hr]
      simp; omega
    rw [e] at ht
    have := hV.put (hV.word_in hp) (putW_lt hV.lt p (p / 64)) ht
    rw [← e] at this
    exact this
  rw [hf] at HH
  generalize hw' : putW W p = W' at *
  clear hw' hf
  go_enter Tryz.func56, Tryz.ntmps56
  go_wp2_with fail
  refine HI.out.mono ?_
  rintro e w1 ⟨rfl, rfl⟩
  go_wp2_with fail
  refine HH.out.mono ?_
  rintro e w2 ⟨rfl, md, rfl⟩
  go_wp2_with fail
  have h1 : BM (w1.drewN md).drew B g n b c W := h.keep rfl rfl
  have ho1 : Only b w1 (w1.drewN md).drew := (Only.drewN _ _ _).trans (Only.drew b _) (.inl rfl)
  have cw := h1.word (h1.word_in hp)
  have cf := h1.frozen (p / 64)
  have c1 := h1.c1
  clear HI HH h hp
  generalize (w1.drewN md) = v at *
  generalize p / 64 = q at *
  generalize hx : W q = x at *
  clear hx
  generalize W' q = x' at *
  generalize 2 ^ (p % 64) = y at *
  generalize hk : 16 * lvN n = k at *
  clear hk
  have S0 : v.drew.cell? ⟨g, 1, none⟩ = some (.slice (some ⟨b, 0, none⟩) k c) ∧ v.drew.cell? ⟨b, q, none⟩ = some (.int .u64 (x : Int)) ∧ v.drew.frozen? ⟨b, q, none⟩ = false ∧ BM v.drew B g n b c W ∧ Only b w1 v.drew := ⟨c1, cw, cf, h1, ho1⟩
  clear c1 cw cf h1 ho1
  refine wp_region_partsS (fun V => V.cell? ⟨g, 1, none⟩ = some (.slice (some ⟨b, 0, none⟩) k c) ∧ V.cell? ⟨b, q, none⟩ = some (.int .u64 (x : Int)) ∧ V.frozen? ⟨b, q, none⟩ = false ∧ BM V B g n b c W ∧ Only b w1 V) [([0, 4, 8], 1, true), ([], 2, true), ([], 3, true), ([], 5, true), ([6], 7, true), ([], 9, false), ([], 10, false)] [11] [12] (by kernel_rfl) (by kernel_rfl) S0 (partsI_yield ?_)
  simp only [sgLHBiKit]
  go_wp2_with fail
  refine ⟨rfl, _, .pointer (some ⟨g, 0, none⟩), rfl, Or.inl ⟨by rfl, fun W hW => by go_simp⟩, partsI_yield ?_⟩
  simp only [Act.put, sgPHBiKit]
  simp only [sgLHBiKit]
  go_wp2_with fail
  refine ⟨rfl, _, .pointer (some ⟨g, 1, none⟩), rfl, Or.inl ⟨by rfl, fun W hW => by go_simp⟩, partsI_yield ?_⟩
  simp only [Act.put, sgPHBiKit]
  simp only [sgLHBiKit]
  go_wp2_with fail
  refine ⟨rfl, _, .slice (some ⟨b, 0, none⟩) k c, rfl, Or.inl ⟨by rfl, fun W hW => by have c1 := hW.1; go_simp⟩, partsI_yield ?_⟩
  simp only [Act.put, sgPHBiKit]
  simp only [sgLHBiKit]
  go_wp2_with fail
  refine ⟨rfl, _, .int .i64 (q : Int), rfl, Or.inl ⟨by rfl, fun W hW => by go_simp⟩, partsI_yield ?_⟩
  simp only [Act.put, sgPHBiKit]
  simp only [sgLHBiKit]
  go_wp2_with fail
  refine ⟨rfl, _, .int .u64 (x : Int), rfl, Or.inl ⟨by rfl, fun W hW => by have c1 := hW.2.1; go_simp⟩, partsI_force ?_⟩
  simp only [Act.put, sgPHBiKit]
  simp only [sgLHBiKit]
  go_wp2_with fail
  refine (HO.out _).mono ?_
  rintro e w2 ⟨rfl, rfl⟩
  go_wp2_with fail
  refine ⟨rfl, S0, partsI_force ?_⟩
  simp only [sgLHBiKit]
  go_wp2_with fail
  refine ⟨rfl, S0, partsI_last ?_⟩
  simp only [sgLHBiKit]
  rw [HV.out]
  obtain ⟨c1, cw, cf, h1, ho1⟩ := S0
  have h2 := HP.out v.drew h1
  have ho2 := ho1.trans (Only.set v.drew b q (.int .u64 (x' : Int))) (.inl rfl)
  clear HP HO HV h1 ho1
  go_wp2_with fail
  refine ⟨rfl, ?_⟩
  go_wp2_with fail
  go_ret
  exact ⟨rfl, h2, ho2⟩
/-- a place that is one, or none: nothing happens -/
theorem set_not (w : World) (h : BM w B g n b c W) (p : Int) (hp : p < 0 ∨ (n : Int) ≤ p ∨ (0 ≤ p ∧ p < n ∧ bitF W p.toNat = true)) : Calls Tryz.prog 56 #[.pointer (some ⟨g, 0, none⟩), .int .i64 p] w fun e w' => e = .returned (.bool false) ∧ ∃ m, w' = w.drewN m := by
  by_cases h0 : p < 0 ∨ (n : Int) ≤ p
  · have HI : Hid (Calls Tryz.prog 100 #[.pointer (some ⟨g, 0, none⟩), .int .i64 p] w fun e w' => e = .returned (.bool false) ∧ w' = w) := inside_no _ h p h0
    clear h hp
    go_enter Tryz.func56, Tryz.ntmps56
    go_wp2_with fail
    refine HI.out.mono ?_
    rintro e w' ⟨rfl, rfl⟩
    go_wp2
    go_ret
    exact ⟨rfl, 0, rfl⟩
  · obtain ⟨q, rfl⟩ := Int.eq_ofNat_of_zero_le (a := p) (by omega)
    have hq : q < n := by omega
    have hf : bitF W q = true := by
      rcases hp with z | z | z
      · omega
      · omega
      · simpa using z.2.2
    have HI : Hid (Calls Tryz.prog 100 #[.pointer (some ⟨g, 0, none⟩), .int .i64 (q : Int)] w fun e w' => e = .returned (.bool true) ∧ w' = w) := inside_yes _ h q hq
    have HH : Hid (Calls Tryz.prog 101 #[.pointer (some ⟨g, 0, none⟩), .int .i64 (q : Int)] w fun e w' => e = .returned (.bool (bitF W q)) ∧ ∃ m, w' = w.drewN m) := has_yes w h q hq
    rw [hf] at HH
    clear h hp hf h0 hq
    go_enter Tryz.func56, Tryz.ntmps56
    go_wp2_with fail
    refine HI.out.mono ?_
    rintro e w' ⟨rfl, rfl⟩
    go_wp2_with fail
    refine HH.out.mono ?_
    rintro e w2 ⟨rfl, md, rfl⟩
    go_wp2
    go_ret
    exact ⟨rfl, md, rfl⟩
/-- Set, Clear of a place -/
theorem set_in (w : World) (h : BM w B g n b c W) (p : Nat) (hp : p < n) : Calls Tryz.prog 56 #[.pointer (some ⟨g, 0, none⟩), .int .i64 (p : Int)] w fun e w' => e = .returned (.bool (!bitF W p)) ∧ BM w' B g n b c (putW W p) ∧ Only b w w' := by
  cases hf : bitF W p
  · exact set_new w h p hp hf
  · refine (set_not w h p (.inr (.inr ⟨by omega, by omega, by simpa using hf⟩))).mono ?_
    rintro e w' ⟨rfl, m, rfl⟩
    refine ⟨rfl, (h.dN m).congr (putW_lt h.lt p) fun q => ?_, Only.drewN _ _ _⟩
    rw [bitF_put]
    by_cases hq : q = p
    · rw [hq, hf]; simp
    · simp [hq]
end
end Go.Proofs.YtppagdmlfgialaaGreatDoor
