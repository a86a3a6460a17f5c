/- Contracts of the functions that turn a number's bytes about, in the program and in the document's answer: what each returns, and that no memory that was there has changed. -/
import Derived.Test.YtijacihmdfhjcaaDoorDoorBase
import Derived.Test.YtijacihmdfhjcaaDoorMathBytes
import Derived.Test.YtijacihmdfhjcaaDoorMathField
import Derived.Handy
namespace Go.Proofs.YtijacihmdfhjcaaDoor
open Go.RowKit
set_option linter.unusedVariables false

theorem Tryd.info5 : (Tryd.prog.info? 5).map (fun i => (i.zero, i.size, i.bytes)) = some (some (.int .u8 0), 1, 1) := by kernel_rfl

set_option maxHeartbeats 1000000 in
theorem bytes64_any (x : Nat) (w : World) :
    Calls Tryd.prog 13 #[.int .u64 (x : Int)] w fun e w' => e = .returned (.agg #[.int .u8 ((x % 256 : Nat) : Int), .int .u8 ((x / 256 % 256 : Nat) : Int), .int .u8 ((x / 65536 % 256 : Nat) : Int), .int .u8 ((x / 16777216 % 256 : Nat) : Int), .int .u8 ((x / 4294967296 % 256 : Nat) : Int), .int .u8 ((x / 1099511627776 % 256 : Nat) : Int), .int .u8 ((x / 281474976710656 % 256 : Nat) : Int), .int .u8 ((x / 72057594037927936 % 256 : Nat) : Int)]) ∧ Below w.heap.size w w' := by
  go_enter Tryd.func13, Tryd.ntmps13
  go_wp2
  go_rounds 9
  go_returns
  refine ⟨by simp, ?_⟩
  go_grown

set_option maxHeartbeats 1000000 in
theorem refBytes_own (n k : Nat) (hk : k ≤ 8) (hn : n < 18446744073709551616) (w : World) :
    Calls Tryd.prog 16 #[.int .u64 (n : Int), .int .i64 (k : Int)] w fun e w' => ∃ v, e = .returned v ∧ w'.ownsRow w.heap.size 5 1 v k ((digs n k).map (Value.int .u8)) ∧ Below w.heap.size w w' := by
  obtain ⟨i0, hi, hz0, hz1, hz2⟩ := info_parts Tryd.info5
  go_enter Tryd.func16, Tryd.ntmps16
  go_wp2
  go_loopw [0, 5, 6] (fun m v i wr => ∃ j : Nat, j ≤ k ∧ i = .int .i64 j ∧ m = .int .u64 ((n / 256 ^ j : Nat) : Int) ∧ wr.ownsRow w.heap.size 5 1 v j ((digs n j).map (Value.int .u8)) ∧ Below w.heap.size w wr) (fun _ _ i _ => k - (intOf i).toNat)
  case atStart =>
    refine ⟨0, by omega, rfl, by simp, ?_, (Below.refl _ _).alloc (Nat.le_refl _) _⟩
    exact World.ownsRow_lit w #[] 0 (Nat.le_refl _) (by decide) rfl
  case round =>
    obtain ⟨j, hj, rfl, rfl, hown, hbel⟩ := hrel
    by_cases hlt : j < k
    · have hv := hown.lt
      have hqn : n / 256 ^ j ≤ n := Nat.div_le_self _ _
      have HD := digs_succ n j
      have HQ : n / 256 ^ (j + 1) = n / 256 ^ j / 256 := by rw [Nat.pow_succ, Nat.div_div_eq_div_mul]
      generalize hq : n / 256 ^ j = q at *
      have HD' : Hid (digs n (j + 1) = digs n j ++ [((q % 256 : Nat) : Int)]) := HD
      have HQ' : Hid (n / 256 ^ (j + 1) = q / 256) := HQ
      clear HD HQ hq
      go_wp2_with (first
        | (at_builtin; refine wpList_append_own _ rfl _ _ 36 rfl w.heap.size 5 i0 (.int .u8 0) 1 1 Tryd.underlying36 hi hz0 hz1 hz2 rfl (by decide) _ _ _ rfl (hown.alloc _) ⟨wr.heap.size, 0, none⟩ 1 1 [.int .u8 ((q : Int) % 256)] rfl rfl (cell_one_new _ _ _) (fun x hx => by simp at hx; subst hx; rfl) (by unfold maxLen; omega) (by omega) (by have := hbel.size; simp; omega) ?_)
        | go_in)
      intro v' w1 hown' hgrow _
      have hb1 : Below w.heap.size w w1 := (hbel.alloc (by have := hbel.size; omega) _).grown hgrow (by have := hbel.size; simp; omega) (fun k hk => (hv k hk).1)
      clear hown hv hgrow hbel
      go_wp2
      go_roundw
      case rel =>
        refine ⟨j + 1, by omega, by go_num, ?_, ?_, hb1⟩
        · rw [HQ'.out]; simp
        · rw [HD'.out]; simpa using hown'
      case measure => simp [intOf]; omega
    · go_wp2
      go_ret
      have : j = k := by omega
      subst this
      exact ⟨_, rfl, hown, hbel⟩

theorem refBytes_any (n k : Nat) (hk0 : 1 ≤ k) (hk : k ≤ 8) (hn : n < 18446744073709551616) (w : World) :
    Calls Tryd.prog 16 #[.int .u64 (n : Int), .int .i64 (k : Int)] w fun e w' => ∃ g c, e = .returned (.slice (some ⟨g, 0, none⟩) k c) ∧ w.heap.size ≤ g ∧ g < w'.heap.size ∧
      (∀ i, i < k → w'.cell? ⟨g, i, none⟩ = some (.int .u8 ((digs n k).getD i 0))) ∧ Below w.heap.size w w' := by
  refine (refBytes_own n k hk hn w).mono ?_
  rintro e w' ⟨v, rfl, hown, hb⟩
  have hl := hown.lt
  rcases hown.2 with ⟨_, h0⟩ | ⟨g, cap, cur, rfl, h1, h2, h3, h4, h5, h6⟩
  · omega
  · refine ⟨g, cap, rfl, h1, (hl g rfl).2, ?_, hb⟩
    intro i hi
    rw [hown.cellAt i (by omega)]
    simp [List.getD, digs_length, hi]

def dg (n i : Nat) : Nat := n / 256 ^ i % 256

theorem dg_lt (n i : Nat) : dg n i < 256 := Nat.mod_lt _ (by decide)

theorem digs_dg (n k i : Nat) (h : i < k) : (digs n k).getD i 0 = (dg n i : Int) := by simp [digs, List.getD, h, dg]

theorem bytes64_dg (n : Nat) (w : World) :
    Calls Tryd.prog 13 #[.int .u64 (n : Int)] w fun e w' => e = .returned (.agg #[.int .u8 (dg n 0 : Int), .int .u8 (dg n 1 : Int), .int .u8 (dg n 2 : Int), .int .u8 (dg n 3 : Int), .int .u8 (dg n 4 : Int), .int .u8 (dg n 5 : Int), .int .u8 (dg n 6 : Int), .int .u8 (dg n 7 : Int)]) ∧ Below w.heap.size w w' := by
  refine (bytes64_any n w).mono ?_
  rintro e w' ⟨rfl, hb⟩
  exact ⟨by simp [dg], hb⟩

theorem refBytes_dg (n k : Nat) (hk0 : 1 ≤ k) (hk : k ≤ 8) (hn : n < 18446744073709551616) (w : World) :
    Calls Tryd.prog 16 #[.int .u64 (n : Int), .int .i64 (k : Int)] w fun e w' => ∃ g c, e = .returned (.slice (some ⟨g, 0, none⟩) k c) ∧ (∀ i, i < k → w'.cell? ⟨g, i, none⟩ = some (.int .u8 (dg n i : Int))) ∧ Below w.heap.size w w' := by
  refine (refBytes_any n k hk0 hk hn w).mono ?_
  rintro e w' ⟨g, c, rfl, _, _, h, hb⟩
  exact ⟨g, c, rfl, fun i hi => by rw [← digs_dg n k i hi]; exact h i hi, hb⟩


/-- the number whose bytes are the first k of x's, the other way about -/
def revTo (x : Nat) : Nat → Nat
  | 0 => 0
  | k + 1 => revTo x k * 256 + dg x k
theorem revTo_succ (x k : Nat) : revTo x (k + 1) = revTo x k * 256 + dg x k := rfl
theorem revTo_lt (x k : Nat) : revTo x k < 256 ^ k := by
  induction k with
  | zero => exact Nat.one_pos
  | succ k ih =>
    have := dg_lt x k
    rw [revTo_succ, Nat.pow_succ]; omega
theorem revTo_lt8 (x k : Nat) (hk : k < 8) : revTo x k < 72057594037927936 := by
  have h := revTo_lt x k
  have : 256 ^ k ≤ 256 ^ 7 := Nat.pow_le_pow_right (by decide) (by omega)
  have e : (256 : Nat) ^ 7 = 72057594037927936 := by decide
  omega
theorem rev_or (x k : Nat) (hk : k < 8) : bits .or .u64 ((revTo x k : Int) * 256) (dg x k : Int) = (revTo x (k + 1) : Int) := by
  have h := revTo_lt8 x k hk
  have d := dg_lt x k
  have e : ((revTo x k : Int) * 256) = ((revTo x k * 256 : Nat) : Int) := by simp
  rw [e, u64_or_nat _ _ (by omega) (by omega), Nat.or_comm, or_join (dg x k) (revTo x k) 256 8 (by decide) d, revTo_succ, Nat.add_comm]

set_option maxHeartbeats 400000 in
theorem turned_bad (x : Nat) (i : Int) (h : i < 1 ∨ 8 < i) (w : World) :
    Calls Tryd.prog 4 #[.int .u64 (x : Int), .int .i64 i] w fun e w' => e = .returned (.tuple #[.int .u64 0, .int .i64 11]) ∧ Below w.heap.size w w' := by
  rcases h with h | h
  · go_enter Tryd.func4, Tryd.ntmps4
    go_wp2_with fail
    refine (bytes64_dg x _).mono ?_
    rintro e w1 ⟨rfl, hb⟩
    go_wp2
    go_ret2
    exact ⟨rfl, hb.alloc hb.size _⟩
  · go_enter Tryd.func4, Tryd.ntmps4
    go_wp2_with fail
    refine (bytes64_dg x _).mono ?_
    rintro e w1 ⟨rfl, hb⟩
    go_wp2
    go_ret2
    exact ⟨rfl, hb.alloc hb.size _⟩
set_option maxHeartbeats 400000 in
theorem turned_wide (x n : Nat) (h1 : 1 ≤ n) (h2 : n ≤ 8) (h : onesN (8 * n) < x) (w : World) :
    Calls Tryd.prog 4 #[.int .u64 (x : Int), .int .i64 (n : Int)] w fun e w' => e = .returned (.tuple #[.int .u64 0, .int .i64 10]) ∧ Below w.heap.size w w' := by
  have e8 : (8 : Int) * (n : Int) = ((8 * n : Nat) : Int) := by omega
  generalize hb8 : 8 * n = b at *
  have hb0 : 1 ≤ b := by omega
  have hb1 : b ≤ 64 := by omega
  clear hb8
  go_enter Tryd.func4, Tryd.ntmps4
  go_wp2_with fail
  refine (bytes64_dg x _).mono ?_
  rintro e w1 ⟨rfl, hb⟩
  go_wp2_with fail
  refine (lowest_any b hb0 hb1 _).mono ?_
  rintro e w2 ⟨rfl, rfl⟩
  go_wp2
  go_ret2
  exact ⟨rfl, hb.alloc hb.size _⟩

theorem box_cells (w : World) (x k : Nat) (hk : k < 8) (t : TypeId) : (w.alloc (.cells #[.int .u8 (dg x 0 : Int), .int .u8 (dg x 1 : Int), .int .u8 (dg x 2 : Int), .int .u8 (dg x 3 : Int), .int .u8 (dg x 4 : Int), .int .u8 (dg x 5 : Int), .int .u8 (dg x 6 : Int), .int .u8 (dg x 7 : Int)] t)).cell? ⟨w.heap.size, k, none⟩ = some (.int .u8 (dg x k : Int)) := by
  match k, hk with
  | 0, _ => simp [go_sem]
  | 1, _ => simp [go_sem]
  | 2, _ => simp [go_sem]
  | 3, _ => simp [go_sem]
  | 4, _ => simp [go_sem]
  | 5, _ => simp [go_sem]
  | 6, _ => simp [go_sem]
  | 7, _ => simp [go_sem]

set_option maxHeartbeats 1000000 in
theorem turned_ok (x n : Nat) (h1 : 1 ≤ n) (h2 : n ≤ 8) (h : x ≤ onesN (8 * n)) (w : World) :
    Calls Tryd.prog 4 #[.int .u64 (x : Int), .int .i64 (n : Int)] w fun e w' => e = .returned (.tuple #[.int .u64 (revTo x n : Int), .int .i64 0]) ∧ Below w.heap.size w w' := by
  have e8 : (8 : Int) * (n : Int) = ((8 * n : Nat) : Int) := by omega
  generalize hb8 : 8 * n = b at *
  have hb0 : 1 ≤ b := by omega
  have hb1 : b ≤ 64 := by omega
  clear hb8
  go_enter Tryd.func4, Tryd.ntmps4
  go_wp2_with fail
  refine (bytes64_dg x _).mono ?_
  rintro e w1 ⟨rfl, hb⟩
  have hcell := fun k hk => box_cells w1 x k hk 31
  have hbel := fun o => hb.alloc hb.size o
  have HC : Hid (∀ k, k < 8 → _) := hcell
  have HB : Hid (∀ o, _) := hbel
  clear hcell hbel
  go_wp2_with fail
  refine (lowest_any b hb0 hb1 _).mono ?_
  rintro e w2 ⟨rfl, rfl⟩
  go_wp2
  go_loop [7, 8, 23] (fun t _ c => ∃ k : Nat, k ≤ n ∧ c = .int .i64 (k : Int) ∧ t = .int .u64 (revTo x k : Int)) (fun _ _ c => n - (intOf c).toNat)
  case atStart => exact ⟨0, by omega, rfl, rfl⟩
  case round =>
    obtain ⟨k, hk, rfl, rfl⟩ := hrel
    by_cases hlt : k < n
    · have hc := HC.out k (by omega)
      have HO : Hid (bits .or .u64 ((revTo x k : Int) * 256) (dg x k : Int) = (revTo x (k + 1) : Int)) := rev_or x k (by omega)
      have hr := revTo_lt8 x k (by omega)
      have hd := dg_lt x k
      go_wp2
      go_round
      case rel => exact ⟨k + 1, by omega, by go_num, congrArg _ HO.out⟩
      case measure => simp [intOf]; omega
    · have : k = n := by omega
      subst this
      go_wp2
      go_ret2
      exact ⟨rfl, HB.out _⟩

end Go.Proofs.YtijacihmdfhjcaaDoor
