/- Contracts of the document's own function that turns a number's bytes about, and of what it calls: what each returns, and that no memory that was there has changed. -/
import Derived.Test.YtijacihmdfhjcaaDoorTurnedDoor
namespace Go.Proofs.YtijacihmdfhjcaaDoor
open Go.RowKit
set_option linter.unusedVariables false

/-- the number of bytes that are read from the last one on -/
def ofD (d : Nat → Nat) (k : Nat) : Nat → Nat
  | 0 => 0
  | j + 1 => ofD d k j * 256 + d (k - 1 - j)
theorem ofD_succ (d : Nat → Nat) (k j : Nat) : ofD d k (j + 1) = ofD d k j * 256 + d (k - 1 - j) := rfl
theorem ofD_lt (d : Nat → Nat) (hd : ∀ i, d i < 256) (k j : Nat) : ofD d k j < 256 ^ j := by
  induction j with
  | zero => exact Nat.one_pos
  | succ j ih =>
    have := hd (k - 1 - j)
    rw [ofD_succ, Nat.pow_succ]; omega
theorem ofD_lt8 (d : Nat → Nat) (hd : ∀ i, d i < 256) (k j : Nat) (hj : j < 8) : ofD d k j < 72057594037927936 := by
  have h := ofD_lt d hd k j
  have : 256 ^ j ≤ 256 ^ 7 := Nat.pow_le_pow_right (by decide) (by omega)
  have e : (256 : Nat) ^ 7 = 72057594037927936 := by decide
  omega
theorem ofD_rev (x n j : Nat) (hj : j ≤ n) : ofD (fun i => dg x (n - 1 - i)) n j = revTo x j := by
  induction j with
  | zero => rfl
  | succ j ih =>
    rw [ofD_succ, revTo_succ, ih (by omega)]
    have : n - 1 - (n - 1 - j) = j := by omega
    rw [this]

set_option maxHeartbeats 1000000 in
theorem refOf_any (d : Nat → Nat) (hd : ∀ i, d i < 256) (b c k : Nat) (hk : k ≤ 8) (w : World) (hc : ∀ i, i < k → w.cell? ⟨b, i, none⟩ = some (.int .u8 (d i : Int))) :
    Calls Tryd.prog 17 #[.slice (some ⟨b, 0, none⟩) k c] w fun e w' => e = .returned (.int .u64 (ofD d k k : Int)) ∧ w' = w := by
  have HC : Hid (∀ i, i < k → w.cell? ⟨b, i, none⟩ = some (.int .u8 (d i : Int))) := hc
  have HD : Hid (∀ i, d i < 256) := hd
  clear hc hd
  go_enter Tryd.func17, Tryd.ntmps17
  go_wp2
  go_loop [3, 4] (fun n i => ∃ j : Nat, j ≤ k ∧ i = .int .i64 ((k : Int) - 1 - (j : Int)) ∧ n = .int .u64 (ofD d k j : Int)) (fun _ i => (intOf i + 1).toNat)
  case atStart => exact ⟨0, by omega, by go_num, rfl⟩
  case round =>
    obtain ⟨j, hj, rfl, rfl⟩ := hrel
    by_cases hlt : j < k
    · obtain ⟨q, hq⟩ : ∃ q : Nat, q = k - 1 - j := ⟨_, rfl⟩
      have hc := HC.out q (by omega)
      have hd := HD.out q
      have hr := ofD_lt8 d HD.out k j (by omega)
      have HS : Hid (ofD d k (j + 1) = ofD d k j * 256 + d q) := by
        show ofD d k (j + 1) = ofD d k j * 256 + d q
        rw [ofD_succ, hq]
      have hi : (k : Int) - 1 - (j : Int) = (q : Int) := by omega
      have HI : Hid ((k : Int) - 1 - (j : Int) = (q : Int)) := hi
      rw [hi]
      have hqk : q < k := by omega
      clear hi hq
      go_wp2
      go_round
      case rel => exact ⟨j + 1, by omega, by have := HI.out; go_num, by rw [HS.out]; go_num⟩
      case measure => simp [intOf] <;> omega
    · have : j = k := by omega
      subst this
      go_wp2
      go_ret
      exact ⟨rfl, rfl⟩

set_option maxHeartbeats 400000 in
theorem refTurned_bad (x : Nat) (i : Int) (h : i < 1 ∨ 8 < i) (w : World) :
    Calls Tryd.prog 5 #[.int .u64 (x : Int), .int .i64 i] w fun e w' => e = .returned (.tuple #[.int .u64 0, .int .i64 11]) ∧ w' = w := by
  rcases h with h | h
  · go_enter Tryd.func5, Tryd.ntmps5
    go_wp2
    go_ret2
    exact ⟨rfl, rfl⟩
  · go_enter Tryd.func5, Tryd.ntmps5
    go_wp2
    go_ret2
    exact ⟨rfl, rfl⟩
set_option maxHeartbeats 400000 in
theorem refTurned_wide (x n : Nat) (hx : x < 18446744073709551616) (h1 : 1 ≤ n) (h2 : n ≤ 8) (h : onesN (8 * n) < x) (w : World) :
    Calls Tryd.prog 5 #[.int .u64 (x : Int), .int .i64 (n : Int)] w fun e w' => e = .returned (.tuple #[.int .u64 0, .int .i64 10]) ∧ w' = w := by
  have e8 : (8 : Int) * (n : Int) = ((8 * n : Nat) : Int) := by omega
  generalize hb8 : 8 * n = b at *
  have hb1 : b ≤ 64 := by omega
  have ht : ((lowN x b : Int) != (x : Int)) = true := by
    rw [bne_iff_ne]; intro e
    have := (lowN_eq_iff x b).1 (by exact_mod_cast e)
    omega
  generalize hl : lowN x b = l at *
  clear hb8 h
  go_enter Tryd.func5, Tryd.ntmps5
  go_wp2_with fail
  refine (refLowest_any x b hx hb1 _).mono ?_
  rintro e w2 ⟨rfl, rfl⟩
  go_wp2
  go_ret2
  exact ⟨rfl, rfl⟩

/-- the bytes of a number from the n-th down, so many of them -/
def downs (x n j : Nat) : List Value := (List.range j).map fun t => Value.int .u8 (dg x (n - 1 - t) : Int)
theorem downs_succ (x n j : Nat) : downs x n (j + 1) = downs x n j ++ [Value.int .u8 (dg x (n - 1 - j) : Int)] := by simp [downs, List.range_succ]

set_option maxHeartbeats 1000000 in
theorem refTurned_ok (x n : Nat) (hx : x < 18446744073709551616) (h1 : 1 ≤ n) (h2 : n ≤ 8) (h : x ≤ onesN (8 * n)) (w : World) :
    Calls Tryd.prog 5 #[.int .u64 (x : Int), .int .i64 (n : Int)] w fun e w' => e = .returned (.tuple #[.int .u64 (revTo x n : Int), .int .i64 0]) ∧ Below w.heap.size w w' := by
  obtain ⟨i0, hi, hz0, hz1, hz2⟩ := info_parts Tryd.info5
  have e8 : (8 : Int) * (n : Int) = ((8 * n : Nat) : Int) := by omega
  generalize hb8 : 8 * n = b at *
  have hb1 : b ≤ 64 := by omega
  have hl : lowN x b = x := (lowN_eq_iff x b).2 h
  clear hb8 h
  go_enter Tryd.func5, Tryd.ntmps5
  go_wp2_with fail
  refine (refLowest_any x b hx hb1 _).mono ?_
  rintro e w2 ⟨rfl, rfl⟩
  go_wp2_with fail
  refine (refBytes_any x n h1 h2 hx _).mono ?_
  rintro e w1 ⟨g, c, rfl, hg1, hg2, hcells, hb⟩
  have HC : Hid (∀ i, i < n → w1.cell? ⟨g, i, none⟩ = some (.int .u8 (dg x i : Int))) := by
    show ∀ i, i < n → w1.cell? ⟨g, i, none⟩ = some (.int .u8 (dg x i : Int))
    intro i hi
    rw [← digs_dg x n i hi]; exact hcells i hi
  clear hcells
  go_wp2
  go_loopw [7, 8] (fun v i wr => ∃ j : Nat, j ≤ n ∧ i = .int .i64 ((n : Int) - 1 - (j : Int)) ∧ wr.ownsRow w1.heap.size 5 1 v j (downs x n j) ∧ Below w1.heap.size w1 wr) (fun _ i _ => (intOf i + 1).toNat)
  case atStart =>
    refine ⟨0, by omega, by go_num, ?_, (Below.refl _ _).alloc (Nat.le_refl _) _⟩
    exact World.ownsRow_lit w1 #[] 0 (Nat.le_refl _) (by decide) rfl
  case round =>
    obtain ⟨j, hj, rfl, hown, hbel⟩ := hrel
    by_cases hlt : j < n
    · obtain ⟨q, hq⟩ : ∃ q : Nat, q = n - 1 - j := ⟨_, rfl⟩
      have hc : wr.cell? ⟨g, q, none⟩ = some (.int .u8 (dg x q : Int)) := (hbel.cell (p := ⟨g, q, none⟩) hg2).trans (HC.out q (by omega))
      have hv := hown.lt
      have HS : Hid (downs x n (j + 1) = downs x n j ++ [Value.int .u8 (dg x q : Int)]) := by
        show downs x n (j + 1) = downs x n j ++ [Value.int .u8 (dg x q : Int)]
        rw [downs_succ, hq]
      have hi' : (n : Int) - 1 - (j : Int) = (q : Int) := by omega
      have HI : Hid ((n : Int) - 1 - (j : Int) = (q : Int)) := hi'
      rw [hi']
      have hqn : q < n := by omega
      clear hi' hq
      go_wp2_with (first
        | (at_builtin; refine wpList_append_own _ rfl _ _ 36 rfl w1.heap.size 5 i0 (.int .u8 0) 1 1 Tryd.underlying36 hi hz0 hz1 hz2 rfl (by decide) _ _ _ rfl (hown.alloc _) ⟨wr.heap.size, 0, none⟩ 1 1 [.int .u8 (dg x q : Int)] rfl rfl (cell_one_new _ _ _) (fun x hx => by simp at hx; subst hx; rfl) (by unfold maxLen; omega) (by omega) (by have := hbel.size; simp; omega) ?_)
        | go_in)
      intro v' w3 hown' hgrow _
      have hb3 : Below w1.heap.size w1 w3 := (hbel.alloc (by have := hbel.size; omega) _).grown hgrow (by have := hbel.size; simp; omega) (fun k hk => (hv k hk).1)
      clear hown hv hgrow hbel hc
      go_wp2
      go_roundw
      case rel => exact ⟨j + 1, by omega, by have := HI.out; go_num, by rw [HS.out]; exact hown', hb3⟩
      case measure => simp [intOf] <;> omega
    · have : j = n := by omega
      subst this
      have hl2 := hown.lt
      rcases hown.2 with ⟨_, h0⟩ | ⟨g2, cap, cur, rfl, k1, k2, k3, k4, k5, k6⟩
      · omega
      · have hcc : ∀ i, i < j → wr.cell? ⟨g2, i, none⟩ = some (.int .u8 ((fun i => dg x (j - 1 - i)) i : Int)) := by
          intro i hi
          rw [hown.cellAt i (by omega)]
          simp [downs, hi]
        have HCC : Hid (∀ i, i < j → wr.cell? ⟨g2, i, none⟩ = some (.int .u8 ((fun i => dg x (j - 1 - i)) i : Int))) := hcc
        have HR : Hid (ofD (fun i => dg x (j - 1 - i)) j j = revTo x j) := ofD_rev x j j (Nat.le_refl _)
        have HB : Below w2.heap.size w2 wr := hb.trans (hbel.mono hb.size)
        clear hcc hown hl2 k1 k2 k3 k4 k5 k6 hbel hb HC hg1 hg2
        go_wp2_with fail
        refine (refOf_any _ (fun i => dg_lt x _) g2 cap j h2 _ HCC.out).mono ?_
        rintro e w4 ⟨rfl, rfl⟩
        go_wp2
        go_ret2
        exact ⟨ret_int2 (by rw [HR.out]), HB⟩

end Go.Proofs.YtijacihmdfhjcaaDoor
