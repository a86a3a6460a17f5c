/- Numbers laid into blocks and taken out of them: the program's contracts of Lay32, Lay64, Take32, Take64. -/
import Derived.Test.YtalnfphlhcojcaaHSuOpen
import Derived.Handy
import Derived.BigQuiet
import Derived.Deep.QuietTactic
import Derived.Test.YtalnfphlhcojcaaHDigRow
import Derived.Deep.RegionLaw
import Derived.Laws.CopyOwn

namespace Go.Proofs.Ytalnfphlhcojcaa
open Go Go.RowKit
set_option linter.unusedSimpArgs false
set_option linter.unusedVariables false
set_option maxHeartbeats 4000000 in
theorem sleast4 (n : Int) (h0 : -9223372036854775808 ≤ n) (hn : n ≤ 16384) (w : World) : Calls Try.prog 35 #[.int .i64 4, .int .i64 n] w fun e w' => e = .returned (.int .i64 (hL 4 n)) ∧ w' = w := by
  by_cases c0 : n ≤ 4
  · have HE : Hid (hL 4 n = 0) := by show hL 4 n = 0; unfold hL; rw [if_pos (by omega)]
    have s0 : ¬ ((4 : Int) < n) := by omega
    clear hn c0
    rw [HE.out]
    clear HE
    go_enter Try.func35, Try.ntmps35
    go_wp2
    go_rounds 1
    go_returns
    exact ⟨by simp, rfl⟩
  · skip
    by_cases c1 : n ≤ 16
    · have HE : Hid (hL 4 n = 1) := by show hL 4 n = 1; unfold hL; rw [if_neg (by omega)]; rw [if_pos (by omega)]
      have s0 : ¬ ((16 : Int) < n) := by omega
      have g0 : (4 : Int) < n := by omega
      clear hn c0 c1
      rw [HE.out]
      clear HE
      go_enter Try.func35, Try.ntmps35
      go_wp2
      go_rounds 2
      go_returns
      exact ⟨by simp, rfl⟩
    · skip
      by_cases c2 : n ≤ 64
      · have HE : Hid (hL 4 n = 2) := by show hL 4 n = 2; unfold hL; rw [if_neg (by omega)]; rw [if_neg (by omega)]; rw [if_pos (by omega)]
        have s0 : ¬ ((64 : Int) < n) := by omega
        have g0 : (4 : Int) < n := by omega
        have g1 : (16 : Int) < n := by omega
        clear hn c0 c1 c2
        rw [HE.out]
        clear HE
        go_enter Try.func35, Try.ntmps35
        go_wp2
        go_rounds 3
        go_returns
        exact ⟨by simp, rfl⟩
      · skip
        by_cases c3 : n ≤ 256
        · have HE : Hid (hL 4 n = 3) := by show hL 4 n = 3; unfold hL; rw [if_neg (by omega)]; rw [if_neg (by omega)]; rw [if_neg (by omega)]; rw [if_pos (by omega)]
          have s0 : ¬ ((256 : Int) < n) := by omega
          have g0 : (4 : Int) < n := by omega
          have g1 : (16 : Int) < n := by omega
          have g2 : (64 : Int) < n := by omega
          clear hn c0 c1 c2 c3
          rw [HE.out]
          clear HE
          go_enter Try.func35, Try.ntmps35
          go_wp2
          go_rounds 4
          go_returns
          exact ⟨by simp, rfl⟩
        · skip
          by_cases c4 : n ≤ 1024
          · have HE : Hid (hL 4 n = 4) := by show hL 4 n = 4; unfold hL; rw [if_neg (by omega)]; rw [if_neg (by omega)]; rw [if_neg (by omega)]; rw [if_neg (by omega)]; rw [if_pos (by omega)]
            have s0 : ¬ ((1024 : Int) < n) := by omega
            have g0 : (4 : Int) < n := by omega
            have g1 : (16 : Int) < n := by omega
            have g2 : (64 : Int) < n := by omega
            have g3 : (256 : Int) < n := by omega
            clear hn c0 c1 c2 c3 c4
            rw [HE.out]
            clear HE
            go_enter Try.func35, Try.ntmps35
            go_wp2
            go_rounds 5
            go_returns
            exact ⟨by simp, rfl⟩
          · skip
            by_cases c5 : n ≤ 4096
            · have HE : Hid (hL 4 n = 5) := by show hL 4 n = 5; unfold hL; rw [if_neg (by omega)]; rw [if_neg (by omega)]; rw [if_neg (by omega)]; rw [if_neg (by omega)]; rw [if_neg (by omega)]; rw [if_pos (by omega)]
              have s0 : ¬ ((4096 : Int) < n) := by omega
              have g0 : (4 : Int) < n := by omega
              have g1 : (16 : Int) < n := by omega
              have g2 : (64 : Int) < n := by omega
              have g3 : (256 : Int) < n := by omega
              have g4 : (1024 : Int) < n := by omega
              clear hn c0 c1 c2 c3 c4 c5
              rw [HE.out]
              clear HE
              go_enter Try.func35, Try.ntmps35
              go_wp2
              go_rounds 6
              go_returns
              exact ⟨by simp, rfl⟩
            · skip
              have HE : Hid (hL 4 n = 6) := by show hL 4 n = 6; unfold hL; rw [if_neg (by omega)]; rw [if_neg (by omega)]; rw [if_neg (by omega)]; rw [if_neg (by omega)]; rw [if_neg (by omega)]; rw [if_neg (by omega)]
              have s0 : ¬ ((16384 : Int) < n) := by omega
              have g0 : (4 : Int) < n := by omega
              have g1 : (16 : Int) < n := by omega
              have g2 : (64 : Int) < n := by omega
              have g3 : (256 : Int) < n := by omega
              have g4 : (1024 : Int) < n := by omega
              have g5 : (4096 : Int) < n := by omega
              clear hn c0 c1 c2 c3 c4 c5
              rw [HE.out]
              clear HE
              go_enter Try.func35, Try.ntmps35
              go_wp2
              go_rounds 7
              go_returns
              exact ⟨by simp, rfl⟩
set_option maxHeartbeats 4000000 in
theorem sleast1k (n : Int) (h0 : -9223372036854775808 ≤ n) (hn : n ≤ 4194304) (w : World) : Calls Try.prog 35 #[.int .i64 1024, .int .i64 n] w fun e w' => e = .returned (.int .i64 (hL 1024 n)) ∧ w' = w := by
  by_cases c0 : n ≤ 1024
  · have HE : Hid (hL 1024 n = 0) := by show hL 1024 n = 0; unfold hL; rw [if_pos (by omega)]
    have s0 : ¬ ((1024 : Int) < n) := by omega
    clear hn c0
    rw [HE.out]
    clear HE
    go_enter Try.func35, Try.ntmps35
    go_wp2
    go_rounds 1
    go_returns
    exact ⟨by simp, rfl⟩
  · skip
    by_cases c1 : n ≤ 4096
    · have HE : Hid (hL 1024 n = 1) := by show hL 1024 n = 1; unfold hL; rw [if_neg (by omega)]; rw [if_pos (by omega)]
      have s0 : ¬ ((4096 : Int) < n) := by omega
      have g0 : (1024 : Int) < n := by omega
      clear hn c0 c1
      rw [HE.out]
      clear HE
      go_enter Try.func35, Try.ntmps35
      go_wp2
      go_rounds 2
      go_returns
      exact ⟨by simp, rfl⟩
    · skip
      by_cases c2 : n ≤ 16384
      · have HE : Hid (hL 1024 n = 2) := by show hL 1024 n = 2; unfold hL; rw [if_neg (by omega)]; rw [if_neg (by omega)]; rw [if_pos (by omega)]
        have s0 : ¬ ((16384 : Int) < n) := by omega
        have g0 : (1024 : Int) < n := by omega
        have g1 : (4096 : Int) < n := by omega
        clear hn c0 c1 c2
        rw [HE.out]
        clear HE
        go_enter Try.func35, Try.ntmps35
        go_wp2
        go_rounds 3
        go_returns
        exact ⟨by simp, rfl⟩
      · skip
        by_cases c3 : n ≤ 65536
        · have HE : Hid (hL 1024 n = 3) := by show hL 1024 n = 3; unfold hL; rw [if_neg (by omega)]; rw [if_neg (by omega)]; rw [if_neg (by omega)]; rw [if_pos (by omega)]
          have s0 : ¬ ((65536 : Int) < n) := by omega
          have g0 : (1024 : Int) < n := by omega
          have g1 : (4096 : Int) < n := by omega
          have g2 : (16384 : Int) < n := by omega
          clear hn c0 c1 c2 c3
          rw [HE.out]
          clear HE
          go_enter Try.func35, Try.ntmps35
          go_wp2
          go_rounds 4
          go_returns
          exact ⟨by simp, rfl⟩
        · skip
          by_cases c4 : n ≤ 262144
          · have HE : Hid (hL 1024 n = 4) := by show hL 1024 n = 4; unfold hL; rw [if_neg (by omega)]; rw [if_neg (by omega)]; rw [if_neg (by omega)]; rw [if_neg (by omega)]; rw [if_pos (by omega)]
            have s0 : ¬ ((262144 : Int) < n) := by omega
            have g0 : (1024 : Int) < n := by omega
            have g1 : (4096 : Int) < n := by omega
            have g2 : (16384 : Int) < n := by omega
            have g3 : (65536 : Int) < n := by omega
            clear hn c0 c1 c2 c3 c4
            rw [HE.out]
            clear HE
            go_enter Try.func35, Try.ntmps35
            go_wp2
            go_rounds 5
            go_returns
            exact ⟨by simp, rfl⟩
          · skip
            by_cases c5 : n ≤ 1048576
            · have HE : Hid (hL 1024 n = 5) := by show hL 1024 n = 5; unfold hL; rw [if_neg (by omega)]; rw [if_neg (by omega)]; rw [if_neg (by omega)]; rw [if_neg (by omega)]; rw [if_neg (by omega)]; rw [if_pos (by omega)]
              have s0 : ¬ ((1048576 : Int) < n) := by omega
              have g0 : (1024 : Int) < n := by omega
              have g1 : (4096 : Int) < n := by omega
              have g2 : (16384 : Int) < n := by omega
              have g3 : (65536 : Int) < n := by omega
              have g4 : (262144 : Int) < n := by omega
              clear hn c0 c1 c2 c3 c4 c5
              rw [HE.out]
              clear HE
              go_enter Try.func35, Try.ntmps35
              go_wp2
              go_rounds 6
              go_returns
              exact ⟨by simp, rfl⟩
            · skip
              have HE : Hid (hL 1024 n = 6) := by show hL 1024 n = 6; unfold hL; rw [if_neg (by omega)]; rw [if_neg (by omega)]; rw [if_neg (by omega)]; rw [if_neg (by omega)]; rw [if_neg (by omega)]; rw [if_neg (by omega)]
              have s0 : ¬ ((4194304 : Int) < n) := by omega
              have g0 : (1024 : Int) < n := by omega
              have g1 : (4096 : Int) < n := by omega
              have g2 : (16384 : Int) < n := by omega
              have g3 : (65536 : Int) < n := by omega
              have g4 : (262144 : Int) < n := by omega
              have g5 : (1048576 : Int) < n := by omega
              clear hn c0 c1 c2 c3 c4 c5
              rw [HE.out]
              clear HE
              go_enter Try.func35, Try.ntmps35
              go_wp2
              go_rounds 7
              go_returns
              exact ⟨by simp, rfl⟩
theorem hL_1k (n : Int) (h0 : 0 ≤ n) : hL 1 ((n + 1023) / 1024) = hL 1024 n := by
  unfold hL
  by_cases c0 : n ≤ 1024
  · rw [if_pos c0, if_pos (by omega)]
  · rw [if_neg c0, if_neg (by omega)]
    by_cases c1 : n ≤ 4 * 1024
    · rw [if_pos c1, if_pos (by omega)]
    · rw [if_neg c1, if_neg (by omega)]
      by_cases c2 : n ≤ 16 * 1024
      · rw [if_pos c2, if_pos (by omega)]
      · rw [if_neg c2, if_neg (by omega)]
        by_cases c3 : n ≤ 64 * 1024
        · rw [if_pos c3, if_pos (by omega)]
        · rw [if_neg c3, if_neg (by omega)]
          by_cases c4 : n ≤ 256 * 1024
          · rw [if_pos c4, if_pos (by omega)]
          · rw [if_neg c4, if_neg (by omega)]
            by_cases c5 : n ≤ 1024 * 1024
            · rw [if_pos c5, if_pos (by omega)]
            · rw [if_neg c5, if_neg (by omega)]
end Go.Proofs.Ytalnfphlhcojcaa

namespace Go.Proofs.Ytalnfphlhcojcaa
open Go Go.RowKit
set_option linter.unusedSimpArgs false
set_option linter.unusedVariables false
set_option maxRecDepth 20000
theorem su_wrap (i : Nat) (h : i < 18446744073709551616) : IntKind.u64.wrap (i : Int) = (i : Int) := by
  rw [IntKind.wrap_u64]
  omega
theorem su_dN {B : Nat} {w0 w : World} (h : Below B w0 w) (n : Nat) : Below B w0 (w.drewN n) := ⟨h.1, h.2, h.3, h.4, h.5⟩
def rBl (b : Int) : Bool := decide (16 ≤ b) && decide (b ≤ 8192)
def onD (a : Nat) (b : Int) : Bool := decide (a ≠ 0) && decide ((a : Int) < b)
def sDisk (x : Sup) : Bool := rBl x.b && (decide (3 ≤ x.u) && decide (x.u < x.b))
def sHgt (x : Sup) : Bool := (decide (1 ≤ x.n) && decide (x.n ≤ 4096)) && (decide (x.th = hL 4 x.n) && decide (x.mh = hL 1024 x.b))
def sPl (x : Sup) : Bool := onD x.tr.1 x.b && (onD x.mr.1 x.b && decide (x.tr.1 ≠ x.mr.1))
def sck (x : Sup) : Bool := sDisk x && (sHgt x && sPl x)
def scE (x : Sup) : Int := if sck x = true then 0 else 200
theorem rBl_iff (b : Int) : rBl b = true ↔ 16 ≤ b ∧ b ≤ 8192 := by unfold rBl; simp
theorem sDisk_b (x : Sup) (h : sDisk x = true) : 16 ≤ x.b ∧ x.b ≤ 8192 := by
  unfold sDisk at h
  rw [Bool.and_eq_true] at h
  exact (rBl_iff _).1 h.1
set_option maxHeartbeats 4000000 in
theorem rightBlocks_any (b : Int) (w : World) : Calls Try.prog 34 #[.int .i64 b] w fun e w' => e = .returned (.bool (rBl b)) ∧ w' = w := by
  have HO : Hid (rBl b = (decide (16 ≤ b) && decide (b ≤ 8192))) := rfl
  generalize rBl b = B at *
  by_cases h : 16 ≤ b
  · go_enter Try.func34, Try.ntmps34
    go_wp2_with fail
    go_ret
    exact ⟨by rw [HO.out]; simp [h], rfl⟩
  · go_enter Try.func34, Try.ntmps34
    go_wp2_with fail
    go_ret
    exact ⟨by rw [HO.out]; simp [h]; omega, rfl⟩
set_option maxHeartbeats 4000000 in
theorem onDisk_any (a : Nat) (b : Int) (ha : a < 4294967296) (hb : 0 ≤ b) (hb2 : b ≤ 9223372036854775807) (w : World) : Calls Try.prog 36 #[.int .u32 (a : Int), .int .i64 b] w fun e w' => e = .returned (.bool (onD a b)) ∧ w' = w := by
  have HO : Hid (onD a b = (decide (a ≠ 0) && decide ((a : Int) < b))) := rfl
  generalize onD a b = B at *
  have h1 : IntKind.u64.wrap (a : Int) = (a : Int) := su_wrap a (by omega)
  have h2 : IntKind.u64.wrap b = b := by
    have := su_wrap b.toNat (by omega)
    rwa [show ((b.toNat : Nat) : Int) = b by omega] at this
  by_cases h : (a : Int) = 0
  · have h' : a = 0 := by omega
    go_enter Try.func36, Try.ntmps36
    go_wp2_with fail
    go_ret
    exact ⟨by rw [HO.out]; simp [h'], rfl⟩
  · have h' : ¬ a = 0 := by omega
    go_enter Try.func36, Try.ntmps36
    go_wp2_with fail
    go_ret
    exact ⟨by rw [HO.out]; simp [h'], rfl⟩
set_option maxHeartbeats 4000000 in
theorem mapLeaves_any (b : Int) (w : World) : Calls Try.prog 14 #[.int .i64 b] w fun e w' => e = .returned (.tuple #[.int .i64 (if rBl b = true then (b + 1023) / 1024 else 0), .int .i64 (if rBl b = true then 0 else 200)]) ∧ w' = w := by
  have HR : Hid (∀ w : World, Calls Try.prog 34 #[.int .i64 b] w fun e w' => e = .returned (.bool (rBl b)) ∧ w' = w) := rightBlocks_any b
  by_cases h : 16 ≤ b ∧ b ≤ 8192
  · rw [(rBl_iff b).2 h] at *
    have HE : Hid ((b + 1024 - 1).tdiv 1024 = (b + 1023) / 1024) := by
      show (b + 1024 - 1).tdiv 1024 = (b + 1023) / 1024
      rw [Int.tdiv_eq_ediv_of_nonneg (by omega)]
      omega
    obtain ⟨h1, h2⟩ := h
    go_enter Try.func14, Try.ntmps14
    go_wp2_with fail
    refine (HR.out _).mono ?_
    rintro e w2 ⟨rfl, rfl⟩
    go_wp2_with fail
    go_ret2
    refine ⟨?_, rfl⟩
    first
    | (rw [← HE.out]; simp; done)
    | (have := HE.out; simp at this ⊢; omega)
  · have hf : rBl b = false := Bool.eq_false_iff.2 fun hh => h ((rBl_iff b).1 hh)
    rw [hf] at HR ⊢
    clear h hf
    go_enter Try.func14, Try.ntmps14
    go_wp2_with fail
    refine (HR.out _).mono ?_
    rintro e w2 ⟨rfl, rfl⟩
    go_wp2_with fail
    go_ret2
    exact ⟨rfl, rfl⟩
set_option maxHeartbeats 4000000 in
theorem rightDisk_any (x : Sup) (w : World) : Calls Try.prog 28 #[.agg (suC x)] w fun e w' => e = .returned (.bool (sDisk x)) ∧ Below w.heap.size w w' := by
  have r0 : Blk (w.alloc (.cells (suC x) 31)) w.heap.size 31 (suC x) := Blk.new _ _ _
  have HB : Hid (Below w.heap.size w (w.alloc (.cells (suC x) 31))) := below_new1 _ _
  have c0 := sup_c0 r0
  have c5 := sup_c71 r0
  have HR : Hid (∀ w : World, Calls Try.prog 34 #[.int .i64 x.b] w fun e w' => e = .returned (.bool (rBl x.b)) ∧ w' = w) := rightBlocks_any x.b
  have HO : Hid (sDisk x = (rBl x.b && (decide (3 ≤ x.u) && decide (x.u < x.b)))) := rfl
  generalize rBl x.b = R at *
  generalize sDisk x = B at *
  generalize x.b = b at *
  generalize x.u = u at *
  clear r0
  cases R
  · go_enter Try.func28, Try.ntmps28
    go_wp2_with fail
    refine (HR.out _).mono ?_
    rintro e w2 ⟨rfl, rfl⟩
    go_wp2_with fail
    go_ret
    exact ⟨by rw [HO.out]; simp, HB.out⟩
  · by_cases hu : 3 ≤ u
    · go_enter Try.func28, Try.ntmps28
      go_wp2_with fail
      refine (HR.out _).mono ?_
      rintro e w2 ⟨rfl, rfl⟩
      go_wp2_with fail
      go_ret
      exact ⟨by rw [HO.out]; simp [hu], HB.out⟩
    · go_enter Try.func28, Try.ntmps28
      go_wp2_with fail
      refine (HR.out _).mono ?_
      rintro e w2 ⟨rfl, rfl⟩
      go_wp2_with fail
      go_ret
      exact ⟨by rw [HO.out]; simp [hu]; omega, HB.out⟩
set_option maxHeartbeats 4000000 in
theorem rightHeights_any (x : Sup) (hx : SuW x) (hb : x.b ≤ 8192) (w : World) : Calls Try.prog 29 #[.agg (suC x)] w fun e w' => e = .returned (.bool (sHgt x)) ∧ Below w.heap.size w w' := by
  have r0 : Blk (w.alloc (.cells (suC x) 31)) w.heap.size 31 (suC x) := Blk.new _ _ _
  have HB : Hid (Below w.heap.size w (w.alloc (.cells (suC x) 31))) := below_new1 _ _
  have c0 := sup_c0 r0
  have c2 := sup_c2 r0
  have c36 := sup_c36 r0
  have c37 := sup_c37 r0
  have H4 : Hid (x.n ≤ 4096 → ∀ w : World, Calls Try.prog 35 #[.int .i64 4, .int .i64 x.n] w fun e w' => e = .returned (.int .i64 (hL 4 x.n)) ∧ w' = w) := fun h => sleast4 x.n hx.n.1 (by omega)
  have HK : Hid (∀ w : World, Calls Try.prog 35 #[.int .i64 1024, .int .i64 x.b] w fun e w' => e = .returned (.int .i64 (hL 1024 x.b)) ∧ w' = w) := sleast1k x.b hx.b.1 (by omega)
  have HO : Hid (sHgt x = ((decide (1 ≤ x.n) && decide (x.n ≤ 4096)) && (decide (x.th = hL 4 x.n) && decide (x.mh = hL 1024 x.b)))) := rfl
  generalize sHgt x = B at *
  clear r0 hb hx
  generalize hL 4 x.n = H1 at *
  generalize hL 1024 x.b = H2 at *
  generalize x.b = b at *
  generalize x.n = n at *
  generalize x.th = th at *
  generalize x.mh = mh at *
  by_cases h1 : 1 ≤ n
  · have h1' : ¬ n < 1 := by omega
    by_cases h2 : n ≤ 4096
    · have h2' : ¬ 4096 < n := by omega
      have H4' : Hid (∀ w : World, Calls Try.prog 35 #[.int .i64 4, .int .i64 n] w fun e w' => e = .returned (.int .i64 H1) ∧ w' = w) := H4.out h2
      clear H4
      by_cases ht : th = H1
      · subst ht
        go_enter Try.func29, Try.ntmps29
        go_wp2_with fail
        generalize (w.alloc (.cells (suC x) 31)) = w0 at *
        go_quiet (first | (go_at_call_of 35 (Value.int IntKind.i64 4); refine Calls.quiet_of_same (H4'.out _)) | (go_at_call_of 35 (Value.int IntKind.i64 1024); refine Calls.quiet_of_same (HK.out _)))
        go_wp2_with fail
        go_ret
        exact ⟨by rw [HO.out]; by_cases hm : mh = H2 <;> simp [h1, h2, hm], su_dN HB.out _⟩
      · go_enter Try.func29, Try.ntmps29
        go_wp2_with fail
        generalize (w.alloc (.cells (suC x) 31)) = w0 at *
        go_quiet (first | (go_at_call_of 35 (Value.int IntKind.i64 4); refine Calls.quiet_of_same (H4'.out _)) | (go_at_call_of 35 (Value.int IntKind.i64 1024); refine Calls.quiet_of_same (HK.out _)))
        go_wp2_with fail
        go_ret
        exact ⟨by rw [HO.out]; simp [h1, h2, ht], su_dN HB.out _⟩
    · have h2' : 4096 < n := by omega
      go_enter Try.func29, Try.ntmps29
      go_wp2_with fail
      go_ret
      exact ⟨by rw [HO.out]; simp [h2]; omega, HB.out⟩
  · have h1' : n < 1 := by omega
    go_enter Try.func29, Try.ntmps29
    go_wp2_with fail
    go_ret
    exact ⟨by rw [HO.out]; simp [h1]; omega, HB.out⟩
set_option maxHeartbeats 4000000 in
theorem rightPlaces_any (x : Sup) (hx : SuW x) (hb : 0 ≤ x.b) (w : World) : Calls Try.prog 30 #[.agg (suC x)] w fun e w' => e = .returned (.bool (sPl x)) ∧ Below w.heap.size w w' := by
  have r0 : Blk (w.alloc (.cells (suC x) 31)) w.heap.size 31 (suC x) := Blk.new _ _ _
  have HB : Hid (Below w.heap.size w (w.alloc (.cells (suC x) 31))) := below_new1 _ _
  have c0 := sup_c0 r0
  have c3 := sup_c3 r0
  have c38 := sup_c38 r0
  have H1 : Hid (∀ w : World, Calls Try.prog 36 #[.int .u32 (x.tr.1 : Int), .int .i64 x.b] w fun e w' => e = .returned (.bool (onD x.tr.1 x.b)) ∧ w' = w) := onDisk_any _ _ hx.ta hb hx.b.2
  have H2 : Hid (∀ w : World, Calls Try.prog 36 #[.int .u32 (x.mr.1 : Int), .int .i64 x.b] w fun e w' => e = .returned (.bool (onD x.mr.1 x.b)) ∧ w' = w) := onDisk_any _ _ hx.ma hb hx.b.2
  have HO : Hid (sPl x = (onD x.tr.1 x.b && (onD x.mr.1 x.b && decide (x.tr.1 ≠ x.mr.1)))) := rfl
  generalize sPl x = B at *
  clear r0 hb hx
  generalize onD x.tr.1 x.b = P1 at *
  generalize onD x.mr.1 x.b = P2 at *
  generalize x.b = b at *
  generalize x.tr.1 = n1 at *
  generalize x.mr.1 = n2 at *
  go_enter Try.func30, Try.ntmps30
  go_wp2_with fail
  have c0' := c0
  generalize (w.alloc (.cells (suC x) 31)) = w0 at *
  go_quiet (fail)
  cases P1
  · go_wp2_with fail
    refine (H1.out _).mono ?_
    rintro e w2 ⟨rfl, rfl⟩
    go_wp2_with fail
    go_ret
    exact ⟨by rw [HO.out]; simp, su_dN HB.out _⟩
  · cases P2
    · go_wp2_with fail
      refine (H1.out _).mono ?_
      rintro e w2 ⟨rfl, rfl⟩
      go_wp2_with fail
      refine (H2.out _).mono ?_
      rintro e w2 ⟨rfl, rfl⟩
      go_wp2_with fail
      go_ret
      exact ⟨by rw [HO.out]; simp, su_dN HB.out _⟩
    · by_cases hq : n1 = n2
      · subst hq
        go_wp2_with fail
        refine (H1.out _).mono ?_
        rintro e w2 ⟨rfl, rfl⟩
        go_wp2_with fail
        refine (H2.out _).mono ?_
        rintro e w2 ⟨rfl, rfl⟩
        go_wp2_with fail
        go_ret
        exact ⟨by rw [HO.out]; simp, su_dN HB.out _⟩
      · have hq' : ¬ (n1 : Int) = (n2 : Int) := by omega
        go_wp2_with fail
        refine (H1.out _).mono ?_
        rintro e w2 ⟨rfl, rfl⟩
        go_wp2_with fail
        refine (H2.out _).mono ?_
        rintro e w2 ⟨rfl, rfl⟩
        go_wp2_with fail
        go_ret
        exact ⟨by rw [HO.out]; simp [hq]; omega, su_dN HB.out _⟩
set_option maxHeartbeats 4000000 in
theorem scheck_any (x : Sup) (hx : SuW x) (w : World) : Calls Try.prog 10 #[.agg (suC x)] w fun e w' => e = .returned (.int .i64 (scE x)) ∧ Below w.heap.size w w' := by
  have r0 : Blk (w.alloc (.cells (suC x) 31)) w.heap.size 31 (suC x) := Blk.new _ _ _
  have HB0 : Hid (Below w.heap.size w (w.alloc (.cells (suC x) 31)) ∧ w.heap.size < (w.alloc (.cells (suC x) 31)).heap.size) := ⟨below_new1 _ _, by simp⟩
  have HL : Hid (∀ w, Calls Try.prog 28 #[.agg (suC x)] w fun e w' => e = .returned (.bool (sDisk x)) ∧ Below w.heap.size w w') := rightDisk_any x
  have HS : Hid (sDisk x = true → ∀ w, Calls Try.prog 29 #[.agg (suC x)] w fun e w' => e = .returned (.bool (sHgt x)) ∧ Below w.heap.size w w') := fun h => rightHeights_any x hx (sDisk_b x h).2
  have HT : Hid (sDisk x = true → ∀ w, Calls Try.prog 30 #[.agg (suC x)] w fun e w' => e = .returned (.bool (sPl x)) ∧ Below w.heap.size w w') := fun h => rightPlaces_any x hx (by have := (sDisk_b x h).1; omega)
  have HO : Hid (scE x = if (sDisk x && (sHgt x && sPl x)) = true then 0 else 200) := rfl
  generalize scE x = B at *
  generalize sDisk x = bl at *
  generalize sHgt x = bs at *
  generalize sPl x = bt at *
  go_enter Try.func10, Try.ntmps10
  go_wp2_with (first | (refine wpList_load_rowg (by rfl) 31 _ (by rfl) (w.heap.size) (by rfl) 31 (suC x) (0, 0) _ (by exact r0) Try.underlying31 (by rfl) (sizeSup.trans (by rw [suC_size])) ?_; simp only [Act.put, List.setIfInBounds_toArray, List.set_cons_zero, List.set_cons_succ]) | fail)
  generalize (w.alloc (.cells (suC x) 31)) = w0 at *
  refine (HL.out _).mono ?_
  intro e w1 hw1
  obtain ⟨he1, hb1⟩ := hw1
  subst he1
  have HB1 : Hid (Below w.heap.size w w1 ∧ w.heap.size < w1.heap.size) := ⟨HB0.out.1.trans (hb1.mono (by have := HB0.out.2; omega)), by have := HB0.out.2; have := hb1.size; omega⟩
  have r1 : Blk w1 w.heap.size 31 (suC x) := r0.below hb1 (HB0.out.2)
  clear hb1 HB0 r0
  cases bl
  · go_wp2_with fail
    go_ret
    exact ⟨by rw [HO.out]; rfl, HB1.out.1⟩
  · have HS' : Hid (∀ w, Calls Try.prog 29 #[.agg (suC x)] w fun e w' => e = .returned (.bool bs) ∧ Below w.heap.size w w') := HS.out rfl
    have HT' : Hid (∀ w, Calls Try.prog 30 #[.agg (suC x)] w fun e w' => e = .returned (.bool bt) ∧ Below w.heap.size w w') := HT.out rfl
    clear HS HT
    go_wp2_with (first | (refine wpList_load_rowg (by rfl) 31 _ (by rfl) (w.heap.size) (by rfl) 31 (suC x) (0, 0) _ (by exact r1) Try.underlying31 (by rfl) (sizeSup.trans (by rw [suC_size])) ?_; simp only [Act.put, List.setIfInBounds_toArray, List.set_cons_zero, List.set_cons_succ]) | fail)
    refine (HS'.out _).mono ?_
    intro e w2 hw2
    obtain ⟨he2, hb2⟩ := hw2
    subst he2
    have HB2 : Hid (Below w.heap.size w w2 ∧ w.heap.size < w2.heap.size) := ⟨HB1.out.1.trans (hb2.mono (by have := HB1.out.2; omega)), by have := HB1.out.2; have := hb2.size; omega⟩
    have r2 : Blk w2 w.heap.size 31 (suC x) := r1.below hb2 (HB1.out.2)
    clear hb2 HB1 r1
    cases bs
    · go_wp2_with fail
      go_ret
      exact ⟨by rw [HO.out]; rfl, HB2.out.1⟩
    · go_wp2_with (first | (refine wpList_load_rowg (by rfl) 31 _ (by rfl) (w.heap.size) (by rfl) 31 (suC x) (0, 0) _ (by exact r2) Try.underlying31 (by rfl) (sizeSup.trans (by rw [suC_size])) ?_; simp only [Act.put, List.setIfInBounds_toArray, List.set_cons_zero, List.set_cons_succ]) | fail)
      refine (HT'.out _).mono ?_
      intro e w3 hw3
      obtain ⟨he3, hb3⟩ := hw3
      subst he3
      have HB3 : Hid (Below w.heap.size w w3 ∧ w.heap.size < w3.heap.size) := ⟨HB2.out.1.trans (hb3.mono (by have := HB2.out.2; omega)), by have := HB2.out.2; have := hb3.size; omega⟩
      clear hb3 HB2 r2
      cases bt
      · go_wp2_with fail
        go_ret
        exact ⟨by rw [HO.out]; rfl, HB3.out.1⟩
      · go_wp2_with fail
        go_ret
        exact ⟨by rw [HO.out]; rfl, HB3.out.1⟩
end Go.Proofs.Ytalnfphlhcojcaa

namespace Go.Proofs.Ytalnfphlhcojcaa
open Go.RowKit
set_option linter.unusedSimpArgs false
set_option linter.unusedVariables false

theorem va_mem_one (n : Nat) (f : Nat → Nat) : ∀ v ∈ (va n (iv .u8 f)).toList, v.oneCell' = true := fun v hv => by
  rw [va_toList] at hv
  obtain ⟨i, _, rfl⟩ := List.mem_map.1 hv
  rfl
theorem ksize4 : (Try.prog.info? 80).map (·.size) = some 4 := by kernel_rfl
theorem ksize8 : (Try.prog.info? 82).map (·.size) = some 8 := by kernel_rfl
def le8f (f : Nat → Nat) (o : Nat) : Nat := le8 (f o) (f (o + 1)) (f (o + 2)) (f (o + 3)) (f (o + 4)) (f (o + 5)) (f (o + 6)) (f (o + 7))
set_option maxHeartbeats 1000000 in
theorem kof64_any (a0 a1 a2 a3 a4 a5 a6 a7 : Nat) (h0 : a0 < 256) (h1 : a1 < 256) (h2 : a2 < 256) (h3 : a3 < 256) (h4 : a4 < 256) (h5 : a5 < 256) (h6 : a6 < 256) (h7 : a7 < 256) (w : World) :
    Calls Try.prog 43 #[.agg #[.int .u8 (a0 : Int), .int .u8 (a1 : Int), .int .u8 (a2 : Int), .int .u8 (a3 : Int), .int .u8 (a4 : Int), .int .u8 (a5 : Int), .int .u8 (a6 : Int), .int .u8 (a7 : Int)]] w fun e w' => e = .returned (.int .u64 (le8 a0 a1 a2 a3 a4 a5 a6 a7 : Int)) ∧ Below w.heap.size w w' := by
  go_enter Try.func43, Try.ntmps43
  go_wp2
  go_rounds 9
  go_returns
  refine ⟨ret_int (of8_val a0 a1 a2 a3 a4 a5 a6 a7 h0 h1 h2 h3 h4 h5 h6 h7), ?_⟩
  go_grown
theorem of64_va (f : Nat → Nat) (o : Nat) (h : ∀ i, f i < 256) (w : World) :
    Calls Try.prog 43 #[.agg (va 8 (iv .u8 fun j => f (o + j)))] w fun e w' => e = .returned (.int .u64 (le8f f o : Int)) ∧ Below w.heap.size w w' :=
  kof64_any (f o) (f (o + 1)) (f (o + 2)) (f (o + 3)) (f (o + 4)) (f (o + 5)) (f (o + 6)) (f (o + 7)) (h _) (h _) (h _) (h _) (h _) (h _) (h _) (h _) w

set_option maxRecDepth 100000 in
set_option maxHeartbeats 4000000 in
theorem lay32_by (f : Nat → Nat) (a : Int) (x : Nat) (F : Nat → Nat) (y : Int)
    (hL0 : ∀ w : World, Calls Try.prog 22 #[bkV f, .int .i64 a, .string (strN (dig x) 4)] w fun e w' => e = .returned (.tuple #[bkV F, .int .i64 y]) ∧ Below w.heap.size w w') (w : World) :
    Calls Try.prog 20 #[bkV f, .int .i64 a, .int .u32 (x : Int)] w fun e w' => e = .returned (.tuple #[bkV F, .int .i64 y]) ∧ Below w.heap.size w w' := by
  have hL : Hid (∀ w : World, Calls Try.prog 22 #[bkV f, .int .i64 a, .string (strN (dig x) 4)] w fun e w' => e = .returned (.tuple #[bkV F, .int .i64 y]) ∧ Below w.heap.size w w') := hL0
  have hB : Hid (∀ w : World, Calls Try.prog 37 #[.int .u32 (x : Int)] w fun e w' => e = .returned (.agg (va 4 (iv .u8 (dig x)))) ∧ Below w.heap.size w w') := fun w => bytes32_va x w
  clear hL0
  unfold bkV at *
  have hz := zero_bk
  have b0 : Blk ((w.alloc (Obj.cells (va 256 (iv IntKind.u8 f)) 33)).alloc (Obj.cells (va 256 (iv IntKind.u8 fun x => 0)) 33)) w.heap.size 33 (va 256 (iv .u8 f)) := (Blk.new _ _ _).alloc _
  have b1 := Blk.new1 w (Obj.cells (va 256 (iv IntKind.u8 f)) 33) 33 (va 256 (iv IntKind.u8 fun x => 0))
  have hb := below_new2 w (Obj.cells (va 256 (iv IntKind.u8 f)) 33) (Obj.cells (va 256 (iv IntKind.u8 fun x => 0)) 33)
  go_enter Try.func20, Try.ntmps20
  go_wp2_with fail
  generalize (w.alloc (Obj.cells (va 256 (iv IntKind.u8 f)) 33)).alloc (Obj.cells (va 256 (iv IntKind.u8 fun x => 0)) 33) = W at *
  refine (hB.out _).mono ?_
  rintro e w1 ⟨rfl, hb1⟩
  have l1 : w.heap.size + 1 < w1.heap.size := Nat.lt_of_lt_of_le b1.lt hb1.size
  have n0 : Blk (w1.alloc (.cells #[.int .u8 0, .int .u8 0, .int .u8 0, .int .u8 0] 80)) w1.heap.size 80 (va 4 (iv .u8 fun _ => 0)) := Blk.new _ _ _
  have c0 := ((b0.below hb1 b0.lt).alloc (.cells #[.int .u8 0, .int .u8 0, .int .u8 0, .int .u8 0] 80)).other (g := w1.heap.size) (va 4 (iv .u8 (dig x))) (by omega)
  have c1 := ((b1.below hb1 b1.lt).alloc (.cells #[.int .u8 0, .int .u8 0, .int .u8 0, .int .u8 0] 80)).other (g := w1.heap.size) (va 4 (iv .u8 (dig x))) (by omega)
  have n1 := n0.set (va 4 (iv .u8 (dig x)))
  have hb2 : Below w.heap.size w ((w1.alloc (.cells #[.int .u8 0, .int .u8 0, .int .u8 0, .int .u8 0] 80)).setRow w1.heap.size (va 4 (iv .u8 (dig x)))) := below_setRow ((hb.trans (hb1.mono hb.size)).alloc (by omega) _) (by omega) _
  clear b0 b1 hb hb1 hB hz
  go_wp2_with (first
    | (refine wpList_store_row (by rfl) 80 _ _ (by rfl) (w1.heap.size) (va 4 (iv .u8 (dig x))) (by rfl) (by rfl) 80 _ n0 (ksize4.trans (by rw [va_size])) (by simp only [va_size]) (iv_one _ _ _) ?_; simp only [Act.put, List.setIfInBounds_toArray, List.set_cons_zero, List.set_cons_succ])
    | fail)
  clear n0
  generalize (w1.alloc (.cells #[.int .u8 0, .int .u8 0, .int .u8 0, .int .u8 0] 80)).setRow w1.heap.size (va 4 (iv .u8 (dig x))) = w2 at *
  have hc := run_bytes_text (P := Try.prog) w2.drew 48 5 9 Try.underlying48 Try.underlying5 Try.underlying9 (n1.drew) 0 4 4 (by omega)
  rw [strN_congr (f := fun j => dig x (0 + j)) (g := dig x) fun j _ => by rw [Nat.zero_add]] at hc
  generalize strN (dig x) 4 = S at *
  refine wp_region_partsI [] [([1], 0, true), ([], 2, false), ([], 3, false), ([], 4, false), ([5, 6], 7, false)] [8] [] (w.heap.size + 1) (by kernel_rfl) (by kernel_rfl) (fun _ hx => nomatch hx) (partsI_yield ?_)
  simp only [List.cons_append, List.nil_append, List.append_nil, List.filterMap_cons, List.filterMap_nil, List.getElem?_toArray, List.getElem?_cons_zero, List.getElem?_cons_succ]
  have hS : Below (w.heap.size + 1) w2 w2.drew := (Below.refl _ _).drew
  go_wp2_with fail
  refine ⟨rfl, _, .agg (va 256 (iv .u8 f)), rfl, kyields_load (by rfl) 33 _ (by rfl) (w.heap.size) 256 (iv .u8 f) (by rfl) _ 33 (fun W hW => c0.below hW (Nat.lt_succ_self _)) Try.underlying33 rfl sizeBk, partsI_force ?_⟩
  simp only [Act.put, List.setIfInBounds_toArray, List.set_cons_zero, List.set_cons_succ]
  simp only [List.cons_append, List.nil_append, List.append_nil, List.filterMap_cons, List.filterMap_nil, List.getElem?_toArray, List.getElem?_cons_zero, List.getElem?_cons_succ]
  go_wp2_with fail
  refine ⟨rfl, hS, partsI_force ?_⟩
  simp only [List.cons_append, List.nil_append, List.append_nil, List.filterMap_cons, List.filterMap_nil, List.getElem?_toArray, List.getElem?_cons_zero, List.getElem?_cons_succ]
  go_wp2_with fail
  refine ⟨rfl, hS, partsI_force ?_⟩
  simp only [List.cons_append, List.nil_append, List.append_nil, List.filterMap_cons, List.filterMap_nil, List.getElem?_toArray, List.getElem?_cons_zero, List.getElem?_cons_succ]
  go_wp2_with fail
  refine (hL.out _).mono ?_
  rintro e w3 ⟨rfl, hb3⟩
  have hS3 : Below (w.heap.size + 1) w2 w3 := hS.trans (hb3.mono (Nat.le_of_lt c1.lt))
  have c3 := c1.drew.below hb3 c1.lt
  clear hS hb3 hL
  have hS := hS3
  clear hS3
  have hb4 : Below w.heap.size w w3 := hb2.trans (hS.mono (Nat.le_succ _))
  go_wp2_with fail
  refine ⟨rfl, hS, partsI_force ?_⟩
  simp only [List.cons_append, List.nil_append, List.append_nil, List.filterMap_cons, List.filterMap_nil, List.getElem?_toArray, List.getElem?_cons_zero, List.getElem?_cons_succ]
  have hst := Blk.store (P := Try.prog) c3 (va 256 (iv .u8 F)) (by simp only [va_size]) (va_mem_one _ _)
  have hvs := va_size 256 (iv .u8 F)
  go_wp2_with fail
  have hS4 := below_setRow hS (Nat.le_refl (w.heap.size + 1)) (va 256 (iv .u8 F))
  clear hS
  have hS := hS4
  clear hS4
  refine ⟨rfl, hS, partsI_last ?_⟩
  simp only [List.cons_append, List.nil_append, List.append_nil, List.filterMap_cons, List.filterMap_nil, List.getElem?_toArray, List.getElem?_cons_zero, List.getElem?_cons_succ]
  go_wp2_with fail
  refine ⟨rfl, ?_⟩
  go_wp2_with fail
  try simp only [Exit.inBlock, Exit.then]
  refine bodyPost_ret (results_row2 Try.results20 _ _ (w.heap.size + 1) 33 (va 256 (iv .u8 F)) (0, 0) _ rfl (c3.set _) Try.underlying33 rfl (sizeBk.trans (by rw [va_size]))) rfl ?_
  exact ⟨rfl, below_setRow hb4 (Nat.le_succ _) _⟩

set_option maxRecDepth 100000 in
set_option maxHeartbeats 4000000 in
theorem take32_fit (f : Nat → Nat) (hf : ∀ i, f i < 256) (r : Nat) (h : r + 4 ≤ 256) (w : World) :
    Calls Try.prog 44 #[bkV f, .int .i64 (r : Int)] w fun e w' => e = .returned (.tuple #[.int .u32 (le4f f r : Int), .int .i64 0]) ∧ Below w.heap.size w w' := by
  have hI : Hid (∀ w : World, Calls Try.prog 39 #[.int .i64 (r : Int), .int .i64 4] w fun e w' => e = .returned (.bool true) ∧ w' = w) := fun w => by
    have := inside_any (r : Int) 4 (by omega) (by omega) w
    rw [decide_eq_true (show Fit (r : Int) 4 from ⟨by omega, by omega, by omega⟩)] at this
    exact this
  have hO : Hid (∀ w : World, Calls Try.prog 47 #[.agg (va 4 (iv .u8 fun j => f (r + j)))] w fun e w' => e = .returned (.int .u32 (le4f f r : Int)) ∧ Below w.heap.size w w') := fun w => of32_va f r (fun i _ => hf _) w
  generalize le4f f r = v at *
  unfold bkV
  have b0 : Blk ((w.alloc (Obj.cells (va 256 (iv IntKind.u8 f)) 33)).alloc (.cells #[.int .u8 0, .int .u8 0, .int .u8 0, .int .u8 0] 80)) w.heap.size 33 (va 256 (iv .u8 f)) := (Blk.new _ _ _).alloc _
  have b1 : Blk ((w.alloc (Obj.cells (va 256 (iv IntKind.u8 f)) 33)).alloc (.cells #[.int .u8 0, .int .u8 0, .int .u8 0, .int .u8 0] 80)) (w.heap.size + 1) 80 (va 4 (iv .u8 fun _ => 0)) := Blk.new1 _ _ _ _
  have hb := below_new2 w (Obj.cells (va 256 (iv IntKind.u8 f)) 33) (.cells #[.int .u8 0, .int .u8 0, .int .u8 0, .int .u8 0] 80)
  go_enter Try.func44, Try.ntmps44
  go_wp2_with fail
  generalize (w.alloc (Obj.cells (va 256 (iv IntKind.u8 f)) 33)).alloc (.cells #[.int .u8 0, .int .u8 0, .int .u8 0, .int .u8 0] 80) = W at *
  refine (hI.out _).mono ?_
  rintro e w1 ⟨rfl, rfl⟩
  have r0 : (0 : Int) ≤ (r : Int) := by omega
  have r1 : (r : Int) ≤ 256 := by omega
  have r2 : ¬ 256 = r := by omega
  obtain ⟨cs, hcs⟩ : ∃ cs : List Value, cs = byL (fun j => f (r + j)) 4 := ⟨_, rfl⟩
  have s1 : Hid (cs.length = Nat.min (256 - r) 4) := by
    show _ = _
    rw [hcs, byL_length]
    show _ = min _ _
    omega
  have s2 : Hid (∀ (V : World), Below (w.heap.size + 1) w1 V → ∀ j v, cs[j]? = some v → V.cell? ((⟨w.heap.size, r, none⟩ : Addr).add j) = some v) := fun V hV j v hv => by
    rw [hcs] at hv
    have hj : j < 4 := by
      have := (List.getElem?_eq_some_iff.1 hv).1
      rwa [byL_length] at this
    rw [byL_at _ _ _ hj] at hv
    rw [Addr.add_mid, (b0.below hV (Nat.lt_succ_self _)).cv (i := r + j) (by omega)]
    exact hv
  have s3 : Hid (∀ v ∈ cs, v.oneCell' = true) := by
    show ∀ v ∈ cs, v.oneCell' = true
    rw [hcs]
    exact mem_iv_one _ _ _
  have s5 : Hid (0 + cs.length ≤ 4) := by
    show _ ≤ _
    rw [hcs, byL_length]
    omega
  have s6 : Hid (w1.drew.heap[w.heap.size + 1]? = some (.cells ([Value.int .u8 0, .int .u8 0, .int .u8 0, .int .u8 0] : List Value).toArray 80 (0, 0))) := b1
  have s8 : Hid ((splice ([Value.int .u8 0, .int .u8 0, .int .u8 0, .int .u8 0] : List Value) 0 cs).toArray = va 4 (iv .u8 fun j => f (r + j))) := by
    show _ = _
    rw [hcs]
    have e := splice_put 4 0 4 (fun _ => 0) (fun j => f (r + j)) (by omega)
    refine Eq.trans (by rfl) (e.trans (va_congr fun i hi => ?_))
    unfold iv putAt
    rw [if_pos (by omega), Nat.sub_zero]
  go_wp2_with fail
  go_region_law (refine step_copy_splice rfl (.tmp 10) (.tmp 12) 48 48 rfl 5 Try.underlying48 ksizeU8 (some ⟨w.heap.size + 1, 0, none⟩) (some ⟨w.heap.size, r, none⟩) 4 4 (256 - r) (256 - r) (by simp [Act.eval, Act.put]) (by simp [Act.eval, Act.put]) (w.heap.size + 1) 0 [Value.int .u8 0, .int .u8 0, .int .u8 0, .int .u8 0] 80 s6.out cs s1.out (fun _ => ⟨rfl, _, rfl, s2.out _ (Below.refl _ _).drew⟩) s5.out s3.out (w.heap.size + 1) w1 (Below.refl _ _).drew (Nat.le_refl _) ?_; intro w4 hg4 hb4)
  have c1 : Blk w4 (w.heap.size + 1) 80 (va 4 (iv .u8 fun j => f (r + j))) := by
    have := hg4.out
    rw [s8.out] at this
    exact this
  have hb5 : Below w.heap.size w w4 := hb.trans (hb4.mono (Nat.le_succ _))
  clear s1 s2 s3 s5 s6 s8 hg4 hb4 hb b0 b1 hcs hI
  go_wp2_with (first
    | (refine wpList_load_row (by rfl) 80 _ (by rfl) (w.heap.size + 1) (by rfl) 80 (va 4 (iv .u8 (fun j => f (r + j)))) (0, 0) _ c1 Try.underlying80 (by rfl) (ksize4.trans (by rw [va_size])) ?_; simp only [Act.put, List.setIfInBounds_toArray, List.set_cons_zero, List.set_cons_succ])
    | fail)
  refine (hO.out _).mono ?_
  rintro e w5 ⟨rfl, hb6⟩
  have hb7 : Below w.heap.size w w5 := hb5.trans (hb6.mono hb5.size)
  clear hb5 hb6 hO c1
  go_wp2_with fail
  try simp only [Exit.inBlock, Exit.then]
  refine bodyPost_ret (results_tmp2 Try.results44 _ _ _) rfl ?_
  exact ⟨rfl, hb7⟩

set_option maxRecDepth 100000 in
set_option maxHeartbeats 4000000 in
theorem lay64_by (f : Nat → Nat) (a : Int) (x : Nat) (F : Nat → Nat) (y : Int)
    (hL0 : ∀ w : World, Calls Try.prog 22 #[bkV f, .int .i64 a, .string (strN (dig x) 8)] w fun e w' => e = .returned (.tuple #[bkV F, .int .i64 y]) ∧ Below w.heap.size w w') (w : World) :
    Calls Try.prog 21 #[bkV f, .int .i64 a, .int .u64 (x : Int)] w fun e w' => e = .returned (.tuple #[bkV F, .int .i64 y]) ∧ Below w.heap.size w w' := by
  have hL : Hid (∀ w : World, Calls Try.prog 22 #[bkV f, .int .i64 a, .string (strN (dig x) 8)] w fun e w' => e = .returned (.tuple #[bkV F, .int .i64 y]) ∧ Below w.heap.size w w') := hL0
  have hB : Hid (∀ w : World, Calls Try.prog 38 #[.int .u64 (x : Int)] w fun e w' => e = .returned (.agg (va 8 (iv .u8 (dig x)))) ∧ Below w.heap.size w w') := fun w => bytes64_va x w
  clear hL0
  unfold bkV at *
  have hz := zero_bk
  have b0 : Blk ((w.alloc (Obj.cells (va 256 (iv IntKind.u8 f)) 33)).alloc (Obj.cells (va 256 (iv IntKind.u8 fun x => 0)) 33)) w.heap.size 33 (va 256 (iv .u8 f)) := (Blk.new _ _ _).alloc _
  have b1 := Blk.new1 w (Obj.cells (va 256 (iv IntKind.u8 f)) 33) 33 (va 256 (iv IntKind.u8 fun x => 0))
  have hb := below_new2 w (Obj.cells (va 256 (iv IntKind.u8 f)) 33) (Obj.cells (va 256 (iv IntKind.u8 fun x => 0)) 33)
  go_enter Try.func21, Try.ntmps21
  go_wp2_with fail
  generalize (w.alloc (Obj.cells (va 256 (iv IntKind.u8 f)) 33)).alloc (Obj.cells (va 256 (iv IntKind.u8 fun x => 0)) 33) = W at *
  refine (hB.out _).mono ?_
  rintro e w1 ⟨rfl, hb1⟩
  have l1 : w.heap.size + 1 < w1.heap.size := Nat.lt_of_lt_of_le b1.lt hb1.size
  have n0 : Blk (w1.alloc (.cells #[.int .u8 0, .int .u8 0, .int .u8 0, .int .u8 0, .int .u8 0, .int .u8 0, .int .u8 0, .int .u8 0] 82)) w1.heap.size 82 (va 8 (iv .u8 fun _ => 0)) := Blk.new _ _ _
  have c0 := ((b0.below hb1 b0.lt).alloc (.cells #[.int .u8 0, .int .u8 0, .int .u8 0, .int .u8 0, .int .u8 0, .int .u8 0, .int .u8 0, .int .u8 0] 82)).other (g := w1.heap.size) (va 8 (iv .u8 (dig x))) (by omega)
  have c1 := ((b1.below hb1 b1.lt).alloc (.cells #[.int .u8 0, .int .u8 0, .int .u8 0, .int .u8 0, .int .u8 0, .int .u8 0, .int .u8 0, .int .u8 0] 82)).other (g := w1.heap.size) (va 8 (iv .u8 (dig x))) (by omega)
  have n1 := n0.set (va 8 (iv .u8 (dig x)))
  have hb2 : Below w.heap.size w ((w1.alloc (.cells #[.int .u8 0, .int .u8 0, .int .u8 0, .int .u8 0, .int .u8 0, .int .u8 0, .int .u8 0, .int .u8 0] 82)).setRow w1.heap.size (va 8 (iv .u8 (dig x)))) := below_setRow ((hb.trans (hb1.mono hb.size)).alloc (by omega) _) (by omega) _
  clear b0 b1 hb hb1 hB hz
  go_wp2_with (first
    | (refine wpList_store_row (by rfl) 82 _ _ (by rfl) (w1.heap.size) (va 8 (iv .u8 (dig x))) (by rfl) (by rfl) 82 _ n0 (ksize8.trans (by rw [va_size])) (by simp only [va_size]) (iv_one _ _ _) ?_; simp only [Act.put, List.setIfInBounds_toArray, List.set_cons_zero, List.set_cons_succ])
    | fail)
  clear n0
  generalize (w1.alloc (.cells #[.int .u8 0, .int .u8 0, .int .u8 0, .int .u8 0, .int .u8 0, .int .u8 0, .int .u8 0, .int .u8 0] 82)).setRow w1.heap.size (va 8 (iv .u8 (dig x))) = w2 at *
  have hc := run_bytes_text (P := Try.prog) w2.drew 48 5 9 Try.underlying48 Try.underlying5 Try.underlying9 (n1.drew) 0 8 8 (by omega)
  rw [strN_congr (f := fun j => dig x (0 + j)) (g := dig x) fun j _ => by rw [Nat.zero_add]] at hc
  generalize strN (dig x) 8 = S at *
  refine wp_region_partsI [] [([1], 0, true), ([], 2, false), ([], 3, false), ([], 4, false), ([5, 6], 7, false)] [8] [] (w.heap.size + 1) (by kernel_rfl) (by kernel_rfl) (fun _ hx => nomatch hx) (partsI_yield ?_)
  simp only [List.cons_append, List.nil_append, List.append_nil, List.filterMap_cons, List.filterMap_nil, List.getElem?_toArray, List.getElem?_cons_zero, List.getElem?_cons_succ]
  have hS : Below (w.heap.size + 1) w2 w2.drew := (Below.refl _ _).drew
  go_wp2_with fail
  refine ⟨rfl, _, .agg (va 256 (iv .u8 f)), rfl, kyields_load (by rfl) 33 _ (by rfl) (w.heap.size) 256 (iv .u8 f) (by rfl) _ 33 (fun W hW => c0.below hW (Nat.lt_succ_self _)) Try.underlying33 rfl sizeBk, partsI_force ?_⟩
  simp only [Act.put, List.setIfInBounds_toArray, List.set_cons_zero, List.set_cons_succ]
  simp only [List.cons_append, List.nil_append, List.append_nil, List.filterMap_cons, List.filterMap_nil, List.getElem?_toArray, List.getElem?_cons_zero, List.getElem?_cons_succ]
  go_wp2_with fail
  refine ⟨rfl, hS, partsI_force ?_⟩
  simp only [List.cons_append, List.nil_append, List.append_nil, List.filterMap_cons, List.filterMap_nil, List.getElem?_toArray, List.getElem?_cons_zero, List.getElem?_cons_succ]
  go_wp2_with fail
  refine ⟨rfl, hS, partsI_force ?_⟩
  simp only [List.cons_append, List.nil_append, List.append_nil, List.filterMap_cons, List.filterMap_nil, List.getElem?_toArray, List.getElem?_cons_zero, List.getElem?_cons_succ]
  go_wp2_with fail
  refine (hL.out _).mono ?_
  rintro e w3 ⟨rfl, hb3⟩
  have hS3 : Below (w.heap.size + 1) w2 w3 := hS.trans (hb3.mono (Nat.le_of_lt c1.lt))
  have c3 := c1.drew.below hb3 c1.lt
  clear hS hb3 hL
  have hS := hS3
  clear hS3
  have hb4 : Below w.heap.size w w3 := hb2.trans (hS.mono (Nat.le_succ _))
  go_wp2_with fail
  refine ⟨rfl, hS, partsI_force ?_⟩
  simp only [List.cons_append, List.nil_append, List.append_nil, List.filterMap_cons, List.filterMap_nil, List.getElem?_toArray, List.getElem?_cons_zero, List.getElem?_cons_succ]
  have hst := Blk.store (P := Try.prog) c3 (va 256 (iv .u8 F)) (by simp only [va_size]) (va_mem_one _ _)
  have hvs := va_size 256 (iv .u8 F)
  go_wp2_with fail
  have hS4 := below_setRow hS (Nat.le_refl (w.heap.size + 1)) (va 256 (iv .u8 F))
  clear hS
  have hS := hS4
  clear hS4
  refine ⟨rfl, hS, partsI_last ?_⟩
  simp only [List.cons_append, List.nil_append, List.append_nil, List.filterMap_cons, List.filterMap_nil, List.getElem?_toArray, List.getElem?_cons_zero, List.getElem?_cons_succ]
  go_wp2_with fail
  refine ⟨rfl, ?_⟩
  go_wp2_with fail
  try simp only [Exit.inBlock, Exit.then]
  refine bodyPost_ret (results_row2 Try.results21 _ _ (w.heap.size + 1) 33 (va 256 (iv .u8 F)) (0, 0) _ rfl (c3.set _) Try.underlying33 rfl (sizeBk.trans (by rw [va_size]))) rfl ?_
  exact ⟨rfl, below_setRow hb4 (Nat.le_succ _) _⟩

set_option maxRecDepth 100000 in
set_option maxHeartbeats 4000000 in
theorem take64_fit (f : Nat → Nat) (hf : ∀ i, f i < 256) (r : Nat) (h : r + 8 ≤ 256) (w : World) :
    Calls Try.prog 40 #[bkV f, .int .i64 (r : Int)] w fun e w' => e = .returned (.tuple #[.int .u64 (le8f f r : Int), .int .i64 0]) ∧ Below w.heap.size w w' := by
  have hI : Hid (∀ w : World, Calls Try.prog 39 #[.int .i64 (r : Int), .int .i64 8] w fun e w' => e = .returned (.bool true) ∧ w' = w) := fun w => by
    have := inside_any (r : Int) 8 (by omega) (by omega) w
    rw [decide_eq_true (show Fit (r : Int) 8 from ⟨by omega, by omega, by omega⟩)] at this
    exact this
  have hO : Hid (∀ w : World, Calls Try.prog 43 #[.agg (va 8 (iv .u8 fun j => f (r + j)))] w fun e w' => e = .returned (.int .u64 (le8f f r : Int)) ∧ Below w.heap.size w w') := fun w => of64_va f r (fun i  => hf _) w
  generalize le8f f r = v at *
  unfold bkV
  have b0 : Blk ((w.alloc (Obj.cells (va 256 (iv IntKind.u8 f)) 33)).alloc (.cells #[.int .u8 0, .int .u8 0, .int .u8 0, .int .u8 0, .int .u8 0, .int .u8 0, .int .u8 0, .int .u8 0] 82)) w.heap.size 33 (va 256 (iv .u8 f)) := (Blk.new _ _ _).alloc _
  have b1 : Blk ((w.alloc (Obj.cells (va 256 (iv IntKind.u8 f)) 33)).alloc (.cells #[.int .u8 0, .int .u8 0, .int .u8 0, .int .u8 0, .int .u8 0, .int .u8 0, .int .u8 0, .int .u8 0] 82)) (w.heap.size + 1) 82 (va 8 (iv .u8 fun _ => 0)) := Blk.new1 _ _ _ _
  have hb := below_new2 w (Obj.cells (va 256 (iv IntKind.u8 f)) 33) (.cells #[.int .u8 0, .int .u8 0, .int .u8 0, .int .u8 0, .int .u8 0, .int .u8 0, .int .u8 0, .int .u8 0] 82)
  go_enter Try.func40, Try.ntmps40
  go_wp2_with fail
  generalize (w.alloc (Obj.cells (va 256 (iv IntKind.u8 f)) 33)).alloc (.cells #[.int .u8 0, .int .u8 0, .int .u8 0, .int .u8 0, .int .u8 0, .int .u8 0, .int .u8 0, .int .u8 0] 82) = W at *
  refine (hI.out _).mono ?_
  rintro e w1 ⟨rfl, rfl⟩
  have r0 : (0 : Int) ≤ (r : Int) := by omega
  have r1 : (r : Int) ≤ 256 := by omega
  have r2 : ¬ 256 = r := by omega
  obtain ⟨cs, hcs⟩ : ∃ cs : List Value, cs = byL (fun j => f (r + j)) 8 := ⟨_, rfl⟩
  have s1 : Hid (cs.length = Nat.min (256 - r) 8) := by
    show _ = _
    rw [hcs, byL_length]
    show _ = min _ _
    omega
  have s2 : Hid (∀ (V : World), Below (w.heap.size + 1) w1 V → ∀ j v, cs[j]? = some v → V.cell? ((⟨w.heap.size, r, none⟩ : Addr).add j) = some v) := fun V hV j v hv => by
    rw [hcs] at hv
    have hj : j < 8 := by
      have := (List.getElem?_eq_some_iff.1 hv).1
      rwa [byL_length] at this
    rw [byL_at _ _ _ hj] at hv
    rw [Addr.add_mid, (b0.below hV (Nat.lt_succ_self _)).cv (i := r + j) (by omega)]
    exact hv
  have s3 : Hid (∀ v ∈ cs, v.oneCell' = true) := by
    show ∀ v ∈ cs, v.oneCell' = true
    rw [hcs]
    exact mem_iv_one _ _ _
  have s5 : Hid (0 + cs.length ≤ 8) := by
    show _ ≤ _
    rw [hcs, byL_length]
    omega
  have s6 : Hid (w1.drew.heap[w.heap.size + 1]? = some (.cells ([Value.int .u8 0, .int .u8 0, .int .u8 0, .int .u8 0, .int .u8 0, .int .u8 0, .int .u8 0, .int .u8 0] : List Value).toArray 82 (0, 0))) := b1
  have s8 : Hid ((splice ([Value.int .u8 0, .int .u8 0, .int .u8 0, .int .u8 0, .int .u8 0, .int .u8 0, .int .u8 0, .int .u8 0] : List Value) 0 cs).toArray = va 8 (iv .u8 fun j => f (r + j))) := by
    show _ = _
    rw [hcs]
    have e := splice_put 8 0 8 (fun _ => 0) (fun j => f (r + j)) (by omega)
    refine Eq.trans (by rfl) (e.trans (va_congr fun i hi => ?_))
    unfold iv putAt
    rw [if_pos (by omega), Nat.sub_zero]
  go_wp2_with fail
  go_region_law (refine step_copy_splice rfl (.tmp 10) (.tmp 12) 48 48 rfl 5 Try.underlying48 ksizeU8 (some ⟨w.heap.size + 1, 0, none⟩) (some ⟨w.heap.size, r, none⟩) 8 8 (256 - r) (256 - r) (by simp [Act.eval, Act.put]) (by simp [Act.eval, Act.put]) (w.heap.size + 1) 0 [Value.int .u8 0, .int .u8 0, .int .u8 0, .int .u8 0, .int .u8 0, .int .u8 0, .int .u8 0, .int .u8 0] 82 s6.out cs s1.out (fun _ => ⟨rfl, _, rfl, s2.out _ (Below.refl _ _).drew⟩) s5.out s3.out (w.heap.size + 1) w1 (Below.refl _ _).drew (Nat.le_refl _) ?_; intro w4 hg4 hb4)
  have c1 : Blk w4 (w.heap.size + 1) 82 (va 8 (iv .u8 fun j => f (r + j))) := by
    have := hg4.out
    rw [s8.out] at this
    exact this
  have hb5 : Below w.heap.size w w4 := hb.trans (hb4.mono (Nat.le_succ _))
  clear s1 s2 s3 s5 s6 s8 hg4 hb4 hb b0 b1 hcs hI
  go_wp2_with (first
    | (refine wpList_load_row (by rfl) 82 _ (by rfl) (w.heap.size + 1) (by rfl) 82 (va 8 (iv .u8 (fun j => f (r + j)))) (0, 0) _ c1 Try.underlying82 (by rfl) (ksize8.trans (by rw [va_size])) ?_; simp only [Act.put, List.setIfInBounds_toArray, List.set_cons_zero, List.set_cons_succ])
    | fail)
  refine (hO.out _).mono ?_
  rintro e w5 ⟨rfl, hb6⟩
  have hb7 : Below w.heap.size w w5 := hb5.trans (hb6.mono hb5.size)
  clear hb5 hb6 hO c1
  go_wp2_with fail
  try simp only [Exit.inBlock, Exit.then]
  refine bodyPost_ret (results_tmp2 Try.results40 _ _ _) rfl ?_
  exact ⟨rfl, hb7⟩

end Go.Proofs.Ytalnfphlhcojcaa
