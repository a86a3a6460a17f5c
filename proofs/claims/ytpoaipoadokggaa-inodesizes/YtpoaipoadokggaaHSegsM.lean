/- A region that draws its order, as a machine: operations that are shown to yield are taken ahead; then whatever is ready may come next: a relation over what has been done so far (a list of bools) says enough for each next step. No program in it. -/
import Derived.Test.YtpoaipoadokggaaHIoKit
import Derived.Handy
import Derived.BigQuiet
import Derived.Deep.QuietTactic
import Derived.Test.YtpoaipoadokggaaHCollKit
import Derived.Lib.ConvBytes

namespace Go.Proofs.Ytpoaipoadokggaa
open Go Go.RowKit
set_option linter.unusedSimpArgs false
set_option linter.unusedVariables false
/-- the least height of a tree whose leaves hold a things each, for n things -/
def hL (a n : Int) : Int := if n ≤ a then 0 else if n ≤ 4 * a then 1 else if n ≤ 16 * a then 2 else if n ≤ 64 * a then 3 else if n ≤ 256 * a then 4 else if n ≤ 1024 * a then 5 else 6
theorem hL_lt (a n : Int) : 0 ≤ hL a n ∧ hL a n ≤ 6 := by
  unfold hL
  split
  · decide
  · split
    · decide
    · split
      · decide
      · split
        · decide
        · split
          · decide
          · split <;> decide
set_option maxHeartbeats 4000000 in
theorem least256 (n : Int) (h0 : -9223372036854775808 ≤ n) (hn : n ≤ 1048576) (w : World) : Calls Try.prog 34 #[.int .i64 256, .int .i64 n] w fun e w' => e = .returned (.int .i64 (hL 256 n)) ∧ w' = w := by
  by_cases c0 : n ≤ 256
  · have HE : Hid (hL 256 n = 0) := by show hL 256 n = 0; unfold hL; rw [if_pos (by omega)]
    have s0 : ¬ ((256 : Int) < n) := by omega
    clear hn c0
    rw [HE.out]
    clear HE
    go_enter Try.func34, Try.ntmps34
    go_wp2
    go_rounds 1
    go_returns
    exact ⟨by simp, rfl⟩
  · skip
    by_cases c1 : n ≤ 1024
    · have HE : Hid (hL 256 n = 1) := by show hL 256 n = 1; unfold hL; rw [if_neg (by omega)]; rw [if_pos (by omega)]
      have s0 : ¬ ((1024 : Int) < n) := by omega
      have g0 : (256 : Int) < n := by omega
      clear hn c0 c1
      rw [HE.out]
      clear HE
      go_enter Try.func34, Try.ntmps34
      go_wp2
      go_rounds 2
      go_returns
      exact ⟨by simp, rfl⟩
    · skip
      by_cases c2 : n ≤ 4096
      · have HE : Hid (hL 256 n = 2) := by show hL 256 n = 2; unfold hL; rw [if_neg (by omega)]; rw [if_neg (by omega)]; rw [if_pos (by omega)]
        have s0 : ¬ ((4096 : Int) < n) := by omega
        have g0 : (256 : Int) < n := by omega
        have g1 : (1024 : Int) < n := by omega
        clear hn c0 c1 c2
        rw [HE.out]
        clear HE
        go_enter Try.func34, Try.ntmps34
        go_wp2
        go_rounds 3
        go_returns
        exact ⟨by simp, rfl⟩
      · skip
        by_cases c3 : n ≤ 16384
        · have HE : Hid (hL 256 n = 3) := by show hL 256 n = 3; unfold hL; rw [if_neg (by omega)]; rw [if_neg (by omega)]; rw [if_neg (by omega)]; rw [if_pos (by omega)]
          have s0 : ¬ ((16384 : Int) < n) := by omega
          have g0 : (256 : Int) < n := by omega
          have g1 : (1024 : Int) < n := by omega
          have g2 : (4096 : Int) < n := by omega
          clear hn c0 c1 c2 c3
          rw [HE.out]
          clear HE
          go_enter Try.func34, Try.ntmps34
          go_wp2
          go_rounds 4
          go_returns
          exact ⟨by simp, rfl⟩
        · skip
          by_cases c4 : n ≤ 65536
          · have HE : Hid (hL 256 n = 4) := by show hL 256 n = 4; unfold hL; rw [if_neg (by omega)]; rw [if_neg (by omega)]; rw [if_neg (by omega)]; rw [if_neg (by omega)]; rw [if_pos (by omega)]
            have s0 : ¬ ((65536 : Int) < n) := by omega
            have g0 : (256 : Int) < n := by omega
            have g1 : (1024 : Int) < n := by omega
            have g2 : (4096 : Int) < n := by omega
            have g3 : (16384 : Int) < n := by omega
            clear hn c0 c1 c2 c3 c4
            rw [HE.out]
            clear HE
            go_enter Try.func34, Try.ntmps34
            go_wp2
            go_rounds 5
            go_returns
            exact ⟨by simp, rfl⟩
          · skip
            by_cases c5 : n ≤ 262144
            · have HE : Hid (hL 256 n = 5) := by show hL 256 n = 5; unfold hL; rw [if_neg (by omega)]; rw [if_neg (by omega)]; rw [if_neg (by omega)]; rw [if_neg (by omega)]; rw [if_neg (by omega)]; rw [if_pos (by omega)]
              have s0 : ¬ ((262144 : Int) < n) := by omega
              have g0 : (256 : Int) < n := by omega
              have g1 : (1024 : Int) < n := by omega
              have g2 : (4096 : Int) < n := by omega
              have g3 : (16384 : Int) < n := by omega
              have g4 : (65536 : Int) < n := by omega
              clear hn c0 c1 c2 c3 c4 c5
              rw [HE.out]
              clear HE
              go_enter Try.func34, Try.ntmps34
              go_wp2
              go_rounds 6
              go_returns
              exact ⟨by simp, rfl⟩
            · skip
              have HE : Hid (hL 256 n = 6) := by show hL 256 n = 6; unfold hL; rw [if_neg (by omega)]; rw [if_neg (by omega)]; rw [if_neg (by omega)]; rw [if_neg (by omega)]; rw [if_neg (by omega)]; rw [if_neg (by omega)]
              have s0 : ¬ ((1048576 : Int) < n) := by omega
              have g0 : (256 : Int) < n := by omega
              have g1 : (1024 : Int) < n := by omega
              have g2 : (4096 : Int) < n := by omega
              have g3 : (16384 : Int) < n := by omega
              have g4 : (65536 : Int) < n := by omega
              have g5 : (262144 : Int) < n := by omega
              clear hn c0 c1 c2 c3 c4 c5
              rw [HE.out]
              clear HE
              go_enter Try.func34, Try.ntmps34
              go_wp2
              go_rounds 7
              go_returns
              exact ⟨by simp, rfl⟩
set_option maxHeartbeats 4000000 in
theorem least4 (n : Int) (h0 : -9223372036854775808 ≤ n) (hn : n ≤ 16384) (w : World) : Calls Try.prog 34 #[.int .i64 4, .int .i64 n] w fun e w' => e = .returned (.int .i64 (hL 4 n)) ∧ w' = w := by
  by_cases c0 : n ≤ 4
  · have HE : Hid (hL 4 n = 0) := by show hL 4 n = 0; unfold hL; rw [if_pos (by omega)]
    have s0 : ¬ ((4 : Int) < n) := by omega
    clear hn c0
    rw [HE.out]
    clear HE
    go_enter Try.func34, Try.ntmps34
    go_wp2
    go_rounds 1
    go_returns
    exact ⟨by simp, rfl⟩
  · skip
    by_cases c1 : n ≤ 16
    · have HE : Hid (hL 4 n = 1) := by show hL 4 n = 1; unfold hL; rw [if_neg (by omega)]; rw [if_pos (by omega)]
      have s0 : ¬ ((16 : Int) < n) := by omega
      have g0 : (4 : Int) < n := by omega
      clear hn c0 c1
      rw [HE.out]
      clear HE
      go_enter Try.func34, Try.ntmps34
      go_wp2
      go_rounds 2
      go_returns
      exact ⟨by simp, rfl⟩
    · skip
      by_cases c2 : n ≤ 64
      · have HE : Hid (hL 4 n = 2) := by show hL 4 n = 2; unfold hL; rw [if_neg (by omega)]; rw [if_neg (by omega)]; rw [if_pos (by omega)]
        have s0 : ¬ ((64 : Int) < n) := by omega
        have g0 : (4 : Int) < n := by omega
        have g1 : (16 : Int) < n := by omega
        clear hn c0 c1 c2
        rw [HE.out]
        clear HE
        go_enter Try.func34, Try.ntmps34
        go_wp2
        go_rounds 3
        go_returns
        exact ⟨by simp, rfl⟩
      · skip
        by_cases c3 : n ≤ 256
        · have HE : Hid (hL 4 n = 3) := by show hL 4 n = 3; unfold hL; rw [if_neg (by omega)]; rw [if_neg (by omega)]; rw [if_neg (by omega)]; rw [if_pos (by omega)]
          have s0 : ¬ ((256 : Int) < n) := by omega
          have g0 : (4 : Int) < n := by omega
          have g1 : (16 : Int) < n := by omega
          have g2 : (64 : Int) < n := by omega
          clear hn c0 c1 c2 c3
          rw [HE.out]
          clear HE
          go_enter Try.func34, Try.ntmps34
          go_wp2
          go_rounds 4
          go_returns
          exact ⟨by simp, rfl⟩
        · skip
          by_cases c4 : n ≤ 1024
          · have HE : Hid (hL 4 n = 4) := by show hL 4 n = 4; unfold hL; rw [if_neg (by omega)]; rw [if_neg (by omega)]; rw [if_neg (by omega)]; rw [if_neg (by omega)]; rw [if_pos (by omega)]
            have s0 : ¬ ((1024 : Int) < n) := by omega
            have g0 : (4 : Int) < n := by omega
            have g1 : (16 : Int) < n := by omega
            have g2 : (64 : Int) < n := by omega
            have g3 : (256 : Int) < n := by omega
            clear hn c0 c1 c2 c3 c4
            rw [HE.out]
            clear HE
            go_enter Try.func34, Try.ntmps34
            go_wp2
            go_rounds 5
            go_returns
            exact ⟨by simp, rfl⟩
          · skip
            by_cases c5 : n ≤ 4096
            · have HE : Hid (hL 4 n = 5) := by show hL 4 n = 5; unfold hL; rw [if_neg (by omega)]; rw [if_neg (by omega)]; rw [if_neg (by omega)]; rw [if_neg (by omega)]; rw [if_neg (by omega)]; rw [if_pos (by omega)]
              have s0 : ¬ ((4096 : Int) < n) := by omega
              have g0 : (4 : Int) < n := by omega
              have g1 : (16 : Int) < n := by omega
              have g2 : (64 : Int) < n := by omega
              have g3 : (256 : Int) < n := by omega
              have g4 : (1024 : Int) < n := by omega
              clear hn c0 c1 c2 c3 c4 c5
              rw [HE.out]
              clear HE
              go_enter Try.func34, Try.ntmps34
              go_wp2
              go_rounds 6
              go_returns
              exact ⟨by simp, rfl⟩
            · skip
              have HE : Hid (hL 4 n = 6) := by show hL 4 n = 6; unfold hL; rw [if_neg (by omega)]; rw [if_neg (by omega)]; rw [if_neg (by omega)]; rw [if_neg (by omega)]; rw [if_neg (by omega)]; rw [if_neg (by omega)]
              have s0 : ¬ ((16384 : Int) < n) := by omega
              have g0 : (4 : Int) < n := by omega
              have g1 : (16 : Int) < n := by omega
              have g2 : (64 : Int) < n := by omega
              have g3 : (256 : Int) < n := by omega
              have g4 : (1024 : Int) < n := by omega
              have g5 : (4096 : Int) < n := by omega
              clear hn c0 c1 c2 c3 c4 c5
              rw [HE.out]
              clear HE
              go_enter Try.func34, Try.ntmps34
              go_wp2
              go_rounds 7
              go_returns
              exact ⟨by simp, rfl⟩
set_option maxHeartbeats 4000000 in
theorem rleast (n : Int) (h0 : -9223372036854775808 ≤ n) (hn : n ≤ 4096) (w : World) : Calls Try.prog 20 #[.int .i64 n] w fun e w' => e = .returned (.int .i64 (hL 1 n)) ∧ w' = w := by
  by_cases c0 : n ≤ 1
  · have HE : Hid (hL 1 n = 0) := by show hL 1 n = 0; unfold hL; rw [if_pos (by omega)]
    have s0 : ¬ ((1 : Int) < n) := by omega
    clear hn c0
    rw [HE.out]
    clear HE
    go_enter Try.func20, Try.ntmps20
    go_wp2
    go_rounds 1
    go_returns
    exact ⟨by simp, rfl⟩
  · skip
    by_cases c1 : n ≤ 4
    · have HE : Hid (hL 1 n = 1) := by show hL 1 n = 1; unfold hL; rw [if_neg (by omega)]; rw [if_pos (by omega)]
      have s0 : ¬ ((4 : Int) < n) := by omega
      have g0 : (1 : Int) < n := by omega
      clear hn c0 c1
      rw [HE.out]
      clear HE
      go_enter Try.func20, Try.ntmps20
      go_wp2
      go_rounds 2
      go_returns
      exact ⟨by simp, rfl⟩
    · skip
      by_cases c2 : n ≤ 16
      · have HE : Hid (hL 1 n = 2) := by show hL 1 n = 2; unfold hL; rw [if_neg (by omega)]; rw [if_neg (by omega)]; rw [if_pos (by omega)]
        have s0 : ¬ ((16 : Int) < n) := by omega
        have g0 : (1 : Int) < n := by omega
        have g1 : (4 : Int) < n := by omega
        clear hn c0 c1 c2
        rw [HE.out]
        clear HE
        go_enter Try.func20, Try.ntmps20
        go_wp2
        go_rounds 3
        go_returns
        exact ⟨by simp, rfl⟩
      · skip
        by_cases c3 : n ≤ 64
        · have HE : Hid (hL 1 n = 3) := by show hL 1 n = 3; unfold hL; rw [if_neg (by omega)]; rw [if_neg (by omega)]; rw [if_neg (by omega)]; rw [if_pos (by omega)]
          have s0 : ¬ ((64 : Int) < n) := by omega
          have g0 : (1 : Int) < n := by omega
          have g1 : (4 : Int) < n := by omega
          have g2 : (16 : Int) < n := by omega
          clear hn c0 c1 c2 c3
          rw [HE.out]
          clear HE
          go_enter Try.func20, Try.ntmps20
          go_wp2
          go_rounds 4
          go_returns
          exact ⟨by simp, rfl⟩
        · skip
          by_cases c4 : n ≤ 256
          · have HE : Hid (hL 1 n = 4) := by show hL 1 n = 4; unfold hL; rw [if_neg (by omega)]; rw [if_neg (by omega)]; rw [if_neg (by omega)]; rw [if_neg (by omega)]; rw [if_pos (by omega)]
            have s0 : ¬ ((256 : Int) < n) := by omega
            have g0 : (1 : Int) < n := by omega
            have g1 : (4 : Int) < n := by omega
            have g2 : (16 : Int) < n := by omega
            have g3 : (64 : Int) < n := by omega
            clear hn c0 c1 c2 c3 c4
            rw [HE.out]
            clear HE
            go_enter Try.func20, Try.ntmps20
            go_wp2
            go_rounds 5
            go_returns
            exact ⟨by simp, rfl⟩
          · skip
            by_cases c5 : n ≤ 1024
            · have HE : Hid (hL 1 n = 5) := by show hL 1 n = 5; unfold hL; rw [if_neg (by omega)]; rw [if_neg (by omega)]; rw [if_neg (by omega)]; rw [if_neg (by omega)]; rw [if_neg (by omega)]; rw [if_pos (by omega)]
              have s0 : ¬ ((1024 : Int) < n) := by omega
              have g0 : (1 : Int) < n := by omega
              have g1 : (4 : Int) < n := by omega
              have g2 : (16 : Int) < n := by omega
              have g3 : (64 : Int) < n := by omega
              have g4 : (256 : Int) < n := by omega
              clear hn c0 c1 c2 c3 c4 c5
              rw [HE.out]
              clear HE
              go_enter Try.func20, Try.ntmps20
              go_wp2
              go_rounds 6
              go_returns
              exact ⟨by simp, rfl⟩
            · skip
              have HE : Hid (hL 1 n = 6) := by show hL 1 n = 6; unfold hL; rw [if_neg (by omega)]; rw [if_neg (by omega)]; rw [if_neg (by omega)]; rw [if_neg (by omega)]; rw [if_neg (by omega)]; rw [if_neg (by omega)]
              have s0 : ¬ ((4096 : Int) < n) := by omega
              have g0 : (1 : Int) < n := by omega
              have g1 : (4 : Int) < n := by omega
              have g2 : (16 : Int) < n := by omega
              have g3 : (64 : Int) < n := by omega
              have g4 : (256 : Int) < n := by omega
              have g5 : (1024 : Int) < n := by omega
              clear hn c0 c1 c2 c3 c4 c5
              rw [HE.out]
              clear HE
              go_enter Try.func20, Try.ntmps20
              go_wp2
              go_rounds 7
              go_returns
              exact ⟨by simp, rfl⟩
theorem hL_256 (n : Int) (h0 : 0 ≤ n) : hL 1 ((n + 255) / 256) = hL 256 n := by
  unfold hL
  by_cases c0 : n ≤ 256
  · rw [if_pos c0, if_pos (by omega)]
  · rw [if_neg c0, if_neg (by omega)]
    by_cases c1 : n ≤ 4 * 256
    · rw [if_pos c1, if_pos (by omega)]
    · rw [if_neg c1, if_neg (by omega)]
      by_cases c2 : n ≤ 16 * 256
      · rw [if_pos c2, if_pos (by omega)]
      · rw [if_neg c2, if_neg (by omega)]
        by_cases c3 : n ≤ 64 * 256
        · rw [if_pos c3, if_pos (by omega)]
        · rw [if_neg c3, if_neg (by omega)]
          by_cases c4 : n ≤ 256 * 256
          · rw [if_pos c4, if_pos (by omega)]
          · rw [if_neg c4, if_neg (by omega)]
            by_cases c5 : n ≤ 1024 * 256
            · rw [if_pos c5, if_pos (by omega)]
            · rw [if_neg c5, if_neg (by omega)]
theorem hL_4 (n : Int) (h0 : 0 ≤ n) : hL 1 ((n + 3) / 4) = hL 4 n := by
  unfold hL
  by_cases c0 : n ≤ 4
  · rw [if_pos c0, if_pos (by omega)]
  · rw [if_neg c0, if_neg (by omega)]
    by_cases c1 : n ≤ 4 * 4
    · rw [if_pos c1, if_pos (by omega)]
    · rw [if_neg c1, if_neg (by omega)]
      by_cases c2 : n ≤ 16 * 4
      · rw [if_pos c2, if_pos (by omega)]
      · rw [if_neg c2, if_neg (by omega)]
        by_cases c3 : n ≤ 64 * 4
        · rw [if_pos c3, if_pos (by omega)]
        · rw [if_neg c3, if_neg (by omega)]
          by_cases c4 : n ≤ 256 * 4
          · rw [if_pos c4, if_pos (by omega)]
          · rw [if_neg c4, if_neg (by omega)]
            by_cases c5 : n ≤ 1024 * 4
            · rw [if_pos c5, if_pos (by omega)]
            · rw [if_neg c5, if_neg (by omega)]
end Go.Proofs.Ytpoaipoadokggaa

namespace Go.Proofs.Ytpoaipoadokggaa
open Go Go.RowKit
set_option linter.unusedSimpArgs false
set_option linter.unusedVariables false
set_option maxRecDepth 20000
theorem io_dN {B : Nat} {w0 w : World} (h : Below B w0 w) (n : Nat) : Below B w0 (w.drewN n) := ⟨h.1, h.2, h.3, h.4, h.5⟩
def lnk (x : Ino) : Bool := if x.k = 1 then decide (1 ≤ x.l) && decide (x.l ≤ 1000) else if x.k = 2 then decide (x.l = 1) else false
def siz (x : Ino) : Bool := if x.k = 2 ∧ ¬ x.s.tmod 64 = 0 then false else decide (0 ≤ x.s) && decide (x.s ≤ 1048576)
def tre (x : Ino) : Bool := if x.h ≠ hL 256 x.s ∨ 8192 ≤ x.r.1 then false else decide (x.r = rf0) || (decide (x.r.1 ≠ 0) && decide (x.s ≠ 0))
def chk (x : Ino) : Bool := decide (x = in0) || (lnk x && (siz x && tre x))
theorem ino_c0 {w : World} {g T : Nat} {x : Ino} (h : Blk w g T (inC x)) : w.cell? ⟨g, 0, none⟩ = some (.int .i64 x.k) := by rw [h.cell]; exact va_at (inF x) (by decide)
theorem ino_c1 {w : World} {g T : Nat} {x : Ino} (h : Blk w g T (inC x)) : w.cell? ⟨g, 1, none⟩ = some (.int .i64 x.l) := by rw [h.cell]; exact va_at (inF x) (by decide)
theorem ino_c2 {w : World} {g T : Nat} {x : Ino} (h : Blk w g T (inC x)) : w.cell? ⟨g, 2, none⟩ = some (.int .i64 x.s) := by rw [h.cell]; exact va_at (inF x) (by decide)
theorem ino_c3 {w : World} {g T : Nat} {x : Ino} (h : Blk w g T (inC x)) : w.cell? ⟨g, 3, none⟩ = some (.int .u64 ((x.t : Nat) : Int)) := by rw [h.cell]; exact va_at (inF x) (by decide)
theorem ino_c4 {w : World} {g T : Nat} {x : Ino} (h : Blk w g T (inC x)) : w.cell? ⟨g, 4, none⟩ = some (.int .i64 x.h) := by rw [h.cell]; exact va_at (inF x) (by decide)
set_option maxHeartbeats 4000000 in
theorem rightLinks_any (x : Ino) (w : World) : Calls Try.prog 29 #[.agg (inC x)] w fun e w' => e = .returned (.bool (lnk x)) ∧ Below w.heap.size w w' := by
  have r0 : Blk (w.alloc (.cells (inC x) 31)) w.heap.size 31 (inC x) := Blk.new _ _ _
  have HB : Hid (Below w.heap.size w (w.alloc (.cells (inC x) 31))) := below_new1 _ _
  have c0 := ino_c0 r0
  have c1 := ino_c1 r0
  have HO : Hid (lnk x = if x.k = 1 then decide (1 ≤ x.l) && decide (x.l ≤ 1000) else if x.k = 2 then decide (x.l = 1) else false) := rfl
  generalize lnk x = B at *
  generalize x.k = k at *
  generalize x.l = l at *
  clear r0
  by_cases k1 : k = 1
  · subst k1
    by_cases l1 : 1 ≤ l
    · go_enter Try.func29, Try.ntmps29
      go_wp2_with fail
      go_ret
      refine ⟨?_, HB.out⟩
      rw [HO.out]; simp [l1]
    · go_enter Try.func29, Try.ntmps29
      go_wp2_with fail
      go_ret
      refine ⟨?_, HB.out⟩
      rw [HO.out]; simp [l1]; omega
  · by_cases k2 : k = 2
    · subst k2
      go_enter Try.func29, Try.ntmps29
      go_wp2_with fail
      go_ret
      refine ⟨?_, HB.out⟩
      rw [HO.out]; by_cases q : l = 1 <;> simp [q]
    · go_enter Try.func29, Try.ntmps29
      go_wp2_with fail
      go_ret
      refine ⟨?_, HB.out⟩
      rw [HO.out]; simp [k1, k2]
set_option maxHeartbeats 4000000 in
theorem rightSize_any (x : Ino) (w : World) : Calls Try.prog 30 #[.agg (inC x)] w fun e w' => e = .returned (.bool (siz x)) ∧ Below w.heap.size w w' := by
  have r0 : Blk (w.alloc (.cells (inC x) 31)) w.heap.size 31 (inC x) := Blk.new _ _ _
  have HB : Hid (Below w.heap.size w (w.alloc (.cells (inC x) 31))) := below_new1 _ _
  have c0 := ino_c0 r0
  have c2 := ino_c2 r0
  have HO : Hid (siz x = if x.k = 2 ∧ ¬ x.s.tmod 64 = 0 then false else decide (0 ≤ x.s) && decide (x.s ≤ 1048576)) := rfl
  generalize siz x = B at *
  generalize x.k = k at *
  generalize x.s = s at *
  clear r0
  by_cases k2 : k = 2
  · subst k2
    by_cases m0 : s.tmod 64 = 0
    · by_cases s0 : 0 ≤ s
      · go_enter Try.func30, Try.ntmps30
        go_wp2_with fail
        go_ret
        refine ⟨?_, HB.out⟩
        rw [HO.out]; simp [m0, s0]
      · go_enter Try.func30, Try.ntmps30
        go_wp2_with fail
        go_ret
        refine ⟨?_, HB.out⟩
        rw [HO.out]; simp [m0, s0]; omega
    · go_enter Try.func30, Try.ntmps30
      go_wp2_with fail
      go_ret
      refine ⟨?_, HB.out⟩
      rw [HO.out]; simp [m0]
  · by_cases s0 : 0 ≤ s
    · go_enter Try.func30, Try.ntmps30
      go_wp2_with fail
      go_ret
      refine ⟨?_, HB.out⟩
      rw [HO.out]; simp [k2, s0]
    · go_enter Try.func30, Try.ntmps30
      go_wp2_with fail
      go_ret
      refine ⟨?_, HB.out⟩
      rw [HO.out]; simp [k2, s0]; omega
set_option maxHeartbeats 4000000 in
theorem rightTree_any (x : Ino) (hx : InW x) (hs : x.s ≤ 1048576) (w : World) : Calls Try.prog 31 #[.agg (inC x)] w fun e w' => e = .returned (.bool (tre x)) ∧ Below w.heap.size w w' := by
  have hz := zero_ref
  have r0 : Blk (w.alloc (.cells (inC x) 31)) w.heap.size 31 (inC x) := Blk.new _ _ _
  have q0 : (w.alloc (.cells (inC x) 31)).rangeAt w.heap.size 5 ((List.range 33).map (rfF x.r.1 x.r.2)) := by
    have h := World.rangeAt_of_block (b := w.heap.size) r0 5 33
    rw [in_ref] at h
    unfold rfC at h
    rwa [va_toList] at h
  have HB : Hid (Below w.heap.size w (((w.alloc (.cells (inC x) 31)).alloc (.cells (rfC rf0) 27)).setRow (w.heap.size + 1) (rfC x.r))) := below_setRow (below_new2 _ _ _) (by omega) _
  have r1 : Blk ((w.alloc (.cells (inC x) 31)).alloc (.cells (rfC rf0) 27)) (w.heap.size + 1) 27 (rfC rf0) := Blk.new1 _ _ _ _
  have r2 : Blk (((w.alloc (.cells (inC x) 31)).alloc (.cells (rfC rf0) 27)).setRow (w.heap.size + 1) (rfC x.r)) w.heap.size 31 (inC x) := (r0.alloc _).other _ (by omega)
  have r3 : Blk (((w.alloc (.cells (inC x) 31)).alloc (.cells (rfC rf0) 27)).setRow (w.heap.size + 1) (rfC x.r)) (w.heap.size + 1) 27 (rfC x.r) := r1.set _
  have HL : Hid (∀ w : World, Calls Try.prog 34 #[.int .i64 256, .int .i64 x.s] w fun e w' => e = .returned (.int .i64 (hL 256 x.s)) ∧ w' = w) := least256 x.s hx.s.1 hs
  have HN : Hid (∀ w : World, Calls Try.prog 37 #[.agg (rfC x.r)] w fun e w' => e = .returned (.bool (decide (x.r = rf0))) ∧ Below w.heap.size w w') := none_any x.r
  have HO : Hid (tre x = if x.h ≠ hL 256 x.s ∨ 8192 ≤ x.r.1 then false else decide (x.r = rf0) || (decide (x.r.1 ≠ 0) && decide (x.s ≠ 0))) := rfl
  obtain ⟨b, hb⟩ : ∃ b, b = decide (x.r = rf0) := ⟨_, rfl⟩
  rw [← hb] at HN HO
  clear hb
  generalize tre x = B at *
  go_enter Try.func31, Try.ntmps31
  go_wp2_with (first
    | (refine wpList_load_blk (by rfl) 27 _ (by rfl) (w.heap.size) 5 33 (rfF x.r.1 x.r.2) (by rfl) _ (by exact q0) Try.underlying27 rfl slSizeRef ?_; simp only [Act.put, List.setIfInBounds_toArray, List.set_cons_zero, List.set_cons_succ])
    | (refine wpList_store_row (by rfl) 27 _ _ (by rfl) (w.heap.size + 1) (rfC x.r) (by rfl) (by rfl) 27 (rfC rf0) (by exact r1) (slSizeRef.trans (by rw [rfC_size])) (by simp only [rfC_size]) (rfC_all _) ?_; simp only [Act.put, List.setIfInBounds_toArray, List.set_cons_zero, List.set_cons_succ])
    | fail)
  have hsz : (((w.alloc (.cells (inC x) 31)).alloc (.cells (rfC rf0) 27)).setRow (w.heap.size + 1) (rfC x.r)).heap.size = w.heap.size + 2 := by simp
  clear r0 r1 q0
  generalize (((w.alloc (.cells (inC x) 31)).alloc (.cells (rfC rf0) 27)).setRow (w.heap.size + 1) (rfC x.r)) = w1 at *
  have c2 := ino_c2 r2
  have c4 := ino_c4 r2
  have c5 : w1.cell? ⟨w.heap.size + 1, 0, none⟩ = some (.int .u32 ((x.r.1 : Nat) : Int)) := by rw [r3.cell]; exact va_at (rfF x.r.1 x.r.2) (by decide)
  by_cases hh : x.h = hL 256 x.s
  · by_cases ha : 8192 ≤ x.r.1
    · have ha' : (8192 : Int) ≤ ((x.r.1 : Nat) : Int) := by omega
      have HF : Hid (B = false) := by show B = false; rw [HO.out, if_pos (Or.inr ha)]
      rw [hh] at c4
      clear HO hh ha
      generalize hL 256 x.s = H at *
      generalize x.s = s at *
      generalize x.r.1 = n at *
      clear r2 r3
      go_quiet ((go_at_call 34; exact Calls.quiet_of_same (HL.out _)))
      go_wp2_with fail
      go_ret
      exact ⟨by rw [HF.out]; rfl, io_dN HB.out _⟩
    · have ha' : ¬ ((8192 : Int) ≤ ((x.r.1 : Nat) : Int)) := by omega
      have HF : Hid (B = (b || (decide (x.r.1 ≠ 0) && decide (x.s ≠ 0)))) := by show B = (b || (decide (x.r.1 ≠ 0) && decide (x.s ≠ 0))); rw [HO.out, if_neg (by simp [hh]; omega)]
      rw [hh] at c4
      clear HO hh ha
      generalize hL 256 x.s = H at *
      go_quiet ((go_at_call 34; exact Calls.quiet_of_same (HL.out _)))
      go_wp2_with (first | (refine wpList_load_rowg (by rfl) 27 _ (by rfl) (w.heap.size + 1) (by rfl) 27 (rfC x.r) (0, 0) _ (by exact r3) Try.underlying27 (by rfl) (slSizeRef.trans (by rw [rfC_size])) ?_; simp only [Act.put, List.setIfInBounds_toArray, List.set_cons_zero, List.set_cons_succ]) | fail)
      refine (HN.out _).mono ?_
      intro e w2 hw2
      obtain ⟨he2, hb2⟩ := hw2
      subst he2
      have HB2 : Hid (Below w.heap.size w w2) := (io_dN HB.out _).trans (hb2.mono (by show w.heap.size ≤ w1.heap.size; omega))
      have r2' : Blk w2 w.heap.size 31 (inC x) := Blk.below (show Blk (w1.drewN _) _ _ _ from r2) hb2 (by show w.heap.size < w1.heap.size; omega)
      have r3' : Blk w2 (w.heap.size + 1) 27 (rfC x.r) := Blk.below (show Blk (w1.drewN _) _ _ _ from r3) hb2 (by show w.heap.size + 1 < w1.heap.size; omega)
      clear c2 c4 c5 r2 r3 hb2 HN HL
      have c2 := ino_c2 r2'
      have c5 : w2.cell? ⟨w.heap.size + 1, 0, none⟩ = some (.int .u32 ((x.r.1 : Nat) : Int)) := by rw [r3'.cell]; exact va_at (rfF x.r.1 x.r.2) (by decide)
      clear r2' r3'
      generalize x.s = s at *
      generalize x.r.1 = n at *
      cases b
      · by_cases hn : (n : Int) = 0
        · have hn' : n = 0 := by omega
          go_wp2_with fail
          go_ret
          refine ⟨?_, HB2.out⟩
          rw [HF.out]; simp [hn']
        · have hn' : ¬ n = 0 := by omega
          go_wp2_with fail
          go_ret
          refine ⟨?_, HB2.out⟩
          rw [HF.out]; by_cases hs0 : s = 0 <;> simp [hn', hs0]
      · go_wp2_with fail
        go_ret
        exact ⟨by rw [HF.out]; simp, HB2.out⟩
  · have HF : Hid (B = false) := by show B = false; rw [HO.out, if_pos (Or.inl hh)]
    clear HO
    generalize x.h = h at *
    generalize hL 256 x.s = H at *
    generalize x.s = s at *
    clear r2 r3
    go_quiet ((go_at_call 34; exact Calls.quiet_of_same (HL.out _)))
    go_wp2_with fail
    go_ret
    exact ⟨by rw [HF.out]; rfl, io_dN HB.out _⟩
end Go.Proofs.Ytpoaipoadokggaa

namespace Go.Proofs.Ytpoaipoadokggaa
open Go Go.RowKit
set_option linter.unusedSimpArgs false
set_option linter.unusedVariables false
set_option maxRecDepth 20000
/-- what Check answers -/
def chE (x : Ino) : Int := if chk x = true then 0 else 140
set_option maxHeartbeats 4000000 in
theorem check_any (x : Ino) (hx : InW x) (w : World) : Calls Try.prog 11 #[.agg (inC x)] w fun e w' => e = .returned (.int .i64 (chE x)) ∧ Below w.heap.size w w' := by
  have hz := zero_ino
  have r0 : Blk (w.alloc (.cells (inC x) 31)) w.heap.size 31 (inC x) := Blk.new _ _ _
  have HB0 : Hid (Below w.heap.size w (w.alloc (.cells (inC x) 31)) ∧ w.heap.size < (w.alloc (.cells (inC x) 31)).heap.size) := ⟨below_new1 _ _, by simp⟩
  have hq : ∀ W, (Op.equalIn 10000 31 (.agg (inC x)) (.agg (inC in0))).run Try.prog W = .ok (decide (x = in0)) W := eq_ino 9995 x in0
  have HL : Hid (∀ w, Calls Try.prog 29 #[.agg (inC x)] w fun e w' => e = .returned (.bool (lnk x)) ∧ Below w.heap.size w w') := rightLinks_any x
  have HS : Hid (∀ w, Calls Try.prog 30 #[.agg (inC x)] w fun e w' => e = .returned (.bool (siz x)) ∧ Below w.heap.size w w') := rightSize_any x
  have HT : Hid (siz x = true → ∀ w, Calls Try.prog 31 #[.agg (inC x)] w fun e w' => e = .returned (.bool (tre x)) ∧ Below w.heap.size w w') := fun h => rightTree_any x hx (by
    unfold siz at h
    split at h
    · cases h
    · simp only [Bool.and_eq_true, decide_eq_true_eq] at h
      exact h.2)
  have HO : Hid (chE x = if (decide (x = in0) || (lnk x && (siz x && tre x))) = true then 0 else 140) := rfl
  obtain ⟨b, hb⟩ : ∃ b, b = decide (x = in0) := ⟨_, rfl⟩
  rw [← hb] at hq HO
  clear hb
  generalize chE x = B at *
  generalize lnk x = bl at *
  generalize siz x = bs at *
  generalize tre x = bt at *
  go_enter Try.func11, Try.ntmps11
  cases b
  · go_wp2_with (first | (refine wpList_load_rowg (by rfl) 31 _ (by rfl) (w.heap.size) (by rfl) 31 (inC x) (0, 0) _ (by exact r0) Try.underlying31 (by rfl) (sizeIno.trans (by rw [inC_size])) ?_; simp only [Act.put, List.setIfInBounds_toArray, List.set_cons_zero, List.set_cons_succ]) | fail)
    generalize (w.alloc (.cells (inC x) 31)) = w0 at *
    refine (HL.out _).mono ?_
    intro e w1 hw1
    obtain ⟨he1, hb1⟩ := hw1
    subst he1
    have HB1 : Hid (Below w.heap.size w w1 ∧ w.heap.size < w1.heap.size) := ⟨HB0.out.1.trans (hb1.mono (by have := HB0.out.2; omega)), by have := HB0.out.2; have := hb1.size; omega⟩
    have r1 : Blk w1 w.heap.size 31 (inC x) := r0.below hb1 (HB0.out.2)
    clear hb1 HB0 r0
    cases bl
    · go_wp2_with fail
      go_ret
      exact ⟨by rw [HO.out]; rfl, HB1.out.1⟩
    · go_wp2_with (first | (refine wpList_load_rowg (by rfl) 31 _ (by rfl) (w.heap.size) (by rfl) 31 (inC x) (0, 0) _ (by exact r1) Try.underlying31 (by rfl) (sizeIno.trans (by rw [inC_size])) ?_; simp only [Act.put, List.setIfInBounds_toArray, List.set_cons_zero, List.set_cons_succ]) | fail)
      refine (HS.out _).mono ?_
      intro e w2 hw2
      obtain ⟨he2, hb2⟩ := hw2
      subst he2
      have HB2 : Hid (Below w.heap.size w w2 ∧ w.heap.size < w2.heap.size) := ⟨HB1.out.1.trans (hb2.mono (by have := HB1.out.2; omega)), by have := HB1.out.2; have := hb2.size; omega⟩
      have r2 : Blk w2 w.heap.size 31 (inC x) := r1.below hb2 (HB1.out.2)
      clear hb2 HB1 r1
      cases bs
      · go_wp2_with fail
        go_ret
        exact ⟨by rw [HO.out]; rfl, HB2.out.1⟩
      · have HT' : Hid (∀ w, Calls Try.prog 31 #[.agg (inC x)] w fun e w' => e = .returned (.bool bt) ∧ Below w.heap.size w w') := HT.out rfl
        clear HT
        go_wp2_with (first | (refine wpList_load_rowg (by rfl) 31 _ (by rfl) (w.heap.size) (by rfl) 31 (inC x) (0, 0) _ (by exact r2) Try.underlying31 (by rfl) (sizeIno.trans (by rw [inC_size])) ?_; simp only [Act.put, List.setIfInBounds_toArray, List.set_cons_zero, List.set_cons_succ]) | fail)
        refine (HT'.out _).mono ?_
        intro e w3 hw3
        obtain ⟨he3, hb3⟩ := hw3
        subst he3
        have HB3 : Hid (Below w.heap.size w w3 ∧ w.heap.size < w3.heap.size) := ⟨HB2.out.1.trans (hb3.mono (by have := HB2.out.2; omega)), by have := HB2.out.2; have := hb3.size; omega⟩
        have r3 : Blk w3 w.heap.size 31 (inC x) := r2.below hb3 (HB2.out.2)
        clear hb3 HB2 r2
        cases bt
        · go_wp2_with fail
          go_ret
          exact ⟨by rw [HO.out]; rfl, HB3.out.1⟩
        · go_wp2_with fail
          go_ret
          exact ⟨by rw [HO.out]; rfl, HB3.out.1⟩
  · go_wp2_with (first | (refine wpList_load_rowg (by rfl) 31 _ (by rfl) (w.heap.size) (by rfl) 31 (inC x) (0, 0) _ (by exact r0) Try.underlying31 (by rfl) (sizeIno.trans (by rw [inC_size])) ?_; simp only [Act.put, List.setIfInBounds_toArray, List.set_cons_zero, List.set_cons_succ]) | fail)
    go_ret
    exact ⟨by rw [HO.out]; rfl, HB0.out.1⟩
theorem tdiv_nn (a b : Int) (h : 0 ≤ a) : a.tdiv b = a / b := Int.tdiv_eq_ediv_of_nonneg h
theorem tmod_nn (a b : Int) (h : 0 ≤ a) : a.tmod b = a % b := Int.tmod_eq_emod_of_nonneg h
set_option maxHeartbeats 4000000 in
theorem height_any (n : Int) (hn : -9223372036854775808 ≤ n ∧ n ≤ 9223372036854775807) (w : World) : Calls Try.prog 14 #[.int .i64 n] w fun e w' => e = .returned (if 0 ≤ n ∧ n ≤ 1048576 then .tuple #[.int .i64 (hL 256 n), .int .i64 0] else .tuple #[.int .i64 0, .int .i64 1]) ∧ w' = w := by
  by_cases h1 : 0 ≤ n
  · by_cases h2 : n ≤ 1048576
    · rw [if_pos ⟨h1, h2⟩]
      have HL : Hid (∀ w : World, Calls Try.prog 34 #[.int .i64 256, .int .i64 n] w fun e w' => e = .returned (.int .i64 (hL 256 n)) ∧ w' = w) := least256 n hn.1 (by omega)
      generalize hL 256 n = H at *
      have h3 : ¬ n < 0 := by omega
      have h4 : ¬ 1048576 < n := by omega
      go_enter Try.func14, Try.ntmps14
      go_wp2_with fail
      refine (HL.out _).mono ?_
      intro e w2 hw2
      obtain ⟨he2, hb2⟩ := hw2
      subst he2 hb2
      go_wp2_with fail
      go_ret2
      exact ⟨rfl, rfl⟩
    · rw [if_neg fun h => h2 h.2]
      have h3 : ¬ n < 0 := by omega
      have h4 : 1048576 < n := by omega
      clear h1 h2
      go_enter Try.func14, Try.ntmps14
      go_wp2_with fail
      go_ret2
      exact ⟨rfl, rfl⟩
  · rw [if_neg fun h => h1 h.1]
    have h3 : n < 0 := by omega
    clear h1
    go_enter Try.func14, Try.ntmps14
    go_wp2_with fail
    go_ret2
    exact ⟨rfl, rfl⟩
set_option maxHeartbeats 4000000 in
theorem table_any (n : Int) (hn : -9223372036854775808 ≤ n ∧ n ≤ 9223372036854775807) (w : World) : Calls Try.prog 19 #[.int .i64 n] w fun e w' => e = .returned (if 0 ≤ n ∧ n ≤ 4096 then .tuple #[.int .i64 (hL 4 n), .int .i64 0] else .tuple #[.int .i64 0, .int .i64 141]) ∧ w' = w := by
  by_cases h1 : 0 ≤ n
  · by_cases h2 : n ≤ 4096
    · rw [if_pos ⟨h1, h2⟩]
      have HL : Hid (∀ w : World, Calls Try.prog 34 #[.int .i64 4, .int .i64 n] w fun e w' => e = .returned (.int .i64 (hL 4 n)) ∧ w' = w) := least4 n hn.1 (by omega)
      generalize hL 4 n = H at *
      have h3 : ¬ n < 0 := by omega
      have h4 : ¬ 4096 < n := by omega
      go_enter Try.func19, Try.ntmps19
      go_wp2_with fail
      refine (HL.out _).mono ?_
      intro e w2 hw2
      obtain ⟨he2, hb2⟩ := hw2
      subst he2 hb2
      go_wp2_with fail
      go_ret2
      exact ⟨rfl, rfl⟩
    · rw [if_neg fun h => h2 h.2]
      have h3 : ¬ n < 0 := by omega
      have h4 : 4096 < n := by omega
      clear h1 h2
      go_enter Try.func19, Try.ntmps19
      go_wp2_with fail
      go_ret2
      exact ⟨rfl, rfl⟩
  · rw [if_neg fun h => h1 h.1]
    have h3 : n < 0 := by omega
    clear h1
    go_enter Try.func19, Try.ntmps19
    go_wp2_with fail
    go_ret2
    exact ⟨rfl, rfl⟩
set_option maxHeartbeats 4000000 in
theorem leavesN_any (n : Int) (hn : -9223372036854775808 ≤ n ∧ n ≤ 9223372036854775807) (w : World) : Calls Try.prog 15 #[.int .i64 n] w fun e w' => e = .returned (if 0 ≤ n ∧ n ≤ 1048576 then .tuple #[.int .i64 ((n + 255) / 256), .int .i64 0] else .tuple #[.int .i64 0, .int .i64 1]) ∧ w' = w := by
  by_cases h1 : 0 ≤ n
  · by_cases h2 : n ≤ 1048576
    · rw [if_pos ⟨h1, h2⟩]
      have HE : Hid ((n + 256 - 1) / 256 = (n + 255) / 256) := by show (n + 256 - 1) / 256 = (n + 255) / 256; congr 1; omega
      have h3 : ¬ n < 0 := by omega
      have h4 : ¬ 1048576 < n := by omega
      go_enter Try.func15, Try.ntmps15
      go_wp2_with fail
      go_ret2
      exact ⟨by rw [← HE.out]; rfl, rfl⟩
    · rw [if_neg fun h => h2 h.2]
      have h3 : ¬ n < 0 := by omega
      have h4 : 1048576 < n := by omega
      clear h1 h2
      go_enter Try.func15, Try.ntmps15
      go_wp2_with fail
      go_ret2
      exact ⟨rfl, rfl⟩
  · rw [if_neg fun h => h1 h.1]
    have h3 : n < 0 := by omega
    clear h1
    go_enter Try.func15, Try.ntmps15
    go_wp2_with fail
    go_ret2
    exact ⟨rfl, rfl⟩
set_option maxHeartbeats 4000000 in
theorem place_any (n : Int) (hn : -9223372036854775808 ≤ n ∧ n ≤ 9223372036854775807) (w : World) : Calls Try.prog 18 #[.int .i64 n] w fun e w' => e = .returned (if 1 ≤ n ∧ n ≤ 4096 then .tuple #[.int .i64 ((n - 1) / 4), .int .i64 ((n - 1) % 4), .int .i64 0] else .tuple #[.int .i64 0, .int .i64 0, .int .i64 141]) ∧ w' = w := by
  by_cases h1 : 1 ≤ n
  · by_cases h2 : n ≤ 4096
    · rw [if_pos ⟨h1, h2⟩]
      have HE : Hid ((n - 1).tdiv 4 = (n - 1) / 4 ∧ (n - 1).tmod 4 = (n - 1) % 4) := ⟨tdiv_nn _ _ (by omega), tmod_nn _ _ (by omega)⟩
      have h3 : ¬ n < 1 := by omega
      have h4 : ¬ 4096 < n := by omega
      go_enter Try.func18, Try.ntmps18
      go_wp2_with fail
      go_ret3
      exact ⟨by first | rfl | (rw [← HE.out.1, ← HE.out.2]; rfl), rfl⟩
    · rw [if_neg fun h => h2 h.2]
      have h3 : ¬ n < 1 := by omega
      have h4 : 4096 < n := by omega
      clear h1 h2
      go_enter Try.func18, Try.ntmps18
      go_wp2_with fail
      go_ret3
      exact ⟨rfl, rfl⟩
  · rw [if_neg fun h => h1 h.1]
    have h3 : n < 1 := by omega
    clear h1
    go_enter Try.func18, Try.ntmps18
    go_wp2_with fail
    go_ret3
    exact ⟨rfl, rfl⟩
end Go.Proofs.Ytpoaipoadokggaa

namespace Go.Proofs.Ytpoaipoadokggaa
open Go Go.RowKit
set_option linter.unusedSimpArgs false
set_option linter.unusedVariables false
set_option maxHeartbeats 1000000 in
theorem bytes16_any (x : Nat) (w : World) :
    Calls Try.prog 24 #[.int .u16 (x : Int)] w fun e w' => e = .returned (.agg #[.int .u8 ((x % 256 : Nat) : Int), .int .u8 ((x / 256 % 256 : Nat) : Int)]) ∧ Below w.heap.size w w' := by
  go_enter Try.func24, Try.ntmps24
  go_wp2
  go_rounds 3
  go_returns
  refine ⟨by simp, ?_⟩
  go_grown
theorem bytes16_va (x : Nat) (w : World) : Calls Try.prog 24 #[.int .u16 (x : Int)] w fun e w' => e = .returned (.agg (va 2 (iv .u8 (dig x)))) ∧ Below w.heap.size w w' := by
  have h : va 2 (iv .u8 (dig x)) = #[.int .u8 ((x % 256 : Nat) : Int), .int .u8 ((x / 256 % 256 : Nat) : Int)] := by
    show #[iv .u8 (dig x) 0, iv .u8 (dig x) 1] = _
    simp [iv, dig]
  rw [h]
  exact bytes16_any x w
end Go.Proofs.Ytpoaipoadokggaa

namespace Go.Proofs.Ytpoaipoadokggaa
open Go Go.RowKit

/-- the plan of a region's walk -/
inductive Plan where
  | fin (takes : List Nat)
  | force (ts : List Nat) (i : Nat) (next : Plan)
  | yield (ts : List Nat) (i : Nat) (next : Plan)
  | fork (i j : Nat) (p q : Plan)
def Plan.len : Plan → Nat
  | .fin takes => takes.length
  | .force ts _ p => ts.length + (1 + p.len)
  | .yield ts _ p => ts.length + (1 + p.len)
  | .fork _ _ p _ => p.len + 1
/-- the check -/
def Plan.ok (ops : Array Oper) : Plan → Array Bool → Bool
  | .fin takes, listed => match takesB .any ops [] [] takes listed with
    | some l => (Region.ready .any ops l).isEmpty
    | none => false
  | .force ts i p, listed => match takesB .any ops [] [] ts listed with
    | some l => forceW .any ops l i && p.ok ops (l.setIfInBounds i true)
    | none => false
  | .yield ts i p, listed => match takesB .any ops [] [] ts listed with
    | some l => yieldW .any ops l [] i && p.ok ops (l.setIfInBounds i true)
    | none => false
  | .fork i j p q, listed => Region.ready .any ops listed == [i, j] && (ops[i]?).isSome && (ops[j]?).isSome && p.len == q.len && p.ok ops (listed.setIfInBounds i true) && q.ok ops (listed.setIfInBounds j true)
section
variable {P : Program} {ops : Array Oper} {Q : Exit → Act → World → Prop} {S : World → Prop}
end
end Go.Proofs.Ytpoaipoadokggaa

namespace Go.Proofs.Ytpoaipoadokggaa
open Go Go.RowKit
section
variable {P : Program} {ops : Array Oper} {Q : Exit → Act → World → Prop} {S : World → Prop}
/-- every order from here on: each operation that is ready may come next (pre) -/
def machB (ops : Array Oper) (pre : Nat → Array Bool → Bool) (fin : Array Bool → Bool) : Nat → Array Bool → Bool
  | 0, l => (Region.ready .any ops l).isEmpty && fin l
  | f + 1, l => !(Region.ready .any ops l).isEmpty && (Region.ready .any ops l).all fun i => pre i l && (ops[i]?).isSome && machB ops pre fin f (l.setIfInBounds i true)
/-- the operations that are taken ahead, then the machine: the check -/
def yieldsB (ops : Array Oper) (pre : Nat → Array Bool → Bool) (fin : Array Bool → Bool) : List Nat → Nat → Array Bool → Bool
  | [], f, l => machB ops pre fin f l
  | i :: ys, f, l => yieldW .any ops l [] i && yieldsB ops pre fin ys f (l.setIfInBounds i true)
/-- .. and the walk -/
def wpYields (P : Program) (ops : Array Oper) (S : World → Prop) (K : Array Bool → Act → Prop) : List Nat → Array Bool → Act → Prop
  | [], l, a => K l a
  | i :: ys, l, a => ∃ o v, ops[i]? = some o ∧ YieldsIf P ops S o v a ∧ wpYields P ops S K ys (l.setIfInBounds i true) (a.put o.dst v)
theorem mach_step {pre : Nat → Array Bool → Bool} {fin : Array Bool → Bool} {R : Array Bool → Act → World → Prop}
    (hstep : ∀ i l a w, pre i l = true → R l a w → wpList P ops (Strict fun _ a' w' => S w' ∧ R (l.setIfInBounds i true) a' w') ([i].filterMap fun i => ops[i]?) a w)
    (hend : ∀ l a w, fin l = true → R l a w → Strict Q .normal a w) :
    ∀ (fuel : Nat) (l : Array Bool) (a : Act) (w : World), machB ops pre fin fuel l = true → R l a w → wpAnyW P .any ops (Strict Q) S (([] : List Nat).contains ·) fuel l a w
  | 0, l, a, w, hg, hR => by
    simp only [machB, Bool.and_eq_true, List.isEmpty_iff] at hg
    exact ⟨hg.1, hend l a w hg.2 hR⟩
  | fuel + 1, l, a, w, hg, hR => by
    unfold machB at hg
    simp only [Bool.and_eq_true, Bool.not_eq_true'] at hg
    refine ⟨fun h => (by rw [h] at hg; exact absurd hg.1 (by decide)), fun i hi => ?_⟩
    have hg2 := hg.2
    rw [List.all_eq_true] at hg2
    have h2 := hg2 i hi
    simp only [Bool.and_eq_true] at h2
    obtain ⟨o, ho⟩ := Option.isSome_iff_exists.1 h2.1.2
    refine wpOp_mono (fun a' w' h' => ?_) (wpOp_strict (wpList_one ho (hstep i l a w h2.1.1 hR)))
    exact ⟨fun _ => h'.2.1, mach_step hstep hend fuel _ a' w' h2.2 h'.2.2⟩
theorem yields_step (hs : Region.noSelect ops = true) {pre : Nat → Array Bool → Bool} {fin : Array Bool → Bool} {K : Array Bool → Act → Prop} {w : World} (hS : S w) {f : Nat}
    (hK : ∀ l a, machB ops pre fin f l = true → K l a → wpAnyW P .any ops (Strict Q) S (([] : List Nat).contains ·) f l a w) :
    ∀ (ys : List Nat) (l : Array Bool) (a : Act), yieldsB ops pre fin ys f l = true → wpYields P ops S K ys l a → wpAnyW P .any ops (Strict Q) S (([] : List Nat).contains ·) (ys.length + f) l a w
  | [], l, a, hb, h => by
    rw [List.length_nil, Nat.zero_add]
    exact hK l a hb h
  | i :: ys, l, a, hb, h => by
    simp only [yieldsB, Bool.and_eq_true] at hb
    obtain ⟨o, v, ho, hy, hn⟩ := h
    have hc := hb.1
    unfold yieldW at hc
    rw [ho] at hc
    simp only [Bool.and_eq_true, Bool.not_eq_true'] at hc
    rw [List.length_cons, show ys.length + 1 + f = ys.length + f + 1 from by omega]
    exact takeS_gen hs ho hc.1.1.1 hc.1.1.2 hc.1.2 hc.2 hy hS (yields_step hs hS hK ys _ _ hb.2 hn)
/-- the whole check -/
def machWhole (ops : Array Oper) (pre : Nat → Array Bool → Bool) (fin : Array Bool → Bool) (ys : List Nat) (f : Nat) : Bool :=
  (ys.length + f == ops.size) && Region.noSelect ops && yieldsB ops pre fin ys f (Array.replicate ops.size false)
/-- THE LAW. -/
theorem wp_region_mach {id : Nat} {a : Act} {w : World} (S : World → Prop) (pre : Nat → Array Bool → Bool) (fin : Array Bool → Bool) (ys : List Nat) (f : Nat) (R : Array Bool → Act → World → Prop)
    (hm : P.follows .mixedOrders = true) (hB : machWhole ops pre fin ys f = true) (hS : S w.drew)
    (hy : wpYields P ops S (fun l a' => R l a' w.drew) ys (Array.replicate ops.size false) a)
    (hstep : ∀ i l a w, pre i l = true → R l a w → wpList P ops (Strict fun _ a' w' => S w' ∧ R (l.setIfInBounds i true) a' w') ([i].filterMap fun i => ops[i]?) a w)
    (hend : ∀ l a w, fin l = true → R l a w → Strict Q .normal a w) : (Code.region id ops true).wp P Q a w := by
  unfold machWhole at hB
  simp only [Bool.and_eq_true, beq_iff_eq] at hB
  obtain ⟨⟨e, hs⟩, hb⟩ := hB
  refine Code.wp_mono Strict.imp (wp_region_any hm ?_)
  rw [← e] at hb hy ⊢
  exact wpAny_of_W _ _ _ _ (yields_step hs hS (fun l a' h1 h2 => mach_step hstep hend f l a' _ h1 h2) ys _ a hb hy)
end
end Go.Proofs.Ytpoaipoadokggaa
