/- Which inodes may be: the document's answer. -/
import Derived.Test.YtpoaipoadokggaaHIoKit
import Derived.Handy
import Derived.BigQuiet
import Derived.Deep.QuietTactic

namespace Go.Proofs.Ytpoaipoadokggaa
open Go Go.RowKit
set_option linter.unusedSimpArgs false
set_option linter.unusedVariables false
/-- the least height of a tree whose leaves hold a things each, for n things -/
def hL (a n : Int) : Int := if n ≤ a then 0 else if n ≤ 4 * a then 1 else if n ≤ 16 * a then 2 else if n ≤ 64 * a then 3 else if n ≤ 256 * a then 4 else if n ≤ 1024 * a then 5 else 6
theorem hL_lt (a n : Int) : 0 ≤ hL a n ∧ hL a n ≤ 6 := by
  unfold hL
  split
  · decide
  · split
    · decide
    · split
      · decide
      · split
        · decide
        · split
          · decide
          · split <;> decide
set_option maxHeartbeats 4000000 in
theorem least256 (n : Int) (h0 : -9223372036854775808 ≤ n) (hn : n ≤ 1048576) (w : World) : Calls Try.prog 34 #[.int .i64 256, .int .i64 n] w fun e w' => e = .returned (.int .i64 (hL 256 n)) ∧ w' = w := by
  by_cases c0 : n ≤ 256
  · have HE : Hid (hL 256 n = 0) := by show hL 256 n = 0; unfold hL; rw [if_pos (by omega)]
    have s0 : ¬ ((256 : Int) < n) := by omega
    clear hn c0
    rw [HE.out]
    clear HE
    go_enter Try.func34, Try.ntmps34
    go_wp2
    go_rounds 1
    go_returns
    exact ⟨by simp, rfl⟩
  · skip
    by_cases c1 : n ≤ 1024
    · have HE : Hid (hL 256 n = 1) := by show hL 256 n = 1; unfold hL; rw [if_neg (by omega)]; rw [if_pos (by omega)]
      have s0 : ¬ ((1024 : Int) < n) := by omega
      have g0 : (256 : Int) < n := by omega
      clear hn c0 c1
      rw [HE.out]
      clear HE
      go_enter Try.func34, Try.ntmps34
      go_wp2
      go_rounds 2
      go_returns
      exact ⟨by simp, rfl⟩
    · skip
      by_cases c2 : n ≤ 4096
      · have HE : Hid (hL 256 n = 2) := by show hL 256 n = 2; unfold hL; rw [if_neg (by omega)]; rw [if_neg (by omega)]; rw [if_pos (by omega)]
        have s0 : ¬ ((4096 : Int) < n) := by omega
        have g0 : (256 : Int) < n := by omega
        have g1 : (1024 : Int) < n := by omega
        clear hn c0 c1 c2
        rw [HE.out]
        clear HE
        go_enter Try.func34, Try.ntmps34
        go_wp2
        go_rounds 3
        go_returns
        exact ⟨by simp, rfl⟩
      · skip
        by_cases c3 : n ≤ 16384
        · have HE : Hid (hL 256 n = 3) := by show hL 256 n = 3; unfold hL; rw [if_neg (by omega)]; rw [if_neg (by omega)]; rw [if_neg (by omega)]; rw [if_pos (by omega)]
          have s0 : ¬ ((16384 : Int) < n) := by omega
          have g0 : (256 : Int) < n := by omega
          have g1 : (1024 : Int) < n := by omega
          have g2 : (4096 : Int) < n := by omega
          clear hn c0 c1 c2 c3
          rw [HE.out]
          clear HE
          go_enter Try.func34, Try.ntmps34
          go_wp2
          go_rounds 4
          go_returns
          exact ⟨by simp, rfl⟩
        · skip
          by_cases c4 : n ≤ 65536
          · have HE : Hid (hL 256 n = 4) := by show hL 256 n = 4; unfold hL; rw [if_neg (by omega)]; rw [if_neg (by omega)]; rw [if_neg (by omega)]; rw [if_neg (by omega)]; rw [if_pos (by omega)]
            have s0 : ¬ ((65536 : Int) < n) := by omega
            have g0 : (256 : Int) < n := by omega
            have g1 : (1024 : Int) < n := by omega
            have g2 : (4096 : Int) < n := by omega
            have g3 : (16384 : Int) < n := by omega
            clear hn c0 c1 c2 c3 c4
            rw [HE.out]
            clear HE
            go_enter Try.func34, Try.ntmps34
            go_wp2
            go_rounds 5
            go_returns
            exact ⟨by simp, rfl⟩
          · skip
            by_cases c5 : n ≤ 262144
            · have HE : Hid (hL 256 n = 5) := by show hL 256 n = 5; unfold hL; rw [if_neg (by omega)]; rw [if_neg (by omega)]; rw [if_neg (by omega)]; rw [if_neg (by omega)]; rw [if_neg (by omega)]; rw [if_pos (by omega)]
              have s0 : ¬ ((262144 : Int) < n) := by omega
              have g0 : (256 : Int) < n := by omega
              have g1 : (1024 : Int) < n := by omega
              have g2 : (4096 : Int) < n := by omega
              have g3 : (16384 : Int) < n := by omega
              have g4 : (65536 : Int) < n := by omega
              clear hn c0 c1 c2 c3 c4 c5
              rw [HE.out]
              clear HE
              go_enter Try.func34, Try.ntmps34
              go_wp2
              go_rounds 6
              go_returns
              exact ⟨by simp, rfl⟩
            · skip
              have HE : Hid (hL 256 n = 6) := by show hL 256 n = 6; unfold hL; rw [if_neg (by omega)]; rw [if_neg (by omega)]; rw [if_neg (by omega)]; rw [if_neg (by omega)]; rw [if_neg (by omega)]; rw [if_neg (by omega)]
              have s0 : ¬ ((1048576 : Int) < n) := by omega
              have g0 : (256 : Int) < n := by omega
              have g1 : (1024 : Int) < n := by omega
              have g2 : (4096 : Int) < n := by omega
              have g3 : (16384 : Int) < n := by omega
              have g4 : (65536 : Int) < n := by omega
              have g5 : (262144 : Int) < n := by omega
              clear hn c0 c1 c2 c3 c4 c5
              rw [HE.out]
              clear HE
              go_enter Try.func34, Try.ntmps34
              go_wp2
              go_rounds 7
              go_returns
              exact ⟨by simp, rfl⟩
set_option maxHeartbeats 4000000 in
theorem rleast (n : Int) (h0 : -9223372036854775808 ≤ n) (hn : n ≤ 4096) (w : World) : Calls Try.prog 20 #[.int .i64 n] w fun e w' => e = .returned (.int .i64 (hL 1 n)) ∧ w' = w := by
  by_cases c0 : n ≤ 1
  · have HE : Hid (hL 1 n = 0) := by show hL 1 n = 0; unfold hL; rw [if_pos (by omega)]
    have s0 : ¬ ((1 : Int) < n) := by omega
    clear hn c0
    rw [HE.out]
    clear HE
    go_enter Try.func20, Try.ntmps20
    go_wp2
    go_rounds 1
    go_returns
    exact ⟨by simp, rfl⟩
  · skip
    by_cases c1 : n ≤ 4
    · have HE : Hid (hL 1 n = 1) := by show hL 1 n = 1; unfold hL; rw [if_neg (by omega)]; rw [if_pos (by omega)]
      have s0 : ¬ ((4 : Int) < n) := by omega
      have g0 : (1 : Int) < n := by omega
      clear hn c0 c1
      rw [HE.out]
      clear HE
      go_enter Try.func20, Try.ntmps20
      go_wp2
      go_rounds 2
      go_returns
      exact ⟨by simp, rfl⟩
    · skip
      by_cases c2 : n ≤ 16
      · have HE : Hid (hL 1 n = 2) := by show hL 1 n = 2; unfold hL; rw [if_neg (by omega)]; rw [if_neg (by omega)]; rw [if_pos (by omega)]
        have s0 : ¬ ((16 : Int) < n) := by omega
        have g0 : (1 : Int) < n := by omega
        have g1 : (4 : Int) < n := by omega
        clear hn c0 c1 c2
        rw [HE.out]
        clear HE
        go_enter Try.func20, Try.ntmps20
        go_wp2
        go_rounds 3
        go_returns
        exact ⟨by simp, rfl⟩
      · skip
        by_cases c3 : n ≤ 64
        · have HE : Hid (hL 1 n = 3) := by show hL 1 n = 3; unfold hL; rw [if_neg (by omega)]; rw [if_neg (by omega)]; rw [if_neg (by omega)]; rw [if_pos (by omega)]
          have s0 : ¬ ((64 : Int) < n) := by omega
          have g0 : (1 : Int) < n := by omega
          have g1 : (4 : Int) < n := by omega
          have g2 : (16 : Int) < n := by omega
          clear hn c0 c1 c2 c3
          rw [HE.out]
          clear HE
          go_enter Try.func20, Try.ntmps20
          go_wp2
          go_rounds 4
          go_returns
          exact ⟨by simp, rfl⟩
        · skip
          by_cases c4 : n ≤ 256
          · have HE : Hid (hL 1 n = 4) := by show hL 1 n = 4; unfold hL; rw [if_neg (by omega)]; rw [if_neg (by omega)]; rw [if_neg (by omega)]; rw [if_neg (by omega)]; rw [if_pos (by omega)]
            have s0 : ¬ ((256 : Int) < n) := by omega
            have g0 : (1 : Int) < n := by omega
            have g1 : (4 : Int) < n := by omega
            have g2 : (16 : Int) < n := by omega
            have g3 : (64 : Int) < n := by omega
            clear hn c0 c1 c2 c3 c4
            rw [HE.out]
            clear HE
            go_enter Try.func20, Try.ntmps20
            go_wp2
            go_rounds 5
            go_returns
            exact ⟨by simp, rfl⟩
          · skip
            by_cases c5 : n ≤ 1024
            · have HE : Hid (hL 1 n = 5) := by show hL 1 n = 5; unfold hL; rw [if_neg (by omega)]; rw [if_neg (by omega)]; rw [if_neg (by omega)]; rw [if_neg (by omega)]; rw [if_neg (by omega)]; rw [if_pos (by omega)]
              have s0 : ¬ ((1024 : Int) < n) := by omega
              have g0 : (1 : Int) < n := by omega
              have g1 : (4 : Int) < n := by omega
              have g2 : (16 : Int) < n := by omega
              have g3 : (64 : Int) < n := by omega
              have g4 : (256 : Int) < n := by omega
              clear hn c0 c1 c2 c3 c4 c5
              rw [HE.out]
              clear HE
              go_enter Try.func20, Try.ntmps20
              go_wp2
              go_rounds 6
              go_returns
              exact ⟨by simp, rfl⟩
            · skip
              have HE : Hid (hL 1 n = 6) := by show hL 1 n = 6; unfold hL; rw [if_neg (by omega)]; rw [if_neg (by omega)]; rw [if_neg (by omega)]; rw [if_neg (by omega)]; rw [if_neg (by omega)]; rw [if_neg (by omega)]
              have s0 : ¬ ((4096 : Int) < n) := by omega
              have g0 : (1 : Int) < n := by omega
              have g1 : (4 : Int) < n := by omega
              have g2 : (16 : Int) < n := by omega
              have g3 : (64 : Int) < n := by omega
              have g4 : (256 : Int) < n := by omega
              have g5 : (1024 : Int) < n := by omega
              clear hn c0 c1 c2 c3 c4 c5
              rw [HE.out]
              clear HE
              go_enter Try.func20, Try.ntmps20
              go_wp2
              go_rounds 7
              go_returns
              exact ⟨by simp, rfl⟩
theorem hL_256 (n : Int) (h0 : 0 ≤ n) : hL 1 ((n + 255) / 256) = hL 256 n := by
  unfold hL
  by_cases c0 : n ≤ 256
  · rw [if_pos c0, if_pos (by omega)]
  · rw [if_neg c0, if_neg (by omega)]
    by_cases c1 : n ≤ 4 * 256
    · rw [if_pos c1, if_pos (by omega)]
    · rw [if_neg c1, if_neg (by omega)]
      by_cases c2 : n ≤ 16 * 256
      · rw [if_pos c2, if_pos (by omega)]
      · rw [if_neg c2, if_neg (by omega)]
        by_cases c3 : n ≤ 64 * 256
        · rw [if_pos c3, if_pos (by omega)]
        · rw [if_neg c3, if_neg (by omega)]
          by_cases c4 : n ≤ 256 * 256
          · rw [if_pos c4, if_pos (by omega)]
          · rw [if_neg c4, if_neg (by omega)]
            by_cases c5 : n ≤ 1024 * 256
            · rw [if_pos c5, if_pos (by omega)]
            · rw [if_neg c5, if_neg (by omega)]
end Go.Proofs.Ytpoaipoadokggaa

namespace Go.Proofs.Ytpoaipoadokggaa
open Go Go.RowKit
set_option linter.unusedSimpArgs false
set_option linter.unusedVariables false
set_option maxRecDepth 20000
theorem io_dN {B : Nat} {w0 w : World} (h : Below B w0 w) (n : Nat) : Below B w0 (w.drewN n) := ⟨h.1, h.2, h.3, h.4, h.5⟩
def lnk (x : Ino) : Bool := if x.k = 1 then decide (1 ≤ x.l) && decide (x.l ≤ 1000) else if x.k = 2 then decide (x.l = 1) else false
def siz (x : Ino) : Bool := if x.k = 2 ∧ ¬ x.s.tmod 64 = 0 then false else decide (0 ≤ x.s) && decide (x.s ≤ 1048576)
def tre (x : Ino) : Bool := if x.h ≠ hL 256 x.s ∨ 8192 ≤ x.r.1 then false else decide (x.r = rf0) || (decide (x.r.1 ≠ 0) && decide (x.s ≠ 0))
def chk (x : Ino) : Bool := decide (x = in0) || (lnk x && (siz x && tre x))
theorem ino_c0 {w : World} {g T : Nat} {x : Ino} (h : Blk w g T (inC x)) : w.cell? ⟨g, 0, none⟩ = some (.int .i64 x.k) := by rw [h.cell]; exact va_at (inF x) (by decide)
theorem ino_c1 {w : World} {g T : Nat} {x : Ino} (h : Blk w g T (inC x)) : w.cell? ⟨g, 1, none⟩ = some (.int .i64 x.l) := by rw [h.cell]; exact va_at (inF x) (by decide)
theorem ino_c2 {w : World} {g T : Nat} {x : Ino} (h : Blk w g T (inC x)) : w.cell? ⟨g, 2, none⟩ = some (.int .i64 x.s) := by rw [h.cell]; exact va_at (inF x) (by decide)
theorem ino_c3 {w : World} {g T : Nat} {x : Ino} (h : Blk w g T (inC x)) : w.cell? ⟨g, 3, none⟩ = some (.int .u64 ((x.t : Nat) : Int)) := by rw [h.cell]; exact va_at (inF x) (by decide)
theorem ino_c4 {w : World} {g T : Nat} {x : Ino} (h : Blk w g T (inC x)) : w.cell? ⟨g, 4, none⟩ = some (.int .i64 x.h) := by rw [h.cell]; exact va_at (inF x) (by decide)
theorem ino_c5 {w : World} {g T : Nat} {x : Ino} (h : Blk w g T (inC x)) : w.cell? ⟨g, 5, none⟩ = some (.int .u32 ((x.r.1 : Nat) : Int)) := by rw [h.cell]; exact va_at (inF x) (by decide)
set_option maxHeartbeats 4000000 in
theorem rightLinks_any (x : Ino) (w : World) : Calls Try.prog 29 #[.agg (inC x)] w fun e w' => e = .returned (.bool (lnk x)) ∧ Below w.heap.size w w' := by
  have r0 : Blk (w.alloc (.cells (inC x) 31)) w.heap.size 31 (inC x) := Blk.new _ _ _
  have HB : Hid (Below w.heap.size w (w.alloc (.cells (inC x) 31))) := below_new1 _ _
  have c0 := ino_c0 r0
  have c1 := ino_c1 r0
  have HO : Hid (lnk x = if x.k = 1 then decide (1 ≤ x.l) && decide (x.l ≤ 1000) else if x.k = 2 then decide (x.l = 1) else false) := rfl
  generalize lnk x = B at *
  generalize x.k = k at *
  generalize x.l = l at *
  clear r0
  by_cases k1 : k = 1
  · subst k1
    by_cases l1 : 1 ≤ l
    · go_enter Try.func29, Try.ntmps29
      go_wp2_with fail
      go_ret
      refine ⟨?_, HB.out⟩
      rw [HO.out]; simp [l1]
    · go_enter Try.func29, Try.ntmps29
      go_wp2_with fail
      go_ret
      refine ⟨?_, HB.out⟩
      rw [HO.out]; simp [l1]; omega
  · by_cases k2 : k = 2
    · subst k2
      go_enter Try.func29, Try.ntmps29
      go_wp2_with fail
      go_ret
      refine ⟨?_, HB.out⟩
      rw [HO.out]; by_cases q : l = 1 <;> simp [q]
    · go_enter Try.func29, Try.ntmps29
      go_wp2_with fail
      go_ret
      refine ⟨?_, HB.out⟩
      rw [HO.out]; simp [k1, k2]
set_option maxHeartbeats 4000000 in
theorem rightSize_any (x : Ino) (w : World) : Calls Try.prog 30 #[.agg (inC x)] w fun e w' => e = .returned (.bool (siz x)) ∧ Below w.heap.size w w' := by
  have r0 : Blk (w.alloc (.cells (inC x) 31)) w.heap.size 31 (inC x) := Blk.new _ _ _
  have HB : Hid (Below w.heap.size w (w.alloc (.cells (inC x) 31))) := below_new1 _ _
  have c0 := ino_c0 r0
  have c2 := ino_c2 r0
  have HO : Hid (siz x = if x.k = 2 ∧ ¬ x.s.tmod 64 = 0 then false else decide (0 ≤ x.s) && decide (x.s ≤ 1048576)) := rfl
  generalize siz x = B at *
  generalize x.k = k at *
  generalize x.s = s at *
  clear r0
  by_cases k2 : k = 2
  · subst k2
    by_cases m0 : s.tmod 64 = 0
    · by_cases s0 : 0 ≤ s
      · go_enter Try.func30, Try.ntmps30
        go_wp2_with fail
        go_ret
        refine ⟨?_, HB.out⟩
        rw [HO.out]; simp [m0, s0]
      · go_enter Try.func30, Try.ntmps30
        go_wp2_with fail
        go_ret
        refine ⟨?_, HB.out⟩
        rw [HO.out]; simp [m0, s0]; omega
    · go_enter Try.func30, Try.ntmps30
      go_wp2_with fail
      go_ret
      refine ⟨?_, HB.out⟩
      rw [HO.out]; simp [m0]
  · by_cases s0 : 0 ≤ s
    · go_enter Try.func30, Try.ntmps30
      go_wp2_with fail
      go_ret
      refine ⟨?_, HB.out⟩
      rw [HO.out]; simp [k2, s0]
    · go_enter Try.func30, Try.ntmps30
      go_wp2_with fail
      go_ret
      refine ⟨?_, HB.out⟩
      rw [HO.out]; simp [k2, s0]; omega
set_option maxHeartbeats 4000000 in
theorem rightTree_any (x : Ino) (hx : InW x) (hs : x.s ≤ 1048576) (w : World) : Calls Try.prog 31 #[.agg (inC x)] w fun e w' => e = .returned (.bool (tre x)) ∧ Below w.heap.size w w' := by
  have hz := zero_ref
  have r0 : Blk (w.alloc (.cells (inC x) 31)) w.heap.size 31 (inC x) := Blk.new _ _ _
  have q0 : (w.alloc (.cells (inC x) 31)).rangeAt w.heap.size 5 ((List.range 33).map (rfF x.r.1 x.r.2)) := by
    have h := World.rangeAt_of_block (b := w.heap.size) r0 5 33
    rw [in_ref] at h
    unfold rfC at h
    rwa [va_toList] at h
  have HB : Hid (Below w.heap.size w (((w.alloc (.cells (inC x) 31)).alloc (.cells (rfC rf0) 27)).setRow (w.heap.size + 1) (rfC x.r))) := below_setRow (below_new2 _ _ _) (by omega) _
  have r1 : Blk ((w.alloc (.cells (inC x) 31)).alloc (.cells (rfC rf0) 27)) (w.heap.size + 1) 27 (rfC rf0) := Blk.new1 _ _ _ _
  have r2 : Blk (((w.alloc (.cells (inC x) 31)).alloc (.cells (rfC rf0) 27)).setRow (w.heap.size + 1) (rfC x.r)) w.heap.size 31 (inC x) := (r0.alloc _).other _ (by omega)
  have r3 : Blk (((w.alloc (.cells (inC x) 31)).alloc (.cells (rfC rf0) 27)).setRow (w.heap.size + 1) (rfC x.r)) (w.heap.size + 1) 27 (rfC x.r) := r1.set _
  have HL : Hid (∀ w : World, Calls Try.prog 34 #[.int .i64 256, .int .i64 x.s] w fun e w' => e = .returned (.int .i64 (hL 256 x.s)) ∧ w' = w) := least256 x.s hx.s.1 hs
  have HN : Hid (∀ w : World, Calls Try.prog 37 #[.agg (rfC x.r)] w fun e w' => e = .returned (.bool (decide (x.r = rf0))) ∧ Below w.heap.size w w') := none_any x.r
  have HO : Hid (tre x = if x.h ≠ hL 256 x.s ∨ 8192 ≤ x.r.1 then false else decide (x.r = rf0) || (decide (x.r.1 ≠ 0) && decide (x.s ≠ 0))) := rfl
  obtain ⟨b, hb⟩ : ∃ b, b = decide (x.r = rf0) := ⟨_, rfl⟩
  rw [← hb] at HN HO
  clear hb
  generalize tre x = B at *
  go_enter Try.func31, Try.ntmps31
  go_wp2_with (first
    | (refine wpList_load_blk (by rfl) 27 _ (by rfl) (w.heap.size) 5 33 (rfF x.r.1 x.r.2) (by rfl) _ (by exact q0) Try.underlying27 rfl slSizeRef ?_; simp only [Act.put, List.setIfInBounds_toArray, List.set_cons_zero, List.set_cons_succ])
    | (refine wpList_store_row (by rfl) 27 _ _ (by rfl) (w.heap.size + 1) (rfC x.r) (by rfl) (by rfl) 27 (rfC rf0) (by exact r1) (slSizeRef.trans (by rw [rfC_size])) (by simp only [rfC_size]) (rfC_all _) ?_; simp only [Act.put, List.setIfInBounds_toArray, List.set_cons_zero, List.set_cons_succ])
    | fail)
  have hsz : (((w.alloc (.cells (inC x) 31)).alloc (.cells (rfC rf0) 27)).setRow (w.heap.size + 1) (rfC x.r)).heap.size = w.heap.size + 2 := by simp
  clear r0 r1 q0
  generalize (((w.alloc (.cells (inC x) 31)).alloc (.cells (rfC rf0) 27)).setRow (w.heap.size + 1) (rfC x.r)) = w1 at *
  have c2 := ino_c2 r2
  have c4 := ino_c4 r2
  have c5 : w1.cell? ⟨w.heap.size + 1, 0, none⟩ = some (.int .u32 ((x.r.1 : Nat) : Int)) := by rw [r3.cell]; exact va_at (rfF x.r.1 x.r.2) (by decide)
  by_cases hh : x.h = hL 256 x.s
  · by_cases ha : 8192 ≤ x.r.1
    · have ha' : (8192 : Int) ≤ ((x.r.1 : Nat) : Int) := by omega
      have HF : Hid (B = false) := by show B = false; rw [HO.out, if_pos (Or.inr ha)]
      rw [hh] at c4
      clear HO hh ha
      generalize hL 256 x.s = H at *
      generalize x.s = s at *
      generalize x.r.1 = n at *
      clear r2 r3
      go_quiet ((go_at_call 34; exact Calls.quiet_of_same (HL.out _)))
      go_wp2_with fail
      go_ret
      exact ⟨by rw [HF.out]; rfl, io_dN HB.out _⟩
    · have ha' : ¬ ((8192 : Int) ≤ ((x.r.1 : Nat) : Int)) := by omega
      have HF : Hid (B = (b || (decide (x.r.1 ≠ 0) && decide (x.s ≠ 0)))) := by show B = (b || (decide (x.r.1 ≠ 0) && decide (x.s ≠ 0))); rw [HO.out, if_neg (by simp [hh]; omega)]
      rw [hh] at c4
      clear HO hh ha
      generalize hL 256 x.s = H at *
      go_quiet ((go_at_call 34; exact Calls.quiet_of_same (HL.out _)))
      go_wp2_with (first | (refine wpList_load_rowg (by rfl) 27 _ (by rfl) (w.heap.size + 1) (by rfl) 27 (rfC x.r) (0, 0) _ (by exact r3) Try.underlying27 (by rfl) (slSizeRef.trans (by rw [rfC_size])) ?_; simp only [Act.put, List.setIfInBounds_toArray, List.set_cons_zero, List.set_cons_succ]) | fail)
      refine (HN.out _).mono ?_
      intro e w2 hw2
      obtain ⟨he2, hb2⟩ := hw2
      subst he2
      have HB2 : Hid (Below w.heap.size w w2) := (io_dN HB.out _).trans (hb2.mono (by show w.heap.size ≤ w1.heap.size; omega))
      have r2' : Blk w2 w.heap.size 31 (inC x) := Blk.below (show Blk (w1.drewN _) _ _ _ from r2) hb2 (by show w.heap.size < w1.heap.size; omega)
      have r3' : Blk w2 (w.heap.size + 1) 27 (rfC x.r) := Blk.below (show Blk (w1.drewN _) _ _ _ from r3) hb2 (by show w.heap.size + 1 < w1.heap.size; omega)
      clear c2 c4 c5 r2 r3 hb2 HN HL
      have c2 := ino_c2 r2'
      have c5 : w2.cell? ⟨w.heap.size + 1, 0, none⟩ = some (.int .u32 ((x.r.1 : Nat) : Int)) := by rw [r3'.cell]; exact va_at (rfF x.r.1 x.r.2) (by decide)
      clear r2' r3'
      generalize x.s = s at *
      generalize x.r.1 = n at *
      cases b
      · by_cases hn : (n : Int) = 0
        · have hn' : n = 0 := by omega
          go_wp2_with fail
          go_ret
          refine ⟨?_, HB2.out⟩
          rw [HF.out]; simp [hn']
        · have hn' : ¬ n = 0 := by omega
          go_wp2_with fail
          go_ret
          refine ⟨?_, HB2.out⟩
          rw [HF.out]; by_cases hs0 : s = 0 <;> simp [hn', hs0]
      · go_wp2_with fail
        go_ret
        exact ⟨by rw [HF.out]; simp, HB2.out⟩
  · have HF : Hid (B = false) := by show B = false; rw [HO.out, if_pos (Or.inl hh)]
    clear HO
    generalize x.h = h at *
    generalize hL 256 x.s = H at *
    generalize x.s = s at *
    clear r2 r3
    go_quiet ((go_at_call 34; exact Calls.quiet_of_same (HL.out _)))
    go_wp2_with fail
    go_ret
    exact ⟨by rw [HF.out]; rfl, io_dN HB.out _⟩
end Go.Proofs.Ytpoaipoadokggaa

namespace Go.Proofs.Ytpoaipoadokggaa
open Go Go.RowKit
set_option linter.unusedSimpArgs false
set_option linter.unusedVariables false
set_option maxRecDepth 20000
theorem tdiv_nn2 (a b : Int) (h : 0 ≤ a) : a.tdiv b = a / b := Int.tdiv_eq_ediv_of_nonneg h
set_option maxHeartbeats 4000000 in
theorem rleaves_any (n : Int) (h0 : 0 ≤ n) (h1 : n ≤ 1048576) (w : World) : Calls Try.prog 17 #[.int .i64 n] w fun e w' => e = .returned (.int .i64 ((n + 255) / 256)) ∧ w' = w := by
  have HE : Hid ((n + 255).tdiv 256 = (n + 255) / 256) := tdiv_nn2 _ _ (by omega)
  go_enter Try.func17, Try.ntmps17
  go_wp2_with fail
  go_ret
  exact ⟨by first | rfl | (rw [← HE.out]; rfl), rfl⟩
set_option maxHeartbeats 4000000 in
theorem rheight_any (n : Int) (h0 : 0 ≤ n) (h1 : n ≤ 1048576) (w : World) : Calls Try.prog 16 #[.int .i64 n] w fun e w' => e = .returned (.int .i64 (hL 256 n)) ∧ w' = w := by
  have HA : Hid (∀ w, Calls Try.prog 17 #[.int .i64 n] w fun e w' => e = .returned (.int .i64 ((n + 255) / 256)) ∧ w' = w) := rleaves_any n h0 h1
  have HC : Hid (∀ w, Calls Try.prog 20 #[.int .i64 ((n + 255) / 256)] w fun e w' => e = .returned (.int .i64 (hL 256 n)) ∧ w' = w) := by
    have := rleast ((n + 255) / 256) (by omega) (by omega)
    rw [hL_256 n h0] at this
    exact this
  generalize (n + 255) / 256 = m at *
  generalize hL 256 n = H at *
  go_enter Try.func16, Try.ntmps16
  go_wp2_with fail
  refine (HA.out _).mono ?_
  intro e w2 hw2
  obtain ⟨he2, hb2⟩ := hw2
  subst he2 hb2
  go_wp2_with fail
  refine (HC.out _).mono ?_
  intro e w2 hw2
  obtain ⟨he2, hb2⟩ := hw2
  subst he2 hb2
  go_wp2_with fail
  go_ret
  exact ⟨rfl, rfl⟩
end Go.Proofs.Ytpoaipoadokggaa

namespace Go.Proofs.Ytpoaipoadokggaa
open Go Go.RowKit
set_option linter.unusedSimpArgs false
set_option linter.unusedVariables false
set_option maxRecDepth 100000
set_option maxHeartbeats 1000000 in
theorem rck_k (x : Ino) (w : World) (k : Int) (l s h H : Int) (n : Nat) (br : Bool) (hk : x.k = k) (hl : x.l = l) (hs : x.s = s) (hh : x.h = h) (hn : x.r.1 = n) (hbr : decide (x.r = rf0) = br) (hx0 : decide (x = in0) = false)
    (k1 : ¬ k = 1) (k2 : ¬ k = 2) : Calls Try.prog 27 #[.agg (inC x)] w fun e w' => e = .returned (.bool (false)) ∧ Below w.heap.size w w' := by
  have hz := zero_rino
  have hzr := zero_rrf
  have r0 : Blk (w.alloc (.cells (inC x) 44)) w.heap.size 44 (inC x) := Blk.new _ _ _
  have HB : Hid (Below w.heap.size w (w.alloc (.cells (inC x) 44))) := below_new1 _ _
  have hq : ∀ W, (Op.equalIn 10000 44 (.agg (inC x)) (.agg (inC in0))).run Try.prog W = .ok (decide (x = in0)) W := eq_rino 9995 x in0
  rw [hx0] at hq
  have hqr : ∀ W, (Op.equalIn 10000 40 (.agg (va 33 (rfF x.r.1 x.r.2))) (.agg (rfC rf0))).run Try.prog W = .ok (decide (x.r = rf0)) W := eq_rrf 9997 x.r rf0
  rw [hbr] at hqr
  have q0 : ∀ m, ((w.alloc (.cells (inC x) 44)).drewN m).rangeAt w.heap.size 5 ((List.range 33).map (rfF x.r.1 x.r.2)) := fun m => by
    have h := World.rangeAt_of_block (w := (w.alloc (.cells (inC x) 44)).drewN m) (b := w.heap.size) r0 5 33
    rw [in_ref] at h
    unfold rfC at h
    rwa [va_toList] at h
  have c0 := ino_c0 r0
  have c1 := ino_c1 r0
  have c2 := ino_c2 r0
  have c4 := ino_c4 r0
  have c5 := ino_c5 r0
  rw [hk] at c0
  rw [hl] at c1
  rw [hs] at c2
  rw [hh] at c4
  rw [hn] at c5
  clear hk hl hs hh hn hx0 hbr
  go_enter Try.func27, Try.ntmps27
  go_wp2_with (first | (refine wpList_load_row (by rfl) 44 _ (by rfl) (w.heap.size) (by rfl) 44 (inC x) (0, 0) _ (by exact r0) Try.underlying44 (by rfl) (sizeRIno.trans (by rw [inC_size])) ?_; simp only [Act.put, List.setIfInBounds_toArray, List.set_cons_zero, List.set_cons_succ]) | (refine wpList_skip (by rfl) ?_; simp only [Act.put, List.setIfInBounds_toArray, List.set_cons_zero, List.set_cons_succ]) | fail)
  go_ret
  exact ⟨by first | rfl | simp, HB.out⟩
set_option maxHeartbeats 1000000 in
theorem rck_1la (x : Ino) (w : World) (k : Int) (l s h H : Int) (n : Nat) (br : Bool) (hk : x.k = k) (hl : x.l = l) (hs : x.s = s) (hh : x.h = h) (hn : x.r.1 = n) (hbr : decide (x.r = rf0) = br) (hx0 : decide (x = in0) = false)
    (e1 : ¬ (k ≠ 1)) (e2 : ¬ k = 2) (l1 : l < 1) : Calls Try.prog 27 #[.agg (inC x)] w fun e w' => e = .returned (.bool (false)) ∧ Below w.heap.size w w' := by
  have hz := zero_rino
  have hzr := zero_rrf
  have r0 : Blk (w.alloc (.cells (inC x) 44)) w.heap.size 44 (inC x) := Blk.new _ _ _
  have HB : Hid (Below w.heap.size w (w.alloc (.cells (inC x) 44))) := below_new1 _ _
  have hq : ∀ W, (Op.equalIn 10000 44 (.agg (inC x)) (.agg (inC in0))).run Try.prog W = .ok (decide (x = in0)) W := eq_rino 9995 x in0
  rw [hx0] at hq
  have hqr : ∀ W, (Op.equalIn 10000 40 (.agg (va 33 (rfF x.r.1 x.r.2))) (.agg (rfC rf0))).run Try.prog W = .ok (decide (x.r = rf0)) W := eq_rrf 9997 x.r rf0
  rw [hbr] at hqr
  have q0 : ∀ m, ((w.alloc (.cells (inC x) 44)).drewN m).rangeAt w.heap.size 5 ((List.range 33).map (rfF x.r.1 x.r.2)) := fun m => by
    have h := World.rangeAt_of_block (w := (w.alloc (.cells (inC x) 44)).drewN m) (b := w.heap.size) r0 5 33
    rw [in_ref] at h
    unfold rfC at h
    rwa [va_toList] at h
  have c0 := ino_c0 r0
  have c1 := ino_c1 r0
  have c2 := ino_c2 r0
  have c4 := ino_c4 r0
  have c5 := ino_c5 r0
  rw [hk] at c0
  rw [hl] at c1
  rw [hs] at c2
  rw [hh] at c4
  rw [hn] at c5
  clear hk hl hs hh hn hx0 hbr
  go_enter Try.func27, Try.ntmps27
  go_wp2_with (first | (refine wpList_load_row (by rfl) 44 _ (by rfl) (w.heap.size) (by rfl) 44 (inC x) (0, 0) _ (by exact r0) Try.underlying44 (by rfl) (sizeRIno.trans (by rw [inC_size])) ?_; simp only [Act.put, List.setIfInBounds_toArray, List.set_cons_zero, List.set_cons_succ]) | (refine wpList_skip (by rfl) ?_; simp only [Act.put, List.setIfInBounds_toArray, List.set_cons_zero, List.set_cons_succ]) | fail)
  go_ret
  exact ⟨by first | rfl | simp, HB.out⟩
set_option maxHeartbeats 1000000 in
theorem rck_1lb (x : Ino) (w : World) (k : Int) (l s h H : Int) (n : Nat) (br : Bool) (hk : x.k = k) (hl : x.l = l) (hs : x.s = s) (hh : x.h = h) (hn : x.r.1 = n) (hbr : decide (x.r = rf0) = br) (hx0 : decide (x = in0) = false)
    (e1 : ¬ (k ≠ 1)) (e2 : ¬ k = 2) (l1 : ¬ l < 1) (l2 : 1000 < l) : Calls Try.prog 27 #[.agg (inC x)] w fun e w' => e = .returned (.bool (false)) ∧ Below w.heap.size w w' := by
  have hz := zero_rino
  have hzr := zero_rrf
  have r0 : Blk (w.alloc (.cells (inC x) 44)) w.heap.size 44 (inC x) := Blk.new _ _ _
  have HB : Hid (Below w.heap.size w (w.alloc (.cells (inC x) 44))) := below_new1 _ _
  have hq : ∀ W, (Op.equalIn 10000 44 (.agg (inC x)) (.agg (inC in0))).run Try.prog W = .ok (decide (x = in0)) W := eq_rino 9995 x in0
  rw [hx0] at hq
  have hqr : ∀ W, (Op.equalIn 10000 40 (.agg (va 33 (rfF x.r.1 x.r.2))) (.agg (rfC rf0))).run Try.prog W = .ok (decide (x.r = rf0)) W := eq_rrf 9997 x.r rf0
  rw [hbr] at hqr
  have q0 : ∀ m, ((w.alloc (.cells (inC x) 44)).drewN m).rangeAt w.heap.size 5 ((List.range 33).map (rfF x.r.1 x.r.2)) := fun m => by
    have h := World.rangeAt_of_block (w := (w.alloc (.cells (inC x) 44)).drewN m) (b := w.heap.size) r0 5 33
    rw [in_ref] at h
    unfold rfC at h
    rwa [va_toList] at h
  have c0 := ino_c0 r0
  have c1 := ino_c1 r0
  have c2 := ino_c2 r0
  have c4 := ino_c4 r0
  have c5 := ino_c5 r0
  rw [hk] at c0
  rw [hl] at c1
  rw [hs] at c2
  rw [hh] at c4
  rw [hn] at c5
  clear hk hl hs hh hn hx0 hbr
  go_enter Try.func27, Try.ntmps27
  go_wp2_with (first | (refine wpList_load_row (by rfl) 44 _ (by rfl) (w.heap.size) (by rfl) 44 (inC x) (0, 0) _ (by exact r0) Try.underlying44 (by rfl) (sizeRIno.trans (by rw [inC_size])) ?_; simp only [Act.put, List.setIfInBounds_toArray, List.set_cons_zero, List.set_cons_succ]) | (refine wpList_skip (by rfl) ?_; simp only [Act.put, List.setIfInBounds_toArray, List.set_cons_zero, List.set_cons_succ]) | fail)
  go_ret
  exact ⟨by first | rfl | simp, HB.out⟩
set_option maxHeartbeats 1000000 in
theorem rck_1sa (x : Ino) (w : World) (k : Int) (l s h H : Int) (n : Nat) (br : Bool) (hk : x.k = k) (hl : x.l = l) (hs : x.s = s) (hh : x.h = h) (hn : x.r.1 = n) (hbr : decide (x.r = rf0) = br) (hx0 : decide (x = in0) = false)
    (e1 : ¬ (k ≠ 1)) (e2 : ¬ k = 2) (l1 : ¬ l < 1) (l2 : ¬ 1000 < l) (s1 : s < 0) : Calls Try.prog 27 #[.agg (inC x)] w fun e w' => e = .returned (.bool (false)) ∧ Below w.heap.size w w' := by
  have hz := zero_rino
  have hzr := zero_rrf
  have r0 : Blk (w.alloc (.cells (inC x) 44)) w.heap.size 44 (inC x) := Blk.new _ _ _
  have HB : Hid (Below w.heap.size w (w.alloc (.cells (inC x) 44))) := below_new1 _ _
  have hq : ∀ W, (Op.equalIn 10000 44 (.agg (inC x)) (.agg (inC in0))).run Try.prog W = .ok (decide (x = in0)) W := eq_rino 9995 x in0
  rw [hx0] at hq
  have hqr : ∀ W, (Op.equalIn 10000 40 (.agg (va 33 (rfF x.r.1 x.r.2))) (.agg (rfC rf0))).run Try.prog W = .ok (decide (x.r = rf0)) W := eq_rrf 9997 x.r rf0
  rw [hbr] at hqr
  have q0 : ∀ m, ((w.alloc (.cells (inC x) 44)).drewN m).rangeAt w.heap.size 5 ((List.range 33).map (rfF x.r.1 x.r.2)) := fun m => by
    have h := World.rangeAt_of_block (w := (w.alloc (.cells (inC x) 44)).drewN m) (b := w.heap.size) r0 5 33
    rw [in_ref] at h
    unfold rfC at h
    rwa [va_toList] at h
  have c0 := ino_c0 r0
  have c1 := ino_c1 r0
  have c2 := ino_c2 r0
  have c4 := ino_c4 r0
  have c5 := ino_c5 r0
  rw [hk] at c0
  rw [hl] at c1
  rw [hs] at c2
  rw [hh] at c4
  rw [hn] at c5
  clear hk hl hs hh hn hx0 hbr
  go_enter Try.func27, Try.ntmps27
  go_wp2_with (first | (refine wpList_load_row (by rfl) 44 _ (by rfl) (w.heap.size) (by rfl) 44 (inC x) (0, 0) _ (by exact r0) Try.underlying44 (by rfl) (sizeRIno.trans (by rw [inC_size])) ?_; simp only [Act.put, List.setIfInBounds_toArray, List.set_cons_zero, List.set_cons_succ]) | (refine wpList_skip (by rfl) ?_; simp only [Act.put, List.setIfInBounds_toArray, List.set_cons_zero, List.set_cons_succ]) | fail)
  go_ret
  exact ⟨by first | rfl | simp, HB.out⟩
set_option maxHeartbeats 1000000 in
theorem rck_1sb (x : Ino) (w : World) (k : Int) (l s h H : Int) (n : Nat) (br : Bool) (hk : x.k = k) (hl : x.l = l) (hs : x.s = s) (hh : x.h = h) (hn : x.r.1 = n) (hbr : decide (x.r = rf0) = br) (hx0 : decide (x = in0) = false)
    (e1 : ¬ (k ≠ 1)) (e2 : ¬ k = 2) (l1 : ¬ l < 1) (l2 : ¬ 1000 < l) (s1 : ¬ s < 0) (s2 : 1048576 < s) : Calls Try.prog 27 #[.agg (inC x)] w fun e w' => e = .returned (.bool (false)) ∧ Below w.heap.size w w' := by
  have hz := zero_rino
  have hzr := zero_rrf
  have r0 : Blk (w.alloc (.cells (inC x) 44)) w.heap.size 44 (inC x) := Blk.new _ _ _
  have HB : Hid (Below w.heap.size w (w.alloc (.cells (inC x) 44))) := below_new1 _ _
  have hq : ∀ W, (Op.equalIn 10000 44 (.agg (inC x)) (.agg (inC in0))).run Try.prog W = .ok (decide (x = in0)) W := eq_rino 9995 x in0
  rw [hx0] at hq
  have hqr : ∀ W, (Op.equalIn 10000 40 (.agg (va 33 (rfF x.r.1 x.r.2))) (.agg (rfC rf0))).run Try.prog W = .ok (decide (x.r = rf0)) W := eq_rrf 9997 x.r rf0
  rw [hbr] at hqr
  have q0 : ∀ m, ((w.alloc (.cells (inC x) 44)).drewN m).rangeAt w.heap.size 5 ((List.range 33).map (rfF x.r.1 x.r.2)) := fun m => by
    have h := World.rangeAt_of_block (w := (w.alloc (.cells (inC x) 44)).drewN m) (b := w.heap.size) r0 5 33
    rw [in_ref] at h
    unfold rfC at h
    rwa [va_toList] at h
  have c0 := ino_c0 r0
  have c1 := ino_c1 r0
  have c2 := ino_c2 r0
  have c4 := ino_c4 r0
  have c5 := ino_c5 r0
  rw [hk] at c0
  rw [hl] at c1
  rw [hs] at c2
  rw [hh] at c4
  rw [hn] at c5
  clear hk hl hs hh hn hx0 hbr
  go_enter Try.func27, Try.ntmps27
  go_wp2_with (first | (refine wpList_load_row (by rfl) 44 _ (by rfl) (w.heap.size) (by rfl) 44 (inC x) (0, 0) _ (by exact r0) Try.underlying44 (by rfl) (sizeRIno.trans (by rw [inC_size])) ?_; simp only [Act.put, List.setIfInBounds_toArray, List.set_cons_zero, List.set_cons_succ]) | (refine wpList_skip (by rfl) ?_; simp only [Act.put, List.setIfInBounds_toArray, List.set_cons_zero, List.set_cons_succ]) | fail)
  go_ret
  exact ⟨by first | rfl | simp, HB.out⟩
set_option maxHeartbeats 1000000 in
theorem rck_1h (x : Ino) (w : World) (k : Int) (l s h H : Int) (n : Nat) (br : Bool) (hk : x.k = k) (hl : x.l = l) (hs : x.s = s) (hh : x.h = h) (hn : x.r.1 = n) (hbr : decide (x.r = rf0) = br) (hx0 : decide (x = in0) = false)
    (HS : Hid (∀ w : World, Calls Try.prog 16 #[.int .i64 s] w fun e w' => e = .returned (.int .i64 H) ∧ w' = w)) (e1 : ¬ (k ≠ 1)) (e2 : ¬ k = 2) (l1 : ¬ l < 1) (l2 : ¬ 1000 < l) (s1 : ¬ s < 0) (s2 : ¬ 1048576 < s) (h1 : ¬ h = H) : Calls Try.prog 27 #[.agg (inC x)] w fun e w' => e = .returned (.bool (false)) ∧ Below w.heap.size w w' := by
  have hz := zero_rino
  have hzr := zero_rrf
  have r0 : Blk (w.alloc (.cells (inC x) 44)) w.heap.size 44 (inC x) := Blk.new _ _ _
  have HB : Hid (Below w.heap.size w (w.alloc (.cells (inC x) 44))) := below_new1 _ _
  have hq : ∀ W, (Op.equalIn 10000 44 (.agg (inC x)) (.agg (inC in0))).run Try.prog W = .ok (decide (x = in0)) W := eq_rino 9995 x in0
  rw [hx0] at hq
  have hqr : ∀ W, (Op.equalIn 10000 40 (.agg (va 33 (rfF x.r.1 x.r.2))) (.agg (rfC rf0))).run Try.prog W = .ok (decide (x.r = rf0)) W := eq_rrf 9997 x.r rf0
  rw [hbr] at hqr
  have q0 : ∀ m, ((w.alloc (.cells (inC x) 44)).drewN m).rangeAt w.heap.size 5 ((List.range 33).map (rfF x.r.1 x.r.2)) := fun m => by
    have h := World.rangeAt_of_block (w := (w.alloc (.cells (inC x) 44)).drewN m) (b := w.heap.size) r0 5 33
    rw [in_ref] at h
    unfold rfC at h
    rwa [va_toList] at h
  have c0 := ino_c0 r0
  have c1 := ino_c1 r0
  have c2 := ino_c2 r0
  have c4 := ino_c4 r0
  have c5 := ino_c5 r0
  rw [hk] at c0
  rw [hl] at c1
  rw [hs] at c2
  rw [hh] at c4
  rw [hn] at c5
  clear hk hl hs hh hn hx0 hbr
  go_enter Try.func27, Try.ntmps27
  go_wp2_with (first | (refine wpList_load_row (by rfl) 44 _ (by rfl) (w.heap.size) (by rfl) 44 (inC x) (0, 0) _ (by exact r0) Try.underlying44 (by rfl) (sizeRIno.trans (by rw [inC_size])) ?_; simp only [Act.put, List.setIfInBounds_toArray, List.set_cons_zero, List.set_cons_succ]) | (refine wpList_skip (by rfl) ?_; simp only [Act.put, List.setIfInBounds_toArray, List.set_cons_zero, List.set_cons_succ]) | fail)
  go_quiet ((go_at_call 16; exact Calls.quiet_of_same (HS.out _)))
  go_wp2_with (first | (refine wpList_load_blk (by rfl) 40 _ (by rfl) (w.heap.size) 5 33 (rfF x.r.1 x.r.2) (by rfl) _ (q0 _) Try.underlying40 rfl sizeRRf ?_; simp only [Act.put, List.setIfInBounds_toArray, List.set_cons_zero, List.set_cons_succ]) | (refine wpList_skip (by rfl) ?_; simp only [Act.put, List.setIfInBounds_toArray, List.set_cons_zero, List.set_cons_succ]) | fail)
  go_ret
  exact ⟨by first | rfl | simp, io_dN HB.out _⟩
set_option maxHeartbeats 1000000 in
theorem rck_1a (x : Ino) (w : World) (k : Int) (l s h H : Int) (n : Nat) (br : Bool) (hk : x.k = k) (hl : x.l = l) (hs : x.s = s) (hh : x.h = h) (hn : x.r.1 = n) (hbr : decide (x.r = rf0) = br) (hx0 : decide (x = in0) = false)
    (HS : Hid (∀ w : World, Calls Try.prog 16 #[.int .i64 s] w fun e w' => e = .returned (.int .i64 H) ∧ w' = w)) (e1 : ¬ (k ≠ 1)) (e2 : ¬ k = 2) (l1 : ¬ l < 1) (l2 : ¬ 1000 < l) (s1 : ¬ s < 0) (s2 : ¬ 1048576 < s) (h1 : h = H) (a1 : (8192 : Int) ≤ (n : Int)) : Calls Try.prog 27 #[.agg (inC x)] w fun e w' => e = .returned (.bool (false)) ∧ Below w.heap.size w w' := by
  have hz := zero_rino
  have hzr := zero_rrf
  have r0 : Blk (w.alloc (.cells (inC x) 44)) w.heap.size 44 (inC x) := Blk.new _ _ _
  have HB : Hid (Below w.heap.size w (w.alloc (.cells (inC x) 44))) := below_new1 _ _
  have hq : ∀ W, (Op.equalIn 10000 44 (.agg (inC x)) (.agg (inC in0))).run Try.prog W = .ok (decide (x = in0)) W := eq_rino 9995 x in0
  rw [hx0] at hq
  have hqr : ∀ W, (Op.equalIn 10000 40 (.agg (va 33 (rfF x.r.1 x.r.2))) (.agg (rfC rf0))).run Try.prog W = .ok (decide (x.r = rf0)) W := eq_rrf 9997 x.r rf0
  rw [hbr] at hqr
  have q0 : ∀ m, ((w.alloc (.cells (inC x) 44)).drewN m).rangeAt w.heap.size 5 ((List.range 33).map (rfF x.r.1 x.r.2)) := fun m => by
    have h := World.rangeAt_of_block (w := (w.alloc (.cells (inC x) 44)).drewN m) (b := w.heap.size) r0 5 33
    rw [in_ref] at h
    unfold rfC at h
    rwa [va_toList] at h
  have c0 := ino_c0 r0
  have c1 := ino_c1 r0
  have c2 := ino_c2 r0
  have c4 := ino_c4 r0
  have c5 := ino_c5 r0
  rw [hk] at c0
  rw [hl] at c1
  rw [hs] at c2
  rw [hh] at c4
  rw [hn] at c5
  clear hk hl hs hh hn hx0 hbr
  subst h1
  go_enter Try.func27, Try.ntmps27
  go_wp2_with (first | (refine wpList_load_row (by rfl) 44 _ (by rfl) (w.heap.size) (by rfl) 44 (inC x) (0, 0) _ (by exact r0) Try.underlying44 (by rfl) (sizeRIno.trans (by rw [inC_size])) ?_; simp only [Act.put, List.setIfInBounds_toArray, List.set_cons_zero, List.set_cons_succ]) | (refine wpList_skip (by rfl) ?_; simp only [Act.put, List.setIfInBounds_toArray, List.set_cons_zero, List.set_cons_succ]) | fail)
  go_quiet ((go_at_call 16; exact Calls.quiet_of_same (HS.out _)))
  go_wp2_with (first | (refine wpList_load_blk (by rfl) 40 _ (by rfl) (w.heap.size) 5 33 (rfF x.r.1 x.r.2) (by rfl) _ (q0 _) Try.underlying40 rfl sizeRRf ?_; simp only [Act.put, List.setIfInBounds_toArray, List.set_cons_zero, List.set_cons_succ]) | (refine wpList_skip (by rfl) ?_; simp only [Act.put, List.setIfInBounds_toArray, List.set_cons_zero, List.set_cons_succ]) | fail)
  go_ret
  exact ⟨by first | rfl | simp, io_dN HB.out _⟩
set_option maxHeartbeats 1000000 in
theorem rck_1r (x : Ino) (w : World) (k : Int) (l s h H : Int) (n : Nat) (z : Int) (hk : x.k = k) (hl : x.l = l) (hs : x.s = s) (hh : x.h = h) (hn : x.r.1 = n) (hbr : decide (x.r = rf0) = (z == 1)) (hx0 : decide (x = in0) = false)
    (HS : Hid (∀ w : World, Calls Try.prog 16 #[.int .i64 s] w fun e w' => e = .returned (.int .i64 H) ∧ w' = w)) (e1 : ¬ (k ≠ 1)) (e2 : ¬ k = 2) (l1 : ¬ l < 1) (l2 : ¬ 1000 < l) (s1 : ¬ s < 0) (s2 : ¬ 1048576 < s) (h1 : h = H) (a1 : ¬ (8192 : Int) ≤ (n : Int)) (e3 : ¬ (z ≠ 1)) : Calls Try.prog 27 #[.agg (inC x)] w fun e w' => e = .returned (.bool (true)) ∧ Below w.heap.size w w' := by
  have hz := zero_rino
  have hzr := zero_rrf
  have r0 : Blk (w.alloc (.cells (inC x) 44)) w.heap.size 44 (inC x) := Blk.new _ _ _
  have HB : Hid (Below w.heap.size w (w.alloc (.cells (inC x) 44))) := below_new1 _ _
  have hq : ∀ W, (Op.equalIn 10000 44 (.agg (inC x)) (.agg (inC in0))).run Try.prog W = .ok (decide (x = in0)) W := eq_rino 9995 x in0
  rw [hx0] at hq
  have hqr : ∀ W, (Op.equalIn 10000 40 (.agg (va 33 (rfF x.r.1 x.r.2))) (.agg (rfC rf0))).run Try.prog W = .ok (decide (x.r = rf0)) W := eq_rrf 9997 x.r rf0
  rw [hbr] at hqr
  have q0 : ∀ m, ((w.alloc (.cells (inC x) 44)).drewN m).rangeAt w.heap.size 5 ((List.range 33).map (rfF x.r.1 x.r.2)) := fun m => by
    have h := World.rangeAt_of_block (w := (w.alloc (.cells (inC x) 44)).drewN m) (b := w.heap.size) r0 5 33
    rw [in_ref] at h
    unfold rfC at h
    rwa [va_toList] at h
  have c0 := ino_c0 r0
  have c1 := ino_c1 r0
  have c2 := ino_c2 r0
  have c4 := ino_c4 r0
  have c5 := ino_c5 r0
  rw [hk] at c0
  rw [hl] at c1
  rw [hs] at c2
  rw [hh] at c4
  rw [hn] at c5
  clear hk hl hs hh hn hx0 hbr
  subst h1
  go_enter Try.func27, Try.ntmps27
  go_wp2_with (first | (refine wpList_load_row (by rfl) 44 _ (by rfl) (w.heap.size) (by rfl) 44 (inC x) (0, 0) _ (by exact r0) Try.underlying44 (by rfl) (sizeRIno.trans (by rw [inC_size])) ?_; simp only [Act.put, List.setIfInBounds_toArray, List.set_cons_zero, List.set_cons_succ]) | (refine wpList_skip (by rfl) ?_; simp only [Act.put, List.setIfInBounds_toArray, List.set_cons_zero, List.set_cons_succ]) | fail)
  go_quiet ((go_at_call 16; exact Calls.quiet_of_same (HS.out _)))
  go_wp2_with (first | (refine wpList_load_blk (by rfl) 40 _ (by rfl) (w.heap.size) 5 33 (rfF x.r.1 x.r.2) (by rfl) _ (q0 _) Try.underlying40 rfl sizeRRf ?_; simp only [Act.put, List.setIfInBounds_toArray, List.set_cons_zero, List.set_cons_succ]) | (refine wpList_skip (by rfl) ?_; simp only [Act.put, List.setIfInBounds_toArray, List.set_cons_zero, List.set_cons_succ]) | fail)
  go_ret
  have e4 : z = 1 := by omega
  exact ⟨by rw [e4]; rfl, io_dN HB.out _⟩
set_option maxHeartbeats 1000000 in
theorem rck_1z (x : Ino) (w : World) (k : Int) (l s h H : Int) (n : Nat) (br : Bool) (hk : x.k = k) (hl : x.l = l) (hs : x.s = s) (hh : x.h = h) (hn : x.r.1 = n) (hbr : decide (x.r = rf0) = br) (hx0 : decide (x = in0) = false)
    (HS : Hid (∀ w : World, Calls Try.prog 16 #[.int .i64 s] w fun e w' => e = .returned (.int .i64 H) ∧ w' = w)) (e1 : ¬ (k ≠ 1)) (e2 : ¬ k = 2) (l1 : ¬ l < 1) (l2 : ¬ 1000 < l) (s1 : ¬ s < 0) (s2 : ¬ 1048576 < s) (h1 : h = H) (a1 : ¬ (8192 : Int) ≤ (n : Int)) (b1 : br = false) (n1 : (n : Int) = 0) : Calls Try.prog 27 #[.agg (inC x)] w fun e w' => e = .returned (.bool (false)) ∧ Below w.heap.size w w' := by
  have hz := zero_rino
  have hzr := zero_rrf
  have r0 : Blk (w.alloc (.cells (inC x) 44)) w.heap.size 44 (inC x) := Blk.new _ _ _
  have HB : Hid (Below w.heap.size w (w.alloc (.cells (inC x) 44))) := below_new1 _ _
  have hq : ∀ W, (Op.equalIn 10000 44 (.agg (inC x)) (.agg (inC in0))).run Try.prog W = .ok (decide (x = in0)) W := eq_rino 9995 x in0
  rw [hx0] at hq
  have hqr : ∀ W, (Op.equalIn 10000 40 (.agg (va 33 (rfF x.r.1 x.r.2))) (.agg (rfC rf0))).run Try.prog W = .ok (decide (x.r = rf0)) W := eq_rrf 9997 x.r rf0
  rw [hbr] at hqr
  have q0 : ∀ m, ((w.alloc (.cells (inC x) 44)).drewN m).rangeAt w.heap.size 5 ((List.range 33).map (rfF x.r.1 x.r.2)) := fun m => by
    have h := World.rangeAt_of_block (w := (w.alloc (.cells (inC x) 44)).drewN m) (b := w.heap.size) r0 5 33
    rw [in_ref] at h
    unfold rfC at h
    rwa [va_toList] at h
  have c0 := ino_c0 r0
  have c1 := ino_c1 r0
  have c2 := ino_c2 r0
  have c4 := ino_c4 r0
  have c5 := ino_c5 r0
  rw [hk] at c0
  rw [hl] at c1
  rw [hs] at c2
  rw [hh] at c4
  rw [hn] at c5
  clear hk hl hs hh hn hx0 hbr
  subst h1
  subst b1
  go_enter Try.func27, Try.ntmps27
  go_wp2_with (first | (refine wpList_load_row (by rfl) 44 _ (by rfl) (w.heap.size) (by rfl) 44 (inC x) (0, 0) _ (by exact r0) Try.underlying44 (by rfl) (sizeRIno.trans (by rw [inC_size])) ?_; simp only [Act.put, List.setIfInBounds_toArray, List.set_cons_zero, List.set_cons_succ]) | (refine wpList_skip (by rfl) ?_; simp only [Act.put, List.setIfInBounds_toArray, List.set_cons_zero, List.set_cons_succ]) | fail)
  go_quiet ((go_at_call 16; exact Calls.quiet_of_same (HS.out _)))
  go_wp2_with (first | (refine wpList_load_blk (by rfl) 40 _ (by rfl) (w.heap.size) 5 33 (rfF x.r.1 x.r.2) (by rfl) _ (q0 _) Try.underlying40 rfl sizeRRf ?_; simp only [Act.put, List.setIfInBounds_toArray, List.set_cons_zero, List.set_cons_succ]) | (refine wpList_skip (by rfl) ?_; simp only [Act.put, List.setIfInBounds_toArray, List.set_cons_zero, List.set_cons_succ]) | fail)
  go_ret
  exact ⟨by first | rfl | simp, io_dN HB.out _⟩
set_option maxHeartbeats 1000000 in
theorem rck_1t (x : Ino) (w : World) (k : Int) (l s h H : Int) (n : Nat) (br : Bool) (hk : x.k = k) (hl : x.l = l) (hs : x.s = s) (hh : x.h = h) (hn : x.r.1 = n) (hbr : decide (x.r = rf0) = br) (hx0 : decide (x = in0) = false)
    (HS : Hid (∀ w : World, Calls Try.prog 16 #[.int .i64 s] w fun e w' => e = .returned (.int .i64 H) ∧ w' = w)) (e1 : ¬ (k ≠ 1)) (e2 : ¬ k = 2) (l1 : ¬ l < 1) (l2 : ¬ 1000 < l) (s1 : ¬ s < 0) (s2 : ¬ 1048576 < s) (h1 : h = H) (a1 : ¬ (8192 : Int) ≤ (n : Int)) (b1 : br = false) (n1 : ¬ (n : Int) = 0) : Calls Try.prog 27 #[.agg (inC x)] w fun e w' => e = .returned (.bool (decide (¬ s = 0))) ∧ Below w.heap.size w w' := by
  have hz := zero_rino
  have hzr := zero_rrf
  have r0 : Blk (w.alloc (.cells (inC x) 44)) w.heap.size 44 (inC x) := Blk.new _ _ _
  have HB : Hid (Below w.heap.size w (w.alloc (.cells (inC x) 44))) := below_new1 _ _
  have hq : ∀ W, (Op.equalIn 10000 44 (.agg (inC x)) (.agg (inC in0))).run Try.prog W = .ok (decide (x = in0)) W := eq_rino 9995 x in0
  rw [hx0] at hq
  have hqr : ∀ W, (Op.equalIn 10000 40 (.agg (va 33 (rfF x.r.1 x.r.2))) (.agg (rfC rf0))).run Try.prog W = .ok (decide (x.r = rf0)) W := eq_rrf 9997 x.r rf0
  rw [hbr] at hqr
  have q0 : ∀ m, ((w.alloc (.cells (inC x) 44)).drewN m).rangeAt w.heap.size 5 ((List.range 33).map (rfF x.r.1 x.r.2)) := fun m => by
    have h := World.rangeAt_of_block (w := (w.alloc (.cells (inC x) 44)).drewN m) (b := w.heap.size) r0 5 33
    rw [in_ref] at h
    unfold rfC at h
    rwa [va_toList] at h
  have c0 := ino_c0 r0
  have c1 := ino_c1 r0
  have c2 := ino_c2 r0
  have c4 := ino_c4 r0
  have c5 := ino_c5 r0
  rw [hk] at c0
  rw [hl] at c1
  rw [hs] at c2
  rw [hh] at c4
  rw [hn] at c5
  clear hk hl hs hh hn hx0 hbr
  subst h1
  subst b1
  go_enter Try.func27, Try.ntmps27
  go_wp2_with (first | (refine wpList_load_row (by rfl) 44 _ (by rfl) (w.heap.size) (by rfl) 44 (inC x) (0, 0) _ (by exact r0) Try.underlying44 (by rfl) (sizeRIno.trans (by rw [inC_size])) ?_; simp only [Act.put, List.setIfInBounds_toArray, List.set_cons_zero, List.set_cons_succ]) | (refine wpList_skip (by rfl) ?_; simp only [Act.put, List.setIfInBounds_toArray, List.set_cons_zero, List.set_cons_succ]) | fail)
  go_quiet ((go_at_call 16; exact Calls.quiet_of_same (HS.out _)))
  go_wp2_with (first | (refine wpList_load_blk (by rfl) 40 _ (by rfl) (w.heap.size) 5 33 (rfF x.r.1 x.r.2) (by rfl) _ (q0 _) Try.underlying40 rfl sizeRRf ?_; simp only [Act.put, List.setIfInBounds_toArray, List.set_cons_zero, List.set_cons_succ]) | (refine wpList_skip (by rfl) ?_; simp only [Act.put, List.setIfInBounds_toArray, List.set_cons_zero, List.set_cons_succ]) | fail)
  go_ret
  refine ⟨?_, io_dN HB.out _⟩
  have n2 : ¬ n = 0 := by omega
  by_cases s0 : s = 0 <;> simp [s0, n2]
end Go.Proofs.Ytpoaipoadokggaa
