/- A nil map of bits: the contracts of its calls; a bit is set (awake); the walk of the statement on nil maps. -/
import Derived.Test.YtkaaenkhiooomaaDoorHBiSeek
import Derived.Handy

namespace Go.Proofs.YtkaaenkhiooomaaDoor
open Go Go.RowKit
set_option linter.unusedVariables false
set_option linter.unusedSimpArgs false
theorem nsize  (w : World) : Calls Tryd.prog 28 #[.pointer none] w fun e w' => e = .returned (.int .i64 0) ∧ w' = w := by
  go_enter Tryd.func28, Tryd.ntmps28
  go_wp2_with fail
  go_ret
  exact ⟨rfl, rfl⟩
theorem ninside (p : Int) (w : World) : Calls Tryd.prog 36 #[.pointer none, .int .i64 p] w fun e w' => e = .returned (.bool false) ∧ w' = w := by
  by_cases h : 0 ≤ p
  · have h1 : ¬ (p < 0) := by omega
    go_enter Tryd.func36, Tryd.ntmps36
    go_wp2_with fail
    refine (nsize _).mono ?_
    rintro e w' ⟨rfl, rfl⟩
    go_wp2_with fail
    go_ret
    exact ⟨by simp; try omega, rfl⟩
  · have h1 : ¬ (0 ≤ p) := by omega
    go_enter Tryd.func36, Tryd.ntmps36
    go_wp2_with fail
    go_ret
    exact ⟨rfl, rfl⟩
theorem nhas (p : Int) (w : World) : Calls Tryd.prog 30 #[.pointer none, .int .i64 p] w fun e w' => e = .returned (.bool false) ∧ ∃ m, w' = w.drewN m := by
  have HI : Hid (∀ m, Calls Tryd.prog 36 #[.pointer none, .int .i64 p] (w.drewN m) fun e w' => e = .returned (.bool false) ∧ w' = (w.drewN m)) := fun m => ninside p _
  go_enter Tryd.func30, Tryd.ntmps30
  go_wp2_with fail
  go_quiet ((go_at_call 36; exact Calls.quiet_of_same (HI.out _)))
  go_wp2_with fail
  go_ret
  exact ⟨rfl, _, rfl⟩
theorem nset (p : Int) (w : World) : Calls Tryd.prog 21 #[.pointer none, .int .i64 p] w fun e w' => e = .returned (.bool false) ∧ w' = w := by
  go_enter Tryd.func21, Tryd.ntmps21
  go_wp2_with fail
  refine (ninside p _).mono ?_
  rintro e w' ⟨rfl, rfl⟩
  go_wp2_with fail
  go_ret
  exact ⟨rfl, rfl⟩
theorem nclear (p : Int) (w : World) : Calls Tryd.prog 22 #[.pointer none, .int .i64 p] w fun e w' => e = .returned (.bool false) ∧ ∃ m, w' = w.drewN m := by
  go_enter Tryd.func22, Tryd.ntmps22
  go_wp2_with fail
  refine (nhas p _).mono ?_
  rintro e w2 ⟨rfl, md, rfl⟩
  go_wp2_with fail
  go_ret
  exact ⟨rfl, md, rfl⟩
theorem nfill (p q : Int) (w : World) : Calls Tryd.prog 31 #[.pointer none, .int .i64 p, .int .i64 q] w fun e w' => e = .returned (.int .i64 90) ∧ w' = w := by
  go_enter Tryd.func31, Tryd.ntmps31
  go_wp2_with fail
  go_ret
  exact ⟨rfl, rfl⟩
theorem ncount  (w : World) : Calls Tryd.prog 29 #[.pointer none] w fun e w' => e = .returned (.int .i64 0) ∧ w' = w := by
  go_enter Tryd.func29, Tryd.ntmps29
  go_wp2_with fail
  go_ret
  exact ⟨rfl, rfl⟩
theorem nseek (p : Int) (tn : Int) (w : World) : Calls Tryd.prog 50 #[.pointer none, .int .i64 p, .int .u64 tn] w fun e w' => e = .returned (.int .i64 (-1)) ∧ w' = w := by
  by_cases h : p < 0
  · go_enter Tryd.func50, Tryd.ntmps50
    go_wp2_with fail
    refine (ninside 0 _).mono ?_
    rintro e w' ⟨rfl, rfl⟩
    go_wp2_with fail
    go_ret
    exact ⟨rfl, rfl⟩
  · have h1 : 0 ≤ p := by omega
    go_enter Tryd.func50, Tryd.ntmps50
    go_wp2_with fail
    refine (ninside p _).mono ?_
    rintro e w' ⟨rfl, rfl⟩
    go_wp2_with fail
    go_ret
    exact ⟨rfl, rfl⟩
theorem nfree (p : Int) (w : World) : Calls Tryd.prog 32 #[.pointer none, .int .i64 p] w fun e w' => e = .returned (.int .i64 (-1)) ∧ w' = w := by
  go_enter Tryd.func32, Tryd.ntmps32
  go_wp2_with fail
  refine (nseek p _ _).mono ?_
  rintro e w' ⟨rfl, rfl⟩
  go_wp2_with fail
  go_ret
  exact ⟨rfl, rfl⟩
theorem nnext (p : Int) (w : World) : Calls Tryd.prog 33 #[.pointer none, .int .i64 p] w fun e w' => e = .returned (.int .i64 (-1)) ∧ w' = w := by
  go_enter Tryd.func33, Tryd.ntmps33
  go_wp2_with fail
  refine (nseek p _ _).mono ?_
  rintro e w' ⟨rfl, rfl⟩
  go_wp2_with fail
  go_ret
  exact ⟨rfl, rfl⟩
set_option maxHeartbeats 1000000 in
theorem nruns (w : World) : Calls Tryd.prog 34 #[.pointer none] w fun e w' => e = .returned (.slice none 0 0) ∧ w' = w := by
  go_enter Tryd.func34, Tryd.ntmps34
  go_wp2_with fail
  refine (nnext 0 _).mono ?_
  rintro e w' ⟨rfl, rfl⟩
  go_wp2_with fail
  go_loop [3, 4] (fun l f => l = .slice none 0 0 ∧ f = .int .i64 (-1)) (fun _ _ => 0)
  case atStart => exact ⟨rfl, rfl⟩
  case round =>
    obtain ⟨rfl, rfl⟩ := hrel
    go_wp2_with fail
    go_ret
    exact ⟨rfl, rfl⟩
set_option maxHeartbeats 1000000 in
theorem nleaves (w : World) : Calls Tryd.prog 23 #[.pointer none] w fun e w' => e = .returned (.slice none 0 0) ∧ w' = w := by
  have hz : lvN 0 = 0 := by decide
  have HV := leaves_any 0 (by decide)
  rw [hz] at HV
  have HW : Hid (∀ w : World, Calls Tryd.prog 45 #[.int .i64 0] w fun e w' => e = .returned (.int .i64 0) ∧ w' = w) := HV
  clear HV
  go_enter Tryd.func23, Tryd.ntmps23
  go_wp2_with fail
  refine (nsize _).mono ?_
  rintro e w' ⟨rfl, rfl⟩
  go_wp2_with fail
  refine (HW.out _).mono ?_
  rintro e w' ⟨rfl, rfl⟩
  go_wp2_with fail
  go_loop [3, 8] (fun l f => l = .slice none 0 0 ∧ f = .int .i64 0) (fun _ _ => 0)
  case atStart => exact ⟨rfl, rfl⟩
  case round =>
    obtain ⟨rfl, rfl⟩ := hrel
    go_wp2_with fail
    go_ret
    exact ⟨rfl, rfl⟩
theorem nclone  (w : World) : Calls Tryd.prog 20 #[.pointer none] w fun e w' => e = .returned (.pointer none) ∧ w' = w := by
  go_enter Tryd.func20, Tryd.ntmps20
  go_wp2_with fail
  go_ret
  exact ⟨rfl, rfl⟩
theorem nwith (g : Nat) (v : Value) (w : World) : Calls Tryd.prog 38 #[.pointer none, .pointer (some ⟨g, 0, none⟩), v] w fun e w' => e = .returned (.tuple #[.pointer none, .int .i64 110]) ∧ ∃ m, w' = w.drewN m := by
  go_enter Tryd.func38, Tryd.ntmps38
  go_wp2_with fail
  go_quiet (fail)
  go_wp2_with fail
  go_ret2
  exact ⟨rfl, _, rfl⟩
theorem nwith2 (v : Value) (w : World) : Calls Tryd.prog 38 #[.pointer none, .pointer none, v] w fun e w' => e = .returned (.tuple #[.pointer none, .int .i64 1]) ∧ w' = w := by
  go_enter Tryd.func38, Tryd.ntmps38
  go_wp2_with fail
  go_ret2
  exact ⟨rfl, rfl⟩
theorem neither (g : Nat) (w : World) : Calls Tryd.prog 16 #[.pointer none, .pointer (some ⟨g, 0, none⟩)] w fun e w' => e = .returned (.tuple #[.pointer none, .int .i64 110]) ∧ ∃ m, w' = w.drewN m := by
  go_enter Tryd.func16, Tryd.ntmps16
  go_wp2_with fail
  refine (nwith g _ _).mono ?_
  rintro e w2 ⟨rfl, md, rfl⟩
  go_wp2_with fail
  go_ret2
  exact ⟨rfl, md, rfl⟩
theorem ncross (g : Nat) (w : World) : Calls Tryd.prog 18 #[.pointer none, .pointer (some ⟨g, 0, none⟩)] w fun e w' => e = .returned (.tuple #[.pointer none, .int .i64 110]) ∧ ∃ m, w' = w.drewN m := by
  go_enter Tryd.func18, Tryd.ntmps18
  go_wp2_with fail
  refine (nwith g _ _).mono ?_
  rintro e w2 ⟨rfl, md, rfl⟩
  go_wp2_with fail
  go_ret2
  exact ⟨rfl, md, rfl⟩
theorem nless (w : World) : Calls Tryd.prog 17 #[.pointer none, .pointer none] w fun e w' => e = .returned (.tuple #[.pointer none, .int .i64 1]) ∧ w' = w := by
  go_enter Tryd.func17, Tryd.ntmps17
  go_wp2_with fail
  refine (nwith2 _ _).mono ?_
  rintro e w2 ⟨rfl, rfl⟩
  go_wp2_with fail
  go_ret2
  exact ⟨rfl, rfl⟩
theorem nsame0 (w : World) : Calls Tryd.prog 19 #[.pointer none, .pointer none] w fun e w' => e = .returned (.bool true) ∧ w' = w := by
  go_enter Tryd.func19, Tryd.ntmps19
  go_wp2_with fail
  go_ret
  exact ⟨rfl, rfl⟩
theorem eq_none_in (d g : Nat) (w : World) : (Op.equalIn (d + 1) 23 (.pointer none) (.pointer (some ⟨g, 0, none⟩))).run Tryd.prog w = .ok false w := by
  simp [Op.equalIn, run_underlying Tryd.underlying23]
theorem eq_none (g : Nat) (w : World) : Sem.run Tryd.prog (binOp .eql 23 (.pointer none) (.pointer (some ⟨g, 0, none⟩))) w = .ok (.bool false) w := by
  simp only [binOp]
  simp [show Op.equal 23 (.pointer none) (.pointer (some ⟨g, 0, none⟩)) = Op.equalIn (9999 + 1) 23 (.pointer none) (.pointer (some ⟨g, 0, none⟩)) from rfl, eq_none_in 9999 g w]
theorem nsame1 (g : Nat) (w : World) : Calls Tryd.prog 19 #[.pointer none, .pointer (some ⟨g, 0, none⟩)] w fun e w' => e = .returned (.bool false) ∧ w' = w := by
  have hq := eq_none g
  go_enter Tryd.func19, Tryd.ntmps19
  go_wp2_with fail
  go_ret
  exact ⟨rfl, rfl⟩
theorem cnt_three : cntF (bitF (putW (fun _ => 0) 3)) 16 = 1 := by decide
set_option maxHeartbeats 1000000 in
theorem awake11_any (w : World) : Calls Tryd.prog 10 #[] w fun e w' => e = .returned (.bool true) ∧ Below w.heap.size w w' := by
  have HN : Hid (Calls Tryd.prog 27 #[.int .i64 16] w fun e w' => ∃ g b c, e = .returned (.tuple #[.pointer (some ⟨g, 0, none⟩), .int .i64 0]) ∧ BM w' w.heap.size g 16 b c (fun _ => 0) ∧ Below w.heap.size w w') := newM_ok 16 (by decide) (by decide) w
  go_enter Tryd.func10, Tryd.ntmps10
  go_wp2_with fail
  refine HN.out.mono ?_
  rintro e w1 ⟨g, b, c, rfl, h1, hb1⟩
  have HS : Hid (Calls Tryd.prog 21 #[.pointer (some ⟨g, 0, none⟩), .int .i64 3] w1 fun e w' => e = .returned (.bool true) ∧ BM w' w.heap.size g 16 b c (putW (fun _ => 0) 3) ∧ Only b w1 w') := set_new w1 h1 3 (by decide) (by decide)
  go_wp2_with fail
  refine HS.out.mono ?_
  rintro e w2 ⟨rfl, h2, ho2⟩
  have hb2 : Below w.heap.size w w2 := hb1.trans (ho2.below hb1.size h1.blt.1)
  have HH : Hid (Calls Tryd.prog 30 #[.pointer (some ⟨g, 0, none⟩), .int .i64 3] w2 fun e w' => e = .returned (.bool true) ∧ ∃ m, w' = w2.drewN m) := by
    have := has_yes w2 h2 3 (by decide)
    rw [show bitF (putW (fun _ => 0) 3) 3 = true from by decide] at this
    exact this
  go_wp2_with fail
  refine HH.out.mono ?_
  rintro e w3 ⟨rfl, md, rfl⟩
  have HC : Hid (Calls Tryd.prog 29 #[.pointer (some ⟨g, 0, none⟩)] (w2.drewN md) fun e w' => e = .returned (.int .i64 1) ∧ w' = w2.drewN md) := by
    have := count_any _ (h2.dN md)
    rw [cnt_three] at this
    exact this
  have hb3 : Below w.heap.size w (w2.drewN md) := below_dN hb2 md
  clear h1 h2 ho2 hb2 hb1
  generalize w2.drewN md = w3 at *
  go_wp2_with fail
  refine HC.out.mono ?_
  rintro e w4 ⟨rfl, rfl⟩
  go_wp2_with fail
  go_ret
  exact ⟨rfl, hb3⟩
set_option maxHeartbeats 4000000 in
theorem bitsNilLaw (p q : Int) (w : World) : Calls Tryd.prog 8 #[.int .i64 p, .int .i64 q] w fun e w' => e = .returned (.bool true) ∧ Below w.heap.size w w' := by
  have HN : Hid (Calls Tryd.prog 27 #[.int .i64 16] w fun e w' => ∃ g b c, e = .returned (.tuple #[.pointer (some ⟨g, 0, none⟩), .int .i64 0]) ∧ BM w' w.heap.size g 16 b c (fun _ => 0) ∧ Below w.heap.size w w') := newM_ok 16 (by decide) (by decide) w
  go_enter Tryd.func8, Tryd.ntmps8
  go_wp2_with fail
  refine HN.out.mono ?_
  rintro e w1 ⟨g, b, c, rfl, h1, hb⟩
  clear h1 HN
  go_wp2_with fail
  refine (neither g _).mono ?_
  rintro e w' ⟨rfl, md, rfl⟩
  replace hb := below_dN hb md
  generalize hgen : World.drewN _ md = v0 at *
  clear hgen
  go_wp2_with fail
  refine (nless _).mono ?_
  rintro e w' ⟨rfl, rfl⟩
  go_wp2_with fail
  refine (ncross g _).mono ?_
  rintro e w' ⟨rfl, md, rfl⟩
  replace hb := below_dN hb md
  generalize hgen : World.drewN _ md = v2 at *
  clear hgen
  go_wp2_with fail
  refine (awake11_any _).mono ?_
  rintro e v3 ⟨rfl, hbx⟩
  replace hb := hb.trans (hbx.mono hb.size)
  clear hbx
  go_wp2_with fail
  refine (nsize _).mono ?_
  rintro e w' ⟨rfl, rfl⟩
  go_wp2_with fail
  refine (ncount _).mono ?_
  rintro e w' ⟨rfl, rfl⟩
  go_wp2_with fail
  refine (nhas p _).mono ?_
  rintro e w' ⟨rfl, md, rfl⟩
  replace hb := below_dN hb md
  generalize hgen : World.drewN _ md = v6 at *
  clear hgen
  go_wp2_with fail
  refine (nset p _).mono ?_
  rintro e w' ⟨rfl, rfl⟩
  go_wp2_with fail
  refine (nclear p _).mono ?_
  rintro e w' ⟨rfl, md, rfl⟩
  replace hb := below_dN hb md
  generalize hgen : World.drewN _ md = v8 at *
  clear hgen
  go_wp2_with fail
  refine (nfill p q _).mono ?_
  rintro e w' ⟨rfl, rfl⟩
  go_wp2_with fail
  refine (nfree p _).mono ?_
  rintro e w' ⟨rfl, rfl⟩
  go_wp2_with fail
  refine (nnext p _).mono ?_
  rintro e w' ⟨rfl, rfl⟩
  go_wp2_with fail
  refine (nruns _).mono ?_
  rintro e w' ⟨rfl, rfl⟩
  go_wp2_with fail
  refine (nleaves _).mono ?_
  rintro e w' ⟨rfl, rfl⟩
  go_wp2_with fail
  refine (nclone _).mono ?_
  rintro e w' ⟨rfl, rfl⟩
  go_wp2_with fail
  refine (nsame0 _).mono ?_
  rintro e w' ⟨rfl, rfl⟩
  go_wp2_with fail
  refine (nsame1 g _).mono ?_
  rintro e w' ⟨rfl, rfl⟩
  go_wp2_with fail
  go_ret
  exact ⟨rfl, hb⟩
end Go.Proofs.YtkaaenkhiooomaaDoor
