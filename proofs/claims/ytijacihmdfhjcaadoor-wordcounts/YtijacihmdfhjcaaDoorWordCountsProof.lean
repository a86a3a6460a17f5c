/- Proved: for every word x and every number n of 64 bits the statement WordCounts, called with them, returns true, and both read behind the call as they did before. Its condition: Go's own table math/bits.deBruijn64tab holds, when the call begins, what its initialiser lays; the card ties that to the program's text. -/
import Derived.Test.YtijacihmdfhjcaaDoorRows
import Derived.Test.YtijacihmdfhjcaaDoorTie
import Derived.Test.YtijacihmdfhjcaaDoorCards
import Derived.Test.YtijacihmdfhjcaaDoorCounts
import Derived.Test.YtijacihmdfhjcaaDoorTurnedRef
import Derived.WalkKit
import Derived.ProofKit
import Derived.OpenShut
import Derived.LaidMore
import Derived.Stop.Joined
import Derived.Lib.LaidTab
import Derived.SevenTiedAt
namespace Go.Proofs.YtijacihmdfhjcaaDoor.wordCounts
open Go.ChangeShapes Go.WideShapes Go.ChangeAt Go.RowKit
set_option linter.unusedVariables false

theorem own : ownKnob Tryd.prog.godebug = none := by kernel_rfl

def Hd (p : Prop) : Prop := p
theorem unhide {p : Prop} (h : Hd p) : p := h
def Gives (f : Nat) (args : Array Value) (v : Value) : Prop := ∀ w : World, Calls Tryd.prog f args w fun e w' => e = .returned v ∧ Below w.heap.size w w'
theorem gives_same {f : Nat} {args : Array Value} {v : Value} (h : ∀ w : World, Calls Tryd.prog f args w fun e w' => e = .returned v ∧ w' = w) : Gives f args v := by
  intro w
  refine (h w).mono ?_
  rintro e w' ⟨rfl, rfl⟩
  exact ⟨rfl, Below.refl _ _⟩
theorem tab_below {w w' : World} (hT : TabAt w) (h0 : 0 < w.heap.size) (hb : Below w.heap.size w w') : TabAt w' := fun j hj => (hb.cell (p := ⟨0, j, none⟩) h0).trans (hT j hj)

set_option maxHeartbeats 1000000 in
theorem core (x : Nat) (a1 : Int) (hx : x < 18446744073709551616) (r e : Int) (e0 : 0 ≤ e) (e1 : e ≤ 11)
    (H4 : Hd (Gives 4 #[.int .u64 (x : Int), .int .i64 a1] (.tuple #[.int .u64 r, .int .i64 e])))
    (H5 : Hd (Gives 5 #[.int .u64 (x : Int), .int .i64 a1] (.tuple #[.int .u64 r, .int .i64 e])))
    (w : World) (hT : TabAt w) (h0 : 0 < w.heap.size) :
    Calls Tryd.prog 3 #[.int .u64 (x : Int), .int .i64 a1] w fun e w' => e = .returned (.bool true) ∧ Below w.heap.size w w' := by
  go_enter Tryd.func3, Tryd.ntmps3
  go_wp2_with fail
  refine ((unhide H4) _).mono ?_
  rintro e w1 ⟨rfl, hb1⟩
  have hT1 := tab_below hT h0 hb1
  have h1 : 0 < w1.heap.size := Nat.lt_of_lt_of_le h0 hb1.size
  go_wp2_with fail
  refine ((unhide H5) _).mono ?_
  rintro e w2 ⟨rfl, hb2⟩
  have hT2 := tab_below hT1 h1 hb2
  have hb : Below w.heap.size w w2 := hb1.trans (hb2.mono hb1.size)
  clear hT hT1 h0 h1 hb1 hb2
  go_wp2_with fail
  refine (awake_any _).mono ?_
  rintro e w3 ⟨rfl, rfl⟩
  go_wp2_with fail
  refine (ones_any x hx _).mono ?_
  rintro e w3 ⟨rfl, rfl⟩
  go_wp2_with fail
  refine (refOnes_any x hx _).mono ?_
  rintro e w3 ⟨rfl, rfl⟩
  go_wp2_with fail
  refine (high_any x hx _).mono ?_
  rintro e w3 ⟨rfl, rfl⟩
  go_wp2_with fail
  refine (refHigh_any x hx _).mono ?_
  rintro e w3 ⟨rfl, rfl⟩
  go_wp2_with fail
  refine (low_any x hx _ hT2).mono ?_
  rintro e w3 ⟨rfl, rfl⟩
  go_wp2_with fail
  refine (refLow_any x hx _).mono ?_
  rintro e w3 ⟨rfl, rfl⟩
  go_wp2
  go_ret
  exact ⟨by simp, hb⟩

theorem agree (x : Nat) (i : Int) (hx : x < 18446744073709551616) : ∃ r e : Int, 0 ≤ e ∧ e ≤ 11 ∧
    Gives 4 #[.int .u64 (x : Int), .int .i64 i] (.tuple #[.int .u64 r, .int .i64 e]) ∧ Gives 5 #[.int .u64 (x : Int), .int .i64 i] (.tuple #[.int .u64 r, .int .i64 e]) := by
  by_cases h : i < 1 ∨ 8 < i
  · exact ⟨0, 11, by decide, by decide, turned_bad x i h, gives_same (refTurned_bad x i h)⟩
  · obtain ⟨n, rfl⟩ := Int.eq_ofNat_of_zero_le (a := i) (by omega)
    have h1 : 1 ≤ n := by omega
    have h2 : n ≤ 8 := by omega
    by_cases hw : x ≤ onesN (8 * n)
    · exact ⟨revTo x n, 0, by decide, by decide, turned_ok x n h1 h2 hw, refTurned_ok x n hx h1 h2 hw⟩
    · exact ⟨0, 10, by decide, by decide, turned_wide x n h1 h2 (by omega), gives_same (refTurned_wide x n hx h1 h2 (by omega))⟩

def L : List (String × DataW Unit) := [("math/bits.deBruijn64tab", Rows.laid_math_bits_deBruijn64tab)]
theorem door_met (os : Os) (args : Array Value) : laidMetH Tryd.prog L ((World.doorLaid Tryd.prog 400 os).forCall (fun _ _ => 0) ⟨#[], args, []⟩).memory :=
  laidMetH_of_parts3 (fuel := 8) (laidMet_of_run' 8 (by kernel_rfl) (by kernel_rfl)) (by kernel_rfl) (by kernel_rfl)

theorem tab_eq {H : Type} : (Rows.laid_math_bits_deBruijn64tab : DataW H) = Lib.tabData .u8 (Lib.deBruijn64tab.map fun n : Nat => (n : Int)) := rfl
theorem of_laid {W : World} (h : laidMetH Tryd.prog L W) : TabAt W ∧ 0 < W.heap.size := by
  rw [MakeChecks.laidMetH_plain _ _ _ (by kernel_rfl)] at h
  have h' : laidMet Tryd.prog (("math/bits.deBruijn64tab", Lib.tabData .u8 (Lib.deBruijn64tab.map fun n : Nat => (n : Int))) :: []) W := h
  have hT := Lib.tabIs_of_head (show Tryd.prog.globalNamed "math/bits.deBruijn64tab" = some 0 by kernel_rfl) (show (Tryd.prog.globals[0]?).map (·.type) = some 43 by kernel_rfl) Tryd.underlying43 Tryd.underlying5
    (show Tryd.prog.cellsOf 5 = 1 by kernel_rfl) (show Tryd.prog.cellsOf 43 = 64 by kernel_rfl) h'
  have hc : TabAt W := fun j hj => by
    have := hT.cell (show Tryd.prog.globalNamed "math/bits.deBruijn64tab" = some 0 by kernel_rfl) j (by rw [List.length_map]; exact hj)
    rw [this]
    have hl : j < Lib.deBruijn64tab.length := hj
    simp [List.getD, hl]
  refine ⟨hc, ?_⟩
  have := hc 0 (by decide)
  apply Nat.lt_of_not_le
  intro hle
  have e : W.heap.size = 0 := by omega
  simp [World.cell?, e] at this

set_option maxRecDepth 100000 in
theorem lifted (os : Os) (started : os.Started) (H : Type) (enc : TypeId × Value → H) :
    ReturnsInHanded {} Tryd.checked os 3 .any (fun w args => (Rows.wordCountsSpec.pre enc Tryd.prog Tryd.f3 [] false w args ∧ laidMetH Tryd.prog L w) ∧ sizedMet enc Tryd.prog Tryd.f3 (OpenSpec.ofChange Rows.wordCountsSpec) false w args)
      (Rows.wordCountsSpec.post enc Tryd.prog Tryd.f3 false true false false) := by
  refine returnsInHanded_of_change_and (C := Tryd.checked) (X := fun w _ => laidMetH Tryd.prog L w) (fun _ _ _ hh h => h.of_heap hh) own started (by kernel_rfl) Tryd.func3
    (ChangeSpec.witness_shaped (enc := enc) (C := Tryd.checked) (os := os) (X := fun w _ => laidMetH Tryd.prog L w) false (World.doorLaid Tryd.prog 400 os) #[.int .u64 0, .int .i64 0] 8 rfl (World.shaped_of_RefB (by kernel_rfl) (by kernel_rfl)) (by kernel_rfl) (by kernel_rfl) (by kernel_rfl) (door_met os _)) ?_
  intro W base args ds gs before hval0 hW _ _ hL _
  have hval : ∀ (j : Nat) t v, Tryd.f3.params[j]? = some t → args[j]? = some v → Value.okWide Tryd.prog W .any base t v := hval0
  have hW' := hW
  obtain ⟨p, q, hA0, hV, rfl, hfz, hnd⟩ := hW
  have hA : DataW.TrodAll enc Tryd.prog W 0 (fun _ => true) true Tryd.f3.params.toList args.toList ds p := hA0
  rw [Tryd.params3] at hA hval
  obtain ⟨v0, vs0, d0, ds0, p0, q0, hargs, rfl, rfl, h0, r0⟩ := trodAll_cons hA
  obtain ⟨v1, vs1, d1, ds1, p1, q1, rfl, rfl, rfl, h1, r1⟩ := trodAll_cons r0
  obtain ⟨rfl, rfl, rfl⟩ := trodAll_nil r1
  obtain rfl : args = #[v0, v1] := by cases args; simp_all
  obtain ⟨rfl, rfl⟩ := trodVars_none hV
  obtain ⟨a0, rfl, rfl, rfl, w0⟩ := open_int Tryd.underlying22 (hval 0 22 v0 rfl rfl) h0
  obtain ⟨a1, rfl, rfl, rfl, w1⟩ := open_int Tryd.underlying3 (hval 1 3 v1 rfl rfl) h1
  clear hA0 hval0
  simp only [List.append_nil] at hW'
  obtain ⟨hT, hz⟩ := of_laid hL
  have c0 := bounds_u64 w0
  obtain ⟨x, rfl⟩ := Int.eq_ofNat_of_zero_le c0.1
  obtain ⟨r, e, p1, p2, H4, H5⟩ := agree x a1 (by omega)
  refine (core x a1 (by omega) r e p1 p2 H4 H5 W hT hz).mono fun e W' ⟨he, hg⟩ => ?_
  subst he
  exact ⟨_, rfl, _, _, _, [], _, [], hW', trodAll_mk1 (shut_bool Tryd.underlying4 _), trodAll_cons_mk (shut_int Tryd.underlying22 w0) (trodAll_cons_mk (shut_int Tryd.underlying3 w1) trodAll_mk0), rfl, hg.frame _, fun h => by cases h⟩

theorem over : Rows.wordCountsRow.holds Tryd.pinned (OpenSpec.ofChange Rows.wordCountsSpec) :=
  OpenClaim.holds_of_wide 3 Tryd.f3 rfl rfl rfl rfl rfl rfl rfl ⟨rfl, rfl, rfl, rfl, rfl⟩ rfl rfl rfl rfl rfl (by kernel_rfl) Tryd.func3 (by kernel_rfl)
    (of_decide_eq_true (by kernel_rfl)) (by unfold Func.isWrapper; first | (rw [if_pos (by decide +kernel)]; kernel_rfl) | (rw [if_neg (by decide +kernel)]; exact ⟨rfl, rfl⟩))
    (fun os started H enc _ => lifted os started H enc)
end Go.Proofs.YtijacihmdfhjcaaDoor.wordCounts

namespace Go.Proofs.YtijacihmdfhjcaaDoor
theorem wordCounts_holds : Rows.WordCountsCardSaid :=
  Claim7.holds_tied_plain_at .later [] [.data] true Rows.wordCountsCard.stood.harness false
    wordCounts.over (fun _ h => by cases h) (by kernel_rfl) (fun _ h => by cases h) wordCounts_row_tie rfl ⟨rfl, rfl⟩ (by kernel_rfl) rfl
    (fun f fn hf hfn => by
      obtain rfl : f = 3 := Option.some.inj ((show Tryd.prog.funcNamed "signet/signetlaw01.WordCounts" = some 3 by kernel_rfl).symm.trans hf) |>.symm
      obtain rfl : fn = Tryd.f3 := (Option.some.inj (Tryd.func3.symm.trans hfn)).symm
      exact ⟨by kernel_rfl, fun j t ht => by
        rw [Tryd.params3] at ht
        have hm : t ∈ [22, 3] := by simpa using Array.mem_of_getElem? ht
        have hall : ([22, 3].all fun u => !Tryd.prog.wantsStandIn u) = true := by kernel_rfl
        exact (show Tryd.prog.wantsStandIn t = false by simpa using List.all_eq_true.1 hall t hm)⟩)
    (by kernel_rfl)
#print axioms wordCounts_holds
end Go.Proofs.YtijacihmdfhjcaaDoor
